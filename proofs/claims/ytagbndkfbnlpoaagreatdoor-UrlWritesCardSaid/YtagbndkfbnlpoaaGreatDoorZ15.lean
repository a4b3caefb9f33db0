/-
  A slice of texts; what Join of the library answers, with a comma and a blank between each two; the same of package combine. Condition: a thousand texts of a thousand bytes.
  Rows of texts that a call makes: one more, the last one gone; plain facts on a path's pieces. No condition.
  What a scheme's own port, and a place's port, are, of both sides of layer 26. No condition.
-/
import Derived.Test.YtagbndkfbnlpoaaGreatDoorZ14
import Derived.BigQuiet
import Derived.Test.YtagbndkfbnlpoaaGreatDoorZ13
import Derived.Lib.Join
import Derived.Test.YtagbndkfbnlpoaaGreatDoorZ8
import Derived.Test.YtagbndkfbnlpoaaGreatDoorZ3
import Derived.Test.YtagbndkfbnlpoaaGreatDoorZ7
import Derived.Deep.RegionHeld2
namespace Go.Proofs.YtagbndkfbnlpoaaGreatDoor
open Go.RowKit

/-- These texts lie behind A. -/
def TxIn (w : World) (A : Option Addr) (xs : List ByteArray) : Prop := ∀ i (h : i < xs.length), ∃ g, A = some ⟨g, 0, none⟩ ∧ g < w.heap.size ∧ w.cell? ⟨g, i, none⟩ = some (.string xs[i])
theorem TxIn.below {w w' : World} {A : Option Addr} {xs : List ByteArray} (h : TxIn w A xs) (hb : Below w.heap.size w w') : TxIn w' A xs := fun i hi => by
  obtain ⟨g, e, hl, hc⟩ := h i hi
  exact ⟨g, e, Nat.lt_of_lt_of_le hl hb.size, (hb.cell (p := ⟨g, i, none⟩) hl).trans hc⟩
theorem TxIn.nil (w : World) (A : Option Addr) : TxIn w A [] := fun i h => absurd h (by simp)
theorem TxIn.of_own {w : World} {base : Nat} {v : Value} {xs : List ByteArray} (h : w.ownsRow base 9 1 v xs.length (strs xs)) : ∃ A c, v = .slice A xs.length c ∧ TxIn w A xs ∧ xs.length ≤ c := by
  rcases h.2 with ⟨hv, hn⟩ | ⟨g, cap, cur, hv, hb, hg, hc, _⟩
  · refine ⟨none, 0, by rw [hv, hn], fun i hi => absurd hi (by omega), by omega⟩
  · refine ⟨_, cap, hv, fun i hi => ?_, hc⟩
    subst hv
    have h1 := h.cellAt i (by omega)
    refine ⟨g, rfl, (Array.getElem?_eq_some_iff.1 hg).1, h1.trans ?_⟩
    simp [strs, hi]

theorem join_none (A : Option Addr) (c : Nat) (s : ByteArray) (w : World) :
    Calls Tryz.prog 70 #[.slice A 0 c, .string s] w fun e w' => e = .returned (.string ⟨#[]⟩) ∧ w = w' := by
  go_enter Tryz.func70, Tryz.ntmps70
  go_wp2
  go_ret
  exact ⟨rfl, rfl⟩
theorem join_one (g c : Nat) (x s : ByteArray) (w : World) (h : w.cell? ⟨g, 0, none⟩ = some (.string x)) :
    Calls Tryz.prog 70 #[.slice (some ⟨g, 0, none⟩) 1 c, .string s] w fun e w' => e = .returned (.string x) ∧ w = w' := by
  go_enter Tryz.func70, Tryz.ntmps70
  go_wp2
  go_ret
  exact ⟨rfl, rfl⟩

set_option maxHeartbeats 1000000 in
set_option maxRecDepth 100000 in
theorem bGrow_any (b n : Nat) (w : World) (hbk : w.heap[b]? = some (.cells #[.pointer none, .slice none 0 0] 72 (0, 0))) (hn0 : 0 < n) (hn : n ≤ 281474976710656) :
    Calls Tryz.prog 89 #[.pointer (some ⟨b, 0, none⟩), .int .i64 n] w fun e w' => e = .returned (.tuple #[]) ∧ Bld b b [] w' ∧ Below b w w' := by
  obtain ⟨w1, hw1⟩ : ∃ w1, w1 = w.setCell ⟨b, 0, none⟩ (.pointer (some ⟨b, 0, none⟩)) := ⟨_, rfl⟩
  have hlt : b < w.heap.size := (Array.getElem?_eq_some_iff.1 hbk).1
  have hbk1 : w1.heap[b]? = some (.cells #[.pointer (some ⟨b, 0, none⟩), .slice none 0 0] 72 (0, 0)) := by
    rw [hw1]; simp [World.setCell, Array.getElem?_modify, hbk]
  have c1 : w1.cell? ⟨b, 1, none⟩ = some (.slice none 0 0) := by rw [Lib.cell_of_heap hbk1]; rfl
  have HB := Lib.hid (show Below b w w1 from by rw [hw1]; exact (Below.refl b w).setCell (p := ⟨b, 0, none⟩) (Nat.le_refl _) _)
  have hlt1 : b < w1.heap.size := Nat.lt_of_lt_of_le hlt HB.out.size
  have HC := Lib.hid (copyCheck_fresh b w (by rw [Lib.cell_of_heap hbk]; rfl) (by simp [World.shape?, hbk]) (Lib.frozen_of_heap hbk 0))
  have HG := Lib.hid (fun W (hW : W.heap[b]? = some (.cells #[.pointer (some ⟨b, 0, none⟩), .slice none 0 0] 72 (0, 0))) => bgrow_any b n W hW hn)
  have HK := Lib.hid hbk1
  have g1 : ¬ (n : Int) < 0 := by omega
  have g2 : (0 : Int) < (n : Int) := by omega
  clear hbk1
  go_enter Tryz.func89, Tryz.ntmps89
  go_wp2_with fail
  refine HC.out.mono ?_
  rintro e w2 ⟨rfl, rfl⟩
  rw [← hw1]
  clear hw1
  go_wp2_with fail
  go_quiet (fail)
  go_wp2_with fail
  refine (HG.out (w1.drewN _) HK.out).mono ?_
  rintro e w3 ⟨rfl, h3, b3⟩
  have H3 := Lib.hid h3
  have HB3 := Lib.hid ((Below.drewN' HB.out _).trans b3)
  clear h3 b3
  go_wp2
  go_end0
  exact ⟨rfl, H3.out, HB3.out⟩

end Go.Proofs.YtagbndkfbnlpoaaGreatDoor
namespace Go.Proofs.YtagbndkfbnlpoaaGreatDoor
open Go.RowKit

/-- A row of texts of new memory. -/
def Rws (B : Nat) (w : World) (v : Value) (xs : List ByteArray) : Prop := w.ownsRow B 9 1 v xs.length (strs xs)
theorem Rws.nil (B : Nat) (w : World) : Rws B w (.slice none 0 0) [] := World.ownsRow_nil _ _ _ _
theorem Rws.made (w : World) : Rws w.heap.size (w.alloc (.cells #[] 9)) (.slice (some ⟨w.heap.size, 0, none⟩) 0 0) [] := World.ownsRow_made w #[] 0 (Nat.le_refl _) (Nat.zero_le _) rfl
theorem Rws.stays {B : Nat} {w w' : World} {v : Value} {xs : List ByteArray} (h : Rws B w v xs) (hb : Below w.heap.size w w') : Rws B w' v xs := own_mv h (Mv.of_below hb []) (by simp)
/-- A row is none, or lies in a block. -/
theorem Rws.cases {B : Nat} {w : World} {v : Value} {xs : List ByteArray} (h : Rws B w v xs) : (v = .slice none 0 0 ∧ xs = []) ∨ ∃ g c, v = .slice (some ⟨g, 0, none⟩) xs.length c ∧ xs.length ≤ c ∧ c ≤ 9223372036854775807 ∧ B ≤ g ∧ g < w.heap.size := by
  rcases h.2 with ⟨hv, hn⟩ | ⟨g, cap, cur, hv, hb, hg, hc, hm, _⟩
  · exact .inl ⟨hv, List.length_eq_zero_iff.1 hn⟩
  · exact .inr ⟨g, cap, hv, hc, hm, hb, (Array.getElem?_eq_some_iff.1 hg).1⟩
/-- The last one gone. -/
theorem Rws.cut {B : Nat} {w : World} {g c : Nat} {xs : List ByteArray} {x : ByteArray} (h : Rws B w (.slice (some ⟨g, 0, none⟩) (xs ++ [x]).length c) (xs ++ [x])) : Rws B w (.slice (some ⟨g, 0, none⟩) xs.length c) xs := by
  rcases h.2 with ⟨hv, hn⟩ | ⟨g', cap, cur, hv, hb, hg, hc, hm, hs, ht⟩
  · cases hv
  · simp only [Value.slice.injEq, Option.some.injEq, Addr.mk.injEq, and_true, true_and] at hv
    obtain ⟨rfl, rfl⟩ := hv
    simp at hc
    refine ⟨by simp [strs], .inr ⟨g, c, cur, rfl, hb, hg, by omega, hm, hs, ?_⟩⟩
    have h2 := congrArg (List.take xs.length) ht
    rw [List.take_take] at h2
    simp [strs] at h2 ⊢
    first | exact h2 | skip
theorem Rws.cells {B : Nat} {w : World} {g n c : Nat} {xs : List ByteArray} (h : Rws B w (.slice (some ⟨g, 0, none⟩) n c) xs) (hn : n = xs.length) (j : Nat) (x : ByteArray) (hx : xs[j]? = some x) : w.cell? ⟨g, j, none⟩ = some (.string x) := by
  subst hn
  have hj : j < xs.length := (List.getElem?_eq_some_iff.1 hx).1
  rw [World.ownsRow.cellAt h j (by omega)]
  simp [strs, hx]

theorem list_end {α : Type} {l : List α} (h : l ≠ []) : ∃ q y, l = q ++ [y] := ⟨l.dropLast, l.getLast h, (List.dropLast_concat_getLast _).symm⟩
theorem joi_cons (p : List UInt8) (ps : List (List UInt8)) : joiL (p :: ps) = 47 :: (p ++ joiL ps) := by simp [joiL]
theorem joi_append (a b : List (List UInt8)) : joiL (a ++ b) = joiL a ++ joiL b := by simp [joiL]
theorem joi_join : ∀ (p : List UInt8) (ps : List (List UInt8)), joiL (p :: ps) = 47 :: Lib.join (p :: ps) [47]
  | p, [] => by rw [Lib.join_one, joi_cons]; simp [joiL]
  | p, q :: ps => by
    rw [joi_cons, joi_join q ps]
    congr 1
theorem sls_len : ∀ l : List UInt8, (joiL (slsL l)).length = l.length + 1
  | [] => rfl
  | b :: l => by
    have ih := sls_len l
    rw [slsL]
    split
    · rw [joi_cons]; simp [ih]
    · cases h : slsL l with
      | nil => exact absurd h (slsL_ne l)
      | cons p ps =>
        rw [h, joi_cons] at ih
        simp only [joi_cons]
        simp at ih ⊢
        omega
theorem sls_count : ∀ l : List UInt8, (slsL l).length ≤ l.length + 1
  | [] => by simp [slsL]
  | b :: l => by
    have ih := sls_count l
    rw [slsL]
    split
    · simp; omega
    · cases h : slsL l with
      | nil => exact absurd h (slsL_ne l)
      | cons p ps => rw [h] at ih; simp at ih ⊢; omega
theorem dot_len : ∀ (ps a : List (List UInt8)), (joiL (dotF a ps)).length ≤ (joiL a).length + (joiL ps).length
  | [], a => by simp [dotF]
  | p :: ps, a => by
    have hp : (joiL (p :: ps)).length = p.length + 1 + (joiL ps).length := by rw [joi_cons]; simp; omega
    have hd : (joiL a.dropLast).length ≤ (joiL a).length := by
      rcases List.eq_nil_or_concat a with rfl | ⟨q, y, rfl⟩
      · simp
      · rw [List.concat_eq_append, List.dropLast_concat, joi_append]; simp
    rw [dotF]
    split
    · refine Nat.le_trans (dot_len ps _) ?_
      rw [joi_append, hp, List.length_append]
      have h1 : (joiL (if ptsL p 0 = 2 then a.dropLast else a)).length ≤ (joiL a).length := by split <;> omega
      have h2 : (joiL (if ps = [] then [[]] else [])).length ≤ 1 := by split <;> simp [joiL]
      omega
    · refine Nat.le_trans (dot_len ps _) ?_
      rw [joi_append, hp, List.length_append]
      have : (joiL [p]).length = p.length + 1 := by simp [joiL]
      omega
theorem dotL_len (l : List UInt8) : (dotL l).length ≤ l.length := by
  cases l with
  | nil => simp [dotL]
  | cons b l =>
    rw [dotL]
    split
    · have h1 := dot_len (slsL l) []
      have h2 := sls_len l
      simp [joiL] at h1 h2 ⊢
      omega
    · simp
theorem dotS_size (s : ByteArray) : (dotS s).size ≤ s.size := by
  have h1 : (dotS s).size = (dotL s.data.toList).length := size_of (dotS_list s)
  have h2 := dotL_len s.data.toList
  simp at h2
  omega
/-- The steps of the loop over the pieces. -/
theorem dot_stay {a : List (List UInt8)} {p : List UInt8} {ps : List (List UInt8)} (h : ptV p = 0) : dotF a (p :: ps) = dotF (a ++ [p]) ps := by
  rw [dotF, if_neg]
  unfold ptV at h
  split at h
  · cases h
  · split at h
    · cases h
    · rintro (e | e) <;> contradiction
theorem dot_one {a : List (List UInt8)} {p : List UInt8} {ps : List (List UInt8)} (h : ptV p = 1) : dotF a (p :: ps) = dotF (a ++ (if ps = [] then [[]] else [])) ps := by
  unfold ptV at h
  split at h
  · rename_i e
    rw [dotF, if_pos (.inl e), if_neg (by omega)]
  · split at h <;> cases h
theorem dot_two {a : List (List UInt8)} {p : List UInt8} {ps : List (List UInt8)} (h : ptV p = 2) : dotF a (p :: ps) = dotF (a.dropLast ++ (if ps = [] then [[]] else [])) ps := by
  unfold ptV at h
  split at h
  · cases h
  · split at h
    · rename_i e
      rw [dotF, if_pos (.inr e), if_pos e]
    · cases h
theorem ptV_range (p : List UInt8) : ptV p = 0 ∨ ptV p = 1 ∨ ptV p = 2 := by
  unfold ptV
  split
  · exact .inr (.inl rfl)
  · split
    · exact .inr (.inr rfl)
    · exact .inl rfl

end Go.Proofs.YtagbndkfbnlpoaaGreatDoor
namespace Go.Proofs.YtagbndkfbnlpoaaGreatDoor
open Go.RowKit

abbrev urV (a b : ByteArray) (n : Int) (p q : ByteArray) : Value := .agg #[.string a, .string b, .int .i64 n, .string p, .string q]
abbrev urA (a b : ByteArray) (n : Int) (p q : ByteArray) : Array Value := #[.string a, .string b, .int .i64 n, .string p, .string q]
abbrev urC (a b : ByteArray) (n : Int) (p q : ByteArray) : Obj := .cells #[.string a, .string b, .int .i64 n, .string p, .string q] 24
theorem url_keep {w : World} {g : Nat} {a b : ByteArray} {n : Int} {p q : ByteArray} (h : Blk w g 24 (urA a b n p q)) : w.cell? ⟨g, 0, none⟩ = some (.string a) ∧ w.cell? ⟨g, 1, none⟩ = some (.string b) ∧ w.cell? ⟨g, 2, none⟩ = some (.int .i64 n) ∧ w.cell? ⟨g, 3, none⟩ = some (.string p) ∧ w.cell? ⟨g, 4, none⟩ = some (.string q) := ⟨h.cell 0, h.cell 1, h.cell 2, h.cell 3, h.cell 4⟩

theorem own_ways (s : ByteArray) : ownP s = (if s.toList == [104, 116, 116, 112] then 80 else if s.toList == [119, 115] then 80 else if s.toList == [104, 116, 116, 112, 115] then 443 else if s.toList == [119, 115, 115] then 443 else 0) := by
  unfold ownP
  cases s.toList == [104, 116, 116, 112] <;> cases s.toList == [119, 115] <;> cases s.toList == [104, 116, 116, 112, 115] <;> cases s.toList == [119, 115, 115] <;> rfl
set_option maxHeartbeats 2000000 in
theorem ownPort_any (s : ByteArray) (w : World) : Calls Tryz.prog 32 #[.string s] w fun e w' => e = .returned (.int .i64 (ownP s)) ∧ w = w' := by
  have HV := Lib.hid (own_ways s)
  generalize ownP s = v at *
  cases h1 : s.toList == [104, 116, 116, 112] <;> cases h2 : s.toList == [119, 115] <;> cases h3 : s.toList == [104, 116, 116, 112, 115] <;> cases h4 : s.toList == [119, 115, 115]
  all_goals
    rw [h1, h2, h3, h4] at HV
    go_enter Tryz.func32, Tryz.ntmps32
    go_wp2
    go_ret
    exact ⟨by rw [HV.out]; rfl, rfl⟩
set_option maxHeartbeats 2000000 in
theorem rOwn_any (s : ByteArray) (w : World) : Calls Tryz.prog 30 #[.string s] w fun e w' => e = .returned (.int .i64 (ownP s)) ∧ w = w' := by
  have HV := Lib.hid (own_ways s)
  generalize ownP s = v at *
  cases h1 : s.toList == [104, 116, 116, 112] <;> cases h2 : s.toList == [119, 115] <;> cases h3 : s.toList == [104, 116, 116, 112, 115] <;> cases h4 : s.toList == [119, 115, 115]
  all_goals
    rw [h1, h2, h3, h4] at HV
    go_enter Tryz.func30, Tryz.ntmps30
    go_wp2
    go_ret
    exact ⟨by rw [HV.out]; rfl, rfl⟩

theorem port_ways (a b : ByteArray) (n : Int) (p q : ByteArray) : portU ⟨a, b, n, p, q⟩ = if ownP a == 0 then ownP a else if n == 0 then ownP a else n := by
  unfold portU
  by_cases h1 : ownP a = 0
  · rw [if_neg (fun h => h.1 h1), if_pos (by rw [h1]; rfl)]
  · rw [if_neg (show ¬ (ownP a == 0) = true by simpa using h1)]
    by_cases h2 : n = 0
    · rw [if_neg (fun h => h.2 h2), if_pos (by rw [h2]; rfl)]
    · rw [if_pos ⟨h1, h2⟩, if_neg (by simpa using h2)]
theorem bne_of {a b : Int} {c : Bool} (h : (a == b) = c) : (a != b) = !c := by rw [← h]; rfl
set_option maxHeartbeats 2000000 in
theorem port_any (a b : ByteArray) (n : Int) (p q : ByteArray) (w : World) : Calls Tryz.prog 18 #[urV a b n p q] w fun e w' => e = .returned (.int .i64 (portU ⟨a, b, n, p, q⟩)) ∧ Below w.heap.size w w' := by
  have HO := Lib.hid (fun W => ownPort_any a W)
  have HV := Lib.hid (port_ways a b n p q)
  generalize portU ⟨a, b, n, p, q⟩ = v at *
  have HB := Lib.hid ((Below.refl w.heap.size w).alloc (Nat.le_refl _) (urC a b n p q))
  generalize ownP a = k at *
  cases g1 : (k == 0) <;> cases g2 : (n == 0)
  all_goals
    rw [g1, g2] at HV
    go_enter Tryz.func18, Tryz.ntmps18
    go_wp2_with (go_at_call 32; (with_reducible refine (HO.out _).mono ?_); rintro e w1 ⟨rfl, rfl⟩)
    go_ret
    exact ⟨by rw [HV.out]; rfl, HB.out⟩
set_option maxHeartbeats 2000000 in
theorem rPort_any (a b : ByteArray) (n : Int) (p q : ByteArray) (w : World) : Calls Tryz.prog 19 #[urV a b n p q] w fun e w' => e = .returned (.int .i64 (portU ⟨a, b, n, p, q⟩)) ∧ Below w.heap.size w w' := by
  have HO := Lib.hid (fun W => rOwn_any a W)
  have HV := Lib.hid (port_ways a b n p q)
  generalize portU ⟨a, b, n, p, q⟩ = v at *
  have HB := Lib.hid ((Below.refl w.heap.size w).alloc (Nat.le_refl _) (urC a b n p q))
  generalize ownP a = k at *
  cases g1 : (k == 0) <;> cases g2 : (n == 0)
  all_goals
    rw [g1, g2] at HV
    have k1 := bne_of g1
    have k2 := bne_of g2
    simp only [Bool.not_true, Bool.not_false] at k1 k2
    go_enter Tryz.func19, Tryz.ntmps19
    go_wp2_with (go_at_call 30; (with_reducible refine (HO.out _).mono ?_); rintro e w1 ⟨rfl, rfl⟩)
    go_ret
    exact ⟨by rw [HV.out]; rfl, HB.out⟩

end Go.Proofs.YtagbndkfbnlpoaaGreatDoor
