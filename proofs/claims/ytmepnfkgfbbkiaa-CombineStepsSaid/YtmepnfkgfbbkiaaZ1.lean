/-
  Plain facts on the values of one header, as layer 11 has them: the values as one text, the types among the pieces, what becomes of a type by the next one. No condition.
  What Clone of the library does with parameters, and what copied of package combine answers. Condition: parameters are as many as a mebibyte has bytes.
  What the builder's grow of the library does at this translation.
-/
import Derived.Test.YtmepnfkgfbbkiaaMg
import Derived.Test.YtmepnfkgfbbkiaaMrt
import Derived.Test.YtmepnfkgfbbkiaaMw
import Derived.Test.YtmepnfkgfbbkiaaSplit
import Derived.Lib.SliceRun
import Derived.Shelf.Strings.Builder2
import Derived.Test.YtmepnfkgfbbkiaaBld
import Derived.WalkKit
namespace Go.Proofs.Ytmepnfkgfbbkiaa

/-- A type as texts. -/
structure Mty where
  t : ByteArray
  u : ByteArray
  ps : List Prm

abbrev sepS : ByteArray := ⟨#[44, 32]⟩
abbrev chrS : ByteArray := ⟨#[99, 104, 97, 114, 115, 101, 116]⟩
abbrev anyS : List UInt8 := [42, 47, 42]

/-- The values as one text. -/
def joinS : List ByteArray → ByteArray
  | [] => ⟨#[]⟩
  | x :: r => r.foldl (fun a y => (a ++ sepS) ++ y) x
theorem joinS_one (y : ByteArray) : joinS [y] = y := rfl
theorem joinS_snoc {xs : List ByteArray} (h : xs ≠ []) (y : ByteArray) : joinS (xs ++ [y]) = (joinS xs ++ sepS) ++ y := by
  cases xs with
  | nil => exact absurd rfl h
  | cons x r => simp [joinS, List.foldl_append]
theorem joinS_step {xs : List ByteArray} {k : Nat} (h : k < xs.length) (hk : 0 < k) : joinS (xs.take (k + 1)) = (joinS (xs.take k) ++ sepS) ++ xs[k] := by
  rw [List.take_succ_eq_append_getElem h, joinS_snoc]
  intro e
  have := congrArg List.length e
  rw [List.length_take, List.length_nil] at this
  omega
theorem joinS_step0 {xs : List ByteArray} (h : 0 < xs.length) : joinS (xs.take 1) = xs[0] := by
  cases xs with
  | nil => simp at h
  | cons x r => rfl
theorem joinS_all (xs : List ByteArray) : joinS (xs.take xs.length) = joinS xs := by rw [List.take_length]
theorem joinS_le {m : Nat} : ∀ (r : List ByteArray) (x : ByteArray), (∀ y ∈ r, y.size ≤ m) → (r.foldl (fun a y => (a ++ sepS) ++ y) x).size ≤ x.size + r.length * (m + 2)
  | [], x, _ => by simp
  | y :: r, x, h => by
    have h1 := joinS_le r ((x ++ sepS) ++ y) (fun z hz => h z (List.mem_cons_of_mem _ hz))
    have h2 := h y List.mem_cons_self
    rw [List.foldl_cons]
    have h3 : ((x ++ sepS) ++ y).size = x.size + 2 + y.size := by
      rw [ByteArray.size_append, ByteArray.size_append]; rfl
    rw [h3] at h1
    have h4 : (y :: r).length * (m + 2) = r.length * (m + 2) + (m + 2) := by rw [List.length_cons, Nat.add_mul, Nat.one_mul]
    omega
theorem joinS_size {m : Nat} {xs : List ByteArray} (h : ∀ y ∈ xs, y.size ≤ m) : (joinS xs).size ≤ xs.length * (m + 2) := by
  cases xs with
  | nil => exact Nat.zero_le _
  | cons x r =>
    have h1 := joinS_le r x (fun z hz => h z (List.mem_cons_of_mem _ hz))
    have h2 := h x List.mem_cons_self
    have h4 : (x :: r).length * (m + 2) = r.length * (m + 2) + (m + 2) := by rw [List.length_cons, Nat.add_mul, Nat.one_mul]
    show (r.foldl (fun a y => (a ++ sepS) ++ y) x).size ≤ _
    omega

/-- The pieces of the values. -/
def valsL (xs : List ByteArray) : List ByteArray := if xs.length = 0 then [] else splitL (joinS xs) 0

theorem piece_size (s : ByteArray) (k : Nat) : (piece s k).size ≤ s.size := by
  have := cutP_le tabB (s.extract (pFrom s k) (pEnd s (pFrom s k)))
  have h2 : (s.extract (pFrom s k) (pEnd s (pFrom s k))).size ≤ s.size := by simp; omega
  show (cutP tabB (s.extract (pFrom s k) (pEnd s (pFrom s k)))).size ≤ s.size
  omega
theorem splitL_sizes (s : ByteArray) : ∀ (m k : Nat), k ≤ s.size → s.size - k ≤ m → (∀ p ∈ splitL s k, p.size ≤ s.size) ∧ (splitL s k).length ≤ s.size - k + 1
  | m, k, hk, hm => by
    have h1 := pTo_le hk
    have h2 := pTo_ge hk
    by_cases h : pTo s k < s.size
    · rw [splitL_more hk h]
      match m, hm with
      | 0, hm => omega
      | m + 1, hm =>
        obtain ⟨a, b⟩ := splitL_sizes s m (pTo s k + 1) (by omega) (by omega)
        refine ⟨fun p hp => ?_, ?_⟩
        · rcases List.mem_cons.1 hp with rfl | hp
          · exact piece_size s k
          · exact a p hp
        · rw [List.length_cons]; omega
    · rw [splitL_last hk (by omega)]
      refine ⟨fun p hp => ?_, by simp⟩
      simp at hp
      subst hp
      exact piece_size s k
theorem valsL_sizes {xs : List ByteArray} {n : Nat} (h : (joinS xs).size ≤ n) : (∀ p ∈ valsL xs, p.size ≤ n) ∧ (valsL xs).length ≤ n + 1 := by
  unfold valsL
  split
  · exact ⟨fun p hp => by simp at hp, by simp⟩
  · obtain ⟨a, b⟩ := splitL_sizes (joinS xs) (joinS xs).size 0 (Nat.zero_le _) (by omega)
    exact ⟨fun p hp => Nat.le_trans (a p hp) h, by omega⟩

/-- A type's two names as one text; whether they are those that say nothing. -/
def essS (t u : ByteArray) : ByteArray := ⟨(essL t u).toArray⟩
def anyT (t u : ByteArray) : Bool := (essS t u).toList == anyS
theorem essS_list (t u : ByteArray) : (essS t u).toList = essL t u := by rw [Lib.toList_data]; rfl
theorem split3 : ∀ (a b : List UInt8), a ++ 47 :: b = [42, 47, 42] ↔ a = [42] ∧ b = [42]
  | [], b => ⟨fun h => by injection h with h1; exact absurd h1 (by decide), fun h => by cases h.1⟩
  | [x], b => ⟨fun h => by injection h with h1 h2; injection h2 with _ h3; exact ⟨by rw [h1], h3⟩, fun h => by obtain ⟨h1, h2⟩ := h; injection h1 with h1; rw [h1, h2]; rfl⟩
  | [x, y], b => ⟨fun h => by injection h with _ h; injection h with _ h; injection h with h _; exact absurd h (by decide), fun h => by injection h.1 with _ h; cases h⟩
  | x :: y :: z :: r, b => ⟨fun h => by have h2 := congrArg List.length h; simp only [List.length_append, List.length_cons, List.length_nil] at h2; omega, fun h => by injection h.1 with _ h; cases h⟩
theorem anyT_eq (t u : ByteArray) : anyT t u = (t.toList == [42] && u.toList == [42]) := by
  rw [Bool.eq_iff_iff, Bool.and_eq_true, beq_iff_eq, beq_iff_eq]
  unfold anyT
  rw [beq_iff_eq, essS_list, Lib.toList_data, Lib.toList_data]
  exact split3 _ _

/-- The type that a piece says; the types among some pieces. -/
def typO (p : ByteArray) : Option Mty :=
  if saysB (trimP whiB p) && !anyT (lowS (tyOf (trimP whiB p))) (lowS (suOf (trimP whiB p))) then some ⟨lowS (tyOf (trimP whiB p)), lowS (suOf (trimP whiB p)), prOf (trimP whiB p)⟩ else none
def allT (l : List ByteArray) : List Mty := l.filterMap typO
theorem allT_step {l : List ByteArray} {k : Nat} (h : k < l.length) : allT (l.take (k + 1)) = allT (l.take k) ++ (typO l[k]).toList := by
  unfold allT
  rw [List.take_succ_eq_append_getElem h, List.filterMap_append]
  simp only [List.filterMap_cons, List.filterMap_nil]
  cases typO l[k] <;> rfl
theorem allT_all (l : List ByteArray) : allT (l.take l.length) = allT l := by rw [List.take_length]
theorem typO_some {p : ByteArray} {m : Mty} (h : typO p = some m) : saysB (trimP whiB p) = true ∧ m = ⟨lowS (tyOf (trimP whiB p)), lowS (suOf (trimP whiB p)), prOf (trimP whiB p)⟩ := by
  unfold typO at h
  generalize trimP whiB p = T at h ⊢
  by_cases e : (saysB T && !anyT (lowS (tyOf T)) (lowS (suOf T))) = true
  · rw [if_pos e] at h
    rw [Bool.and_eq_true] at e
    exact ⟨e.1, (Option.some.inj h).symm⟩
  · rw [if_neg e] at h
    exact absurd h.symm (Option.some_ne_none _)
theorem allT_good {l : List ByteArray} {m : Mty} (hm : m ∈ allT l) : goodM m.t m.u m.ps = true := by
  unfold allT at hm
  rw [List.mem_filterMap] at hm
  obtain ⟨p, _, hp⟩ := hm
  obtain ⟨h1, rfl⟩ := typO_some hp
  have h3 := says_good h1
  generalize trimP whiB p = T at *
  exact h3
theorem allT_len (l : List ByteArray) : (allT l).length ≤ l.length := List.length_filterMap_le _ _

/-- What becomes of a type, and of a charset, by the next one. -/
def moreB (set : ByteArray) (n : Mty) : Bool := !seenB n.ps chrS && (!(set.toList == []) && goodM n.t n.u (n.ps ++ [⟨chrS, set⟩]))
def stepT (t u set : ByteArray) (n : Mty) : Mty × ByteArray :=
  if eqS (essS n.t n.u) (essS t u) then (⟨n.t, n.u, if moreB set n then n.ps ++ [⟨chrS, set⟩] else n.ps⟩, set) else (n, parV n.ps chrS)
theorem stepT_t (t u set : ByteArray) (n : Mty) : (stepT t u set n).1.t = n.t := by unfold stepT; split <;> rfl
theorem stepT_u (t u set : ByteArray) (n : Mty) : (stepT t u set n).1.u = n.u := by unfold stepT; split <;> rfl
theorem stepT_good {t u set : ByteArray} {n : Mty} (h : goodM n.t n.u n.ps = true) : goodM (stepT t u set n).1.t (stepT t u set n).1.u (stepT t u set n).1.ps = true := by
  unfold stepT
  split
  · show goodM n.t n.u (if moreB set n then n.ps ++ [⟨chrS, set⟩] else n.ps) = true
    split
    · rename_i h2
      unfold moreB at h2
      rw [Bool.and_eq_true, Bool.and_eq_true] at h2
      exact h2.2.2
    · exact h
  · exact h
theorem parV_size {ps : List Prm} {n : Nat} (h : AllIn n ps) (x : ByteArray) : (parV ps x).size ≤ n := by
  unfold parV
  split
  · exact (h _ (List.getElem_mem _)).2
  · exact Nat.zero_le _
theorem stepT_len (t u set : ByteArray) (n : Mty) : (stepT t u set n).1.ps.length ≤ n.ps.length + 1 := by
  unfold stepT
  split
  · show (if moreB set n then n.ps ++ [⟨chrS, set⟩] else n.ps).length ≤ _
    split
    · simp
    · omega
  · exact Nat.le_succ _
theorem stepT_set {t u set : ByteArray} {n : Mty} {m : Nat} (h : AllIn m n.ps) (hs : set.size ≤ m) : (stepT t u set n).2.size ≤ m := by
  unfold stepT
  split
  · exact hs
  · exact parV_size h _
theorem stepT_all {t u set : ByteArray} {n : Mty} {m : Nat} (h : AllIn m n.ps) (hs : set.size ≤ m) (hm : 7 ≤ m) : AllIn m (stepT t u set n).1.ps := by
  unfold stepT
  split
  · show AllIn m (if moreB set n then n.ps ++ [⟨chrS, set⟩] else n.ps)
    split
    · exact h.snoc (show chrS.size ≤ m from hm) hs
    · exact h
  · exact h

/-- The type of all of some types, and the charset that is kept. -/
def extT (l : List Mty) : Mty × ByteArray := l.foldl (fun a n => stepT a.1.t a.1.u a.2 n) (⟨⟨#[]⟩, ⟨#[]⟩, []⟩, ⟨#[]⟩)
theorem extT_snoc (l : List Mty) (n : Mty) : extT (l ++ [n]) = stepT (extT l).1.t (extT l).1.u (extT l).2 n := by simp [extT, List.foldl_append]
theorem extT_step {l : List Mty} {k : Nat} (h : k < l.length) : extT (l.take (k + 1)) = stepT (extT (l.take k)).1.t (extT (l.take k)).1.u (extT (l.take k)).2 l[k] := by
  rw [List.take_succ_eq_append_getElem h, extT_snoc]
theorem extT_last {l : List Mty} {n : Nat} (h : l.length = n + 1) : (extT l).1.t = (l[n]'(by omega)).t ∧ (extT l).1.u = (l[n]'(by omega)).u := by
  have h1 := extT_step (l := l) (k := n) (by omega)
  rw [List.take_of_length_le (by omega)] at h1
  rw [h1]
  exact ⟨stepT_t _ _ _ _, stepT_u _ _ _ _⟩
theorem extT_good {l : List Mty} {n : Nat} (h : l.length = n + 1) (hg : ∀ m ∈ l, goodM m.t m.u m.ps = true) : goodM (extT l).1.t (extT l).1.u (extT l).1.ps = true := by
  have h1 := extT_step (l := l) (k := n) (by omega)
  rw [List.take_of_length_le (by omega)] at h1
  rw [h1]
  exact stepT_good (hg _ (List.getElem_mem _))

end Go.Proofs.Ytmepnfkgfbbkiaa
namespace Go.Proofs.Ytmepnfkgfbbkiaa
open Go.RowKit

theorem own_ne {w : World} {B size : Nat} {e T : TypeId} {v : Value} {n : Nat} {xs : List Value} {b : Nat} {cs : Array Value} (hown : w.ownsRow B e size v n xs) (hb : Blk w b T cs) (hTe : T ≠ e) : v.ownBlock ≠ some b := by
  rcases hown.2 with ⟨rfl, _⟩ | ⟨g, cap, cur, rfl, _, hg, _⟩
  · intro h; cases h
  · intro h
    cases h
    have h2 : w.heap[g]? = _ := hb
    rw [hg] at h2
    injection h2 with h2
    injection h2 with _ h9
    exact hTe h9.symm
/-- Parameters stay while a type's box is written. -/
theorem OwnPs.set {w : World} {base c b : Nat} {A : Option Addr} {ps : List Prm} {cs : Array Value} (h : OwnPs w base A c ps) (hb : Blk w b 24 cs) (i : Nat) (v : Value) : OwnPs (w.setCell ⟨b, i, none⟩ v) base A c ps := by
  have hne := own_ne h hb (by decide)
  exact own_mv h ((Mv.refl _ [b] _).setCell (.inl (by simp)) _) (by simpa using hne)
theorem OwnPs.set3 {w : World} {base c b : Nat} {A : Option Addr} {ps : List Prm} {x0 x1 x2 : Value} (h : OwnPs w base A c ps) (hb : Blk w b 24 #[x0, x1, x2]) (y0 y1 y2 : Value) :
    OwnPs (((w.setCell ⟨b, 0, none⟩ y0).setCell ⟨b, 1, none⟩ y1).setCell ⟨b, 2, none⟩ y2) base A c ps :=
  ((h.set hb 0 y0).set (hb.set_ 0 y0) 1 y1).set ((hb.set_ 0 y0).set_ 1 y1) 2 y2

set_option maxHeartbeats 1000000 in
theorem clone_any (A : Option Addr) (c : Nat) (ps : List Prm) (w : World) (h : PsIn w A ps) (hn : ps.length ≤ 1048576) :
    Calls Try.prog 17 #[.slice A ps.length c] w fun e w' => ∃ A' c', e = .returned (.slice A' ps.length c') ∧ OwnPs w' w.heap.size A' c' ps ∧ Below w.heap.size w w' := by
  obtain ⟨i0, hi, hz0, hz1, hz2⟩ := info_parts Try.infoPrm
  have hq : ∀ (w : World) (a : Option Addr) (l c : Nat), (binOp .eql 22 (.slice a l c) (.slice none 0 0)).run Try.prog w = .ok (.bool a.isNone) w := fun w a l c => Lib.run_eql_slice_nil w _ _ a l c 0 0 Try.underlying22
  have HP := Lib.hid h
  clear h
  cases A with
  | none =>
    have hps : ps = [] := by
      cases ps with
      | nil => rfl
      | cons q r =>
        obtain ⟨g, e, _⟩ := HP.out 0 (by simp)
        cases e
    subst hps
    go_enter Try.func17, Try.ntmps17
    go_wp2
    go_ret
    exact ⟨none, 0, rfl, World.ownsRow_nil _ _ _ _, Below.refl _ _⟩
  | some a =>
    go_enter Try.func17, Try.ntmps17
    go_wp2_with (at_builtin; refine wpList_append_own _ rfl _ _ 22 rfl w.heap.size 33 i0 _ 2 32 Try.underlying22 hi hz0 hz1 hz2 rfl (by decide) _ _ _ rfl (World.ownsRow_made w #[] 0 (Nat.le_refl _) (Nat.zero_le _) rfl) a ps.length c (prmL ps) rfl (by rw [prmL_len]) (HP.out.below ((Below.refl _ _).alloc (Nat.le_refl _) _)).cells (prmL_one ps) ?_ ?_ ?_ ?_)
    · unfold maxLen; omega
    · omega
    · simp
    · intro v' w1 hown hgrow _
      have ho : w1.ownsRow w.heap.size 33 2 v' ps.length (prmL ps) := by simpa using hown
      obtain ⟨A', c', rfl⟩ := own_slc ho
      have HO := Lib.hid ho
      have HB := Lib.hid (((Below.refl w.heap.size w).alloc (Nat.le_refl _) _).grown hgrow (by simp) (fun g hg => by simp [Value.ownBlock] at hg; omega))
      clear ho hown hgrow
      go_wp2
      go_ret
      exact ⟨A', c', rfl, HO.out, HB.out⟩

set_option maxHeartbeats 1000000 in
theorem copied_any (t u : ByteArray) (A : Option Addr) (c : Nat) (ps : List Prm) (w : World) (h : PsIn w A ps) (hn : ps.length ≤ 1048576) :
    Calls Try.prog 12 #[mimV t u A ps.length c] w fun e w' => ∃ A' c', e = .returned (mimV t u A' ps.length c') ∧ OwnPs w' w.heap.size A' c' ps ∧ Below w.heap.size w w' := by
  obtain ⟨w0, hw0⟩ : ∃ w0, w0 = (w.alloc (.cells #[.string t, .string u, .slice A ps.length c] 24)).alloc (.cells #[.string ⟨#[]⟩, .string ⟨#[]⟩, .slice none 0 0] 24) := ⟨_, rfl⟩
  have HB0 := Lib.hid (show Below w.heap.size w w0 from by rw [hw0]; exact ((Below.refl w.heap.size w).alloc (Nat.le_refl _) _).alloc (by simp) _)
  have HP0 := Lib.hid (show Blk w0 w.heap.size 24 #[.string t, .string u, .slice A ps.length c] from by rw [hw0]; exact (Blk.new _ _ _).alloc _)
  have HR0 := Lib.hid (show Blk w0 (w.heap.size + 1) 24 #[.string ⟨#[]⟩, .string ⟨#[]⟩, .slice none 0 0] from by
    have := Blk.new (w.alloc (.cells #[.string t, .string u, .slice A ps.length c] 24)) 24 #[.string ⟨#[]⟩, .string ⟨#[]⟩, .slice none 0 0]
    rw [hw0]
    simpa using this)
  have HC := Lib.hid (clone_any A c ps w0 (h.below HB0.out) hn)
  have hlt0 : w.heap.size + 1 < w0.heap.size := HR0.out.lt
  clear h
  have c0 := HP0.out.cell 0
  have c1 := HP0.out.cell 1
  have c2 := HP0.out.cell 2
  go_enter Try.func12, Try.ntmps12
  go_wp2_with fail
  rw [← hw0]
  clear hw0
  refine HC.out.mono ?_
  rintro e w1 ⟨A', c', rfl, ho1, b1⟩
  have HO1 := Lib.hid ho1
  have HB1 := Lib.hid (below_on HB0.out b1)
  have HP1 := Lib.hid (HP0.out.below b1 HP0.out.lt)
  have HR1 := Lib.hid (HR0.out.below b1 HR0.out.lt)
  clear ho1 b1 HB0 HP0 HR0 c0 c1 c2 HC
  have c0 := HP1.out.cell 0
  have c1 := HP1.out.cell 1
  have c2 := HP1.out.cell 2
  have z2 := HP1.out.frozen 2
  have d0 := HR1.out.cell 0
  have d1 := HR1.out.cell 1
  have d2 := HR1.out.cell 2
  have y0 := HR1.out.frozen 0
  have y1 := HR1.out.frozen 1
  have y2 := HR1.out.frozen 2
  go_wp2
  refine bodyPost_ret (v := mimV t u A' ps.length c') (by simp [results, Try.results12, go_sem, d0, d1, d2]; done) rfl ?_
  have hm : Mv w1.heap.size [w.heap.size, w.heap.size + 1] w1 ((((w1.setCell ⟨w.heap.size, 2, none⟩ (.slice A' ps.length c')).setCell ⟨w.heap.size + 1, 0, none⟩ (.string t)).setCell ⟨w.heap.size + 1, 1, none⟩ (.string u)).setCell ⟨w.heap.size + 1, 2, none⟩ (.slice A' ps.length c')) := ((((Mv.refl _ _ _).setCell (.inl (by simp)) _).setCell (.inl (by simp)) _).setCell (.inl (by simp)) _).setCell (.inl (by simp)) _
  refine ⟨A', c', rfl, own_base (own_keep HO1.out hm (by simp; omega)) (by omega), ?_⟩
  exact (((HB1.out.setCell (by exact Nat.le_refl _) _).setCell (by show w.heap.size ≤ w.heap.size + 1; omega) _).setCell (by show w.heap.size ≤ w.heap.size + 1; omega) _).setCell (by show w.heap.size ≤ w.heap.size + 1; omega) _

end Go.Proofs.Ytmepnfkgfbbkiaa
namespace Go.Proofs.Ytmepnfkgfbbkiaa
open Go.RowKit Go.Shelf

def lays241_ren : Go.Shelf.Ren := ⟨fun | 241 => 88 | 277 => 94 | n => n, fun | 70 => 88 | 3 => 3 | 0 => 0 | 72 => 90 | 37 => 67 | 5 => 5 | n => n, fun | n => n⟩

theorem lays241 : Go.Proofs.Lays.n241 Try.prog lays241_ren := {
  mixed := by kernel_rfl
  f241 := Try.func88.trans (congrArg some (by kernel_rfl))
  f277 := Try.func94.trans (congrArg some (by kernel_rfl))
  t0 := Try.underlying0
  a0 := Try.isAgg0
  z0 := Try.sizeOf0
  v0 := Try.zeroValue0
  t3 := Try.underlying3
  a3 := Try.isAgg3
  z3 := Try.sizeOf3
  v3 := Try.zeroValue3
  t37 := Try.underlying67
  a37 := Try.isAgg67
  z37 := Try.sizeOf67
  v37 := Try.zeroValue67
  t70 := Try.underlying88
  a70 := Try.isAgg88
  z70 := Try.sizeOf88
  v70 := Try.zeroValue88
  t72 := Try.underlying90
  a72 := Try.isAgg90
  z72 := Try.sizeOf90
  v72 := Try.zeroValue90 }

theorem Builder_Extra_241 : Builder.Extra Try.prog lays241_ren := {
  sizeBuilder := by kernel_rfl
  liesBuilder := by kernel_rfl
  t5 := Try.underlying5
  a5 := Try.isAgg5
  z5 := Try.sizeOf5
  v5 := Try.zeroValue5
  infoByte := by kernel_rfl
  cellsByte := by kernel_rfl
  sizeByte := by kernel_rfl
  neB5 := by decide }

open Go.RowKit in
theorem Builder_grow_fresh (B b n : Nat) (w : World) (hB : B ≤ b) (hbk : w.heap[b]? = some (.cells #[.pointer (some ⟨b, 0, none⟩), .slice none 0 0] 90 (0, 0))) (hBw : B ≤ w.heap.size) (hn : n ≤ 281474976710656) :
    Calls Try.prog 88 #[.pointer (some ⟨b, 0, none⟩), .int .i64 n] w fun e w' => e = .returned (.tuple #[]) ∧ (Lib.BuilderAt 90 5 B b (.pointer (some ⟨b, 0, none⟩)) [] w' ∧ Below B w w') := Any.Builder_grow_fresh lays241 Builder_Extra_241 B b n w hB hbk hBw hn

theorem bgrow_any (b n : Nat) (w : World) (hbk : w.heap[b]? = some (.cells #[.pointer (some ⟨b, 0, none⟩), .slice none 0 0] 90 (0, 0))) (hn : n ≤ 281474976710656) :
    Calls Try.prog 88 #[.pointer (some ⟨b, 0, none⟩), .int .i64 n] w fun e w' => e = .returned (.tuple #[]) ∧ Bld b b [] w' ∧ Below b w w' :=
  (Builder_grow_fresh b b n w (Nat.le_refl _) hbk (Nat.le_of_lt (Array.getElem?_eq_some_iff.1 hbk).1) hn).mono fun _ _ h => ⟨h.1, Lib.IsBuilderF.of (Or.inr h.2.1), h.2.2⟩

end Go.Proofs.Ytmepnfkgfbbkiaa
