/-
  What First and Type of package mask, and the document's First, answer of a slice of patterns. Conditions: texts are as long as a length can be; the slice lies in a block of its own.
-/
import Derived.Test.YtcoblepgehjamaaMk4
namespace Go.Proofs.Ytcoblepgehjamaa
open Go.RowKit

/-- A pattern's four texts. -/
structure Pat where
  b : ByteArray
  m : ByteArray
  k : ByteArray
  t : ByteArray
def Pat.ok (p : Pat) : Prop := p.b.size ≤ 9223372036854775807 ∧ p.m.size ≤ 9223372036854775807 ∧ p.k.size ≤ 9223372036854775807
def matP (s : ByteArray) (p : Pat) : Bool := matB s p.b p.m p.k
/-- n patterns that lie in block g. -/
def PatsIn (w : World) (g : Nat) (ps : Nat → Pat) (n : Nat) : Prop := g < w.heap.size ∧ ∀ i, i < n → w.cell? ⟨g, i * 4, none⟩ = some (.string (ps i).b) ∧ w.cell? ⟨g, i * 4 + 1, none⟩ = some (.string (ps i).m) ∧ w.cell? ⟨g, i * 4 + 2, none⟩ = some (.string (ps i).k) ∧ w.cell? ⟨g, i * 4 + 3, none⟩ = some (.string (ps i).t)
theorem PatsIn.below {w w' : World} {B g n : Nat} {ps : Nat → Pat} (h : PatsIn w g ps n) (hb : Below B w w') (hg : g < B) (hs : B ≤ w.heap.size) : PatsIn w' g ps n :=
  ⟨by have := hb.size; have := h.1; omega, fun i hi => by
    have := h.2 i hi
    have e := fun o => hb.cell (p := ⟨g, o, none⟩) hg
    exact ⟨(e _).trans this.1, (e _).trans this.2.1, (e _).trans this.2.2.1, (e _).trans this.2.2.2⟩⟩
/-- r is which of n patterns is the first that matches; -1: none does. -/
def IsFirst (s : ByteArray) (ps : Nat → Pat) (n : Nat) (r : Int) : Prop := (r = -1 ∧ ∀ j, j < n → matP s (ps j) = false) ∨ (∃ k, k < n ∧ r = (k : Int) ∧ matP s (ps k) = true ∧ ∀ j, j < k → matP s (ps j) = false)
theorem IsFirst.at_ {s : ByteArray} {ps : Nat → Pat} {n k : Nat} {r : Int} (h : IsFirst s ps n r) (hk : k < n) (hm : matP s (ps k) = true) (hno : ∀ j, j < k → matP s (ps j) = false) : r = (k : Int) := by
  rcases h with ⟨_, h2⟩ | ⟨j, h1, h2, h3, h4⟩
  · rw [h2 k hk] at hm; cases hm
  · rcases Nat.lt_trichotomy j k with h5 | h5 | h5
    · rw [hno j h5] at h3; cases h3
    · rw [h2, h5]
    · rw [h4 k h5] at hm; cases hm
theorem IsFirst.no {s : ByteArray} {ps : Nat → Pat} {n : Nat} {r : Int} (h : IsFirst s ps n r) (hno : ∀ j, j < n → matP s (ps j) = false) : r = -1 := by
  rcases h with ⟨h1, _⟩ | ⟨j, h1, h2, h3, h4⟩
  · exact h1
  · rw [hno j h1] at h3; cases h3
theorem IsFirst.some (s : ByteArray) (ps : Nat → Pat) (n : Nat) : ∃ r, IsFirst s ps n r := by
  have key : ∀ m, m ≤ n → (∀ j, j < m → matP s (ps j) = false) ∨ ∃ r, IsFirst s ps n r := by
    intro m
    induction m with
    | zero => intro _; exact .inl fun j hj => absurd hj (by omega)
    | succ m ih =>
      intro hm
      rcases ih (by omega) with h | h
      · cases e : matP s (ps m)
        · refine .inl fun j hj => ?_
          by_cases hjm : j = m
          · subst hjm; exact e
          · exact h j (by omega)
        · exact .inr ⟨m, .inr ⟨m, by omega, rfl, e, h⟩⟩
      · exact .inr h
  rcases key n (Nat.le_refl _) with h | h
  · exact ⟨-1, .inl ⟨rfl, h⟩⟩
  · exact h

set_option maxHeartbeats 400000 in
theorem first1_any (sb : Nat) (s : ByteArray) (p : Pat) (w : World) (h : w.cell? ⟨sb, 0, none⟩ = some (.string s)) (hp : p.ok) (hs : s.size ≤ 9223372036854775807) :
    Calls Try.prog 36 #[patV p.b p.m p.k p.t, .pointer (some ⟨sb, 0, none⟩)] w fun e w' => e = .returned (.bool (matP s p)) ∧ Below w.heap.size w w' := by
  have HC := Lib.hid (fun W => match_any s p.b p.m p.k p.t W hs hp.1 hp.2.1 hp.2.2)
  have hlt : sb < w.heap.size := World.block_lt_of_cell? w _ h
  have h' : (w.alloc (.cells #[.string p.b, .string p.m, .string p.k, .string p.t] 40)).cell? ⟨sb, 0, none⟩ = some (.string s) := (World.cell?_alloc_lt w _ _ hlt).trans h
  have HB0 := Lib.hid ((Below.refl w.heap.size w).alloc (Nat.le_refl _) (.cells #[.string p.b, .string p.m, .string p.k, .string p.t] 40))
  unfold matP
  go_enter Try.func36, Try.ntmps36
  go_wp2_with (go_at_call 37; refine (HC.out _).mono ?_; rintro e w1 ⟨rfl, hb1⟩; have HB1 := Lib.hid hb1; clear hb1)
  go_ret
  exact ⟨rfl, HB0.out.trans (HB1.out.mono (by simp))⟩

set_option maxHeartbeats 1000000 in
set_option maxRecDepth 100000 in
theorem indexFunc_any (sb g n c : Nat) (s : ByteArray) (ps : Nat → Pat) (r : Int) (w : World) (h : w.cell? ⟨sb, 0, none⟩ = some (.string s)) (hp : PatsIn w g ps n) (hok : ∀ i, i < n → (ps i).ok) (hs : s.size ≤ 9223372036854775807) (hn : n ≤ 9223372036854775807) (hr : IsFirst s ps n r) :
    Calls Try.prog 35 #[.slice (some ⟨g, 0, none⟩) n c, .func (.func 36) #[] #[.pointer (some ⟨sb, 0, none⟩)]] w fun e w' => e = .returned (.int .i64 r) ∧ Below w.heap.size w w' := by
  have hlt : sb < w.heap.size := World.block_lt_of_cell? w _ h
  have HH := Lib.hid h
  have HP := Lib.hid hp
  have HR := Lib.hid hr
  clear h hp hr
  go_enter Try.func35, Try.ntmps35
  go_wp2
  go_loopw [8] (fun i wr => ∃ k : Nat, k ≤ n ∧ i = .int .i64 k ∧ (∀ j, j < k → matP s (ps j) = false) ∧ Below w.heap.size w wr) (fun i _ => n - (intOf i).toNat)
  case atStart => exact ⟨0, by omega, rfl, fun j h => absurd h (by omega), Below.refl _ _⟩
  case round =>
    obtain ⟨k, hk, rfl, hno, hw⟩ := hrel
    have HN := Lib.hid hno
    have HW := Lib.hid hw
    clear hno hw
    by_cases hlt2 : k < n
    · have HC := Lib.hid (fun W (h : W.cell? ⟨sb, 0, none⟩ = some (.string s)) => first1_any sb s (ps k) W h (hok k hlt2) hs)
      have HS := Lib.hid ((HW.out.cell (p := ⟨sb, 0, none⟩) hlt).trans HH.out)
      have hcs := (HP.out.below HW.out HP.out.1 (Nat.le_refl _)).2 k hlt2
      obtain ⟨c0, c1, c2, c3⟩ := hcs
      cases hm : matP s (ps k)
      · rw [hm] at HC
        have HM := Lib.hid hm
        clear hm
        go_wp2_with (go_at_call 36; refine (HC.out _ HS.out).mono ?_; rintro e w1 ⟨rfl, hb1⟩; have HB1 := Lib.hid hb1; clear hb1)
        go_roundw
        case rel => exact ⟨k + 1, by omega, by go_num, fun j h => if e : j = k then by subst e; exact HM.out else HN.out j (by omega), HW.out.trans (HB1.out.mono HW.out.size)⟩
        case measure => simp [intOf]; omega
      · rw [hm] at HC
        have HX := Lib.hid (HR.out.at_ hlt2 hm HN.out)
        clear hm
        go_wp2_with (go_at_call 36; refine (HC.out _ HS.out).mono ?_; rintro e w1 ⟨rfl, hb1⟩; have HB1 := Lib.hid hb1; clear hb1)
        go_ret
        exact ⟨by rw [HX.out]; rfl, HW.out.trans (HB1.out.mono HW.out.size)⟩
    · obtain rfl : k = n := by omega
      have HX := Lib.hid (HR.out.no HN.out)
      go_wp2
      go_ret
      exact ⟨by rw [HX.out]; rfl, HW.out⟩

set_option maxHeartbeats 400000 in
theorem first_any (g n c : Nat) (s : ByteArray) (ps : Nat → Pat) (r : Int) (w : World) (hp : PatsIn w g ps n) (hok : ∀ i, i < n → (ps i).ok) (hs : s.size ≤ 9223372036854775807) (hn : n ≤ 9223372036854775807) (hr : IsFirst s ps n r) :
    Calls Try.prog 29 #[.string s, .slice (some ⟨g, 0, none⟩) n c] w fun e w' => e = .returned (.tuple #[.int .i64 (if r < 0 then 0 else r), .bool (decide (0 ≤ r))]) ∧ Below w.heap.size w w' := by
  have hmf := make_fn
  obtain ⟨w0, hw0⟩ : ∃ w0, w0 = w.alloc (.cells #[.string s] 9) := ⟨_, rfl⟩
  have HB0 := Lib.hid (show Below w.heap.size w w0 from by rw [hw0]; exact (Below.refl w.heap.size w).alloc (Nat.le_refl _) _)
  have hc0 : w0.cell? ⟨w.heap.size, 0, none⟩ = some (.string s) := by rw [hw0]; simp
  have HP := Lib.hid (hp.below HB0.out hp.1 (Nat.le_refl _))
  have HC := Lib.hid (indexFunc_any w.heap.size g n c s ps r w0 hc0 HP.out hok hs hn hr)
  by_cases h : r < 0
  · have e1 : decide (0 ≤ r) = false := by simp; omega
    rw [if_pos h, e1]
    clear e1
    go_enter Try.func29, Try.ntmps29
    go_wp2_with fail
    rw [← hw0]
    clear hw0 hc0
    go_wp2_with (go_at_call 35; refine HC.out.mono ?_; rintro e w1 ⟨rfl, hb1⟩; have HB1 := Lib.hid hb1; clear hb1)
    go_ret2
    exact ⟨rfl, HB0.out.trans (HB1.out.mono HB0.out.size)⟩
  · have e1 : decide (0 ≤ r) = true := by simp; omega
    rw [if_neg h, e1]
    clear e1
    have hd : decide (r < 0) = false := by simpa using h
    go_enter Try.func29, Try.ntmps29
    go_wp2_with fail
    rw [← hw0]
    clear hw0 hc0
    go_wp2_with (go_at_call 35; refine HC.out.mono ?_; rintro e w1 ⟨rfl, hb1⟩; have HB1 := Lib.hid hb1; clear hb1)
    go_ret2
    exact ⟨rfl, HB0.out.trans (HB1.out.mono HB0.out.size)⟩

/-- The Type of the pattern that is told. -/
def typeOf (ps : Nat → Pat) (r : Int) : ByteArray := if r < 0 then ⟨#[]⟩ else (ps r.toNat).t

set_option maxHeartbeats 400000 in
theorem type_any (g n c : Nat) (s : ByteArray) (ps : Nat → Pat) (r : Int) (w : World) (hp : PatsIn w g ps n) (hok : ∀ i, i < n → (ps i).ok) (hs : s.size ≤ 9223372036854775807) (hn : n ≤ 9223372036854775807) (hr : IsFirst s ps n r) :
    Calls Try.prog 23 #[.string s, .slice (some ⟨g, 0, none⟩) n c] w fun e w' => e = .returned (.string (typeOf ps r)) ∧ Below w.heap.size w w' := by
  have HC := Lib.hid (first_any g n c s ps r w hp hok hs hn hr)
  by_cases h : r < 0
  · have HT := Lib.hid (show typeOf ps r = ⟨#[]⟩ from if_pos h)
    have e1 : decide (0 ≤ r) = false := by simp; omega
    rw [if_pos h, e1] at HC
    clear e1
    go_enter Try.func23, Try.ntmps23
    go_wp2_with (go_at_call 29; refine HC.out.mono ?_; rintro e w1 ⟨rfl, hb1⟩; have HB1 := Lib.hid hb1; clear hb1)
    go_ret
    exact ⟨by rw [HT.out]; rfl, HB1.out⟩
  · obtain ⟨k, rfl, hk⟩ : ∃ k : Nat, r = (k : Int) ∧ k < n := by
      rcases hr with ⟨h1, _⟩ | ⟨k, h1, h2, _⟩
      · omega
      · exact ⟨k, h2, h1⟩
    have HT := Lib.hid (show typeOf ps k = (ps k).t from by unfold typeOf; rw [if_neg h]; rfl)
    have e1 : decide (0 ≤ (k : Int)) = true := by simp
    rw [if_neg h, e1] at HC
    have HP := Lib.hid hp
    clear e1 h hr hp
    go_enter Try.func23, Try.ntmps23
    go_wp2_with (go_at_call 29; refine HC.out.mono ?_; rintro e w1 ⟨rfl, hb1⟩; have HB1 := Lib.hid hb1; have c3 := ((HP.out.below hb1 HP.out.1 (Nat.le_refl _)).2 k hk).2.2.2; clear hb1)
    go_ret
    exact ⟨by rw [HT.out]; rfl, HB1.out⟩

set_option maxHeartbeats 1000000 in
set_option maxRecDepth 100000 in
theorem refFirst_any (g n c : Nat) (s : ByteArray) (ps : Nat → Pat) (r : Int) (w : World) (hp : PatsIn w g ps n) (hok : ∀ i, i < n → (ps i).ok) (hs : s.size ≤ 9223372036854775807) (hn : n ≤ 9223372036854775807) (hr : IsFirst s ps n r) :
    Calls Try.prog 21 #[.string s, .slice (some ⟨g, 0, none⟩) n c] w fun e w' => e = .returned (.int .i64 r) ∧ Below w.heap.size w w' := by
  have HP := Lib.hid hp
  have HR := Lib.hid hr
  clear hp hr
  go_enter Try.func21, Try.ntmps21
  go_wp2
  go_loopw [5] (fun i wr => ∃ k : Nat, k ≤ n ∧ i = .int .i64 k ∧ (∀ j, j < k → matP s (ps j) = false) ∧ Below w.heap.size w wr) (fun i _ => n - (intOf i).toNat)
  case atStart => exact ⟨0, by omega, rfl, fun j h => absurd h (by omega), Below.refl _ _⟩
  case round =>
    obtain ⟨k, hk, rfl, hno, hw⟩ := hrel
    have HN := Lib.hid hno
    have HW := Lib.hid hw
    clear hno hw
    by_cases hlt2 : k < n
    · have HC := Lib.hid (fun W => show Calls Try.prog 28 #[.string s, patV (ps k).b (ps k).m (ps k).k (ps k).t] W fun e w' => e = .returned (.bool (matP s (ps k))) ∧ Below W.heap.size W w' from refMatch_any s (ps k).b (ps k).m (ps k).k (ps k).t W hs (hok k hlt2).1 (hok k hlt2).2.1 (hok k hlt2).2.2)
      have hcs := (HP.out.below HW.out HP.out.1 (Nat.le_refl _)).2 k hlt2
      obtain ⟨c0, c1, c2, c3⟩ := hcs
      cases hm : matP s (ps k)
      · rw [hm] at HC
        have HM := Lib.hid hm
        clear hm
        go_wp2_with (go_at_call 28; refine (HC.out _).mono ?_; rintro e w1 ⟨rfl, hb1⟩; have HB1 := Lib.hid hb1; clear hb1)
        go_roundw
        case rel => exact ⟨k + 1, by omega, by go_num, fun j h => if e : j = k then by subst e; exact HM.out else HN.out j (by omega), HW.out.trans (HB1.out.mono HW.out.size)⟩
        case measure => simp [intOf]; omega
      · rw [hm] at HC
        have HX := Lib.hid (HR.out.at_ hlt2 hm HN.out)
        clear hm
        go_wp2_with (go_at_call 28; refine (HC.out _).mono ?_; rintro e w1 ⟨rfl, hb1⟩; have HB1 := Lib.hid hb1; clear hb1)
        go_ret
        exact ⟨by rw [HX.out]; rfl, HW.out.trans (HB1.out.mono HW.out.size)⟩
    · obtain rfl : k = n := by omega
      have HX := Lib.hid (HR.out.no HN.out)
      go_wp2
      go_ret
      exact ⟨by rw [HX.out]; rfl, HW.out⟩

end Go.Proofs.Ytcoblepgehjamaa

