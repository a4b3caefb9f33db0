/-
  What Count and All answer where they are asked of Token, of Digit and of no function. Condition: the text is as long as a length can be.
  Plain facts on the number whose digits a text is. No condition.
  Plain facts on layer 24's texts: where a run of bytes ends, the unit, what is asked for (askO). No condition.
-/
import Derived.Test.YtagbndkfbnlpoaaGreatDoorZ2
import Derived.Test.YtagbndkfbnlpoaaGreatDoorZ3
import Derived.LoopTactic
import Derived.BigQuiet
import Derived.OneCell
import Derived.Test.YtagbndkfbnlpoaaGreatDoorZ1
import Derived.Lib.Hide
namespace Go.Proofs.YtagbndkfbnlpoaaGreatDoor
open Go.RowKit

/-- Of how many of the first k bytes p holds. -/
def cntT (p : UInt8 → Bool) (s : ByteArray) (k : Nat) : Nat := ((s.data.toList.take k).filter p).length
theorem cntT_yes {p : UInt8 → Bool} {s : ByteArray} {k : Nat} (h : k < s.size) (hp : p s[k] = true) : cntT p s (k + 1) = cntT p s k + 1 := by
  unfold cntT
  rw [take_snoc _ _ h, List.filter_append]
  simp [hp]
theorem cntT_no {p : UInt8 → Bool} {s : ByteArray} {k : Nat} (h : k < s.size) (hp : p s[k] = false) : cntT p s (k + 1) = cntT p s k := by
  unfold cntT
  rw [take_snoc _ _ h, List.filter_append]
  simp [hp]
theorem cntT_le (p : UInt8 → Bool) (s : ByteArray) (k : Nat) : cntT p s k ≤ k := by
  unfold cntT
  have h1 := List.length_filter_le p (s.data.toList.take k)
  have h2 : (s.data.toList.take k).length ≤ k := by simp; omega
  omega
theorem cntT_zero (p : UInt8 → Bool) (s : ByteArray) : cntT p s 0 = 0 := by unfold cntT; simp

/-- Whether p holds of all bytes. -/
def allB (p : UInt8 → Bool) (s : ByteArray) : Bool := (cntT p s s.size : Int) == (s.size : Int)
theorem allB_yes {p : UInt8 → Bool} {s : ByteArray} (h : ∀ j (hj : j < s.size), p s[j] = true) : allB p s = true := by
  have key : ∀ k, k ≤ s.size → cntT p s k = k := fun k => by
    induction k with
    | zero => intro _; exact cntT_zero p s
    | succ k ih => intro hk; rw [cntT_yes (by omega) (h k (by omega)), ih (by omega)]
  unfold allB
  rw [key _ (Nat.le_refl _)]
  simp
theorem allB_no {p : UInt8 → Bool} {s : ByteArray} {j : Nat} (hj : j < s.size) (h : p s[j] = false) : allB p s = false := by
  have key : ∀ k, j < k → k ≤ s.size → cntT p s k < k := fun k => by
    induction k with
    | zero => omega
    | succ k ih =>
      intro h1 h2
      by_cases e : k = j
      · subst e
        rw [cntT_no (by omega) h]
        have := cntT_le p s k
        omega
      · have := ih (by omega) (by omega)
        cases hp : p (s[k]'(by omega))
        · rw [cntT_no (by omega) hp]; omega
        · rw [cntT_yes (by omega) hp]; omega
  have := key s.size hj (Nat.le_refl _)
  unfold allB
  rw [beq_eq_false_iff_ne]
  omega

end Go.Proofs.YtagbndkfbnlpoaaGreatDoor
namespace Go.Proofs.YtagbndkfbnlpoaaGreatDoor

theorem digB_range {b : UInt8} (h : digB b = true) : 48 ≤ b.toNat ∧ b.toNat ≤ 57 := by
  unfold digB at h
  simpa using h

/-- The number of the first k bytes. -/
def numK (s : ByteArray) : Nat → Nat
  | 0 => 0
  | k + 1 => 10 * numK s k + ((s.data.toList.getD k 0).toNat - 48)
theorem numK_zero (s : ByteArray) : numK s 0 = 0 := rfl
theorem numK_succ {s : ByteArray} {k : Nat} (h : k < s.size) : numK s (k + 1) = 10 * numK s k + (s[k].toNat - 48) := by
  have e : s.data.toList.getD k 0 = s[k] := by
    rw [List.getD_eq_getElem?_getD, List.getElem?_eq_getElem (by simpa using h)]
    rfl
  rw [← e]
  rfl
theorem numK_mono (s : ByteArray) {j k : Nat} (h : j ≤ k) : numK s j ≤ numK s k := by
  induction k with
  | zero => rw [Nat.le_zero.1 h]; exact Nat.le_refl _
  | succ k ih =>
    by_cases e : j = k + 1
    · rw [e]; exact Nat.le_refl _
    · have := ih (by omega)
      show numK s j ≤ 10 * numK s k + _
      omega
theorem numK_take {s t : ByteArray} {n : Nat} (h : ∀ j, j < n → s.data.toList.getD j 0 = t.data.toList.getD j 0) : numK s n = numK t n := by
  induction n with
  | zero => rfl
  | succ n ih =>
    show 10 * numK s n + _ = 10 * numK t n + _
    rw [ih fun j hj => h j (by omega), h n (by omega)]

/-- The number and whether it is not too great. -/
def numV (s : ByteArray) (k : Nat) : Value := if numK s k ≤ 9007199254740991 then .tuple #[.int .i64 (numK s k : Nat), .bool true] else .tuple #[.int .i64 0, .bool false]
theorem numV_yes {s : ByteArray} {k : Nat} (h : numK s k ≤ 9007199254740991) : numV s k = .tuple #[.int .i64 (numK s k : Nat), .bool true] := by unfold numV; rw [if_pos h]
theorem numV_no {s : ByteArray} {k : Nat} (h : 9007199254740991 < numK s k) : numV s k = .tuple #[.int .i64 0, .bool false] := by unfold numV; rw [if_neg (by omega)]

/-- The code of a text that should be a number, and the number. -/
def parE (s : ByteArray) : Int := if s.size = 0 ∨ allB digB s = false then 2 else if numK s s.size ≤ 9007199254740991 then 0 else 9
def parN (s : ByteArray) : Int := if parE s = 0 then (numK s s.size : Nat) else 0
def parV (s : ByteArray) : Value := .tuple #[.int .i64 (parN s), .int .i64 (parE s)]
theorem parV_empty {s : ByteArray} (h : s.size = 0) : parV s = .tuple #[.int .i64 0, .int .i64 2] := by
  have e : parE s = 2 := by unfold parE; rw [if_pos (.inl h)]
  unfold parV parN
  rw [e]; rfl
theorem parV_form {s : ByteArray} (h : allB digB s = false) : parV s = .tuple #[.int .i64 0, .int .i64 2] := by
  have e : parE s = 2 := by unfold parE; rw [if_pos (.inr h)]
  unfold parV parN
  rw [e]; rfl
theorem parV_ok {s : ByteArray} (h0 : s.size ≠ 0) (h : allB digB s = true) (h1 : numK s s.size ≤ 9007199254740991) : parV s = .tuple #[.int .i64 (numK s s.size : Nat), .int .i64 0] := by
  have e : parE s = 0 := by unfold parE; rw [if_neg (by simp [h0, h]), if_pos h1]
  unfold parV parN
  rw [e]; rfl
theorem parV_range {s : ByteArray} (h0 : s.size ≠ 0) (h : allB digB s = true) (h1 : 9007199254740991 < numK s s.size) : parV s = .tuple #[.int .i64 0, .int .i64 9] := by
  have e : parE s = 9 := by unfold parE; rw [if_neg (by simp [h0, h]), if_neg (by omega)]
  unfold parV parN
  rw [e]; rfl
theorem allB_digits {s : ByteArray} (h : allB digB s = true) : ∀ j (hj : j < s.size), digB s[j] = true := fun j hj => by
  cases hp : digB s[j]
  · rw [allB_no hj hp] at h; cases h
  · rfl

theorem scan_all {p : UInt8 → Bool} {s : ByteArray} : ∀ (n i j : Nat), j = i + n → j < scan p s i → (hj : j < s.size) → p s[j] = true
  | 0, i, j, e, h, hj => by
    obtain rfl : j = i := by omega
    cases hp : p s[j]
    · rw [scan_stop hj hp] at h; omega
    · rfl
  | n + 1, i, j, e, h, hj => by
    have hi : i < s.size := by omega
    cases hp : p s[i]
    · rw [scan_stop hi hp] at h; omega
    · exact scan_all n (i + 1) j (by omega) (by rw [scan_step hi hp]; exact h) hj

end Go.Proofs.YtagbndkfbnlpoaaGreatDoor
namespace Go.Proofs.YtagbndkfbnlpoaaGreatDoor

theorem scan_uniq {p : UInt8 → Bool} {s : ByteArray} : ∀ (n i j : Nat), j = i + n → j ≤ s.size → (∀ k, i ≤ k → k < j → (hk : k < s.size) → p s[k] = true) → (∀ h : j < s.size, p s[j] = false) → scan p s i = j
  | 0, i, j, e, hj, _, h2 => by
    obtain rfl : j = i := by omega
    by_cases h : j < s.size
    · exact scan_stop h (h2 h)
    · exact scan_end (by omega)
  | n + 1, i, j, e, hj, h1, h2 => by
    have hi : i < s.size := by omega
    rw [← scan_step hi (h1 i (Nat.le_refl _) (by omega) hi)]
    exact scan_uniq n (i + 1) j (by omega) hj (fun k h3 h4 => h1 k (by omega) h4) h2
theorem scan_within {p : UInt8 → Bool} {s : ByteArray} {i k : Nat} (h0 : i ≤ k) (h1 : k < scan p s i) (hk : k < s.size) : p s[k] = true :=
  scan_all (k - i) i k (by omega) h1 hk
theorem ext_at {s : ByteArray} {a b i : Nat} (hb : b ≤ s.size) (h : a + i < b) : (s.extract a b)[i]'(by simp; omega) = s[a + i]'(by omega) := ByteArray.getElem_extract (by simp; omega)
/-- A run within a piece, whose next byte is none of the run. -/
theorem scan_piece {p : UInt8 → Bool} {s : ByteArray} {a b i : Nat} (hb : b ≤ s.size) (hi : a + i ≤ b) (hn : ∀ h : b < s.size, p s[b] = false) : scan p s (a + i) = a + scan p (s.extract a b) i := by
  have hz : (s.extract a b).size = b - a := by simp; omega
  have h1 := scan_ge p (s.extract a b) i
  have h2 := scan_le p (s.extract a b) i (by omega)
  refine scan_uniq (scan p (s.extract a b) i - i) (a + i) _ (by omega) (by omega) (fun k h3 h4 hk => ?_) fun h => ?_
  · have := scan_within (p := p) (s := s.extract a b) (i := i) (k := k - a) (by omega) (by omega) (by omega)
    rw [ext_at hb (by omega)] at this
    have e : a + (k - a) = k := by omega
    simp only [e] at this
    exact this
  · by_cases e : a + scan p (s.extract a b) i = b
    · have : ∀ (j : Nat) (hj : j < s.size), j = b → p s[j] = false := fun j hj e => by subst e; exact hn hj
      exact this _ h e
    · have := scan_at (p := p) (s := s.extract a b) (i := i) (by omega) (by omega)
      rw [ext_at hb (by omega)] at this
      exact this
theorem scan_suf (p : UInt8 → Bool) (s : ByteArray) {k i : Nat} (hk : k + i ≤ s.size) : scan p s (k + i) = k + scan p (s.extract k s.size) i :=
  scan_piece (Nat.le_refl _) hk fun h => absurd h (Nat.lt_irrefl _)
theorem scan_suf0 (p : UInt8 → Bool) (s : ByteArray) {k : Nat} (hk : k ≤ s.size) : scan p s k = k + scan p (s.extract k s.size) 0 := scan_suf p s (i := 0) hk
theorem sufx_suf (s : ByteArray) {k i : Nat} (_hk : k + i ≤ s.size) : (s.extract k s.size).extract i (s.extract k s.size).size = s.extract (k + i) s.size := by
  have hz : (s.extract k s.size).size = s.size - k := by simp
  rw [hz, ByteArray.extract_extract]
  congr 1
  omega
theorem sufx_head (s : ByteArray) {k i : Nat} (hk : k + i ≤ s.size) : (s.extract k s.size).extract 0 i = s.extract k (k + i) := by
  rw [ByteArray.extract_extract]
  congr 1
  omega

/-- Whether a sign stands at a place. -/
def atB (s : ByteArray) (k : Nat) (c : UInt8) : Bool := decide (k < s.size) && s[k]! == c
theorem atB_in {s : ByteArray} {k : Nat} {c : UInt8} (h : atB s k c = true) : k < s.size := by
  unfold atB at h
  simp only [Bool.and_eq_true, decide_eq_true_eq] at h
  exact h.1
theorem atB_at {s : ByteArray} {k : Nat} {c : UInt8} (h : k < s.size) : atB s k c = (s[k] == c) := by
  unfold atB
  rw [getElem!_pos s k h, decide_eq_true h, Bool.true_and]
theorem atB_out {s : ByteArray} {k : Nat} {c : UInt8} (h : s.size ≤ k) : atB s k c = false := by
  unfold atB
  rw [decide_eq_false (by omega), Bool.false_and]
theorem pref_one {s : ByteArray} {k : Nat} (c : UInt8) (hk : k ≤ s.size) : prefB (s.extract k s.size) ⟨#[c]⟩ = atB s k c := by
  have hz : (s.extract k s.size).size = s.size - k := by simp
  have h1 : (⟨#[c]⟩ : ByteArray).size = 1 := rfl
  by_cases h : k < s.size
  · rw [atB_at h]
    unfold prefB
    rw [h1, hz, decide_eq_true (by omega), Bool.true_and, sufx_head s (i := 1) (by omega)]
    have e : s.extract k (k + 1) = ⟨#[s[k]]⟩ := by
      apply ByteArray.ext
      apply Array.ext
      · simp; omega
      · intro i h3 h4
        have h5 : i < (s.extract k (k + 1)).size := by simpa using h3
        obtain rfl : i = 0 := by simp at h5; omega
        have := ext_at (s := s) (a := k) (b := k + 1) (i := 0) (by omega) (by omega)
        exact this
    rw [e, Lib.toList_data, Lib.toList_data]
    show ([s[k]] == [c]) = (s[k] == c)
    simp
  · rw [atB_out (by omega)]
    unfold prefB
    rw [h1, hz, decide_eq_false (by omega), Bool.false_and]

end Go.Proofs.YtagbndkfbnlpoaaGreatDoor
