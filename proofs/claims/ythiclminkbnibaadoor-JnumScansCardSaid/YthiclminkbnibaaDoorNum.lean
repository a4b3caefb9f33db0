/-
  Plain facts on the number whose digits a text is. No condition.
-/
import Derived.Test.YthiclminkbnibaaDoorCount
import Derived.Test.YthiclminkbnibaaDoorByte
namespace Go.Proofs.YthiclminkbnibaaDoor

theorem digB_range {b : UInt8} (h : digB b = true) : 48 ≤ b.toNat ∧ b.toNat ≤ 57 := by
  unfold digB at h
  simpa using h

/-- The number of the first k bytes. -/
def numK (s : ByteArray) : Nat → Nat
  | 0 => 0
  | k + 1 => 10 * numK s k + ((s.data.toList.getD k 0).toNat - 48)
theorem numK_zero (s : ByteArray) : numK s 0 = 0 := rfl
theorem numK_succ {s : ByteArray} {k : Nat} (h : k < s.size) : numK s (k + 1) = 10 * numK s k + (s[k].toNat - 48) := by
  have e : s.data.toList.getD k 0 = s[k] := by
    rw [List.getD_eq_getElem?_getD, List.getElem?_eq_getElem (by simpa using h)]
    rfl
  rw [← e]
  rfl
theorem numK_mono (s : ByteArray) {j k : Nat} (h : j ≤ k) : numK s j ≤ numK s k := by
  induction k with
  | zero => rw [Nat.le_zero.1 h]; exact Nat.le_refl _
  | succ k ih =>
    by_cases e : j = k + 1
    · rw [e]; exact Nat.le_refl _
    · have := ih (by omega)
      show numK s j ≤ 10 * numK s k + _
      omega
theorem numK_take {s t : ByteArray} {n : Nat} (h : ∀ j, j < n → s.data.toList.getD j 0 = t.data.toList.getD j 0) : numK s n = numK t n := by
  induction n with
  | zero => rfl
  | succ n ih =>
    show 10 * numK s n + _ = 10 * numK t n + _
    rw [ih fun j hj => h j (by omega), h n (by omega)]

/-- The number and whether it is not too great. -/
def numV (s : ByteArray) (k : Nat) : Value := if numK s k ≤ 9007199254740991 then .tuple #[.int .i64 (numK s k : Nat), .bool true] else .tuple #[.int .i64 0, .bool false]
theorem numV_yes {s : ByteArray} {k : Nat} (h : numK s k ≤ 9007199254740991) : numV s k = .tuple #[.int .i64 (numK s k : Nat), .bool true] := by unfold numV; rw [if_pos h]
theorem numV_no {s : ByteArray} {k : Nat} (h : 9007199254740991 < numK s k) : numV s k = .tuple #[.int .i64 0, .bool false] := by unfold numV; rw [if_neg (by omega)]

/-- The code of a text that should be a number, and the number. -/
def parE (s : ByteArray) : Int := if s.size = 0 ∨ allB digB s = false then 2 else if numK s s.size ≤ 9007199254740991 then 0 else 9
def parN (s : ByteArray) : Int := if parE s = 0 then (numK s s.size : Nat) else 0
def parV (s : ByteArray) : Value := .tuple #[.int .i64 (parN s), .int .i64 (parE s)]
theorem parV_empty {s : ByteArray} (h : s.size = 0) : parV s = .tuple #[.int .i64 0, .int .i64 2] := by
  have e : parE s = 2 := by unfold parE; rw [if_pos (.inl h)]
  unfold parV parN
  rw [e]; rfl
theorem parV_form {s : ByteArray} (h : allB digB s = false) : parV s = .tuple #[.int .i64 0, .int .i64 2] := by
  have e : parE s = 2 := by unfold parE; rw [if_pos (.inr h)]
  unfold parV parN
  rw [e]; rfl
theorem parV_ok {s : ByteArray} (h0 : s.size ≠ 0) (h : allB digB s = true) (h1 : numK s s.size ≤ 9007199254740991) : parV s = .tuple #[.int .i64 (numK s s.size : Nat), .int .i64 0] := by
  have e : parE s = 0 := by unfold parE; rw [if_neg (by simp [h0, h]), if_pos h1]
  unfold parV parN
  rw [e]; rfl
theorem parV_range {s : ByteArray} (h0 : s.size ≠ 0) (h : allB digB s = true) (h1 : 9007199254740991 < numK s s.size) : parV s = .tuple #[.int .i64 0, .int .i64 9] := by
  have e : parE s = 9 := by unfold parE; rw [if_neg (by simp [h0, h]), if_neg (by omega)]
  unfold parV parN
  rw [e]; rfl
theorem allB_digits {s : ByteArray} (h : allB digB s = true) : ∀ j (hj : j < s.size), digB s[j] = true := fun j hj => by
  cases hp : digB s[j]
  · rw [allB_no hj hp] at h; cases h
  · rfl

theorem scan_all {p : UInt8 → Bool} {s : ByteArray} : ∀ (n i j : Nat), j = i + n → j < scan p s i → (hj : j < s.size) → p s[j] = true
  | 0, i, j, e, h, hj => by
    obtain rfl : j = i := by omega
    cases hp : p s[j]
    · rw [scan_stop hj hp] at h; omega
    · rfl
  | n + 1, i, j, e, h, hj => by
    have hi : i < s.size := by omega
    cases hp : p s[i]
    · rw [scan_stop hi hp] at h; omega
    · exact scan_all n (i + 1) j (by omega) (by rw [scan_step hi hp]; exact h) hj

/-- How many digits a text begins with. -/
def runD (s : ByteArray) : Nat := scan digB s 0
theorem runD_le (s : ByteArray) : runD s ≤ s.size := scan_le _ _ _ (Nat.zero_le _)
theorem head_at (s : ByteArray) {k j : Nat} (hk : k ≤ s.size) (hj : j < k) : (s.extract 0 k).data.toList.getD j 0 = s.data.toList.getD j 0 := by
  have e : (s.extract 0 k).data.toList = s.data.toList.take k := by
    simp only [ByteArray.data_extract, Array.toList_extract]
    simp [List.extract]
  rw [e, List.getD_eq_getElem?_getD, List.getD_eq_getElem?_getD, List.getElem?_take_of_lt hj]
theorem numV_head (s : ByteArray) {k : Nat} (hk : k ≤ s.size) : numV (s.extract 0 k) (s.extract 0 k).size = numV s k := by
  have e : (s.extract 0 k).size = k := by simp; omega
  rw [e]
  unfold numV
  rw [numK_take fun j hj => head_at s hk hj]
theorem head_digits (s : ByteArray) : ∀ j (hj : j < (s.extract 0 (runD s)).size), digB (s.extract 0 (runD s))[j] = true := fun j hj => by
  have hk := runD_le s
  have e : (s.extract 0 (runD s)).size = runD s := by simp; omega
  have h1 : j < runD s := by omega
  have h2 := scan_all (p := digB) (s := s) j 0 j (by omega) h1 (by omega)
  have h3 := head_at s hk h1
  rw [List.getD_eq_getElem?_getD, List.getD_eq_getElem?_getD, List.getElem?_eq_getElem (by simpa using hj), List.getElem?_eq_getElem (by simp; omega)] at h3
  have h4 : (s.extract 0 (runD s))[j] = s[j]'(by omega) := h3
  rw [h4]
  exact h2
theorem parV_head {s : ByteArray} (h : runD s ≠ 0) : parV (s.extract 0 (runD s)) = if numK s (runD s) ≤ 9007199254740991 then .tuple #[.int .i64 (numK s (runD s) : Nat), .int .i64 0] else .tuple #[.int .i64 0, .int .i64 9] := by
  have hk := runD_le s
  have e : (s.extract 0 (runD s)).size = runD s := by simp; omega
  have ha : allB digB (s.extract 0 (runD s)) = true := allB_yes (head_digits s)
  have hn : numK (s.extract 0 (runD s)) (s.extract 0 (runD s)).size = numK s (runD s) := by rw [e]; exact numK_take fun j hj => head_at s hk hj
  by_cases h1 : numK s (runD s) ≤ 9007199254740991
  · rw [if_pos h1, parV_ok (by omega) ha (by omega), hn]
  · rw [if_neg h1, parV_range (by omega) ha (by omega)]

/-- What Prefix answers. -/
def preV (s : ByteArray) : Value := if numK s (runD s) ≤ 9007199254740991 then .tuple #[.int .i64 (numK s (runD s) : Nat), .int .i64 (runD s : Nat)] else .tuple #[.int .i64 9007199254740991, .int .i64 (runD s : Nat)]

/-- Whether there is a nought ahead of another byte. -/
def nouB (s : ByteArray) : Bool := decide (1 < s.size) && (s.data.toList.getD 0 0).toNat == 48
theorem nouB_at {s : ByteArray} (h : 1 < s.size) : nouB s = ((s[0].toNat : Int) == 48) := by
  unfold nouB
  have e : s.data.toList.getD 0 0 = s[0] := by
    rw [List.getD_eq_getElem?_getD, List.getElem?_eq_getElem (by simp; omega)]
    rfl
  rw [e, decide_eq_true h, Bool.true_and, Bool.eq_iff_iff, beq_iff_eq, beq_iff_eq]
  omega
theorem nouB_short {s : ByteArray} (h : ¬ 1 < s.size) : nouB s = false := by
  unfold nouB
  rw [decide_eq_false h]
  rfl
/-- What Strict answers. -/
def strV (s : ByteArray) : Value := if nouB s = true then .tuple #[.int .i64 0, .int .i64 2] else parV s

end Go.Proofs.YthiclminkbnibaaDoor
