/-
  What Count and All answer where they are asked of Token, of Digit and of no function. Condition: the text is as long as a length can be.
  Plain facts on the number whose digits a text is. No condition.
  Plain facts on texts, as layer 3 turns them: small letters, what is cut at the ends. No condition.
-/
import Derived.Test.YtaolclpjlkdkjaaDoorZ1
import Derived.Test.YtaolclpjlkdkjaaDoorZ2
import Derived.LoopTactic
import Derived.BigQuiet
import Derived.OneCell
import Derived.Lib.Strings
namespace Go.Proofs.YtaolclpjlkdkjaaDoor
open Go.RowKit

/-- Of how many of the first k bytes p holds. -/
def cntT (p : UInt8 → Bool) (s : ByteArray) (k : Nat) : Nat := ((s.data.toList.take k).filter p).length
theorem cntT_yes {p : UInt8 → Bool} {s : ByteArray} {k : Nat} (h : k < s.size) (hp : p s[k] = true) : cntT p s (k + 1) = cntT p s k + 1 := by
  unfold cntT
  rw [take_snoc _ _ h, List.filter_append]
  simp [hp]
theorem cntT_no {p : UInt8 → Bool} {s : ByteArray} {k : Nat} (h : k < s.size) (hp : p s[k] = false) : cntT p s (k + 1) = cntT p s k := by
  unfold cntT
  rw [take_snoc _ _ h, List.filter_append]
  simp [hp]
theorem cntT_le (p : UInt8 → Bool) (s : ByteArray) (k : Nat) : cntT p s k ≤ k := by
  unfold cntT
  have h1 := List.length_filter_le p (s.data.toList.take k)
  have h2 : (s.data.toList.take k).length ≤ k := by simp; omega
  omega
theorem cntT_zero (p : UInt8 → Bool) (s : ByteArray) : cntT p s 0 = 0 := by unfold cntT; simp

/-- Whether p holds of all bytes. -/
def allB (p : UInt8 → Bool) (s : ByteArray) : Bool := (cntT p s s.size : Int) == (s.size : Int)
theorem allB_yes {p : UInt8 → Bool} {s : ByteArray} (h : ∀ j (hj : j < s.size), p s[j] = true) : allB p s = true := by
  have key : ∀ k, k ≤ s.size → cntT p s k = k := fun k => by
    induction k with
    | zero => intro _; exact cntT_zero p s
    | succ k ih => intro hk; rw [cntT_yes (by omega) (h k (by omega)), ih (by omega)]
  unfold allB
  rw [key _ (Nat.le_refl _)]
  simp
theorem allB_no {p : UInt8 → Bool} {s : ByteArray} {j : Nat} (hj : j < s.size) (h : p s[j] = false) : allB p s = false := by
  have key : ∀ k, j < k → k ≤ s.size → cntT p s k < k := fun k => by
    induction k with
    | zero => omega
    | succ k ih =>
      intro h1 h2
      by_cases e : k = j
      · subst e
        rw [cntT_no (by omega) h]
        have := cntT_le p s k
        omega
      · have := ih (by omega) (by omega)
        cases hp : p (s[k]'(by omega))
        · rw [cntT_no (by omega) hp]; omega
        · rw [cntT_yes (by omega) hp]; omega
  have := key s.size hj (Nat.le_refl _)
  unfold allB
  rw [beq_eq_false_iff_ne]
  omega

end Go.Proofs.YtaolclpjlkdkjaaDoor
namespace Go.Proofs.YtaolclpjlkdkjaaDoor

theorem digB_range {b : UInt8} (h : digB b = true) : 48 ≤ b.toNat ∧ b.toNat ≤ 57 := by
  unfold digB at h
  simpa using h

/-- The number of the first k bytes. -/
def numK (s : ByteArray) : Nat → Nat
  | 0 => 0
  | k + 1 => 10 * numK s k + ((s.data.toList.getD k 0).toNat - 48)
theorem numK_zero (s : ByteArray) : numK s 0 = 0 := rfl
theorem numK_succ {s : ByteArray} {k : Nat} (h : k < s.size) : numK s (k + 1) = 10 * numK s k + (s[k].toNat - 48) := by
  have e : s.data.toList.getD k 0 = s[k] := by
    rw [List.getD_eq_getElem?_getD, List.getElem?_eq_getElem (by simpa using h)]
    rfl
  rw [← e]
  rfl
theorem numK_mono (s : ByteArray) {j k : Nat} (h : j ≤ k) : numK s j ≤ numK s k := by
  induction k with
  | zero => rw [Nat.le_zero.1 h]; exact Nat.le_refl _
  | succ k ih =>
    by_cases e : j = k + 1
    · rw [e]; exact Nat.le_refl _
    · have := ih (by omega)
      show numK s j ≤ 10 * numK s k + _
      omega
theorem numK_take {s t : ByteArray} {n : Nat} (h : ∀ j, j < n → s.data.toList.getD j 0 = t.data.toList.getD j 0) : numK s n = numK t n := by
  induction n with
  | zero => rfl
  | succ n ih =>
    show 10 * numK s n + _ = 10 * numK t n + _
    rw [ih fun j hj => h j (by omega), h n (by omega)]

/-- The number and whether it is not too great. -/
def numV (s : ByteArray) (k : Nat) : Value := if numK s k ≤ 9007199254740991 then .tuple #[.int .i64 (numK s k : Nat), .bool true] else .tuple #[.int .i64 0, .bool false]
theorem numV_yes {s : ByteArray} {k : Nat} (h : numK s k ≤ 9007199254740991) : numV s k = .tuple #[.int .i64 (numK s k : Nat), .bool true] := by unfold numV; rw [if_pos h]
theorem numV_no {s : ByteArray} {k : Nat} (h : 9007199254740991 < numK s k) : numV s k = .tuple #[.int .i64 0, .bool false] := by unfold numV; rw [if_neg (by omega)]

/-- The code of a text that should be a number, and the number. -/
def parE (s : ByteArray) : Int := if s.size = 0 ∨ allB digB s = false then 2 else if numK s s.size ≤ 9007199254740991 then 0 else 9
def parN (s : ByteArray) : Int := if parE s = 0 then (numK s s.size : Nat) else 0
def parV (s : ByteArray) : Value := .tuple #[.int .i64 (parN s), .int .i64 (parE s)]
theorem parV_empty {s : ByteArray} (h : s.size = 0) : parV s = .tuple #[.int .i64 0, .int .i64 2] := by
  have e : parE s = 2 := by unfold parE; rw [if_pos (.inl h)]
  unfold parV parN
  rw [e]; rfl
theorem parV_form {s : ByteArray} (h : allB digB s = false) : parV s = .tuple #[.int .i64 0, .int .i64 2] := by
  have e : parE s = 2 := by unfold parE; rw [if_pos (.inr h)]
  unfold parV parN
  rw [e]; rfl
theorem parV_ok {s : ByteArray} (h0 : s.size ≠ 0) (h : allB digB s = true) (h1 : numK s s.size ≤ 9007199254740991) : parV s = .tuple #[.int .i64 (numK s s.size : Nat), .int .i64 0] := by
  have e : parE s = 0 := by unfold parE; rw [if_neg (by simp [h0, h]), if_pos h1]
  unfold parV parN
  rw [e]; rfl
theorem parV_range {s : ByteArray} (h0 : s.size ≠ 0) (h : allB digB s = true) (h1 : 9007199254740991 < numK s s.size) : parV s = .tuple #[.int .i64 0, .int .i64 9] := by
  have e : parE s = 9 := by unfold parE; rw [if_neg (by simp [h0, h]), if_neg (by omega)]
  unfold parV parN
  rw [e]; rfl
theorem allB_digits {s : ByteArray} (h : allB digB s = true) : ∀ j (hj : j < s.size), digB s[j] = true := fun j hj => by
  cases hp : digB s[j]
  · rw [allB_no hj hp] at h; cases h
  · rfl

theorem scan_all {p : UInt8 → Bool} {s : ByteArray} : ∀ (n i j : Nat), j = i + n → j < scan p s i → (hj : j < s.size) → p s[j] = true
  | 0, i, j, e, h, hj => by
    obtain rfl : j = i := by omega
    cases hp : p s[j]
    · rw [scan_stop hj hp] at h; omega
    · rfl
  | n + 1, i, j, e, h, hj => by
    have hi : i < s.size := by omega
    cases hp : p s[i]
    · rw [scan_stop hi hp] at h; omega
    · exact scan_all n (i + 1) j (by omega) (by rw [scan_step hi hp]; exact h) hj

end Go.Proofs.YtaolclpjlkdkjaaDoor
namespace Go.Proofs.YtaolclpjlkdkjaaDoor

/-- Small letters in place of great ones. -/
def lowS (s : ByteArray) : ByteArray := ⟨s.data.map lowB⟩
theorem lowS_size (s : ByteArray) : (lowS s).size = s.size := by
  show (s.data.map lowB).size = s.data.size
  simp
theorem lowS_at (s : ByteArray) (i : Nat) (h : i < s.size) : (lowS s)[i]'(by rw [lowS_size]; exact h) = lowB s[i] := by
  exact Array.getElem_map (f := lowB) (xs := s.data) (i := i) (hi := by simpa using h)

/-- Whether two texts are one, in small letters. -/
def sameB (a b : ByteArray) : Bool := (lowS a).toList == (lowS b).toList
theorem toList_size (a : ByteArray) : a.toList.length = a.size := by
  rw [Lib.toList_data]
  exact (Lib.size_eq a).symm
theorem sameB_size {a b : ByteArray} (h : a.size ≠ b.size) : sameB a b = false := by
  unfold sameB
  rw [beq_eq_false_iff_ne]
  intro e
  have := congrArg List.length e
  rw [toList_size, toList_size, lowS_size, lowS_size] at this
  exact h this
theorem sameB_not {a b : ByteArray} {i : Nat} (ha : i < a.size) (hb : i < b.size) (h : lowB a[i] ≠ lowB b[i]) : sameB a b = false := by
  unfold sameB
  rw [beq_eq_false_iff_ne]
  intro e
  rw [Lib.toList_data, Lib.toList_data] at e
  have e2 : lowS a = lowS b := by
    have := Array.toList_inj.1 e
    generalize lowS a = x at *
    generalize lowS b = y at *
    cases x; cases y
    simp at this
    rw [this]
  apply h
  rw [← lowS_at a i ha, ← lowS_at b i hb]
  simp [e2]
theorem sameB_all {a b : ByteArray} (hs : a.size = b.size) (h : ∀ i (ha : i < a.size) (hb : i < b.size), lowB a[i] = lowB b[i]) : sameB a b = true := by
  unfold sameB
  rw [beq_iff_eq]
  have : lowS a = lowS b := by
    unfold lowS
    congr 1
    apply Array.ext
    · simpa using hs
    · intro i h1 h2
      simp only [Array.size_map] at h1 h2
      rw [Array.getElem_map, Array.getElem_map]
      exact h i h1 h2
  rw [this]

/-- How many of the first k bytes are left where those that are so are taken from their back. -/
def backN (p : UInt8 → Bool) (s : ByteArray) : Nat → Nat
  | 0 => 0
  | k + 1 => if p s[k]! then backN p s k else k + 1
def cutP (p : UInt8 → Bool) (s : ByteArray) : ByteArray := s.extract 0 (backN p s s.size)
theorem backN_le (p : UInt8 → Bool) (s : ByteArray) : ∀ k, backN p s k ≤ k
  | 0 => Nat.le_refl _
  | k + 1 => by
    have := backN_le p s k
    simp only [backN]
    split <;> omega
theorem backN_at (p : UInt8 → Bool) (s : ByteArray) : ∀ k, backN p s k = 0 ∨ p s[backN p s k - 1]! = false
  | 0 => .inl rfl
  | k + 1 => by
    have := backN_at p s k
    simp only [backN]
    split
    · exact this
    · rename_i h
      right
      simpa using h
theorem extract_at {s : ByteArray} {a b i : Nat} (h : i < (s.extract a b).size) : (s.extract a b)[i]! = s[a + i]! := by
  have h2 : a + i < s.size := by simp at h; omega
  rw [getElem!_pos _ i h, getElem!_pos s _ h2]
  exact ByteArray.getElem_extract h
theorem cutP_size (p : UInt8 → Bool) (s : ByteArray) : (cutP p s).size = backN p s s.size := by
  have := backN_le p s s.size
  unfold cutP
  simp
  omega
theorem scan_at {p : UInt8 → Bool} {s : ByteArray} {i : Nat} (hi : i ≤ s.size) (h : scan p s i < s.size) : p s[scan p s i] = false := by
  induction hn : s.size - i generalizing i with
  | zero =>
    have : i = s.size := by omega
    have := scan_ge p s i
    omega
  | succ n ih =>
    have hi2 : i < s.size := by omega
    cases hp : p s[i] with
    | true =>
      have e := scan_step hi2 hp
      have h' : scan p s (i + 1) < s.size := by omega
      have := ih (by omega) h' (by omega)
      simp only [e] at this
      exact this
    | false =>
      have e := scan_stop hi2 hp
      simp only [e]
      exact hp

end Go.Proofs.YtaolclpjlkdkjaaDoor
