/-
  Plain facts for function values over captured variables: what is compared with nil, a number in a block of one. No condition.
  What Count and All answer where they are asked of Token, of Digit and of no function. Condition: the text is as long as a length can be.
  Plain facts on the number whose digits a text is. No condition.
-/
import Derived.Test.YteeheehoaklnbaaRows
import Derived.Test.YteeheehoaklnbaaZ2
import Derived.OneCell
import Derived.WalkKit
import Derived.LoopTactic
import Derived.BigQuiet
import Derived.Test.YteeheehoaklnbaaZ1
namespace Go.Proofs.Yteeheehoaklnbaa
open Go.RowKit

theorem eq_fn_nil (fn : Fn) (fi ca : Array Value) (w : World) : (binOp .eql 46 (.func fn fi ca) .nilFunc).run Try.prog w = .ok (.bool false) w := by kernel_rfl
/-- The number in a block of one. -/
def cellNat (w : World) (b : Nat) : Nat := match w.cell? ⟨b, 0, none⟩ with
  | some (.int _ n) => n.toNat
  | _ => 0
theorem cellNat_of {w : World} {b n : Nat} {t : TypeId} (h : w.heap[b]? = some (.cells #[.int .i64 n] t (0, 0))) : cellNat w b = n := by
  unfold cellNat
  rw [cell_of_one h]
  simp
theorem one_lt' {a n : Nat} (h1 : a < n) : ∀ x ∈ [a], x < n := fun x hx => by
  simp at hx
  omega

end Go.Proofs.Yteeheehoaklnbaa
namespace Go.Proofs.Yteeheehoaklnbaa
open Go.RowKit

/-- Of how many of the first k bytes p holds. -/
def cntT (p : UInt8 → Bool) (s : ByteArray) (k : Nat) : Nat := ((s.data.toList.take k).filter p).length
theorem cntT_yes {p : UInt8 → Bool} {s : ByteArray} {k : Nat} (h : k < s.size) (hp : p s[k] = true) : cntT p s (k + 1) = cntT p s k + 1 := by
  unfold cntT
  rw [take_snoc _ _ h, List.filter_append]
  simp [hp]
theorem cntT_no {p : UInt8 → Bool} {s : ByteArray} {k : Nat} (h : k < s.size) (hp : p s[k] = false) : cntT p s (k + 1) = cntT p s k := by
  unfold cntT
  rw [take_snoc _ _ h, List.filter_append]
  simp [hp]
theorem cntT_le (p : UInt8 → Bool) (s : ByteArray) (k : Nat) : cntT p s k ≤ k := by
  unfold cntT
  have h1 := List.length_filter_le p (s.data.toList.take k)
  have h2 : (s.data.toList.take k).length ≤ k := by simp; omega
  omega
theorem cntT_zero (p : UInt8 → Bool) (s : ByteArray) : cntT p s 0 = 0 := by unfold cntT; simp

/-- Whether p holds of all bytes. -/
def allB (p : UInt8 → Bool) (s : ByteArray) : Bool := (cntT p s s.size : Int) == (s.size : Int)
theorem allB_yes {p : UInt8 → Bool} {s : ByteArray} (h : ∀ j (hj : j < s.size), p s[j] = true) : allB p s = true := by
  have key : ∀ k, k ≤ s.size → cntT p s k = k := fun k => by
    induction k with
    | zero => intro _; exact cntT_zero p s
    | succ k ih => intro hk; rw [cntT_yes (by omega) (h k (by omega)), ih (by omega)]
  unfold allB
  rw [key _ (Nat.le_refl _)]
  simp
theorem allB_no {p : UInt8 → Bool} {s : ByteArray} {j : Nat} (hj : j < s.size) (h : p s[j] = false) : allB p s = false := by
  have key : ∀ k, j < k → k ≤ s.size → cntT p s k < k := fun k => by
    induction k with
    | zero => omega
    | succ k ih =>
      intro h1 h2
      by_cases e : k = j
      · subst e
        rw [cntT_no (by omega) h]
        have := cntT_le p s k
        omega
      · have := ih (by omega) (by omega)
        cases hp : p (s[k]'(by omega))
        · rw [cntT_no (by omega) hp]; omega
        · rw [cntT_yes (by omega) hp]; omega
  have := key s.size hj (Nat.le_refl _)
  unfold allB
  rw [beq_eq_false_iff_ne]
  omega

end Go.Proofs.Yteeheehoaklnbaa
namespace Go.Proofs.Yteeheehoaklnbaa

theorem digB_range {b : UInt8} (h : digB b = true) : 48 ≤ b.toNat ∧ b.toNat ≤ 57 := by
  unfold digB at h
  simpa using h

/-- The number of the first k bytes. -/
def numK (s : ByteArray) : Nat → Nat
  | 0 => 0
  | k + 1 => 10 * numK s k + ((s.data.toList.getD k 0).toNat - 48)
theorem numK_zero (s : ByteArray) : numK s 0 = 0 := rfl
theorem numK_succ {s : ByteArray} {k : Nat} (h : k < s.size) : numK s (k + 1) = 10 * numK s k + (s[k].toNat - 48) := by
  have e : s.data.toList.getD k 0 = s[k] := by
    rw [List.getD_eq_getElem?_getD, List.getElem?_eq_getElem (by simpa using h)]
    rfl
  rw [← e]
  rfl
theorem numK_mono (s : ByteArray) {j k : Nat} (h : j ≤ k) : numK s j ≤ numK s k := by
  induction k with
  | zero => rw [Nat.le_zero.1 h]; exact Nat.le_refl _
  | succ k ih =>
    by_cases e : j = k + 1
    · rw [e]; exact Nat.le_refl _
    · have := ih (by omega)
      show numK s j ≤ 10 * numK s k + _
      omega
theorem numK_take {s t : ByteArray} {n : Nat} (h : ∀ j, j < n → s.data.toList.getD j 0 = t.data.toList.getD j 0) : numK s n = numK t n := by
  induction n with
  | zero => rfl
  | succ n ih =>
    show 10 * numK s n + _ = 10 * numK t n + _
    rw [ih fun j hj => h j (by omega), h n (by omega)]

/-- The number and whether it is not too great. -/
def numV (s : ByteArray) (k : Nat) : Value := if numK s k ≤ 9007199254740991 then .tuple #[.int .i64 (numK s k : Nat), .bool true] else .tuple #[.int .i64 0, .bool false]
theorem numV_yes {s : ByteArray} {k : Nat} (h : numK s k ≤ 9007199254740991) : numV s k = .tuple #[.int .i64 (numK s k : Nat), .bool true] := by unfold numV; rw [if_pos h]
theorem numV_no {s : ByteArray} {k : Nat} (h : 9007199254740991 < numK s k) : numV s k = .tuple #[.int .i64 0, .bool false] := by unfold numV; rw [if_neg (by omega)]

/-- The code of a text that should be a number, and the number. -/
def parE (s : ByteArray) : Int := if s.size = 0 ∨ allB digB s = false then 2 else if numK s s.size ≤ 9007199254740991 then 0 else 9
def parN (s : ByteArray) : Int := if parE s = 0 then (numK s s.size : Nat) else 0
def parV (s : ByteArray) : Value := .tuple #[.int .i64 (parN s), .int .i64 (parE s)]
theorem parV_empty {s : ByteArray} (h : s.size = 0) : parV s = .tuple #[.int .i64 0, .int .i64 2] := by
  have e : parE s = 2 := by unfold parE; rw [if_pos (.inl h)]
  unfold parV parN
  rw [e]; rfl
theorem parV_form {s : ByteArray} (h : allB digB s = false) : parV s = .tuple #[.int .i64 0, .int .i64 2] := by
  have e : parE s = 2 := by unfold parE; rw [if_pos (.inr h)]
  unfold parV parN
  rw [e]; rfl
theorem parV_ok {s : ByteArray} (h0 : s.size ≠ 0) (h : allB digB s = true) (h1 : numK s s.size ≤ 9007199254740991) : parV s = .tuple #[.int .i64 (numK s s.size : Nat), .int .i64 0] := by
  have e : parE s = 0 := by unfold parE; rw [if_neg (by simp [h0, h]), if_pos h1]
  unfold parV parN
  rw [e]; rfl
theorem parV_range {s : ByteArray} (h0 : s.size ≠ 0) (h : allB digB s = true) (h1 : 9007199254740991 < numK s s.size) : parV s = .tuple #[.int .i64 0, .int .i64 9] := by
  have e : parE s = 9 := by unfold parE; rw [if_neg (by simp [h0, h]), if_neg (by omega)]
  unfold parV parN
  rw [e]; rfl
theorem allB_digits {s : ByteArray} (h : allB digB s = true) : ∀ j (hj : j < s.size), digB s[j] = true := fun j hj => by
  cases hp : digB s[j]
  · rw [allB_no hj hp] at h; cases h
  · rfl

theorem scan_all {p : UInt8 → Bool} {s : ByteArray} : ∀ (n i j : Nat), j = i + n → j < scan p s i → (hj : j < s.size) → p s[j] = true
  | 0, i, j, e, h, hj => by
    obtain rfl : j = i := by omega
    cases hp : p s[j]
    · rw [scan_stop hj hp] at h; omega
    · rfl
  | n + 1, i, j, e, h, hj => by
    have hi : i < s.size := by omega
    cases hp : p s[i]
    · rw [scan_stop hi hp] at h; omega
    · exact scan_all n (i + 1) j (by omega) (by rw [scan_step hi hp]; exact h) hj

/-- How many digits a text begins with. -/
def runD (s : ByteArray) : Nat := scan digB s 0
end Go.Proofs.Yteeheehoaklnbaa
