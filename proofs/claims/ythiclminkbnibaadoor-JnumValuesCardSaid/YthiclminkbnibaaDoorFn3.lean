/-
  Which of two numbers comes first, the greater and the lesser one: package float's answers, and the document's own. Condition: bits below 2^64.
-/
import Derived.Test.YthiclminkbnibaaDoorFn2
namespace Go.Proofs.YthiclminkbnibaaDoor
open Go.RowKit

theorem notnan {x : Nat} (h : nanB x = false) : x % 9223372036854775808 ≤ 9218868437227405312 := by unfold nanB at h; simpa using h
theorem isnan {x : Nat} (h : nanB x = true) : 9218868437227405312 < x % 9223372036854775808 := by unfold nanB at h; simpa using h
theorem normB_nan {x : Nat} (h : nanB x = true) : normB x = 9221120237041090561 := if_pos h
theorem normB_num {x : Nat} (h : nanB x = false) : normB x = x := by unfold normB; rw [h]; rfl
theorem nan_norm {x y : Nat} (h : normB x = normB y) : nanB x = nanB y := by
  have n : nanB 9221120237041090561 = true := by kernel_rfl
  cases h1 : nanB x <;> cases h2 : nanB y
  · rfl
  · rw [normB_num h1, normB_nan h2] at h; rw [h, n] at h1; cases h1
  · rw [normB_nan h1, normB_num h2] at h; rw [← h, n] at h2; cases h2
  · rfl
theorem num_norm {x y : Nat} (h : normB x = normB y) (hy : nanB y = false) : x = y := by
  have hx := nan_norm h
  rw [hy] at hx
  rwa [normB_num hx, normB_num hy] at h

theorem place_nan {x : Nat} (h : nanB x = true) : placeB x = 0 := if_pos h
theorem place_num {x : Nat} (h : nanB x = false) : placeB x = if 9223372036854775808 ≤ x then 9223372036854775808 - x % 9223372036854775808 else 9223372036854775809 + x % 9223372036854775808 := by
  unfold placeB negB
  rw [h]
  simp
theorem place_pos {x : Nat} (h : nanB x = false) : 0 < placeB x := by
  have := notnan h
  rw [place_num h]
  split <;> omega
theorem place_same {x y : Nat} (hx : x < 18446744073709551616) (hy : y < 18446744073709551616) : placeB x = placeB y ↔ normB x = normB y := by
  cases h1 : nanB x <;> cases h2 : nanB y
  · rw [place_num h1, place_num h2, normB_num h1, normB_num h2]
    have := notnan h1
    have := notnan h2
    by_cases q1 : 9223372036854775808 ≤ x <;> by_cases q2 : 9223372036854775808 ≤ y <;> simp only [q1, q2, if_true, if_false] <;> omega
  · have := place_pos h1
    rw [place_nan h2]
    refine ⟨fun h => by omega, fun h => ?_⟩
    have := nan_norm h
    rw [h1, h2] at this
    cases this
  · have := place_pos h2
    rw [place_nan h1]
    refine ⟨fun h => by omega, fun h => ?_⟩
    have := nan_norm h
    rw [h1, h2] at this
    cases this
  · rw [place_nan h1, place_nan h2, normB_nan h1, normB_nan h2]
    simp

theorem place_key {x y : Nat} (hx : x < 18446744073709551616) (hy : y < 18446744073709551616) (h1 : nanB x = false) (h2 : nanB y = false) : key x < key y → placeB x < placeB y := by
  rw [place_num h1, place_num h2]
  unfold key
  have := notnan h1
  have := notnan h2
  by_cases q1 : 9223372036854775808 ≤ x <;> by_cases q2 : 9223372036854775808 ≤ y <;> simp only [q1, q2, if_true, if_false] <;> omega
theorem place_keyed {x y : Nat} (hx : x < 18446744073709551616) (hy : y < 18446744073709551616) (h1 : nanB x = false) (h2 : nanB y = false) (h : key x = key y) (hne : placeB x ≠ placeB y) : negB x = decide (placeB x < placeB y) := by
  rw [place_num h1, place_num h2] at hne ⊢
  unfold key at h
  unfold negB
  have := notnan h1
  have := notnan h2
  rw [decide_eq_decide]
  by_cases q1 : 9223372036854775808 ≤ x <;> by_cases q2 : 9223372036854775808 ≤ y <;> simp only [q1, q2, if_true, if_false, true_iff, false_iff] at h hne ⊢ <;> omega

theorem same_place {x y : Nat} (hx : x < 18446744073709551616) (hy : y < 18446744073709551616) : sameB x y = decide (placeB x = placeB y) := by
  unfold sameB
  rw [decide_eq_decide, place_same hx hy]
theorem cmp_same {x y : Nat} (hx : x < 18446744073709551616) (hy : y < 18446744073709551616) : sameB x y = (cmpB x y == 0) := by
  rw [same_place hx hy]
  unfold cmpB
  rw [Bool.eq_iff_iff, decide_eq_true_eq, beq_iff_eq]
  split
  · simp; omega
  · split
    · simp; omega
    · simp; omega

end Go.Proofs.YthiclminkbnibaaDoor
