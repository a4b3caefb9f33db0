/-
  Which of two numbers comes first, the greater and the lesser one: package float's answers, and the document's own. Condition: bits below 2^64.
-/
import Derived.Test.YtlfbbphkbpajoaaFn2
namespace Go.Proofs.Ytlfbbphkbpajoaa
open Go.RowKit

theorem normB_nan {x : Nat} (h : nanB x = true) : normB x = 9221120237041090561 := if_pos h
theorem normB_num {x : Nat} (h : nanB x = false) : normB x = x := by unfold normB; rw [h]; rfl
theorem nan_norm {x y : Nat} (h : normB x = normB y) : nanB x = nanB y := by
  have n : nanB 9221120237041090561 = true := by kernel_rfl
  cases h1 : nanB x <;> cases h2 : nanB y
  · rfl
  · rw [normB_num h1, normB_nan h2] at h; rw [h, n] at h1; cases h1
  · rw [normB_nan h1, normB_num h2] at h; rw [← h, n] at h2; cases h2
  · rfl
theorem num_norm {x y : Nat} (h : normB x = normB y) (hy : nanB y = false) : x = y := by
  have hx := nan_norm h
  rw [hy] at hx
  rwa [normB_num hx, normB_num hy] at h

end Go.Proofs.Ytlfbbphkbpajoaa

