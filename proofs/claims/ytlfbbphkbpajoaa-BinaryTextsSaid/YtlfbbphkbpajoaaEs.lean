/-
  The share of some binary bytes is a number above 0. Condition: at most 200 bytes.
-/
import Derived.Test.YtlfbbphkbpajoaaFr
namespace Go.Proofs.Ytlfbbphkbpajoaa

theorem shares_all : ((List.range 200).all fun l => (List.range (l + 1)).all fun n => decide (kindB (normB (quotB ((n + 1 : Nat) : Int) ((l + 1 : Nat) : Int))) = 4)) = true := by kernel_rfl
/-- A share of some bytes is a number above 0. -/
theorem share_some {n l : Nat} (h : 0 < n) (hl : n ≤ l) (h2 : l ≤ 200) : kindB (normB (quotB (n : Int) (l : Int))) = 4 := by
  obtain ⟨n, rfl⟩ : ∃ m, n = m + 1 := ⟨n - 1, by omega⟩
  obtain ⟨l, rfl⟩ : ∃ m, l = m + 1 := ⟨l - 1, by omega⟩
  exact of_decide_eq_true (List.all_eq_true.1 (List.all_eq_true.1 shares_all l (by simp; omega)) n (by simp; omega))

end Go.Proofs.Ytlfbbphkbpajoaa
