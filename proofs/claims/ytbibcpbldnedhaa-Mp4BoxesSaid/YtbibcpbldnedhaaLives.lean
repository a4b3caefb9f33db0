/-
  What layer 2's calls do (Next, Take, U32, Back over a cursor, or none), what Value and Catch tell of them, and that 'lives' is true. Conditions as in Cursor.
-/
import Derived.Test.YtbibcpbldnedhaaCursor
import Derived.Test.YtbibcpbldnedhaaRows
import Derived.WalkKit
import Derived.WalkSpells
import Derived.WalkLawsBesides
import Derived.Laws.IdiomStrings
namespace Go.Proofs.Ytbibcpbldnedhaa
open Go.RowKit

theorem Cur.put {W w' : World} {cb j : Nat} {s : ByteArray} {k : Nat} (h : Cur W cb s k) (he : w' = W.setCell ⟨cb, 1, none⟩ (.int .i64 j)) : Mv W.heap.size [cb] W w' ∧ Cur w' cb s j := by
  subst he
  exact ⟨(Mv.refl _ _ _).setCell (.inl (by simp)) _, h.set j⟩

/-! ### What Value and Catch tell of them -/
theorem cur_stable {n cb k : Nat} {s : ByteArray} (hcb : cb < n) : ∀ W1 W2 : World, Below n W1 W2 → Cur W1 cb s k → Cur W2 cb s k := fun _ _ hb h => h.below hb hcb
theorem one_lt {n cb : Nat} (hcb : cb < n) : ∀ x ∈ [cb], x < n := fun x hx => by simp at hx; omega
theorem true_stable (n : Nat) : ∀ W1 W2 : World, Below n W1 W2 → True → True := fun _ _ _ h => h
theorem none_lt (n : Nat) : ∀ x ∈ ([] : List Nat), x < n := fun x hx => by cases hx
theorem Mv.none_below {B : Nat} {w w' : World} (h : Mv B [] w w') : Below B w w' := h.below (Nat.le_refl _) (fun x hx => by cases hx)

end Go.Proofs.Ytbibcpbldnedhaa

