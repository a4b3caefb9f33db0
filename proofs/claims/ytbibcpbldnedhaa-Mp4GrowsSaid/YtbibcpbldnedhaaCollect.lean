/-
  What Collect of layer 4 does to a cursor, and what it answers. Conditions: the place lies in the text, which takes at most 2^47 bytes.
-/
import Derived.Test.YtbibcpbldnedhaaRun
import Derived.Test.YtbibcpbldnedhaaScan
import Derived.Test.YtbibcpbldnedhaaMv
import Derived.Test.YtbibcpbldnedhaaQuo
import Derived.Deep.RegionWith
import Derived.Test.YtbibcpbldnedhaaRows
import Derived.WalkKit
import Derived.KernelRfl
import Derived.WalkSpells
import Derived.WalkLawsBesides
import Derived.Laws.Externs
import Derived.Lib.Hide
import Derived.Lib.FrozenHead2
namespace Go.Proofs.Ytbibcpbldnedhaa
open Go.RowKit

/-- How many bytes a cursor has gone by. -/
def curAt (w : World) (cb : Nat) : Nat := match w.cell? ⟨cb, 1, none⟩ with
  | some (.int _ n) => n.toNat
  | _ => 0
theorem curAt_of {w : World} {cb k : Nat} {s : ByteArray} (h : Cur w cb s k) : curAt w cb = k := by
  unfold curAt
  rw [h.c1]
  simp

theorem Mv.chain {B : Nat} {r : List Nat} {a b c : World} (h : Mv B r a b) (k : Mv b.heap.size r b c) (hB : B ≤ a.heap.size) : Mv B r a c :=
  h.trans (k.mono (Nat.le_trans hB h.size) fun _ hx => .inl hx)
theorem Mv.put {cb k : Nat} {s : ByteArray} {w w' : World} {j : Nat} (h : Cur w cb s k) (he : ∃ m, w' = (w.drewN m).setCell ⟨cb, 1, none⟩ (.int .i64 j)) : Mv w.heap.size [cb] w w' ∧ Cur w' cb s j := by
  obtain ⟨m, rfl⟩ := he
  exact ⟨((Mv.refl _ _ _).drewN m).setCell (.inl (by simp)) _, Cur.set (Blk.drewN h m) j⟩
theorem Mv.idle {B : Nat} {r : List Nat} {w w' : World} (he : ∃ m, w' = w.drewN m) : Mv B r w w' := by
  obtain ⟨m, rfl⟩ := he
  exact (Mv.refl _ _ _).drewN m

end Go.Proofs.Ytbibcpbldnedhaa

