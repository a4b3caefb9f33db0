/-
  Plain facts on layer 24's texts: where a run of bytes ends, the unit, what is asked for (askO). No condition.
  What Collect of layer 4 does to a cursor, and what it answers. Conditions: the place lies in the text, which takes at most 2^47 bytes.
  What Same and Serial of package mime answer of types. Condition: texts are as long as a mebibyte, and parameters as many.
-/
import Derived.Test.YtdebionbjefhlaaZ4
import Derived.Lib.Hide
import Derived.Test.YtdebionbjefhlaaZ1
import Derived.Test.YtdebionbjefhlaaZ3
import Derived.Test.YtdebionbjefhlaaZ2
import Derived.Deep.RegionWith
import Derived.Test.YtdebionbjefhlaaRows
import Derived.WalkKit
import Derived.WalkSpells
import Derived.WalkLawsBesides
import Derived.Defers
import Derived.Recover
import Derived.RegionTactic
import Derived.BigRegion
import Derived.Deep.QuietTactic
import Derived.BigQuiet
import Derived.Outline
import Derived.Deep.RegionHeld3
import Derived.StillTailTactics
import Derived.IntWalk
import Derived.LoopTactic
import Derived.KernelRfl
import Derived.Laws.Externs
import Derived.Lib.FrozenHead2
import Derived.OneCell
import Derived.OwnWalk
import Derived.Laws.IdiomStrings
import Derived.Laws.OwnMore
import Derived.Laws.BytesArg
import Derived.Maps.OwnSet
import Derived.Maps.AppendAt
import Derived.Laws.AppendOwn
namespace Go.Proofs.Ytdebionbjefhlaa

theorem ext_at {s : ByteArray} {a b i : Nat} (hb : b ≤ s.size) (h : a + i < b) : (s.extract a b)[i]'(by simp; omega) = s[a + i]'(by omega) := ByteArray.getElem_extract (by simp; omega)
/-- Whether a sign stands at a place. -/
def atB (s : ByteArray) (k : Nat) (c : UInt8) : Bool := decide (k < s.size) && s[k]! == c
theorem atB_at {s : ByteArray} {k : Nat} {c : UInt8} (h : k < s.size) : atB s k c = (s[k] == c) := by
  unfold atB
  rw [getElem!_pos s k h, decide_eq_true h, Bool.true_and]
theorem atB_out {s : ByteArray} {k : Nat} {c : UInt8} (h : s.size ≤ k) : atB s k c = false := by
  unfold atB
  rw [decide_eq_false (by omega), Bool.false_and]
end Go.Proofs.Ytdebionbjefhlaa
namespace Go.Proofs.Ytdebionbjefhlaa
open Go.RowKit

theorem Mv.chain {B : Nat} {r : List Nat} {a b c : World} (h : Mv B r a b) (k : Mv b.heap.size r b c) (hB : B ≤ a.heap.size) : Mv B r a c :=
  h.trans (k.mono (Nat.le_trans hB h.size) fun _ hx => .inl hx)
theorem Mv.idle {B : Nat} {r : List Nat} {w w' : World} (he : ∃ m, w' = w.drewN m) : Mv B r w w' := by
  obtain ⟨m, rfl⟩ := he
  exact (Mv.refl _ _ _).drewN m

end Go.Proofs.Ytdebionbjefhlaa
namespace Go.Proofs.Ytdebionbjefhlaa
open Go.RowKit Go.Maps

theorem below_on {a w w' : World} (h : Below a.heap.size a w) (hb : Below w.heap.size w w') : Below a.heap.size a w' := h.trans (hb.mono h.size)

end Go.Proofs.Ytdebionbjefhlaa
