/-
  What Collect of layer 4 does to a cursor, and what it answers. Conditions: the place lies in the text, which takes at most 2^47 bytes.
  What Same and Serial of package mime answer of types. Condition: texts are as long as a mebibyte, and parameters as many.
  A machine of layer 27 in memory: its cells (Mac), what is open (EndsIs), and what package json's New, stopped, State, Place, Begun, Depth and Seen answer. No condition.
-/
import Derived.Test.YtlaohbdkoieclaaZ1
import Derived.Test.YtlaohbdkoieclaaZ3
import Derived.Deep.RegionWith
import Derived.Test.YtlaohbdkoieclaaRows
import Derived.WalkKit
import Derived.WalkSpells
import Derived.WalkLawsBesides
import Derived.Defers
import Derived.Recover
import Derived.RegionTactic
import Derived.BigRegion
import Derived.Deep.QuietTactic
import Derived.BigQuiet
import Derived.Outline
import Derived.Deep.RegionHeld3
import Derived.StillTailTactics
import Derived.Lib.Hide
import Derived.IntWalk
import Derived.LoopTactic
import Derived.KernelRfl
import Derived.Laws.Externs
import Derived.Lib.FrozenHead2
import Derived.Test.YtlaohbdkoieclaaZ2
import Derived.OneCell
import Derived.OwnWalk
import Derived.Laws.IdiomStrings
import Derived.Laws.OwnMore
import Derived.Laws.BytesArg
import Derived.Maps.OwnSet
import Derived.Maps.AppendAt
import Derived.Laws.AppendOwn
namespace Go.Proofs.Ytlaohbdkoieclaa
open Go.RowKit

theorem Mv.chain {B : Nat} {r : List Nat} {a b c : World} (h : Mv B r a b) (k : Mv b.heap.size r b c) (hB : B ≤ a.heap.size) : Mv B r a c :=
  h.trans (k.mono (Nat.le_trans hB h.size) fun _ hx => .inl hx)
theorem Mv.idle {B : Nat} {r : List Nat} {w w' : World} (he : ∃ m, w' = w.drewN m) : Mv B r w w' := by
  obtain ⟨m, rfl⟩ := he
  exact (Mv.refl _ _ _).drewN m

end Go.Proofs.Ytlaohbdkoieclaa
namespace Go.Proofs.Ytlaohbdkoieclaa
open Go.RowKit Go.Maps

theorem below_on {a w w' : World} (h : Below a.heap.size a w) (hb : Below w.heap.size w w') : Below a.heap.size a w' := h.trans (hb.mono h.size)

end Go.Proofs.Ytlaohbdkoieclaa
namespace Go.Proofs.Ytlaohbdkoieclaa
open Go.RowKit

abbrev mptr (mb : Nat) : Value := .pointer (some ⟨mb, 0, none⟩)
section
variable {w : World} {mb : Nat} {D sn pl sp tn lf : Int} {rs : ByteArray} {dp : Int} {E : List Value}
end

/-! What may end a number; the step behind a byte of one. -/
/-! What is told of a machine. -/
end Go.Proofs.Ytlaohbdkoieclaa
