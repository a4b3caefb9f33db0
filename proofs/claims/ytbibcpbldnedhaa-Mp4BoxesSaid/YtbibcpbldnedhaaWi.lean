/-
  The law PackCounts, and an argument that is a slice of threes of texts, written out. Condition: what an argument's reading gives.
-/
import Derived.Test.YtbibcpbldnedhaaWg
import Derived.Test.YtbibcpbldnedhaaTexts
import Derived.Test.YtbibcpbldnedhaaMv
import Derived.Test.YtbibcpbldnedhaaByte
import Derived.Test.YtbibcpbldnedhaaScan
import Derived.Test.YtbibcpbldnedhaaCut
import Derived.Test.YtbibcpbldnedhaaWe
import Derived.Test.YtbibcpbldnedhaaIg
import Derived.Test.YtbibcpbldnedhaaLift
import Derived.Deep.Slices
import Derived.Lib.SmallJoins
import Derived.ChangeMaps5
import Derived.OpenShut
import Derived.Test.YtbibcpbldnedhaaRows
import Derived.WalkKit
import Derived.WalkSpells
import Derived.WalkLawsBesides
import Derived.LoopTactic
import Derived.Lib.Hide
import Derived.Laws.Externs
import Derived.BigQuiet
import Derived.Deep.QuietTactic
import Derived.OwnWalk
import Derived.Laws.BitsAllLaws
import Derived.KernelRfl
import Derived.OneCell
import Derived.Lib.MinMax
namespace Go.Proofs.Ytbibcpbldnedhaa
open Go.ChangeShapes Go.WideShapes Go.ChangeAt Go.RowKit Go.Joins Go.Deep

theorem Try.cellsStr3 : Try.prog.cellsOf 9 = 1 := by kernel_rfl
theorem open_str3 {H : Type} {enc : TypeId × Value → H} {W : World} {base : Nat} {spare : Nat → Bool} {held : Bool} {n : Nat} {v : Value} {y : DataW H × List MemPlace}
    (h : DataW.trod enc Try.prog W base spare held n 9 [v] = some y) : ∃ s : ByteArray, v = .string s ∧ s.size ≤ 9223372036854775807 := by
  obtain ⟨s, e, _, hs⟩ := DataW.trod_string Try.underlying9 h
  unfold maxLen at hs
  exact ⟨s, by simpa using e, hs⟩
theorem Aft.same {w : World} {x : Wld (Aft w)} {W' : World} (h : x.val = W') : Aft w W' := h ▸ x.ok
theorem aft_cell {w : World} {a : Addr} {v : Value} (h : w.cell? a = some v) (x : Wld (Aft w)) : x.val.cell? a = some v :=
  (World.cell?_of_block (x.ok.block _ (World.block_lt_of_cell? w _ h))).trans h
end Go.Proofs.Ytbibcpbldnedhaa

