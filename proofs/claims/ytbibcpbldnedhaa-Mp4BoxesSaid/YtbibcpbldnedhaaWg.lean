/-
  What Fonts, Archives, Font, Archive, Either and Members of package pack answer. Condition: the text is not longer than memory.
-/
import Derived.Test.YtbibcpbldnedhaaTexts
import Derived.Test.YtbibcpbldnedhaaMv
import Derived.Test.YtbibcpbldnedhaaByte
import Derived.Test.YtbibcpbldnedhaaScan
import Derived.Test.YtbibcpbldnedhaaId
import Derived.Test.YtbibcpbldnedhaaWd
import Derived.Test.YtbibcpbldnedhaaVf
import Derived.Test.YtbibcpbldnedhaaRun
import Derived.Test.YtbibcpbldnedhaaRows
import Derived.WalkKit
import Derived.WalkSpells
import Derived.WalkLawsBesides
import Derived.LoopTactic
import Derived.Lib.Hide
import Derived.Laws.Externs
import Derived.BigQuiet
import Derived.Deep.QuietTactic
import Derived.OwnWalk
import Derived.Laws.BitsAllLaws
import Derived.KernelRfl
import Derived.OneCell
import Derived.Lib.MinMax
namespace Go.Proofs.Ytbibcpbldnedhaa
open Go.RowKit

theorem Drn.below {w W : World} (h : Drn w W) : Below w.heap.size w W := by
  obtain ⟨d, rfl⟩ := h
  exact Below.drewN' (Below.refl _ _) d
theorem Drn.trans {w W V : World} (h : Drn w W) (h2 : Drn W V) : Drn w V := by
  obtain ⟨d, rfl⟩ := h
  obtain ⟨d2, rfl⟩ := h2
  exact ⟨d + d2, (World.drewN_drewN _ _ _)⟩
end Go.Proofs.Ytbibcpbldnedhaa

