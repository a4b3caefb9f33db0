/-
  What Tag of package mask answers: the pattern of a text whose letters may be small or great. Condition: the text is as long as a length can be.
-/
import Derived.Test.YtcjcbbahhphcdaaDoorTexts
import Derived.Test.YtcjcbbahhphcdaaDoorMv
import Derived.Test.YtcjcbbahhphcdaaDoorByte
import Derived.Test.YtcjcbbahhphcdaaDoorClass3
import Derived.Laws.MakeOwn
import Derived.RegionTactic
import Derived.Test.YtcjcbbahhphcdaaDoorRows
import Derived.WalkKit
import Derived.WalkSpells
import Derived.WalkLawsBesides
import Derived.LoopTactic
import Derived.Lib.Hide
import Derived.Laws.Externs
import Derived.BigQuiet
import Derived.Deep.QuietTactic
import Derived.OwnWalk
import Derived.Laws.BitsAllLaws
import Derived.KernelRfl
import Derived.OneCell
import Derived.Lib.MinMax
namespace Go.Proofs.YtcjcbbahhphcdaaDoor
open Go.RowKit

theorem make_bytes (n : Nat) (hn : n ≤ 281474976710656) (w : World) : (Instr.makeSlice 40 (.int .i64 (n : Int)) (.int .i64 (n : Int))).run Tryd.prog w = .ok (.slice (some ⟨w.heap.size, 0, none⟩) n n) (w.alloc (.cells (madeCells #[.int .u8 0] n) 5)) := by
  obtain ⟨i0, hi, hz0, hz1, hz2⟩ := info_parts Tryd.info5
  have hr := run_make (P := Tryd.prog) w 40 5 i0 _ Tryd.underlying40 hi hz0 .i64 .i64 n n (by omega) (by omega) (by rw [hz2]; omega) (by omega)
  rw [hz1] at hr
  simpa [Value.cells] using hr

section
variable {f g : UInt8 → UInt8} {s : ByteArray} {k j : Nat} {C : Array Value}
end

end Go.Proofs.YtcjcbbahhphcdaaDoor

