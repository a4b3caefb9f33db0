/-
  What exact, chunk and Table of package media answer: the patterns of sounds and films, in a block of their own. Condition: a text of exact and chunk has at most 8 bytes.
-/
import Derived.Test.YtcoblepgehjamaaIa
import Derived.Test.YtcoblepgehjamaaMv
import Derived.BigQuiet
import Derived.Deep.QuietTactic
import Derived.OwnWalk
namespace Go.Proofs.Ytcoblepgehjamaa
open Go.RowKit

/-- The cells of a table of six patterns. -/
def cells6 (ps : Nat → Pat) : Array Value := #[.string (ps 0).b, .string (ps 0).m, .string (ps 0).k, .string (ps 0).t, .string (ps 1).b, .string (ps 1).m, .string (ps 1).k, .string (ps 1).t, .string (ps 2).b, .string (ps 2).m, .string (ps 2).k, .string (ps 2).t, .string (ps 3).b, .string (ps 3).m, .string (ps 3).k, .string (ps 3).t, .string (ps 4).b, .string (ps 4).m, .string (ps 4).k, .string (ps 4).t, .string (ps 5).b, .string (ps 5).m, .string (ps 5).k, .string (ps 5).t]
theorem pats6 {W : World} {g : Nat} {ps : Nat → Pat} (h : Blk W g 40 (cells6 ps)) : PatsIn W g ps 6 :=
  ⟨h.lt, fun i hi => match i, hi with
    | 0, _ => ⟨h.cell 0, h.cell 1, h.cell 2, h.cell 3⟩
    | 1, _ => ⟨h.cell 4, h.cell 5, h.cell 6, h.cell 7⟩
    | 2, _ => ⟨h.cell 8, h.cell 9, h.cell 10, h.cell 11⟩
    | 3, _ => ⟨h.cell 12, h.cell 13, h.cell 14, h.cell 15⟩
    | 4, _ => ⟨h.cell 16, h.cell 17, h.cell 18, h.cell 19⟩
    | 5, _ => ⟨h.cell 20, h.cell 21, h.cell 22, h.cell 23⟩
    | n + 6, h => absurd h (by omega)⟩

end Go.Proofs.Ytcoblepgehjamaa

