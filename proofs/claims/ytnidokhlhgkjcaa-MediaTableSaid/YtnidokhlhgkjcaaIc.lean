/-
  What Table of package image answers: the patterns of pictures, in a block of their own. No condition.
-/
import Derived.Test.YtnidokhlhgkjcaaIa
import Derived.Test.YtnidokhlhgkjcaaMv
import Derived.BigQuiet
import Derived.Deep.QuietTactic
import Derived.OwnWalk
namespace Go.Proofs.Ytnidokhlhgkjcaa
open Go.RowKit

/-- The cells of a table of eight patterns. -/
def cells8 (ps : Nat → Pat) : Array Value := #[.string (ps 0).b, .string (ps 0).m, .string (ps 0).k, .string (ps 0).t, .string (ps 1).b, .string (ps 1).m, .string (ps 1).k, .string (ps 1).t, .string (ps 2).b, .string (ps 2).m, .string (ps 2).k, .string (ps 2).t, .string (ps 3).b, .string (ps 3).m, .string (ps 3).k, .string (ps 3).t, .string (ps 4).b, .string (ps 4).m, .string (ps 4).k, .string (ps 4).t, .string (ps 5).b, .string (ps 5).m, .string (ps 5).k, .string (ps 5).t, .string (ps 6).b, .string (ps 6).m, .string (ps 6).k, .string (ps 6).t, .string (ps 7).b, .string (ps 7).m, .string (ps 7).k, .string (ps 7).t]
theorem pats8 {W : World} {g : Nat} {ps : Nat → Pat} (h : Blk W g 32 (cells8 ps)) : PatsIn W g ps 8 :=
  ⟨h.lt, fun i hi => match i, hi with
    | 0, _ => ⟨h.cell 0, h.cell 1, h.cell 2, h.cell 3⟩
    | 1, _ => ⟨h.cell 4, h.cell 5, h.cell 6, h.cell 7⟩
    | 2, _ => ⟨h.cell 8, h.cell 9, h.cell 10, h.cell 11⟩
    | 3, _ => ⟨h.cell 12, h.cell 13, h.cell 14, h.cell 15⟩
    | 4, _ => ⟨h.cell 16, h.cell 17, h.cell 18, h.cell 19⟩
    | 5, _ => ⟨h.cell 20, h.cell 21, h.cell 22, h.cell 23⟩
    | 6, _ => ⟨h.cell 24, h.cell 25, h.cell 26, h.cell 27⟩
    | 7, _ => ⟨h.cell 28, h.cell 29, h.cell 30, h.cell 31⟩
    | n + 8, h => absurd h (by omega)⟩

end Go.Proofs.Ytnidokhlhgkjcaa

