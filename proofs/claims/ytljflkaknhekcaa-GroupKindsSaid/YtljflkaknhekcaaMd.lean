/-
  What Parse of package mime answers. Condition: the text is as long as a mebibyte.
-/
import Derived.Test.YtljflkaknhekcaaMc
import Derived.Test.YtljflkaknhekcaaRows
import Derived.KernelRfl
import Derived.Laws.Externs
import Derived.WalkKit
import Derived.WalkSpells
import Derived.WalkLawsBesides
import Derived.LoopTactic
import Derived.Lib.Hide
import Derived.Lib.Strings
namespace Go.Proofs.Ytljflkaknhekcaa
open Go.RowKit Go.Maps

/-- A type as a value. -/
abbrev mimV (t u : ByteArray) (A : Option Addr) (n c : Nat) : Value := .agg #[.string t, .string u, .slice A n c]

end Go.Proofs.Ytljflkaknhekcaa

