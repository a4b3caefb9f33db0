/-
  What package float's Kind, Sign, Bits, Same and Cmp answer, and the document's own. Condition: bits below 2^64.
-/
import Derived.Test.YtmjkolkmpnadpaaFk
namespace Go.Proofs.Ytmjkolkmpnadpaa
open Go.RowKit

/-- The bits, the same ones of all that are no number. -/
def normB (x : Nat) : Nat := if nanB x = true then 9221120237041090561 else x
end Go.Proofs.Ytmjkolkmpnadpaa

