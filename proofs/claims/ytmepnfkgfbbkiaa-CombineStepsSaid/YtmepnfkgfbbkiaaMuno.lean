/-
  What the document's Parse of layer 10 answers of a text that says no type. Condition: the text is as long as a mebibyte.
-/
import Derived.Test.YtmepnfkgfbbkiaaMu
namespace Go.Proofs.Ytmepnfkgfbbkiaa
open Go.RowKit

end Go.Proofs.Ytmepnfkgfbbkiaa
