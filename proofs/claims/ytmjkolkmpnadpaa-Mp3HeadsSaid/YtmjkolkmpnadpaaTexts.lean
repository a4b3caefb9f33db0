/-
  Plain facts on texts, as layer 3 turns them: small letters, what is cut at the ends. No condition.
-/
import Derived.Test.YtmjkolkmpnadpaaByte
import Derived.Lib.Strings
namespace Go.Proofs.Ytmjkolkmpnadpaa

theorem toList_size (a : ByteArray) : a.toList.length = a.size := by
  rw [Lib.toList_data]
  exact (Lib.size_eq a).symm
end Go.Proofs.Ytmjkolkmpnadpaa

