/-
  Plain facts on texts between quotes, and on lists of pieces, as layer 4 has them. No condition.
-/
import Derived.KernelRfl
import Derived.Laws.Externs
import Derived.Lib.Strings
namespace Go.Proofs.Ytljflkaknhekcaa

theorem bytes_extract (s : ByteArray) (a b : Nat) : (s.extract a b).data.toList = (s.data.toList.take b).drop a := by
  rw [ByteArray.data_extract, Array.toList_extract, List.extract_eq_take_drop, List.drop_take]
end Go.Proofs.Ytljflkaknhekcaa

