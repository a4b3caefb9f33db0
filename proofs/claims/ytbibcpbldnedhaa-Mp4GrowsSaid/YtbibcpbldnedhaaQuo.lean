/-
  Plain facts on texts between quotes, and on lists of pieces, as layer 4 has them. No condition.
-/
import Derived.Test.YtbibcpbldnedhaaTexts
namespace Go.Proofs.Ytbibcpbldnedhaa

theorem bytes_extract (s : ByteArray) (a b : Nat) : (s.extract a b).data.toList = (s.data.toList.take b).drop a := by
  rw [ByteArray.data_extract, Array.toList_extract, List.extract_eq_take_drop, List.drop_take]
theorem bytes_extract_cons {s : ByteArray} {a b : Nat} (h : a < b) (hb : b ≤ s.size) : (s.extract a b).data.toList = s[a] :: (s.extract (a + 1) b).data.toList := by
  have ha : a < (s.data.toList.take b).length := by simp; omega
  rw [bytes_extract, bytes_extract, List.drop_eq_getElem_cons ha]
  congr 1
  rw [List.getElem_take]
  rfl
theorem bytes_extract_none (s : ByteArray) (a : Nat) : (s.extract a a).data.toList = [] := by
  rw [bytes_extract]
  apply List.drop_of_length_le
  simp
  omega
end Go.Proofs.Ytbibcpbldnedhaa

