/-
  Plain facts on texts, as layer 3 turns them: small letters, what is cut at the ends. No condition.
-/
import Derived.Test.YtcoblepgehjamaaByte
import Derived.Lib.Strings
namespace Go.Proofs.Ytcoblepgehjamaa

theorem toList_size (a : ByteArray) : a.toList.length = a.size := by
  rw [Lib.toList_data]
  exact (Lib.size_eq a).symm
theorem extract_at {s : ByteArray} {a b i : Nat} (h : i < (s.extract a b).size) : (s.extract a b)[i]! = s[a + i]! := by
  have h2 : a + i < s.size := by simp at h; omega
  rw [getElem!_pos _ i h, getElem!_pos s _ h2]
  exact ByteArray.getElem_extract h
end Go.Proofs.Ytcoblepgehjamaa

