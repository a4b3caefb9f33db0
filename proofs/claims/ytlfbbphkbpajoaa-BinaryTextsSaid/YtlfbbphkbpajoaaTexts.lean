/-
  Plain facts on texts, as layer 3 turns them: small letters, what is cut at the ends. No condition.
-/
import Derived.Test.YtlfbbphkbpajoaaByte
import Derived.Lib.Strings
namespace Go.Proofs.Ytlfbbphkbpajoaa

/-- Small letters in place of great ones. -/
def lowS (s : ByteArray) : ByteArray := ⟨s.data.map lowB⟩
theorem lowS_size (s : ByteArray) : (lowS s).size = s.size := by
  show (s.data.map lowB).size = s.data.size
  simp
theorem lowS_at (s : ByteArray) (i : Nat) (h : i < s.size) : (lowS s)[i]'(by rw [lowS_size]; exact h) = lowB s[i] := by
  exact Array.getElem_map (f := lowB) (xs := s.data) (i := i) (hi := by simpa using h)

theorem toList_size (a : ByteArray) : a.toList.length = a.size := by
  rw [Lib.toList_data]
  exact (Lib.size_eq a).symm
end Go.Proofs.Ytlfbbphkbpajoaa

