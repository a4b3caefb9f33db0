/-
  What the document's own Read and Serial of layer 4 answer. Condition: the text takes at most 2^45 bytes.
-/
import Derived.Test.YtmepnfkgfbbkiaaConv
import Derived.Test.YtmepnfkgfbbkiaaQuo
import Derived.Test.YtmepnfkgfbbkiaaMv
import Derived.LoopTactic
import Derived.WalkKit
import Derived.WalkSpells
import Derived.WalkLawsBesides
import Derived.Lib.Hide
import Derived.Outline
namespace Go.Proofs.Ytmepnfkgfbbkiaa
open Go.RowKit

theorem arr_one (l : List UInt8) (b : UInt8) : (⟨l.toArray⟩ : ByteArray) ++ ⟨#[b]⟩ = ⟨(l ++ [b]).toArray⟩ := by
  apply ByteArray.ext
  rw [ByteArray.data_append]
  simp

/-- The document's text in quotes, behind k bytes, as it is put together. -/
theorem arr_app (l : List UInt8) (s : ByteArray) : (⟨l.toArray⟩ : ByteArray) ++ s = ⟨(l ++ s.data.toList).toArray⟩ := by
  apply ByteArray.ext
  rw [ByteArray.data_append]
  simp

end Go.Proofs.Ytmepnfkgfbbkiaa
