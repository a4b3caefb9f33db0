/-
  What Same and Serial of package mime answer of types. Condition: texts are as long as a mebibyte, and parameters as many.
-/
import Derived.Test.YtmepnfkgfbbkiaaMg
import Derived.StillTailTactics
import Derived.Deep.RegionWith
namespace Go.Proofs.Ytmepnfkgfbbkiaa
open Go.RowKit Go.Maps

theorem below_on {a w w' : World} (h : Below a.heap.size a w) (hb : Below w.heap.size w w') : Below a.heap.size a w' := h.trans (hb.mono h.size)

theorem serPs_len {ps : List Prm} (h : AllIn 1048576 ps) (k : Nat) : (serPs (ps.take k)).length ≤ k * 3145732 := by
  induction k with
  | zero => rw [List.take_zero]; exact Nat.zero_le _
  | succ k ih =>
    by_cases hk : k < ps.length
    · rw [serPs_step hk, List.length_append, serP_len]
      have h1 := h.at_ hk
      have h2 := wrS_size ps[k].v
      omega
    · rw [List.take_of_length_le (by omega)] at ih ⊢
      exact Nat.le_trans ih (Nat.mul_le_mul_right _ (Nat.le_succ k))
theorem arr_size (l : List UInt8) : (⟨l.toArray⟩ : ByteArray).size = l.length := by
  show l.toArray.size = _
  simp
theorem serP_eq (qn wv : ByteArray) : (((⟨#[59]⟩ : ByteArray) ++ qn) ++ ⟨#[61]⟩) ++ wv = ⟨(59 :: qn.data.toList ++ 61 :: wv.data.toList).toArray⟩ := by
  apply ByteArray.ext
  rw [ByteArray.data_append, ByteArray.data_append, ByteArray.data_append]
  simp

end Go.Proofs.Ytmepnfkgfbbkiaa
