/-
  Plain facts on single bytes, as layer 3 parts them. No condition.
-/
import Derived.KernelRfl
import Derived.Laws.Externs
namespace Go.Proofs.Ytmjkolkmpnadpaa

/-- What holds of all 256 bytes, by trying them. -/
theorem bytes_all {p : UInt8 → Bool} (h : (List.range 256).all (fun n => p (UInt8.ofNat n)) = true) (b : UInt8) : p b = true := by
  rw [List.all_eq_true] at h
  have := h b.toNat (List.mem_range.2 b.toNat_lt)
  simpa using this

end Go.Proofs.Ytmjkolkmpnadpaa

