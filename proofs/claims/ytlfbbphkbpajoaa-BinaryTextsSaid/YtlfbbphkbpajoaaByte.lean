/-
  Plain facts on single bytes, as layer 3 parts them. No condition.
-/
import Derived.KernelRfl
import Derived.Laws.Externs
import Derived.Test.YtlfbbphkbpajoaaScan
namespace Go.Proofs.Ytlfbbphkbpajoaa

/-- What holds of all 256 bytes, by trying them. -/
theorem bytes_all {p : UInt8 → Bool} (h : (List.range 256).all (fun n => p (UInt8.ofNat n)) = true) (b : UInt8) : p b = true := by
  rw [List.all_eq_true] at h
  have := h b.toNat (List.mem_range.2 b.toNat_lt)
  simpa using this

def lowB (b : UInt8) : UInt8 := if decide (65 ≤ b.toNat) && decide (b.toNat ≤ 90) then UInt8.ofNat (b.toNat + 32) else b
end Go.Proofs.Ytlfbbphkbpajoaa

