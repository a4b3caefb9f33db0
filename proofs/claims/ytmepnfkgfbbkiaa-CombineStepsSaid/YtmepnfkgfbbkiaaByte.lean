/-
  Plain facts on single bytes, as layer 3 parts them. No condition.
-/
import Derived.KernelRfl
import Derived.Laws.Externs
import Derived.Test.YtmepnfkgfbbkiaaScan
namespace Go.Proofs.Ytmepnfkgfbbkiaa

/-- What holds of all 256 bytes, by trying them. -/
theorem bytes_all {p : UInt8 → Bool} (h : (List.range 256).all (fun n => p (UInt8.ofNat n)) = true) (b : UInt8) : p b = true := by
  rw [List.all_eq_true] at h
  have := h b.toNat (List.mem_range.2 b.toNat_lt)
  simpa using this

def lowB (b : UInt8) : UInt8 := if decide (65 ≤ b.toNat) && decide (b.toNat ≤ 90) then UInt8.ofNat (b.toNat + 32) else b
def digB (b : UInt8) : Bool := decide (48 ≤ b.toNat) && decide (b.toNat ≤ 57)
def letB (b : UInt8) : Bool := lowerB (lowB b)
def tabB (b : UInt8) : Bool := b.toNat == 9 || b.toNat == 32
def whiB (b : UInt8) : Bool := tabB b || b.toNat == 10 || b.toNat == 13
def quoB (b : UInt8) : Bool := b.toNat == 9 || decide (32 ≤ b.toNat) && b.toNat != 127
def marks : ByteArray := ⟨#[33, 35, 36, 37, 38, 39, 42, 43, 45, 46, 94, 95, 96, 124, 126]⟩
def tokB (b : UInt8) : Bool := letB b || digB b || hasB marks b
/-- The number of a digit to the base 16, or -1. -/
def hexB (b : UInt8) : Int := if digB b then (b.toNat : Int) - 48 else if decide (97 ≤ (lowB b).toNat) && decide ((lowB b).toNat ≤ 102) then ((lowB b).toNat : Int) - 87 else -1

theorem lowB_lowB (b : UInt8) : lowB (lowB b) = lowB b := by
  have := bytes_all (p := fun b => lowB (lowB b) == lowB b) (by kernel_rfl) b
  exact beq_iff_eq.1 this
theorem letB_eq (b : UInt8) : letB b = (decide (97 ≤ b.toNat) && decide (b.toNat ≤ 122) || decide (65 ≤ b.toNat) && decide (b.toNat ≤ 90)) := by
  have := bytes_all (p := fun b => letB b == (decide (97 ≤ b.toNat) && decide (b.toNat ≤ 122) || decide (65 ≤ b.toNat) && decide (b.toNat ≤ 90))) (by kernel_rfl) b
  exact beq_iff_eq.1 this
theorem whiB_has (b : UInt8) : hasB ⟨#[9, 10, 13, 32]⟩ b = whiB b := by
  have := bytes_all (p := fun b => hasB ⟨#[9, 10, 13, 32]⟩ b == whiB b) (by kernel_rfl) b
  exact beq_iff_eq.1 this
theorem tabB_has (b : UInt8) : hasB ⟨#[9, 32]⟩ b = tabB b := by
  have := bytes_all (p := fun b => hasB ⟨#[9, 32]⟩ b == tabB b) (by kernel_rfl) b
  exact beq_iff_eq.1 this
theorem quoB_eq (b : UInt8) : (b.toNat == 9 || decide (31 < b.toNat) && b.toNat != 127) = quoB b := rfl

def hexS : ByteArray := ⟨#[48, 49, 50, 51, 52, 53, 54, 55, 56, 57, 97, 98, 99, 100, 101, 102]⟩
def hexT : ByteArray := ⟨#[48, 49, 50, 51, 52, 53, 54, 55, 56, 57, 65, 66, 67, 68, 69, 70]⟩
theorem hexS_size : hexS.size = 16 := rfl
theorem hexT_size : hexT.size = 16 := rfl
theorem hexB_at {b : UInt8} {k : Nat} (hk : k < 16) (h : (hexS[k]'(by rw [hexS_size]; exact hk)).toNat = b.toNat ∨ (hexT[k]'(by rw [hexT_size]; exact hk)).toNat = b.toNat) : hexB b = k := by
  have := bytes_all (p := fun b => (List.range 16).all fun k => !(hexS[k]!.toNat == b.toNat || hexT[k]!.toNat == b.toNat) || hexB b == (k : Int)) (by kernel_rfl) b
  rw [List.all_eq_true] at this
  have := this k (List.mem_range.2 hk)
  rw [getElem!_pos hexS k (by rw [hexS_size]; exact hk), getElem!_pos hexT k (by rw [hexT_size]; exact hk)] at this
  simp only [Bool.or_eq_true, Bool.not_eq_true', Bool.or_eq_false_iff, beq_eq_false_iff_ne, ne_eq, beq_iff_eq] at this
  rcases this with ⟨h1, h2⟩ | h3
  · rcases h with h | h
    · exact absurd h h1
    · exact absurd h h2
  · exact h3
theorem hexB_no {b : UInt8} (h : ∀ k (hk : k < 16), (hexS[k]'(by rw [hexS_size]; exact hk)).toNat ≠ b.toNat ∧ (hexT[k]'(by rw [hexT_size]; exact hk)).toNat ≠ b.toNat) : hexB b = -1 := by
  have := bytes_all (p := fun b => (List.range 16).any (fun k => hexS[k]!.toNat == b.toNat || hexT[k]!.toNat == b.toNat) || hexB b == -1) (by kernel_rfl) b
  rw [Bool.or_eq_true] at this
  rcases this with h1 | h1
  · rw [List.any_eq_true] at h1
    obtain ⟨k, hk, e⟩ := h1
    have hk := List.mem_range.1 hk
    rw [getElem!_pos hexS k (by rw [hexS_size]; exact hk), getElem!_pos hexT k (by rw [hexT_size]; exact hk)] at e
    simp only [Bool.or_eq_true, beq_iff_eq] at e
    rcases e with e | e
    · exact absurd e (h k hk).1
    · exact absurd e (h k hk).2
  · exact beq_iff_eq.1 h1

theorem marks_first (b : UInt8) : decide ((0 : Int) ≤ Go.firstIdx marks b) = hasB marks b := by
  have := bytes_all (p := fun b => decide ((0 : Int) ≤ Go.firstIdx marks b) == hasB marks b) (by kernel_rfl) b
  exact beq_iff_eq.1 this
theorem hexB_range (b : UInt8) : (-1 ≤ hexB b ∧ hexB b ≤ 15) := by
  have := bytes_all (p := fun b => decide (-1 ≤ hexB b) && decide (hexB b ≤ 15)) (by kernel_rfl) b
  simpa using this

end Go.Proofs.Ytmepnfkgfbbkiaa
