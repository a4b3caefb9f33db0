/-
  Plain facts on films of elements: how many bytes a number has, which number it is, what is written. No condition.
-/
import Derived.Test.YtcjcbbahhphcdaaDoorVf
import Derived.Test.YtcjcbbahhphcdaaDoorWb
namespace Go.Proofs.YtcjcbbahhphcdaaDoor

/-- How many bytes a number has, by its first one. -/
def widB (b : UInt8) : Nat := if 128 ≤ b.toNat then 1 else if 64 ≤ b.toNat then 2 else if 32 ≤ b.toNat then 3 else if 16 ≤ b.toNat then 4 else if 8 ≤ b.toNat then 5 else if 4 ≤ b.toNat then 6 else if 2 ≤ b.toNat then 7 else 8
theorem widB_pos (b : UInt8) : 1 ≤ widB b := by unfold widB; split <;> (repeat' split) <;> omega
theorem widB_le (b : UInt8) : widB b ≤ 8 := by unfold widB; split <;> (repeat' split) <;> omega
/-- Whether a number stands ahead. -/
def numO (s : ByteArray) : Bool := decide (0 < s.size) && (s[0]! != 0 && decide (widB s[0]! ≤ s.size))
theorem numO_all {s : ByteArray} (h : numO s = true) : 0 < s.size ∧ s[0]! ≠ 0 ∧ widB s[0]! ≤ s.size := by
  unfold numO at h
  simpa using h
theorem numO_yes {s : ByteArray} (h0 : 0 < s.size) (h1 : s[0]! ≠ 0) (h2 : widB s[0]! ≤ s.size) : numO s = true := by
  unfold numO
  simpa using ⟨h0, h1, h2⟩
theorem numO_no {s : ByteArray} (h : ¬(0 < s.size ∧ s[0]! ≠ 0 ∧ widB s[0]! ≤ s.size)) : numO s = false := by
  cases e : numO s
  · rfl
  · exact absurd (numO_all e) h
/-- The number that stands ahead, and how many bytes it has. -/
def numG (s : ByteArray) : Nat × Nat := if numO s = true then (highV s (widB s[0]!) - 2 ^ (7 * widB s[0]!), widB s[0]!) else (0, 0)
theorem numG_no {s : ByteArray} (h : numO s = false) : numG s = (0, 0) := by
  unfold numG
  rw [if_neg (by rw [h]; exact Bool.false_ne_true)]
theorem numG_yes {s : ByteArray} (h : numO s = true) : numG s = (highV s (widB s[0]!) - 2 ^ (7 * widB s[0]!), widB s[0]!) := by
  unfold numG
  rw [if_pos h]
/-- The first byte is a number's greatest part. -/
theorem highV_first (s : ByteArray) : ∀ k, s[0]!.toNat * 256 ^ k ≤ highV s (k + 1) ∧ highV s (k + 1) < (s[0]!.toNat + 1) * 256 ^ k
  | 0 => by
    rw [highV, highV, Nat.pow_zero]
    omega
  | k + 1 => by
    obtain ⟨h1, h2⟩ := highV_first s k
    have hb : s[k + 1]!.toNat < 256 := s[k + 1]!.toNat_lt
    rw [highV, Nat.pow_succ, ← Nat.mul_assoc, ← Nat.mul_assoc]
    omega
/-- What has its highest bit where its size says so is no less than that bit. -/
theorem highV_bit {s : ByteArray} (h : s[0]! ≠ 0) : 2 ^ (7 * widB s[0]!) ≤ highV s (widB s[0]!) ∧ highV s (widB s[0]!) < 2 ^ (7 * widB s[0]! + 1) := by
  have hz : 0 < s[0]!.toNat := by
    rcases Nat.eq_zero_or_pos s[0]!.toNat with e | e
    · exact absurd (UInt8.toNat_inj.1 e) h
    · exact e
  have hlt : s[0]!.toNat < 256 := s[0]!.toNat_lt
  have key : ∀ k, k ≤ 7 → widB s[0]! = k + 1 → 2 ^ (7 - k) ≤ s[0]!.toNat → s[0]!.toNat < 2 ^ (8 - k) → 2 ^ (7 * widB s[0]!) ≤ highV s (widB s[0]!) ∧ highV s (widB s[0]!) < 2 ^ (7 * widB s[0]! + 1) := fun k hk e h1 h2 => by
    obtain ⟨g1, g2⟩ := highV_first s k
    rw [e]
    have e1 : 2 ^ (7 * (k + 1)) = 2 ^ (7 - k) * 256 ^ k := by
      rw [show (256 : Nat) = 2 ^ 8 from rfl, ← Nat.pow_mul, ← Nat.pow_add]
      congr 1
      omega
    have e2 : 2 ^ (7 * (k + 1) + 1) = 2 ^ (8 - k) * 256 ^ k := by
      rw [show (256 : Nat) = 2 ^ 8 from rfl, ← Nat.pow_mul, ← Nat.pow_add]
      congr 1
      omega
    rw [e1, e2]
    exact ⟨Nat.le_trans (Nat.mul_le_mul_right _ h1) g1, Nat.lt_of_lt_of_le g2 (Nat.mul_le_mul_right _ h2)⟩
  unfold widB at key ⊢
  by_cases h128 : 128 ≤ s[0]!.toNat
  · exact key 0 (by omega) (by rw [if_pos h128]) (by omega) (by omega)
  by_cases h64 : 64 ≤ s[0]!.toNat
  · exact key 1 (by omega) (by rw [if_neg h128, if_pos h64]) (by omega) (by omega)
  by_cases h32 : 32 ≤ s[0]!.toNat
  · exact key 2 (by omega) (by rw [if_neg h128, if_neg h64, if_pos h32]) (by omega) (by omega)
  by_cases h16 : 16 ≤ s[0]!.toNat
  · exact key 3 (by omega) (by rw [if_neg h128, if_neg h64, if_neg h32, if_pos h16]) (by omega) (by omega)
  by_cases h8 : 8 ≤ s[0]!.toNat
  · exact key 4 (by omega) (by rw [if_neg h128, if_neg h64, if_neg h32, if_neg h16, if_pos h8]) (by omega) (by omega)
  by_cases h4 : 4 ≤ s[0]!.toNat
  · exact key 5 (by omega) (by rw [if_neg h128, if_neg h64, if_neg h32, if_neg h16, if_neg h8, if_pos h4]) (by omega) (by omega)
  by_cases h2 : 2 ≤ s[0]!.toNat
  · exact key 6 (by omega) (by rw [if_neg h128, if_neg h64, if_neg h32, if_neg h16, if_neg h8, if_neg h4, if_pos h2]) (by omega) (by omega)
  · exact key 7 (by omega) (by rw [if_neg h128, if_neg h64, if_neg h32, if_neg h16, if_neg h8, if_neg h4, if_neg h2]) (by omega) (by omega)

/-- Whether a number has room in so many bytes. -/
def fitB (n k : Nat) : Bool := decide (0 < k) && (decide (k < 9) && decide (n < 2 ^ (7 * k)))
theorem fitB_all {n k : Nat} (h : fitB n k = true) : 0 < k ∧ k < 9 ∧ n < 2 ^ (7 * k) := by
  unfold fitB at h
  simpa using h
/-- A text of k bytes whose number is n and the bit above it: its first byte says k. -/
theorem wid_of {x : ByteArray} {n k : Nat} (hk : 0 < k) (hk9 : k < 9) (hh : highV x k = n + 2 ^ (7 * k)) (hn : n < 2 ^ (7 * k)) : widB x[0]! = k ∧ x[0]! ≠ 0 := by
  obtain ⟨j, rfl⟩ : ∃ j, k = j + 1 := ⟨k - 1, by omega⟩
  obtain ⟨g1, g2⟩ := highV_first x j
  rw [hh] at g1 g2
  have hnz : x[0]!.toNat ≠ 0 → x[0]! ≠ 0 := fun h e => h (by rw [e]; rfl)
  unfold widB
  generalize x[0]!.toNat = b at *
  have hj : j = 0 ∨ j = 1 ∨ j = 2 ∨ j = 3 ∨ j = 4 ∨ j = 5 ∨ j = 6 ∨ j = 7 := by omega
  rcases hj with rfl | rfl | rfl | rfl | rfl | rfl | rfl | rfl
  · have h1 : 128 ≤ b := by omega
    exact ⟨by rw [if_pos h1], hnz (by omega)⟩
  · have h1 : 64 ≤ b ∧ b < 128 := by omega
    exact ⟨by rw [if_neg (by omega), if_pos h1.1], hnz (by omega)⟩
  · have h1 : 32 ≤ b ∧ b < 64 := by omega
    exact ⟨by rw [if_neg (by omega), if_neg (by omega), if_pos h1.1], hnz (by omega)⟩
  · have h1 : 16 ≤ b ∧ b < 32 := by omega
    exact ⟨by rw [if_neg (by omega), if_neg (by omega), if_neg (by omega), if_pos h1.1], hnz (by omega)⟩
  · have h1 : 8 ≤ b ∧ b < 16 := by omega
    exact ⟨by rw [if_neg (by omega), if_neg (by omega), if_neg (by omega), if_neg (by omega), if_pos h1.1], hnz (by omega)⟩
  · have h1 : 4 ≤ b ∧ b < 8 := by omega
    exact ⟨by rw [if_neg (by omega), if_neg (by omega), if_neg (by omega), if_neg (by omega), if_neg (by omega), if_pos h1.1], hnz (by omega)⟩
  · have h1 : 2 ≤ b ∧ b < 4 := by omega
    exact ⟨by rw [if_neg (by omega), if_neg (by omega), if_neg (by omega), if_neg (by omega), if_neg (by omega), if_neg (by omega), if_pos h1.1], hnz (by omega)⟩
  · have h1 : 1 ≤ b ∧ b < 2 := by omega
    exact ⟨by rw [if_neg (by omega), if_neg (by omega), if_neg (by omega), if_neg (by omega), if_neg (by omega), if_neg (by omega), if_neg (by omega)], hnz (by omega)⟩
theorem high_app {x t : ByteArray} : ∀ k, k ≤ x.size → highV (x ++ t) k = highV x k
  | 0, _ => rfl
  | k + 1, h => by rw [highV, highV, high_app k (by omega), at_left (by omega)]
/-- What is written is read. -/
theorem num_written {x t : ByteArray} {n k : Nat} (hk : 0 < k) (hk9 : k < 9) (hz : x.size = k) (hh : highV x k = n + 2 ^ (7 * k)) (hn : n < 2 ^ (7 * k)) : numO (x ++ t) = true ∧ numG (x ++ t) = (n, k) := by
  obtain ⟨h1, h2⟩ := wid_of hk hk9 hh hn
  have e0 : (x ++ t)[0]! = x[0]! := at_left (by omega)
  have ho : numO (x ++ t) = true := numO_yes (by rw [ByteArray.size_append]; omega) (by rw [e0]; exact h2) (by rw [e0, h1, ByteArray.size_append]; omega)
  refine ⟨ho, ?_⟩
  rw [numG_yes ho, e0, h1, high_app k (by omega), hh, Nat.add_sub_cancel]

/-- Whether a text begins with a sign. -/
def begS (s t : ByteArray) : Bool := decide (t.size ≤ s.size) && (s.extract 0 t.size).toList == t.toList
/-- Whether a sign stands behind any noughts, from a place on; f: how many places are looked at, at the most. -/
def padF (s t : ByteArray) : Nat → Nat → Bool
  | 0, _ => false
  | f + 1, i => begS (s.extract i s.size) t || (decide (i < s.size) && (s[i]! == 0 && padF s t f (i + 1)))
def padB (s t : ByteArray) : Bool := padF s t (s.size + 1) 0
def padA (s t : ByteArray) (i : Nat) : Bool := padF s t (s.size + 1 - i) i
theorem padA_here {s t : ByteArray} {i : Nat} (hi : i ≤ s.size) (h : begS (s.extract i s.size) t = true) : padA s t i = true := by
  unfold padA
  rw [show s.size + 1 - i = (s.size - i) + 1 from by omega, padF, h]
  rfl
theorem padA_end {s t : ByteArray} {i : Nat} (hi : i = s.size) (h : begS (s.extract i s.size) t = false) : padA s t i = false := by
  unfold padA
  rw [show s.size + 1 - i = (s.size - i) + 1 from by omega, padF, h, decide_eq_false (by omega : ¬i < s.size)]
  rfl
theorem padA_stop {s t : ByteArray} {i : Nat} (hi : i < s.size) (h : begS (s.extract i s.size) t = false) (h0 : s[i]! ≠ 0) : padA s t i = false := by
  unfold padA
  rw [show s.size + 1 - i = (s.size - i) + 1 from by omega, padF, h, beq_eq_false_iff_ne.2 h0]
  simp
theorem padA_next {s t : ByteArray} {i : Nat} (hi : i < s.size) (h : begS (s.extract i s.size) t = false) (h0 : s[i]! = 0) : padA s t i = padA s t (i + 1) := by
  unfold padA
  rw [show s.size + 1 - i = (s.size - i) + 1 from by omega, padF, h, h0, decide_eq_true hi, show s.size - i = s.size + 1 - (i + 1) from by omega]
  simp

abbrev elmS : ByteArray := ⟨#[66, 130]⟩
abbrev wbmS : ByteArray := ⟨#[119, 101, 98, 109]⟩
abbrev mrkS : ByteArray := ⟨#[26, 69, 223, 163]⟩
/-- Whether a film is told from a place on; f: how many steps are gone, at the most. -/
def filF (s : ByteArray) : Nat → Nat → Bool
  | 0, _ => false
  | f + 1, i =>
    if i < s.size ∧ i < 38 then
      (if begS (s.extract i s.size) elmS = true then
        (if i + 2 < s.size then
          (if i + 2 + widB s[i + 2]! + 4 < s.size then
            (if padB (s.extract (i + 2 + widB s[i + 2]!) s.size) wbmS = true then true else filF s f (i + 2 + widB s[i + 2]! + 1))
          else false)
        else false)
      else filF s f (i + 1))
    else false
def filA (s : ByteArray) (i : Nat) : Bool := filF s (38 - i) i
def filW (s : ByteArray) : Bool := begS s mrkS && filA s 4
theorem filF_more (s : ByteArray) : ∀ (f i : Nat), 38 ≤ f + i → filF s (f + 1) i = filF s f i
  | 0, i, h => by
    have hn : ¬(i < s.size ∧ i < 38) := by omega
    show (if i < s.size ∧ i < 38 then _ else false) = false
    rw [if_neg hn]
  | f + 1, i, h => by
    have e : ∀ g, filF s (g + 1) i = if i < s.size ∧ i < 38 then (if begS (s.extract i s.size) elmS = true then (if i + 2 < s.size then (if i + 2 + widB s[i + 2]! + 4 < s.size then (if padB (s.extract (i + 2 + widB s[i + 2]!) s.size) wbmS = true then true else filF s g (i + 2 + widB s[i + 2]! + 1)) else false) else false) else filF s g (i + 1)) else false := fun g => by rw [filF]
    rw [e (f + 1), e f, filF_more s f (i + 1) (by omega), filF_more s f (i + 2 + widB s[i + 2]! + 1) (by omega)]
theorem filF_any (s : ByteArray) (i : Nat) : ∀ (f g : Nat), 38 ≤ f + i → filF s (f + g) i = filF s f i
  | f, 0, _ => rfl
  | f, g + 1, h => by rw [← Nat.add_assoc, filF_more s (f + g) i (by omega), filF_any s i f g h]
theorem filA_f {s : ByteArray} {i f : Nat} (h : 38 ≤ f + i) : filF s f i = filA s i := by
  unfold filA
  by_cases hi : 38 ≤ i
  · have := filF_any s i 0 f (by omega)
    rw [Nat.zero_add] at this
    rw [this, show 38 - i = 0 from by omega]
  · have := filF_any s i (38 - i) (f - (38 - i)) (by omega)
    rwa [show 38 - i + (f - (38 - i)) = f from by omega] at this
theorem filA_step {s : ByteArray} {i : Nat} (h : i < s.size ∧ i < 38) : filA s i = if begS (s.extract i s.size) elmS = true then (if i + 2 < s.size then (if i + 2 + widB s[i + 2]! + 4 < s.size then (if padB (s.extract (i + 2 + widB s[i + 2]!) s.size) wbmS = true then true else filA s (i + 2 + widB s[i + 2]! + 1)) else false) else false) else filA s (i + 1) := by
  have e : filA s i = filF s ((37 - i) + 1) i := (filA_f (by omega)).symm
  rw [e, filF, if_pos h, filA_f (by omega), filA_f (by omega)]
theorem filA_over {s : ByteArray} {i : Nat} (h : ¬(i < s.size ∧ i < 38)) : filA s i = false := by
  rw [← filA_f (s := s) (i := i) (f := 38) (by omega), filF, if_neg h]

end Go.Proofs.YtcjcbbahhphcdaaDoor
