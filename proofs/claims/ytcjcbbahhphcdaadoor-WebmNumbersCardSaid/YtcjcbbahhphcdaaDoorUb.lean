/-
  Plain facts on films of elements: a sign behind noughts, the bit of a size, what is written. No condition.
-/
import Derived.Test.YtcjcbbahhphcdaaDoorUa
import Derived.Test.YtcjcbbahhphcdaaDoorByte
import Derived.Test.YtcjcbbahhphcdaaDoorTexts
import Derived.Lib.Strings
import Derived.Lib.TrimByte
import Derived.Lib.BitFns
import Derived.Laws.BitsAllLaws
namespace Go.Proofs.YtcjcbbahhphcdaaDoor

theorem begS_list (s t : ByteArray) : begS s t = Lib.hasPrefix s.data.toList t.data.toList := by
  rw [← Lib.hasPrefix_of_take]
  unfold begS
  rw [Lib.extract_toList, Lib.toList_data, Lib.size_eq s, Lib.size_eq t]
  simp

/-- Whether a sign stands behind any noughts, of lists. -/
def padL (t : List UInt8) : List UInt8 → Bool
  | [] => Lib.hasPrefix [] t
  | b :: l => Lib.hasPrefix (b :: l) t || (b == 0 && padL t l)
/-- How many noughts stand ahead. -/
def lzL (l : List UInt8) : Nat := l.length - (Lib.trimLeftB l 0).length
theorem lzL_nil : lzL [] = 0 := rfl
theorem trim_len (l : List UInt8) : (Lib.trimLeftB l 0).length ≤ l.length := (List.dropWhile_suffix (· == (0 : UInt8))).length_le
theorem trim_zero (l : List UInt8) : Lib.trimLeftB (0 :: l) 0 = Lib.trimLeftB l 0 := rfl
theorem trim_other {b : UInt8} (l : List UInt8) (h : b ≠ 0) : Lib.trimLeftB (b :: l) 0 = b :: l := by
  unfold Lib.trimLeftB
  rw [List.dropWhile_cons_of_neg]
  simpa using h
theorem lzL_zero (l : List UInt8) : lzL (0 :: l) = lzL l + 1 := by
  have := trim_len l
  unfold lzL
  rw [trim_zero, List.length_cons]
  omega
theorem lzL_other {b : UInt8} (l : List UInt8) (h : b ≠ 0) : lzL (b :: l) = 0 := by
  unfold lzL
  rw [trim_other l h]
  omega
theorem prefix_trim : ∀ (l t : List UInt8), Lib.hasPrefix l t = true → lzL t ≤ lzL l ∧ (lzL t = lzL l ∨ Lib.trimLeftB t 0 = []) ∧ Lib.hasPrefix (Lib.trimLeftB l 0) (Lib.trimLeftB t 0) = true
  | l, [], _ => by
    refine ⟨by rw [lzL_nil]; omega, .inr rfl, rfl⟩
  | [], b :: t, h => by cases h
  | a :: l, b :: t, h => by
    have h2 : (b == a) = true ∧ t.isPrefixOf l = true := by
      unfold Lib.hasPrefix at h
      rw [List.isPrefixOf] at h
      simpa using h
    have hab : b = a := beq_iff_eq.1 h2.1
    subst hab
    by_cases hz : b = 0
    · subst hz
      obtain ⟨h3, h4, h5⟩ := prefix_trim l t h2.2
      rw [lzL_zero, lzL_zero, trim_zero, trim_zero]
      exact ⟨by omega, h4.elim (fun e => .inl (by omega)) .inr, h5⟩
    · rw [lzL_other _ hz, lzL_other _ hz, trim_other _ hz, trim_other _ hz]
      exact ⟨Nat.le_refl _, .inl rfl, h⟩
theorem prefix_same : ∀ (l t : List UInt8), lzL t = lzL l → Lib.hasPrefix (Lib.trimLeftB l 0) (Lib.trimLeftB t 0) = true → Lib.hasPrefix l t = true
  | l, [], _, _ => by cases l <;> rfl
  | [], b :: t, h, h2 => by
    by_cases hz : b = 0
    · subst hz
      rw [lzL_zero, lzL_nil] at h
      omega
    · rw [trim_other _ hz] at h2
      cases h2
  | a :: l, b :: t, h, h2 => by
    by_cases hz : b = 0
    · subst hz
      by_cases ha : a = 0
      · subst ha
        rw [lzL_zero, lzL_zero] at h
        rw [trim_zero, trim_zero] at h2
        have := prefix_same l t (by omega) h2
        unfold Lib.hasPrefix at this ⊢
        rw [List.isPrefixOf, this]
        rfl
      · rw [lzL_zero, lzL_other _ ha] at h
        omega
    · by_cases ha : a = 0
      · subst ha
        rw [lzL_zero, lzL_other _ hz] at h
        omega
      · rwa [trim_other _ hz, trim_other _ ha] at h2
theorem padL_trim (t : List UInt8) : ∀ l, padL t l = (decide (lzL t ≤ lzL l) && Lib.hasPrefix (Lib.trimLeftB l 0) (Lib.trimLeftB t 0))
  | [] => by
    rw [padL, Bool.eq_iff_iff, Bool.and_eq_true, decide_eq_true_eq]
    constructor
    · intro h
      have := prefix_trim [] t h
      exact ⟨this.1, this.2.2⟩
    · rintro ⟨h1, h2⟩
      exact prefix_same [] t (by rw [lzL_nil] at h1 ⊢; omega) h2
  | b :: l => by
    rw [padL, padL_trim t l, Bool.eq_iff_iff, Bool.or_eq_true, Bool.and_eq_true, Bool.and_eq_true, Bool.and_eq_true, decide_eq_true_eq, decide_eq_true_eq, beq_iff_eq]
    constructor
    · rintro (h | ⟨rfl, h1, h2⟩)
      · have := prefix_trim _ t h
        exact ⟨this.1, this.2.2⟩
      · rw [lzL_zero, trim_zero]
        exact ⟨by omega, h2⟩
    · rintro ⟨h1, h2⟩
      by_cases hz : b = 0
      · subst hz
        rw [lzL_zero] at h1
        by_cases he : lzL t = lzL l + 1
        · exact .inl (prefix_same _ t (by rw [lzL_zero]; exact he) h2)
        · exact .inr ⟨rfl, by omega, h2⟩
      · rw [lzL_other _ hz] at h1
        exact .inl (prefix_same _ t (by rw [lzL_other _ hz]; omega) h2)
theorem drop_at {s : ByteArray} {i : Nat} (h : i < s.size) : s.data.toList.drop i = s[i]! :: s.data.toList.drop (i + 1) := by
  rw [List.drop_eq_getElem_cons (by simpa using h), getElem!_pos s i h]
  rfl
theorem rest_list (s : ByteArray) (i : Nat) : (s.extract i s.size).data.toList = s.data.toList.drop i := by
  rw [Lib.extract_data, List.take_of_length_le]
  rw [List.length_drop, Lib.size_eq s]
  omega
theorem padA_list (s t : ByteArray) : ∀ (n i : Nat), s.size = i + n → padA s t i = padL t.data.toList (s.data.toList.drop i)
  | 0, i, h => by
    have e : s.data.toList.drop i = [] := List.drop_eq_nil_of_le (by have := Lib.size_eq s; omega)
    rw [e, padL]
    have hb : begS (s.extract i s.size) t = Lib.hasPrefix [] t.data.toList := by rw [begS_list, rest_list, e]
    cases hc : Lib.hasPrefix [] t.data.toList
    · exact padA_end (by omega) (by rw [hb, hc])
    · exact padA_here (by omega) (by rw [hb, hc])
  | n + 1, i, h => by
    have hb : begS (s.extract i s.size) t = Lib.hasPrefix (s[i]! :: s.data.toList.drop (i + 1)) t.data.toList := by rw [begS_list, rest_list, drop_at (by omega)]
    have ih := padA_list s t n (i + 1) (by omega)
    rw [drop_at (by omega), padL, ← hb, ← ih]
    cases hc : begS (s.extract i s.size) t
    · rw [Bool.false_or]
      by_cases h0 : s[i]! = 0
      · rw [padA_next (by omega) hc h0, h0]
        rfl
      · rw [padA_stop (by omega) hc h0, beq_eq_false_iff_ne.2 h0]
        rfl
    · rw [padA_here (by omega) hc]
      rfl
theorem padB_list (s t : ByteArray) : padB s t = (decide (lzL t.data.toList ≤ lzL s.data.toList) && Lib.hasPrefix (Lib.trimLeftB s.data.toList 0) (Lib.trimLeftB t.data.toList 0)) := by
  have := padA_list s t s.size 0 (by omega)
  rw [List.drop_zero, padL_trim] at this
  rw [← this]
  rfl
theorem widB_bits (b : UInt8) : (widB b : Int) = if (1 + (8 - (Lib.bitLen b.toNat : Int))) ≤ 8 then 1 + (8 - (Lib.bitLen b.toNat : Int)) else 8 := by
  have := bytes_all (p := fun b => (widB b : Int) == if (1 + (8 - (Lib.bitLen b.toNat : Int))) ≤ 8 then 1 + (8 - (Lib.bitLen b.toNat : Int)) else 8) (by kernel_rfl) b
  exact beq_iff_eq.1 this

theorem bit_off {n p : Nat} (hp : p < 64) (h1 : 2 ^ p ≤ n) (h2 : n < 2 ^ (p + 1)) : n &&& (18446744073709551615 - 2 ^ p) = n - 2 ^ p := by
  have hm : n - 2 ^ p = n % 2 ^ p := by
    rw [Nat.mod_eq_sub_mod h1, Nat.mod_eq_of_lt]
    rw [Nat.pow_succ] at h2
    omega
  have he : 18446744073709551615 - 2 ^ p = 2 ^ 64 - (2 ^ p + 1) := by
    rw [Nat.add_comm, ← Nat.sub_sub]
  rw [hm, he]
  apply Nat.eq_of_testBit_eq
  intro i
  rw [Nat.testBit_and, Nat.testBit_two_pow_sub_succ (Nat.pow_lt_pow_right (by decide) hp), Nat.testBit_mod_two_pow, Nat.testBit_two_pow]
  by_cases hi : i < p
  · rw [decide_eq_true (by omega : i < 64), decide_eq_false (by omega : ¬p = i), decide_eq_true hi]
    simp
  · rw [decide_eq_false hi]
    by_cases he2 : p = i
    · rw [decide_eq_true he2]
      simp
    · have : n.testBit i = false := Nat.testBit_lt_two_pow (Nat.lt_of_lt_of_le h2 (Nat.pow_le_pow_right (by decide) (by omega)))
      rw [this]
      simp
theorem pow_k {k : Nat} (h : k < 9) : 2 ^ (7 * k) ≤ 72057594037927936 := Nat.le_trans (Nat.pow_le_pow_right (by decide) (by omega : 7 * k ≤ 56)) (by decide)
theorem bits_off {n k : Nat} (hk : k < 9) (h1 : 2 ^ (7 * k) ≤ n) (h2 : n < 2 ^ (7 * k + 1)) : bits .andNot .u64 (n : Int) ((2 ^ (7 * k) : Nat) : Int) = ((n - 2 ^ (7 * k) : Nat) : Int) := by
  have hp := pow_k hk
  rw [Nat.pow_succ] at h2
  rw [u64_andNot_nat n (2 ^ (7 * k)) (by omega) (by omega), bit_off (by omega) h1 (by rw [Nat.pow_succ]; exact h2)]
theorem bits_on {n k : Nat} (hk : k < 9) (h : n < 2 ^ (7 * k)) : bits .or .u64 (n : Int) ((2 ^ (7 * k) : Nat) : Int) = ((n + 2 ^ (7 * k) : Nat) : Int) := by
  have hp := pow_k hk
  rw [u64_or_nat n (2 ^ (7 * k)) (by omega) (by omega), Nat.or_comm, nat_join (7 * k) (2 ^ (7 * k)) n (Nat.mod_self _) h, Nat.add_comm]
theorem or_high64 (m b : Nat) (hm : m < 72057594037927936) (hb : b < 256) : bits .or .u64 ((m : Int) * 256) (b : Int) = ((m * 256 + b : Nat) : Int) := by
  rw [show (m : Int) * 256 = ((m * 256 : Nat) : Int) from by simp, u64_or_nat _ _ (by omega) (by omega), nat_join 8 (m * 256) b (by omega) (by omega)]

/-- The byte at a place of a number of k bytes, the highest first. -/
def digK (n k i : Nat) : UInt8 := UInt8.ofNat (n / 256 ^ (k - 1 - i) % 256)
/-- A number of k bytes, the highest first. -/
def wriS (n k : Nat) : ByteArray := ⟨((List.range k).map (digK n k)).toArray⟩
theorem wriS_size (n k : Nat) : (wriS n k).size = k := by
  show ((List.range k).map (digK n k)).toArray.size = k
  simp
theorem wriS_at {n k i : Nat} (h : i < k) : (wriS n k)[i]! = digK n k i := by
  have e : (wriS n k)[i]'(by rw [wriS_size]; exact h) = ((List.range k).map (digK n k)).toArray[i]'(by simp; exact h) := rfl
  rw [getElem!_pos (wriS n k) i (by rw [wriS_size]; exact h), e]
  simp
theorem digK_nat (n k i : Nat) : (digK n k i).toNat = n / 256 ^ (k - 1 - i) % 256 := by
  unfold digK
  rw [UInt8.toNat_ofNat']
  omega
theorem high_wri {n k : Nat} (hn : n < 256 ^ k) : ∀ j, j ≤ k → highV (wriS n k) j = n / 256 ^ (k - j)
  | 0, _ => by rw [highV, Nat.sub_zero, Nat.div_eq_of_lt hn]
  | j + 1, h => by
    rw [highV, high_wri hn j (by omega), wriS_at (by omega), digK_nat, show k - j = (k - 1 - j) + 1 from by omega, Nat.pow_succ, ← Nat.div_div_eq_div_mul, show k - (j + 1) = k - 1 - j from by omega]
    omega
theorem high_all {n k : Nat} (hn : n < 256 ^ k) : highV (wriS n k) k = n := by
  rw [high_wri hn k (Nat.le_refl _), Nat.sub_self, Nat.pow_zero, Nat.div_one]
theorem room_k {n k : Nat} (_hk : k < 9) (h : n < 2 ^ (7 * k)) (h0 : 0 < k) : n + 2 ^ (7 * k) < 256 ^ k := by
  have e : (256 : Nat) ^ k = 2 ^ (7 * k) * 2 ^ k := by
    rw [show (256 : Nat) = 2 ^ 8 from rfl, ← Nat.pow_mul, ← Nat.pow_add]
    congr 1
    omega
  have h2 : 2 ≤ 2 ^ k := Nat.le_trans (by decide) (Nat.pow_le_pow_right (by decide) h0)
  have := Nat.mul_le_mul_left (2 ^ (7 * k)) h2
  rw [e]
  omega

end Go.Proofs.YtcjcbbahhphcdaaDoor
