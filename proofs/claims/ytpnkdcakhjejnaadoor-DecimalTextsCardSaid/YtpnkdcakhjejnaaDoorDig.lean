/-
  Plain facts on a number's decimal digits: they are digits, their number is the number, and no nought stands ahead of another. No condition.
-/
import Derived.Test.YtpnkdcakhjejnaaDoorNum
import Derived.Lib.ItoaNum
namespace Go.Proofs.YtpnkdcakhjejnaaDoor

theorem digit_toNat {u : Nat} (h : u < 10) : (UInt8.ofNat (48 + u)).toNat = 48 + u := by
  rw [UInt8.toNat_ofNat']
  omega
theorem digit_isB {u : Nat} (h : u < 10) : digB (UInt8.ofNat (48 + u)) = true := by
  unfold digB
  rw [digit_toNat h]
  simp
  omega
theorem decDigits_all : ∀ (n u : Nat), u ≤ n → ∀ b ∈ Lib.decDigits u, digB b = true
  | n, u, hn, b, hb => by
    by_cases h : u < 10
    · rw [Lib.decDigits, dif_pos h] at hb
      rw [List.mem_singleton.1 hb]
      exact digit_isB h
    · rw [Lib.decDigits, dif_neg h] at hb
      rcases List.mem_append.1 hb with h1 | h1
      · cases n with
        | zero => omega
        | succ n => exact decDigits_all n (u / 10) (by omega) b h1
      · rw [List.mem_singleton.1 h1]
        exact digit_isB (by omega)

/-- The number whose digits a list is. -/
def numL (l : List UInt8) : Nat := l.foldl (fun a b => 10 * a + (b.toNat - 48)) 0
theorem numL_snoc (l : List UInt8) (b : UInt8) : numL (l ++ [b]) = 10 * numL l + (b.toNat - 48) := by
  unfold numL
  rw [List.foldl_append]
  rfl
theorem numL_digits : ∀ (n u : Nat), u ≤ n → numL (Lib.decDigits u) = u
  | n, u, hn => by
    by_cases h : u < 10
    · rw [Lib.decDigits, dif_pos h]
      show 10 * 0 + ((UInt8.ofNat (48 + u)).toNat - 48) = u
      rw [digit_toNat h]
      omega
    · rw [Lib.decDigits, dif_neg h, numL_snoc, digit_toNat (by omega)]
      cases n with
      | zero => omega
      | succ n => rw [numL_digits n (u / 10) (by omega)]; omega
theorem numK_list (s : ByteArray) : ∀ k, k ≤ s.size → numK s k = numL (s.data.toList.take k)
  | 0, _ => by simp [numK, numL]
  | k + 1, h => by
    rw [numK_succ (by omega), numK_list s k (by omega), take_snoc s k (by omega), numL_snoc]
theorem decDigits_len : ∀ (n u : Nat), u ≤ n → 1 ≤ (Lib.decDigits u).length
  | n, u, hn => by
    by_cases h : u < 10
    · rw [Lib.decDigits, dif_pos h]
      simp
    · rw [Lib.decDigits, dif_neg h]
      simp
theorem decDigits_head : ∀ (n u : Nat), u ≤ n → 1 ≤ u → ((Lib.decDigits u).getD 0 0).toNat ≠ 48
  | n, u, hn, h1 => by
    by_cases h : u < 10
    · rw [Lib.decDigits, dif_pos h]
      show (UInt8.ofNat (48 + u)).toNat ≠ 48
      rw [digit_toNat h]
      omega
    · rw [Lib.decDigits, dif_neg h]
      cases n with
      | zero => omega
      | succ n =>
        have hl := decDigits_len _ (u / 10) (Nat.le_refl _)
        have := decDigits_head n (u / 10) (by omega) (by omega)
        rw [List.getD_eq_getElem?_getD, List.getElem?_append_left (by omega), ← List.getD_eq_getElem?_getD]
        exact this

/-- A number's digits, as a text. -/
def digS (u : Nat) : ByteArray := ⟨(Lib.decDigits u).toArray⟩
theorem digS_list (u : Nat) : (digS u).data.toList = Lib.decDigits u := by simp [digS]
theorem digS_size (u : Nat) : (digS u).size = (Lib.decDigits u).length := by
  show (Lib.decDigits u).toArray.size = _
  simp
theorem digS_all (u : Nat) : allB digB (digS u) = true := allB_yes fun j hj => by
  have h : (digS u)[j] ∈ (digS u).data.toList := List.getElem_mem (l := (digS u).data.toList) (by simpa using hj)
  rw [digS_list] at h
  exact decDigits_all u u (Nat.le_refl _) _ h
theorem digS_num (u : Nat) : numK (digS u) (digS u).size = u := by
  rw [numK_list _ _ (Nat.le_refl _), List.take_of_length_le (by simp), digS_list]
  exact numL_digits u u (Nat.le_refl _)
theorem digS_nought (u : Nat) : nouB (digS u) = false := by
  by_cases h : 1 < (digS u).size
  · have h10 : ¬ u < 10 := fun h1 => by
      rw [digS_size, Lib.decDigits, dif_pos h1] at h
      simp at h
    have := decDigits_head u u (Nat.le_refl _) (by omega)
    unfold nouB
    rw [digS_list]
    simp only [Bool.and_eq_false_iff, beq_eq_false_iff_ne, ne_eq]
    exact .inr this
  · exact nouB_short h
theorem digS_str_ok {u : Nat} (h : u ≤ 9007199254740991) : strV (digS u) = .tuple #[.int .i64 (u : Nat), .int .i64 0] := by
  have hl := decDigits_len u u (Nat.le_refl _)
  have hs := digS_size u
  unfold strV
  rw [digS_nought, if_neg (by simp), parV_ok (by omega) (digS_all u) (by rw [digS_num]; exact h), digS_num]
theorem digS_str_great {u : Nat} (h : 9007199254740991 < u) : strV (digS u) = .tuple #[.int .i64 0, .int .i64 9] := by
  have hl := decDigits_len u u (Nat.le_refl _)
  have hs := digS_size u
  unfold strV
  rw [digS_nought, if_neg (by simp), parV_range (by omega) (digS_all u) (by rw [digS_num]; exact h)]
/-- With a minus ahead. -/
def negS (u : Nat) : ByteArray := ⟨(45 :: Lib.decDigits u).toArray⟩
theorem negS_list (u : Nat) : (negS u).data.toList = 45 :: Lib.decDigits u := by simp [negS]
theorem negS_size (u : Nat) : (negS u).size = (Lib.decDigits u).length + 1 := by
  show (45 :: Lib.decDigits u).toArray.size = _
  simp
theorem negS_str (u : Nat) : strV (negS u) = .tuple #[.int .i64 0, .int .i64 2] := by
  have h0 : 0 < (negS u).size := by rw [negS_size]; omega
  have e : (negS u)[0] = 45 := by
    have : (negS u).data.toList[0]'(by rw [negS_list]; simp) = 45 := by simp [negS_list]
    exact this
  have ha : allB digB (negS u) = false := allB_no h0 (by rw [e]; rfl)
  unfold strV
  rw [parV_form ha]
  split <;> rfl
theorem itoa_pos (u : Nat) : (⟨(Lib.itoa (u : Int)).toArray⟩ : ByteArray) = digS u := by
  unfold Lib.itoa digS
  rw [if_neg (by omega)]
  simp
theorem itoa_minus {u : Nat} (h : 1 ≤ u) : (⟨(Lib.itoa (-(u : Int))).toArray⟩ : ByteArray) = negS u := by
  unfold Lib.itoa negS
  rw [if_pos (by omega)]
  simp
theorem digS_le {u : Nat} (h : u < 18446744073709551616) : (digS u).size ≤ 20 := by
  rw [digS_size]
  have key : ∀ (k u : Nat), u < 10 ^ (k + 1) → (Lib.decDigits u).length ≤ k + 1 := fun k => by
    induction k with
    | zero => intro u hu; rw [Lib.decDigits, dif_pos (by simpa using hu)]; simp
    | succ k ih =>
      intro u hu
      by_cases h1 : u < 10
      · rw [Lib.decDigits, dif_pos h1]; simp
      · rw [Lib.decDigits, dif_neg h1]
        have := ih (u / 10) (by rw [Nat.div_lt_iff_lt_mul (by omega)]; rw [Nat.pow_succ] at hu; exact hu)
        simp only [List.length_append, List.length_cons, List.length_nil]
        omega
  exact key 19 u (by omega)

end Go.Proofs.YtpnkdcakhjejnaaDoor
