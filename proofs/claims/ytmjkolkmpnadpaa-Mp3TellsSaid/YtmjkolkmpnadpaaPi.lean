/-
  Plain facts on sums of numbers that are none but numbers. Condition: bits below 2^64.
-/
import Derived.Test.YtmjkolkmpnadpaaFr
import Derived.Test.YtmjkolkmpnadpaaPa
namespace Go.Proofs.Ytmjkolkmpnadpaa

theorem word_num (s : Bool) (r : Nat) (h : r ≤ Ieee.double.infRung) : nanB (Ieee.double.word s r) = false := by
  rw [f64_inf] at h
  unfold nanB Ieee.Format.word
  rw [f64_sign, decide_eq_false_iff_not]
  split <;> omega
theorem nearest_num (s : Bool) (m : Nat) (i : Int) : nanB (Ieee.double.nearest s m i) = false := by
  unfold Ieee.Format.nearest
  split
  · exact word_num s 0 (Nat.zero_le _)
  · exact word_num s _ (Nat.min_le_right _ _)
/-- A number's bits, which are not those of an infinity. -/
def finB (q : Nat) : Bool := decide (q % 9223372036854775808 < 9218868437227405312)
theorem sum_num {a q : Nat} (ha : a < 18446744073709551616) (hn : nanB a = false) (hq : q < 18446744073709551616) (hf : finB q = true) :
    ∃ r, floatBits .add .f64 a q = some r ∧ r < 18446744073709551616 ∧ nanB r = false := by
  have hf := of_decide_eq_true hf
  have hn := of_decide_eq_false hn
  have key : ∃ d : Ieee.Datum, (Ieee.double.read a).sum (Ieee.double.read q) = some d ∧ nanB (Ieee.double.write d) = false := by
    rw [read_num hq hf]
    by_cases h1 : a % 9223372036854775808 < 9218868437227405312
    · rw [read_num ha h1]
      exact ⟨_, rfl, nearest_num _ _ _⟩
    · rw [read_inf ha (by omega)]
      exact ⟨_, rfl, word_num _ _ (Nat.le_refl _)⟩
  obtain ⟨d, hd, hd2⟩ := key
  have e : floatBits .add .f64 a q = some (Ieee.double.write d) := by
    show ((Ieee.double.read a).sum (Ieee.double.read q)).map Ieee.double.write = _
    rw [hd]
    rfl
  exact ⟨_, e, floatBits_lt e, hd2⟩

/-- The sum of two numbers. -/
def addB (a q : Nat) : Nat := (floatBits .add .f64 a q).getD 0
theorem addB_is {a q : Nat} (ha : a < 18446744073709551616) (hn : nanB a = false) (hq : q < 18446744073709551616) (hf : finB q = true) :
    floatBits .add .f64 a q = some (addB a q) ∧ addB a q < 18446744073709551616 ∧ nanB (addB a q) = false := by
  obtain ⟨r, h1, h2, h3⟩ := sum_num ha hn hq hf
  have e : addB a q = r := by unfold addB; rw [h1]; rfl
  rw [e]
  exact ⟨h1, h2, h3⟩

/-- How long a frame sounds, its samples and its frequency given. -/
def qtB (l q : Nat) : Nat := (floatBits .quo .f64 (floatOfInt .f64 l) (floatOfInt .f64 q)).getD 0
theorem qtB_all : ([1152, 576].all fun l => freL.all fun q => decide (floatBits .quo .f64 (floatOfInt .f64 (l : Nat)) (floatOfInt .f64 (q : Nat)) = some (qtB l q)) && (decide (qtB l q < 18446744073709551616) && finB (qtB l q))) = true := by kernel_rfl
theorem lenN_in (v : Int) : lenN v ∈ [1152, 576] := by unfold lenN; split <;> simp
theorem qtB_is {v : Int} {q : Nat} (hq : q ∈ freL) : floatBits .quo .f64 (floatOfInt .f64 (lenN v : Nat)) (floatOfInt .f64 (q : Nat)) = some (qtB (lenN v) q) ∧ qtB (lenN v) q < 18446744073709551616 ∧ finB (qtB (lenN v) q) = true := by
  have h := List.all_eq_true.1 (List.all_eq_true.1 qtB_all _ (lenN_in v)) q hq
  simp only [Bool.and_eq_true, decide_eq_true_eq] at h
  exact h
theorem hdF_freq {s : ByteArray} (h : hdO s = true) : ∃ q : Nat, (hdF s).freq = q ∧ q ∈ freL := by
  rw [hdF_yes h]
  refine ⟨_, rfl, ?_⟩
  have h3 := (hedB_all (hdO_all h).2.2).2.2.2
  have h4 : (s[2]!).toNat / 4 % 4 < freL.length := h3
  show freN _ ∈ freL
  unfold freN
  rw [List.getD_eq_getElem?_getD, List.getElem?_eq_getElem h4]
  exact List.getElem_mem h4
/-- How long a text's first frame sounds. -/
def sndB (s : ByteArray) : Nat := qtB (lenN (hdF s).ver) (hdF s).freq.toNat
/-- The sum of what the frames of a text sound, on top of a; n: how many bytes are looked at, at the most. -/
def secC : Nat → ByteArray → Nat → Nat
  | 0, _, a => a
  | n + 1, s, a => if nxN s = 0 then a else secC n (s.extract (nxN s) s.size) (addB a (sndB s))
def secG (s : ByteArray) (a : Nat) : Nat := secC s.size s a
theorem secC_same : ∀ (m n : Nat) (s : ByteArray) (a : Nat), s.size ≤ m → s.size ≤ n → secC m s a = secC n s a
  | 0, 0, _, _, _, _ => rfl
  | 0, n + 1, s, a, h, _ => by rw [secC, secC, if_pos (nxN_empty (by omega))]
  | m + 1, 0, s, a, _, h => by rw [secC, secC, if_pos (nxN_empty (by omega))]
  | m + 1, n + 1, s, a, h1, h2 => by
    rw [secC, secC]
    split
    · rfl
    · rename_i h
      have hk := nxN_ge h
      exact secC_same m n _ _ (by simp; omega) (by simp; omega)
theorem secG_step {s : ByteArray} (a : Nat) (h : nxN s ≠ 0) : secG s a = secG (s.extract (nxN s) s.size) (addB a (sndB s)) := by
  have h4 := nxN_ge h
  have h5 := nxN_le s
  obtain ⟨n, hn⟩ : ∃ n, s.size = n + 1 := ⟨s.size - 1, by omega⟩
  have e : secC n (s.extract (nxN s) s.size) (addB a (sndB s)) = secG (s.extract (nxN s) s.size) (addB a (sndB s)) := secC_same _ _ _ _ (by simp; omega) (Nat.le_refl _)
  have e2 : secG s a = secC (n + 1) s a := by unfold secG; rw [hn]
  rw [e2, secC, if_neg h, e]
theorem secG_stop {s : ByteArray} (a : Nat) (h : nxN s = 0) : secG s a = a := by
  unfold secG
  cases e : s.size with
  | zero => rfl
  | succ n => rw [secC, if_pos h]

end Go.Proofs.Ytmjkolkmpnadpaa
