/-
  Plain facts on patterns of bytes, as layer 6 tells them. No condition.
-/
import Derived.Test.YtcoblepgehjamaaTexts
namespace Go.Proofs.Ytcoblepgehjamaa

/-- Whether a pattern is good. -/
def goodP (b m : ByteArray) : Bool := decide (0 < b.size) && (decide (b.size ≤ 64) && decide (m.size = b.size))
/-- How many bytes of sk stand ahead. -/
def begN (sk s : ByteArray) : Nat := scan (hasB sk) s 0
/-- What is behind them. -/
def restS (s sk : ByteArray) : ByteArray := s.extract (begN sk s) s.size
/-- The first n bytes are as they must be. -/
def FitN (r b m : ByteArray) (n : Nat) : Prop := ∀ j, j < n → (r[j]! &&& m[j]!) = b[j]!
def fitB (r b m : ByteArray) : Bool := (List.range (min r.size b.size)).all fun j => (r[j]! &&& m[j]!) == b[j]!
theorem fitB_iff {r b m : ByteArray} : fitB r b m = true ↔ FitN r b m (min r.size b.size) := by
  unfold fitB FitN
  rw [List.all_eq_true]
  constructor
  · intro h j hj
    exact beq_iff_eq.1 (h j (List.mem_range.2 hj))
  · intro h j hj
    exact beq_iff_eq.2 (h j (List.mem_range.1 hj))
theorem fitB_all {r b m : ByteArray} {n : Nat} (h : FitN r b m n) (hn : min r.size b.size ≤ n) : fitB r b m = true := fitB_iff.2 fun j hj => h j (by omega)
theorem fitB_not {r b m : ByteArray} {j : Nat} (h1 : j < r.size) (h2 : j < b.size) (h : (r[j]! &&& m[j]!) ≠ b[j]!) : fitB r b m = false := by
  rw [Bool.eq_false_iff]
  intro hf
  exact h (fitB_iff.1 hf j (by omega))
theorem fitB_bad {r b m : ByteArray} (h : fitB r b m = false) : ∃ j, j < r.size ∧ j < b.size ∧ (r[j]! &&& m[j]!) ≠ b[j]! := by
  apply Classical.byContradiction
  intro hn
  have : fitB r b m = true := fitB_iff.2 fun j hj => Classical.byContradiction fun he => hn ⟨j, by omega, by omega, he⟩
  rw [this] at h
  cases h
theorem FitN.zero (r b m : ByteArray) : FitN r b m 0 := fun j hj => absurd hj (by omega)
theorem FitN.succ {r b m : ByteArray} {n : Nat} (h : FitN r b m n) (e : (r[n]! &&& m[n]!) = b[n]!) : FitN r b m (n + 1) := fun j hj => by
  by_cases hjn : j = n
  · subst hjn; exact e
  · exact h j (by omega)

/-- Whether a text begins with a pattern; whether more bytes could make it so. -/
def matB (s b m sk : ByteArray) : Bool := goodP b m && (decide (b.size ≤ (restS s sk).size) && fitB (restS s sk) b m)
def opnB (s b m sk : ByteArray) : Bool := goodP b m && (decide ((restS s sk).size < b.size) && fitB (restS s sk) b m)

theorem begN_le (sk s : ByteArray) : begN sk s ≤ s.size := scan_le _ _ _ (by omega)
theorem begN_at {sk s : ByteArray} {k : Nat} (h : ∀ j (hj : j < s.size), j < k → hasB sk s[j] = true) (hk : k < s.size) (hn : hasB sk s[k] = false) : begN sk s = k := by
  have step : ∀ i, i ≤ k → scan (hasB sk) s 0 = scan (hasB sk) s i := by
    intro i
    induction i with
    | zero => intro _; rfl
    | succ i ih => intro hi; rw [ih (by omega), scan_step (by omega) (h i (by omega) (by omega))]
  unfold begN
  rw [step k (Nat.le_refl _), scan_stop hk hn]
theorem begN_all {sk s : ByteArray} (h : ∀ j (hj : j < s.size), hasB sk s[j] = true) : begN sk s = s.size := by
  have step : ∀ i, i ≤ s.size → scan (hasB sk) s 0 = scan (hasB sk) s i := by
    intro i
    induction i with
    | zero => intro _; rfl
    | succ i ih => intro hi; rw [ih (by omega), scan_step (by omega) (h i (by omega))]
  unfold begN
  rw [step s.size (Nat.le_refl _), scan_end rfl]
theorem begN_before {sk s : ByteArray} {j : Nat} (hj : j < begN sk s) (hs : j < s.size) : hasB sk s[j] = true := by
  unfold begN scan at hj
  rw [List.drop_zero, Nat.zero_add] at hj
  have h1 := List.all_eq_true.1 (List.all_takeWhile (p := hasB sk) (l := s.data.toList)) _ (List.getElem_mem hj)
  have h2 : (s.data.toList.takeWhile (hasB sk))[j] = s.data.toList[j]'(by simpa using hs) := (List.takeWhile_prefix (hasB sk)).getElem hj
  rw [h2] at h1
  exact h1
theorem begN_stop {sk s : ByteArray} (h : begN sk s < s.size) : hasB sk (s[begN sk s]'h) = false := by
  rw [Bool.eq_false_iff]
  intro ht
  have h1 : scan (hasB sk) s (begN sk s + 1) = scan (hasB sk) s (begN sk s) := scan_step h ht
  have h2 := scan_ge (hasB sk) s (begN sk s + 1)
  have h3 : scan (hasB sk) s (begN sk s) = begN sk s := by
    have step : ∀ i, i ≤ begN sk s → scan (hasB sk) s 0 = scan (hasB sk) s i := by
      intro i
      induction i with
      | zero => intro _; rfl
      | succ i ih => intro hi; rw [ih (by omega), scan_step (by omega) (begN_before (by omega) (by omega))]
    rw [← step (begN sk s) (Nat.le_refl _)]
    rfl
  omega

theorem restS_size (s sk : ByteArray) : (restS s sk).size = s.size - begN sk s := by
  unfold restS
  simp
theorem restS_at {s sk : ByteArray} {j : Nat} (h : j < (restS s sk).size) : (restS s sk)[j]! = s[begN sk s + j]! := by
  unfold restS at h ⊢
  exact extract_at h
theorem app_at {s t : ByteArray} {j : Nat} (h : j < s.size) : (s ++ t)[j]! = s[j]! := by
  rw [getElem!_pos s j h, getElem!_pos (s ++ t) j (by simp; omega)]
  exact ByteArray.getElem_append_left h
theorem begN_more {sk s : ByteArray} (t : ByteArray) (h : begN sk s < s.size) : begN sk (s ++ t) = begN sk s := by
  have hsz : begN sk s < (s ++ t).size := by simp; omega
  have hat : ∀ j (hj : j < s.size), (s ++ t)[j]'(by simp; omega) = s[j] := fun j hj => ByteArray.getElem_append_left hj
  refine begN_at (fun j hj hk => ?_) hsz ?_
  · rw [hat j (by omega)]
    exact begN_before hk (by omega)
  · rw [hat _ h]
    exact begN_stop h
theorem rest_more {sk s t : ByteArray} {j : Nat} (h : j < (restS s sk).size) : (restS (s ++ t) sk)[j]! = (restS s sk)[j]! ∧ j < (restS (s ++ t) sk).size := by
  have h1 : begN sk s < s.size := by rw [restS_size] at h; omega
  have h2 : begN sk s + j < s.size := by rw [restS_size] at h; omega
  have h3 : j < (restS (s ++ t) sk).size := by rw [restS_size, begN_more t h1]; simp; omega
  rw [restS_at h, restS_at h3, begN_more t h1, app_at h2]
  exact ⟨rfl, h3⟩

/-- What matches does so with anything behind. -/
theorem mat_more {s b m sk : ByteArray} (t : ByteArray) (h : matB s b m sk = true) : matB (s ++ t) b m sk = true := by
  unfold matB at h ⊢
  simp only [Bool.and_eq_true, decide_eq_true_eq] at h ⊢
  obtain ⟨hg, hsz, hf⟩ := h
  have hb : 0 < b.size := by unfold goodP at hg; simp only [Bool.and_eq_true, decide_eq_true_eq] at hg; exact hg.1
  have hsz2 : b.size ≤ (restS (s ++ t) sk).size := by
    have := (rest_more (t := t) (j := b.size - 1) (by omega : b.size - 1 < (restS s sk).size)).2
    omega
  refine ⟨hg, hsz2, fitB_iff.2 fun j hj => ?_⟩
  have hj2 : j < (restS s sk).size := by omega
  rw [(rest_more hj2).1]
  exact fitB_iff.1 hf j (by omega)
/-- What neither matches nor is open does not match with anything behind. -/
theorem mat_less {s b m sk : ByteArray} (t : ByteArray) (h1 : matB s b m sk = false) (h2 : opnB s b m sk = false) : matB (s ++ t) b m sk = false := by
  cases hg : goodP b m
  · unfold matB; rw [hg]; rfl
  · have hf : fitB (restS s sk) b m = false := by
      unfold matB at h1
      unfold opnB at h2
      rw [hg] at h1 h2
      cases hf : fitB (restS s sk) b m
      · rfl
      · rw [hf] at h1 h2
        simp at h1 h2
        omega
    obtain ⟨j, j1, j2, j3⟩ := fitB_bad hf
    have hm := rest_more (t := t) j1
    unfold matB
    rw [fitB_not hm.2 j2 (by rw [hm.1]; exact j3)]
    simp
/-- The bits that two bytes have both, bit by bit. -/
theorem and_step (a b : UInt8) (k : Nat) : (a &&& b).toNat % 2 ^ (k + 1) = (a &&& b).toNat % 2 ^ k + (if a.toNat / 2 ^ k % 2 = 1 ∧ b.toNat / 2 ^ k % 2 = 1 then 2 ^ k else 0) := by
  rw [Nat.mod_pow_succ, ← Nat.toNat_testBit, UInt8.toNat_and, Nat.testBit_and, Nat.testBit_eq_decide_div_mod_eq, Nat.testBit_eq_decide_div_mod_eq]
  by_cases h1 : a.toNat / 2 ^ k % 2 = 1 <;> by_cases h2 : b.toNat / 2 ^ k % 2 = 1 <;> simp [h1, h2]
theorem and_all (a b : UInt8) : (a &&& b).toNat % 2 ^ 8 = (a &&& b).toNat := Nat.mod_eq_of_lt (a &&& b).toNat_lt

end Go.Proofs.Ytcoblepgehjamaa

