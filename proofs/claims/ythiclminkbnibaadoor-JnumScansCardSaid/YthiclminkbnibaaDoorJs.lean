/-
  Plain facts on the places of a number's text, phase by phase. No condition.
-/
import Derived.Test.YthiclminkbnibaaDoorJm
import Derived.Test.YthiclminkbnibaaDoorNum
namespace Go.Proofs.YthiclminkbnibaaDoor

theorem scan_fail {p : UInt8 → Bool} {s : ByteArray} : ∀ (n i : Nat), n = s.size - i → (h : scan p s i < s.size) → p s[scan p s i] = false
  | 0, i, e, h => by
    have := scan_ge p s i
    omega
  | n + 1, i, e, h => by
    have hi : i < s.size := by omega
    cases hp : p s[i]
    · have e1 := scan_stop hi hp
      have : s[scan p s i]'h = s[i] := by congr 1
      rw [this]
      exact hp
    · have e1 := scan_step hi hp
      have h2 : scan p s (i + 1) < s.size := by rw [e1]; exact h
      have := scan_fail n (i + 1) (by omega) h2
      have e2 : s[scan p s i]'h = s[scan p s (i + 1)] := by congr 1; exact e1.symm
      rw [e2]
      exact this
/-- How many digits stand from a place on. -/
def dgs (s : ByteArray) (i : Nat) : Nat := scan digB s i - i
theorem dgs_scan (s : ByteArray) (i : Nat) : scan digB s i = i + dgs s i := by
  have := scan_ge digB s i
  unfold dgs
  omega
theorem dgs_le {s : ByteArray} {i : Nat} (h : i ≤ s.size) : i + dgs s i ≤ s.size := by
  rw [← dgs_scan]
  exact scan_le _ _ _ h
theorem dgs_digit {s : ByteArray} {i j : Nat} (h1 : i ≤ j) (h2 : j < i + dgs s i) (hj : j < s.size) : digB s[j] = true :=
  scan_all (j - i) i j (by omega) (by rw [dgs_scan]; exact h2) hj
theorem dgs_fail {s : ByteArray} {i : Nat} (h : i + dgs s i < s.size) : digB s[i + dgs s i] = false := by
  have h' : scan digB s i < s.size := by rw [dgs_scan]; exact h
  have := scan_fail (p := digB) _ i rfl h'
  have e : s[i + dgs s i]'h = s[scan digB s i] := by congr 1; exact (dgs_scan s i).symm
  rw [e]
  exact this
theorem nxt_digit {p : Nat} {b : UInt8} (h : digB b = true) : nxt p b = nxtD p b := by unfold nxt; rw [if_pos h]

/-- Digits leave a place as it is. -/
theorem plc_run {s : ByteArray} {p i : Nat} (hp : ∀ b, nxtD p b = p) (h : plc s i = p) (hi : i ≤ s.size) : ∀ n, n ≤ dgs s i → plc s (i + n) = p
  | 0, _ => h
  | n + 1, hn => by
    have hk := dgs_le hi
    have hlt : i + n < s.size := by omega
    show plc s (i + n + 1) = p
    rw [plc_succ hlt, plc_run hp h hi n (by omega), nxt_digit (dgs_digit (i := i) (by omega) (by omega) hlt), hp]
/-- From a place at which digits are meant to the place behind them. -/
theorem plc_into {s : ByteArray} {p q i : Nat} (hq : ∀ b, nxtD q b = q) (hpq : ∀ b, nxtD p b = q) (h : plc s i = p) (hi : i ≤ s.size) (hd : dgs s i ≠ 0) : plc s (i + dgs s i) = q := by
  have hk := dgs_le hi
  have h1 : plc s (i + 1) = q := by rw [plc_succ (by omega), h, nxt_digit (dgs_digit (Nat.le_refl _) (by omega) (by omega)), hpq]
  have e : dgs s (i + 1) = dgs s i - 1 := by
    have := scan_step (p := digB) (s := s) (i := i) (by omega) (dgs_digit (Nat.le_refl _) (by omega) (by omega))
    unfold dgs
    rw [this]
    omega
  have := plc_run hq h1 (by omega) (dgs s i - 1) (by omega)
  rw [show i + dgs s i = i + 1 + (dgs s i - 1) by omega]
  exact this

theorem isB_end {s : ByteArray} {i : Nat} {v : Bool} (h : i = s.size) (hv : endB (plc s i) = v) : isB s = v := by
  subst h
  exact hv
theorem isB_broken {s : ByteArray} {i : Nat} (hi : i ≤ s.size) (h : plc s i = 0) : isB s = false := by
  unfold isB
  rw [plc_broken h _ hi]
  rfl

/-- Behind the sign, if there is one. -/
def StA (s : ByteArray) (i : Nat) : Prop := i ≤ s.size ∧ (plc s i = 1 ∧ (∀ h : i < s.size, s[i].toNat ≠ 45) ∨ plc s i = 2)
/-- Behind the digits ahead of the point. -/
def StB (s : ByteArray) (i : Nat) : Prop := i ≤ s.size ∧ (plc s i = 3 ∨ plc s i = 4) ∧ (∀ h : i < s.size, digB s[i] = false)
/-- Ahead of the e. -/
def StC (s : ByteArray) (i : Nat) : Prop := i ≤ s.size ∧ ((plc s i = 3 ∨ plc s i = 4) ∧ (∀ h : i < s.size, s[i].toNat ≠ 46) ∨ plc s i = 6) ∧ (∀ h : i < s.size, digB s[i] = false)
/-- Ahead of the digits behind the e. -/
def StD (s : ByteArray) (i : Nat) : Prop := i ≤ s.size ∧ (plc s i = 7 ∧ (∀ h : i < s.size, s[i].toNat ≠ 43 ∧ s[i].toNat ≠ 45) ∨ plc s i = 8)
/-- Where the text ends, or is none. -/
def StE (s : ByteArray) (i : Nat) : Prop := i ≤ s.size ∧ (i = s.size → isB s = true) ∧ (i ≠ s.size → isB s = false)

theorem stA_no {s : ByteArray} (h : ∀ h : 0 < s.size, s[0].toNat ≠ 45) : StA s 0 := ⟨Nat.zero_le _, .inl ⟨rfl, h⟩⟩
theorem stA_yes {s : ByteArray} (h : 0 < s.size) (e : s[0].toNat = 45) : StA s 1 := by
  refine ⟨h, .inr ?_⟩
  have hd : digB s[0] = false := by unfold digB; rw [e]; rfl
  rw [plc_succ h]
  show nxt 1 s[0] = 2
  unfold nxt
  rw [hd, e]
  rfl
theorem stA_none {s : ByteArray} {i : Nat} (h : StA s i) (hd : dgs s i = 0) : isB s = false := by
  obtain ⟨hi, hp⟩ := h
  by_cases e : i = s.size
  · exact isB_end e (by rcases hp with ⟨hp, _⟩ | hp <;> rw [hp] <;> rfl)
  · have hlt : i < s.size := by omega
    have hf : digB s[i] = false := by
      have := dgs_fail (s := s) (i := i) (by omega)
      simpa [hd] using this
    refine isB_broken (i := i + 1) (by omega) ?_
    rw [plc_succ hlt]
    rcases hp with ⟨hp, h45⟩ | hp
    · rw [hp]; unfold nxt; rw [hf]; simp [h45 hlt]
    · rw [hp]; unfold nxt; rw [hf]; simp
theorem nought_place {s : ByteArray} {i : Nat} (h : StA s i) (hlt : i < s.size) (e : s[i].toNat = 48) : plc s (i + 1) = 3 := by
  have hd : digB s[i] = true := by unfold digB; rw [e]; rfl
  rw [plc_succ hlt, nxt_digit hd]
  unfold nxtD
  rcases h.2 with ⟨hp, _⟩ | hp <;> rw [hp, e] <;> rfl
theorem stA_nought {s : ByteArray} {i : Nat} (h : StA s i) (hd : 1 < dgs s i) (hlt : i < s.size) (e : s[i].toNat = 48) : isB s = false := by
  have hk := dgs_le h.1
  refine isB_broken (i := i + 1 + 1) (by omega) ?_
  rw [plc_succ (by omega), nought_place h hlt e, nxt_digit (dgs_digit (i := i) (by omega) (by omega) (by omega))]
  rfl
theorem stA_one {s : ByteArray} {i : Nat} (h : StA s i) (hd : dgs s i = 1) : StB s (i + dgs s i) := by
  have hk := dgs_le h.1
  have hlt : i < s.size := by omega
  have hg : digB s[i] = true := dgs_digit (Nat.le_refl _) (by omega) hlt
  refine ⟨hk, ?_, fun h => dgs_fail h⟩
  rw [hd, plc_succ hlt, nxt_digit hg]
  unfold nxtD
  rcases h.2 with ⟨hp, _⟩ | hp <;> rw [hp] <;> simp <;> omega
theorem stA_many {s : ByteArray} {i : Nat} (h : StA s i) (hd : dgs s i ≠ 0) (hlt : i < s.size) (e : s[i].toNat ≠ 48) : StB s (i + dgs s i) := by
  have hk := dgs_le h.1
  have hg : digB s[i] = true := dgs_digit (Nat.le_refl _) (by omega) hlt
  refine ⟨hk, .inr ?_, fun h => dgs_fail h⟩
  have h1 : plc s (i + 1) = 4 := by
    rw [plc_succ hlt, nxt_digit hg]
    unfold nxtD
    rcases h.2 with ⟨hp, _⟩ | hp <;> rw [hp] <;> simp [e]
  have e : dgs s (i + 1) = dgs s i - 1 := by
    have := scan_step (p := digB) (s := s) (i := i) (by omega) hg
    unfold dgs
    rw [this]
    omega
  have := plc_run (p := 4) (fun b => rfl) h1 (by omega) (dgs s i - 1) (by omega)
  rw [show i + dgs s i = i + 1 + (dgs s i - 1) by omega]
  exact this
theorem stB_no {s : ByteArray} {i : Nat} (h : StB s i) (e : ∀ h : i < s.size, s[i].toNat ≠ 46) : StC s i := ⟨h.1, .inl ⟨h.2.1, e⟩, h.2.2⟩
theorem stB_point {s : ByteArray} {i : Nat} (h : StB s i) (hlt : i < s.size) (e : s[i].toNat = 46) : plc s (i + 1) = 5 := by
  rw [plc_succ hlt]
  unfold nxt
  rw [h.2.2 hlt, e]
  rcases h.2.1 with hp | hp <;> rw [hp] <;> rfl
theorem stB_none {s : ByteArray} {i : Nat} (h : StB s i) (hlt : i < s.size) (e : s[i].toNat = 46) (hd : dgs s (i + 1) = 0) : isB s = false := by
  have hp := stB_point h hlt e
  by_cases e : i + 1 = s.size
  · exact isB_end e (by rw [hp]; rfl)
  · have hf : digB (s[i + 1]'(by omega)) = false := by
      have := dgs_fail (s := s) (i := i + 1) (by omega)
      simpa [hd] using this
    refine isB_broken (i := i + 1 + 1) (by omega) ?_
    rw [plc_succ (by omega), hp]
    unfold nxt
    rw [hf]
    simp
theorem stB_yes {s : ByteArray} {i : Nat} (h : StB s i) (hlt : i < s.size) (e : s[i].toNat = 46) (hd : dgs s (i + 1) ≠ 0) : StC s (i + 1 + dgs s (i + 1)) :=
  ⟨dgs_le hlt, .inr (plc_into (p := 5) (fun _ => rfl) (fun _ => rfl) (stB_point h hlt e) hlt hd), fun h => dgs_fail h⟩
theorem stC_mark {s : ByteArray} {i : Nat} (h : StC s i) (hlt : i < s.size) (e : s[i].toNat = 101 ∨ s[i].toNat = 69) : plc s (i + 1) = 7 := by
  rw [plc_succ hlt]
  unfold nxt
  rw [h.2.2 hlt]
  rcases h.2.1 with ⟨hp | hp, _⟩ | hp <;> rw [hp] <;> rcases e with e | e <;> rw [e] <;> rfl
theorem stC_no {s : ByteArray} {i : Nat} (h : StC s i) (e : ∀ h : i < s.size, s[i].toNat ≠ 101 ∧ s[i].toNat ≠ 69) : StE s i := by
  refine ⟨h.1, fun e => isB_end e ?_, fun e1 => ?_⟩
  · rcases h.2.1 with ⟨hp | hp, _⟩ | hp <;> rw [hp] <;> rfl
  · have hlt : i < s.size := by have := h.1; omega
    refine isB_broken (i := i + 1) hlt ?_
    rw [plc_succ hlt]
    unfold nxt
    rw [h.2.2 hlt]
    obtain ⟨a, b⟩ := e hlt
    rcases h.2.1 with ⟨hp | hp, h46⟩ | hp
    · rw [hp]; simp [a, b, h46 hlt]
    · rw [hp]; simp [a, b, h46 hlt]
    · rw [hp]; simp [a, b]
theorem stD_no {s : ByteArray} {i : Nat} (hi : i ≤ s.size) (h : plc s i = 7) (e : ∀ h : i < s.size, s[i].toNat ≠ 43 ∧ s[i].toNat ≠ 45) : StD s i := ⟨hi, .inl ⟨h, e⟩⟩
theorem stD_yes {s : ByteArray} {i : Nat} (hlt : i < s.size) (h : plc s i = 7) (e : s[i].toNat = 43 ∨ s[i].toNat = 45) : StD s (i + 1) := by
  refine ⟨hlt, .inr ?_⟩
  have hd : digB s[i] = false := by unfold digB; rcases e with e | e <;> rw [e] <;> rfl
  rw [plc_succ hlt, h]
  unfold nxt
  rw [hd]
  rcases e with e | e <;> rw [e] <;> rfl
theorem stD_none {s : ByteArray} {i : Nat} (h : StD s i) (hd : dgs s i = 0) : isB s = false := by
  obtain ⟨hi, hp⟩ := h
  by_cases e : i = s.size
  · exact isB_end e (by rcases hp with ⟨hp, _⟩ | hp <;> rw [hp] <;> rfl)
  · have hlt : i < s.size := by omega
    have hf : digB s[i] = false := by
      have := dgs_fail (s := s) (i := i) (by omega)
      simpa [hd] using this
    refine isB_broken (i := i + 1) (by omega) ?_
    rw [plc_succ hlt]
    rcases hp with ⟨hp, h45⟩ | hp
    · obtain ⟨a, b⟩ := h45 hlt
      rw [hp]; unfold nxt; rw [hf]; simp [a, b]
    · rw [hp]; unfold nxt; rw [hf]; simp
theorem stD_yes_digits {s : ByteArray} {i : Nat} (h : StD s i) (hd : dgs s i ≠ 0) : StE s (i + dgs s i) := by
  obtain ⟨hi, hp⟩ := h
  have h9 : plc s (i + dgs s i) = 9 := by
    rcases hp with ⟨hp, _⟩ | hp
    · exact plc_into (p := 7) (fun _ => rfl) (fun _ => rfl) hp hi hd
    · exact plc_into (p := 8) (fun _ => rfl) (fun _ => rfl) hp hi hd
  refine ⟨dgs_le hi, fun e => isB_end e (by rw [h9]; rfl), fun e => ?_⟩
  have hlt : i + dgs s i < s.size := by have := dgs_le hi; omega
  refine isB_broken (i := i + dgs s i + 1) hlt ?_
  rw [plc_succ hlt, h9]
  unfold nxt
  rw [dgs_fail hlt]
  simp

end Go.Proofs.YthiclminkbnibaaDoor
