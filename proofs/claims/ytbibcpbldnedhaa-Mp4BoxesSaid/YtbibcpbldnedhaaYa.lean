/-
  Plain facts on films of boxes: the first box, the names in it, and all boxes. No condition.
-/
import Derived.Test.YtbibcpbldnedhaaWb
namespace Go.Proofs.Ytbibcpbldnedhaa

/-- The number of four bytes at a place, the highest first. -/
def fourB (s : ByteArray) (i : Nat) : Nat := ((s[i]!.toNat * 256 + s[i + 1]!.toNat) * 256 + s[i + 2]!.toNat) * 256 + s[i + 3]!.toNat
theorem fourB_lt (s : ByteArray) (i : Nat) : fourB s i < 4294967296 := by
  have h0 := (s[i]!).toNat_lt
  have h1 := (s[i + 1]!).toNat_lt
  have h2 := (s[i + 2]!).toNat_lt
  have h3 := (s[i + 3]!).toNat_lt
  unfold fourB
  omega
abbrev ftypS : ByteArray := ⟨#[102, 116, 121, 112]⟩
abbrev mp4S : ByteArray := ⟨#[109, 112, 52]⟩
/-- Whether the fourth to the seventh byte say that it is a film. -/
def ftypB (s : ByteArray) : Bool := (s.extract 4 8).toList == ftypS.toList
/-- Whether a film's first box is whole. -/
def filmH (s : ByteArray) : Bool := decide (12 ≤ s.size) && (decide (fourB s 0 ≤ s.size) && (decide (fourB s 0 % 4 = 0) && ftypB s))
theorem filmH_all {s : ByteArray} (h : filmH s = true) : 12 ≤ s.size ∧ fourB s 0 ≤ s.size ∧ fourB s 0 % 4 = 0 ∧ ftypB s = true := by
  unfold filmH at h
  simp only [Bool.and_eq_true, decide_eq_true_eq] at h
  exact h
theorem filmH_yes {s : ByteArray} (h0 : 12 ≤ s.size) (h1 : fourB s 0 ≤ s.size) (h2 : fourB s 0 % 4 = 0) (h3 : ftypB s = true) : filmH s = true := by
  unfold filmH
  simp only [Bool.and_eq_true, decide_eq_true_eq]
  exact ⟨h0, h1, h2, h3⟩
theorem filmH_short {s : ByteArray} (h : ¬12 ≤ s.size) : filmH s = false := by
  unfold filmH
  rw [show decide (12 ≤ s.size) = false from by simpa using h]
  rfl
theorem filmH_far {s : ByteArray} (h : ¬fourB s 0 ≤ s.size) : filmH s = false := by
  unfold filmH
  rw [show decide (fourB s 0 ≤ s.size) = false from by simpa using h]
  simp
theorem filmH_odd {s : ByteArray} (h : ¬fourB s 0 % 4 = 0) : filmH s = false := by
  unfold filmH
  rw [show decide (fourB s 0 % 4 = 0) = false from by simpa using h]
  simp
theorem filmH_else {s : ByteArray} (h0 : 12 ≤ s.size) (h1 : fourB s 0 ≤ s.size) (h2 : fourB s 0 % 4 = 0) : filmH s = ftypB s := by
  unfold filmH
  rw [show decide (12 ≤ s.size) = true from by simpa using h0, show decide (fourB s 0 ≤ s.size) = true from by simpa using h1, show decide (fourB s 0 % 4 = 0) = true from by simpa using h2]
  rfl

/-- How many names a film's first box has. -/
def namN (s : ByteArray) : Nat := if filmH s = true then (if 16 < fourB s 0 then (fourB s 0 - 12) / 4 else 1) else 0
/-- Where a name stands. -/
def namP (j : Nat) : Nat := if j = 0 then 8 else 12 + 4 * j
def namT (s : ByteArray) (j : Nat) : ByteArray := s.extract (namP j) (namP j + 4)
/-- The first k names. -/
def namL (s : ByteArray) : Nat → List ByteArray
  | 0 => []
  | k + 1 => namL s k ++ [namT s k]
theorem namN_none {s : ByteArray} (h : filmH s = false) : namN s = 0 := by
  unfold namN
  rw [h]
  rfl
theorem namN_is {s : ByteArray} (h : filmH s = true) : namN s = if 16 < fourB s 0 then (fourB s 0 - 12) / 4 else 1 := by
  unfold namN
  rw [if_pos h]
theorem namN_pos {s : ByteArray} (h : 0 < namN s) : filmH s = true := by
  cases e : filmH s
  · rw [namN_none e] at h; omega
  · rfl
theorem namN_some {s : ByteArray} (h : filmH s = true) : 1 ≤ namN s := by
  rw [namN_is h]
  split <;> omega
theorem namP_end {s : ByteArray} {j : Nat} (h : j < namN s) : namP j + 4 ≤ s.size := by
  have hf := namN_pos (by omega : 0 < namN s)
  obtain ⟨h0, h1, h2, _⟩ := filmH_all hf
  rw [namN_is hf] at h
  unfold namP
  split
  · omega
  · split at h <;> omega
theorem namP_succ (j : Nat) : namP (j + 1) = 16 + 4 * j := by
  unfold namP
  rw [if_neg (by omega)]
  omega
theorem namT_size {s : ByteArray} {j : Nat} (h : j < namN s) : (namT s j).size = 4 := by
  have := namP_end h
  unfold namT
  simp
  omega
/-- A further name lies below the first box's end, and only such. -/
theorem namN_more {s : ByteArray} (h : filmH s = true) {j : Nat} (hj : 1 ≤ j) : j < namN s ↔ 12 + 4 * j < fourB s 0 := by
  obtain ⟨_, _, h2, _⟩ := filmH_all h
  rw [namN_is h]
  split <;> omega
theorem namN_le (s : ByteArray) : namN s ≤ s.size := by
  cases e : filmH s
  · rw [namN_none e]; omega
  · obtain ⟨h0, h1, h2, _⟩ := filmH_all e
    rw [namN_is e]
    split <;> omega
theorem namL_len (s : ByteArray) : ∀ k, (namL s k).length = k
  | 0 => rfl
  | k + 1 => by rw [namL, List.length_append, namL_len s k]; rfl
theorem namL_at (s : ByteArray) : ∀ (k i : Nat) (h : i < (namL s k).length), (namL s k)[i] = namT s i
  | 0, i, h => absurd h (by simp [namL])
  | k + 1, i, h => by
    have hl := namL_len s k
    by_cases e : i = k
    · subst e
      simp only [namL]
      rw [List.getElem_append_right (by omega)]
      simp [hl]
    · have h2 : i < (namL s k).length := by rw [hl]; rw [namL_len] at h; omega
      have := namL_at s k i h2
      simp only [namL]
      rw [List.getElem_append_left h2]
      exact this

/-- Whether a name begins as it must. -/
def mp4B (x : ByteArray) : Bool := (x.extract 0 3).toList == mp4S.toList
/-- Whether one of the first k names does. -/
def filmA (s : ByteArray) : Nat → Bool
  | 0 => false
  | k + 1 => filmA s k || mp4B (namT s k)
def filmB (s : ByteArray) : Bool := filmA s (namN s)
theorem filmA_on {s : ByteArray} {k : Nat} : ∀ {n : Nat}, k ≤ n → filmA s k = true → filmA s n = true
  | 0, h, e => by rw [show k = 0 from by omega] at e; exact e
  | n + 1, h, e => by
    by_cases hk : k = n + 1
    · rw [← hk]; exact e
    · rw [filmA, filmA_on (n := n) (by omega) e]; rfl
theorem filmB_here {s : ByteArray} {k : Nat} (h : k < namN s) (e : mp4B (namT s k) = true) : filmB s = true :=
  filmA_on (k := k + 1) (by omega) (by rw [filmA, e, Bool.or_true])

theorem four_app {s : ByteArray} (t : ByteArray) {i : Nat} (h : i + 4 ≤ s.size) : fourB (s ++ t) i = fourB s i := by
  unfold fourB
  rw [at_left (by omega), at_left (by omega), at_left (by omega), at_left (by omega)]
theorem cut_app {s : ByteArray} (t : ByteArray) {a b : Nat} (h : b ≤ s.size) : (s ++ t).extract a b = s.extract a b := by
  have h0 : (t.extract (a - s.size) (b - s.size)).size = 0 := by simp; omega
  rw [ByteArray.extract_append, ByteArray.size_eq_zero_iff.1 h0]
  simp
theorem film_app {s : ByteArray} (t : ByteArray) (h : filmH s = true) : filmH (s ++ t) = true := by
  obtain ⟨h0, h1, h2, h3⟩ := filmH_all h
  have e := four_app (s := s) t (i := 0) (by omega)
  refine filmH_yes (by rw [ByteArray.size_append]; omega) (by rw [e, ByteArray.size_append]; omega) (by rw [e]; exact h2) ?_
  unfold ftypB at h3 ⊢
  rw [cut_app t (by omega)]
  exact h3
theorem namN_app {s : ByteArray} (t : ByteArray) (h : filmH s = true) : namN (s ++ t) = namN s := by
  rw [namN_is h, namN_is (film_app t h), four_app t (by have := (filmH_all h).1; omega)]
theorem namT_app {s : ByteArray} (t : ByteArray) {j : Nat} (h : j < namN s) : namT (s ++ t) j = namT s j := cut_app t (namP_end h)
theorem filmA_app {s : ByteArray} (t : ByteArray) : ∀ k, k ≤ namN s → filmA (s ++ t) k = filmA s k
  | 0, _ => rfl
  | k + 1, h => by rw [filmA, filmA, filmA_app t k (by omega), namT_app t (by omega)]
theorem filmB_head {s : ByteArray} (h : filmB s = true) : filmH s = true := by
  cases e : filmH s
  · unfold filmB at h; rw [namN_none e] at h; cases h
  · rfl
/-- What is a film stays one with more behind it. -/
theorem filmB_app {s : ByteArray} (t : ByteArray) (h : filmB s = true) : filmB (s ++ t) = true := by
  have hf := filmB_head h
  unfold filmB at h ⊢
  rw [namN_app t hf, filmA_app t _ (Nat.le_refl _)]
  exact h

/-- Whether a whole box stands ahead. -/
def boxW (s : ByteArray) : Bool := decide (8 ≤ s.size) && (decide (8 ≤ fourB s 0) && decide (fourB s 0 ≤ s.size))
theorem boxW_all {s : ByteArray} (h : boxW s = true) : 8 ≤ s.size ∧ 8 ≤ fourB s 0 ∧ fourB s 0 ≤ s.size := by
  unfold boxW at h
  simp only [Bool.and_eq_true, decide_eq_true_eq] at h
  exact h
theorem boxW_yes {s : ByteArray} (h0 : 8 ≤ s.size) (h1 : 8 ≤ fourB s 0) (h2 : fourB s 0 ≤ s.size) : boxW s = true := by
  unfold boxW
  simp only [Bool.and_eq_true, decide_eq_true_eq]
  exact ⟨h0, h1, h2⟩
theorem boxW_no {s : ByteArray} (h : ¬(8 ≤ s.size ∧ 8 ≤ fourB s 0 ∧ fourB s 0 ≤ s.size)) : boxW s = false := by
  cases e : boxW s
  · rfl
  · exact absurd (boxW_all e) h
/-- A box: its name, and how many bytes it has. -/
structure Bx where
  nm : ByteArray
  n : Nat
/-- All whole boxes ahead, and how many bytes they have; k: how many bytes are looked at, at the most. -/
def boxC : Nat → ByteArray → List Bx × Nat
  | 0, _ => ([], 0)
  | k + 1, s => if boxW s = true then (⟨s.extract 4 8, fourB s 0⟩ :: (boxC k (s.extract (fourB s 0) s.size)).1, fourB s 0 + (boxC k (s.extract (fourB s 0) s.size)).2) else ([], 0)
def boxG (s : ByteArray) : List Bx × Nat := boxC s.size s
theorem boxC_same : ∀ (m n : Nat) (s : ByteArray), s.size ≤ m → s.size ≤ n → boxC m s = boxC n s
  | 0, 0, _, _, _ => rfl
  | 0, n + 1, s, h, _ => by
    have : ¬boxW s = true := fun h2 => by have := boxW_all h2; omega
    rw [boxC, boxC, if_neg this]
  | m + 1, 0, s, _, h => by
    have : ¬boxW s = true := fun h2 => by have := boxW_all h2; omega
    rw [boxC, boxC, if_neg this]
  | m + 1, n + 1, s, h1, h2 => by
    rw [boxC, boxC]
    split
    · rename_i hw
      have := boxW_all hw
      rw [boxC_same m n (s.extract (fourB s 0) s.size) (by simp; omega) (by simp; omega)]
    · rfl
theorem boxG_step {s : ByteArray} (h : boxW s = true) : boxG s = (⟨s.extract 4 8, fourB s 0⟩ :: (boxG (s.extract (fourB s 0) s.size)).1, fourB s 0 + (boxG (s.extract (fourB s 0) s.size)).2) := by
  have hw := boxW_all h
  obtain ⟨k, hk⟩ : ∃ k, s.size = k + 1 := ⟨s.size - 1, by omega⟩
  have e : boxC k (s.extract (fourB s 0) s.size) = boxG (s.extract (fourB s 0) s.size) := boxC_same _ _ _ (by simp; omega) (Nat.le_refl _)
  have e2 : boxG s = boxC (k + 1) s := by unfold boxG; rw [hk]
  rw [e2, boxC, if_pos h, e]
theorem boxG_stop {s : ByteArray} (h : boxW s = false) : boxG s = ([], 0) := by
  unfold boxG
  cases s.size with
  | zero => rfl
  | succ k => rw [boxC, if_neg (by rw [h]; exact Bool.false_ne_true)]

/-- A box of a name and contents. -/
def boxS (nm b : ByteArray) : ByteArray := ⟨#[0, 0, UInt8.ofNat ((8 + b.size) / 256), UInt8.ofNat (8 + b.size)]⟩ ++ nm ++ b
theorem boxS_size (nm b : ByteArray) : (boxS nm b).size = 4 + nm.size + b.size := by
  unfold boxS
  rw [ByteArray.size_append, ByteArray.size_append]
  rfl
theorem box_mem {nm b : ByteArray} (t : ByteArray) (hn : nm.size = 4) (hb : b.size < 65528) : boxG (boxS nm b ++ t) = (⟨nm, 8 + b.size⟩ :: (boxG t).1, 8 + b.size + (boxG t).2) := by
  obtain ⟨H, hH⟩ : ∃ H : ByteArray, H = ⟨#[0, 0, UInt8.ofNat ((8 + b.size) / 256), UInt8.ofNat (8 + b.size)]⟩ := ⟨_, rfl⟩
  have hH4 : H.size = 4 := by rw [hH]; rfl
  have ex : boxS nm b ++ t = H ++ (nm ++ (b ++ t)) := by
    unfold boxS
    rw [← hH]
    simp only [ByteArray.append_assoc]
  have e0 : H[0]! = 0 := by rw [hH]; rfl
  have e1 : H[0 + 1]! = 0 := by rw [hH]; rfl
  have e2 : H[0 + 2]! = UInt8.ofNat ((8 + b.size) / 256) := by rw [hH]; rfl
  have e3 : H[0 + 3]! = UInt8.ofNat (8 + b.size) := by rw [hH]; rfl
  have hf : fourB (boxS nm b ++ t) 0 = 8 + b.size := by
    rw [ex, four_app _ (by omega)]
    unfold fourB
    rw [e0, e1, e2, e3, UInt8.toNat_ofNat', UInt8.toNat_ofNat']
    simp
    omega
  have hsz : (boxS nm b ++ t).size = 8 + b.size + t.size := by
    rw [ByteArray.size_append, boxS_size]; omega
  have hw : boxW (boxS nm b ++ t) = true := boxW_yes (by omega) (by omega) (by omega)
  have hname : (boxS nm b ++ t).extract 4 8 = nm := by
    have h1 : (H ++ nm).extract 4 8 = nm := by
      have := behind H nm
      rw [ByteArray.size_append, hH4, hn] at this
      exact this
    rw [ex, ← ByteArray.append_assoc, cut_app _ (by rw [ByteArray.size_append]; omega), h1]
  have hrest : (boxS nm b ++ t).extract (8 + b.size) (boxS nm b ++ t).size = t := by
    have := behind (boxS nm b) t
    rw [show (boxS nm b).size = 8 + b.size from by rw [boxS_size]; omega] at this
    exact this
  rw [boxG_step hw, hf, hname, hrest]
theorem boxG_cat {m : Nat → ByteArray} (hm : ∀ i, ∃ nm b, m i = boxS nm b ∧ nm.size = 4 ∧ b.size < 65528) : ∀ (k : Nat) (t : ByteArray), (boxG (catM m k ++ t)).1.length = k + (boxG t).1.length ∧ (boxG (catM m k ++ t)).2 = (catM m k).size + (boxG t).2
  | 0, t => by
    have : catM m 0 ++ t = t := ByteArray.empty_append
    rw [this, Nat.zero_add]
    exact ⟨rfl, (Nat.zero_add _).symm⟩
  | k + 1, t => by
    have e : catM m (k + 1) ++ t = catM m k ++ (m k ++ t) := by rw [catM, ByteArray.append_assoc]
    obtain ⟨nm, b, h, h1, h2⟩ := hm k
    have hi := boxG_cat hm k (m k ++ t)
    rw [h, box_mem t h1 h2] at hi
    have hs : (catM m (k + 1)).size = (catM m k).size + (8 + b.size) := by rw [catM, ByteArray.size_append, h, boxS_size]; omega
    rw [e, h, hi.1, hi.2, hs]
    simp only [List.length_cons]
    omega
theorem boxG_none : boxG ⟨#[]⟩ = ([], 0) := rfl
theorem boxG_len : ∀ (n : Nat) (s : ByteArray), s.size ≤ n → (boxG s).1.length ≤ s.size ∧ (boxG s).2 ≤ s.size
  | 0, s, h => by
    rw [boxG_stop (boxW_no (fun hh => by omega))]
    simp
  | n + 1, s, h => by
    cases e : boxW s
    · rw [boxG_stop e]; simp
    · have hw := boxW_all e
      have hl : (s.extract (fourB s 0) s.size).size = s.size - fourB s 0 := by simp
      have := boxG_len n (s.extract (fourB s 0) s.size) (by omega)
      rw [boxG_step e]
      simp only [List.length_cons]
      omega

end Go.Proofs.Ytbibcpbldnedhaa
