/-
  Plain facts on members that stand one behind the other. No condition.
-/
import Derived.Test.YtcoblepgehjamaaIa
namespace Go.Proofs.Ytcoblepgehjamaa

/-- The number of two bytes at a place, the lowest first. -/
def twoB (s : ByteArray) (i : Nat) : Nat := s[i]!.toNat + 256 * s[i + 1]!.toNat
/-- Whether a member's head stands ahead. -/
def memH (s : ByteArray) : Bool := decide (30 ≤ s.size) && (s[0]! == 80 && (s[1]! == 75 && (s[2]! == 3 && s[3]! == 4)))
/-- How many bytes the member has whose head stands ahead. -/
def memK (s : ByteArray) : Nat := 30 + twoB s 26 + twoB s 28 + twoB s 18 + 65536 * twoB s 20
/-- How many members stand ahead, and whether nothing stands behind them; n: how many bytes are looked at, at the most. -/
def memC : Nat → ByteArray → Nat × Bool
  | 0, s => (0, s.size == 0)
  | n + 1, s => if memH s = true ∧ memK s ≤ s.size then ((memC n (s.extract (memK s) s.size)).1 + 1, (memC n (s.extract (memK s) s.size)).2) else (0, s.size == 0)
def memG (s : ByteArray) : Nat × Bool := memC s.size s

theorem memH_size {s : ByteArray} (h : memH s = true) : 30 ≤ s.size := by
  unfold memH at h
  simp only [Bool.and_eq_true, decide_eq_true_eq] at h
  exact h.1
theorem memK_ge (s : ByteArray) : 30 ≤ memK s := by unfold memK; omega
theorem memC_same : ∀ (m n : Nat) (s : ByteArray), s.size ≤ m → s.size ≤ n → memC m s = memC n s
  | 0, 0, _, _, _ => rfl
  | 0, n + 1, s, h, _ => by
    have : ¬(memH s = true ∧ memK s ≤ s.size) := fun h2 => by have := memK_ge s; omega
    rw [memC, memC, if_neg this]
  | m + 1, 0, s, _, h => by
    have : ¬(memH s = true ∧ memK s ≤ s.size) := fun h2 => by have := memK_ge s; omega
    rw [memC, memC, if_neg this]
  | m + 1, n + 1, s, h1, h2 => by
    have hk := memK_ge s
    rw [memC, memC]
    split
    · have := memC_same m n (s.extract (memK s) s.size) (by simp; omega) (by simp; omega)
      rw [this]
    · rfl
theorem memG_step {s : ByteArray} (h : memH s = true) (hk : memK s ≤ s.size) : memG s = ((memG (s.extract (memK s) s.size)).1 + 1, (memG (s.extract (memK s) s.size)).2) := by
  have h30 := memH_size h
  have hk0 := memK_ge s
  obtain ⟨n, hn⟩ : ∃ n, s.size = n + 1 := ⟨s.size - 1, by omega⟩
  have e : memC n (s.extract (memK s) s.size) = memG (s.extract (memK s) s.size) := memC_same _ _ _ (by simp; omega) (Nat.le_refl _)
  have e2 : memG s = memC (n + 1) s := by unfold memG; rw [hn]
  rw [e2, memC, if_pos ⟨h, hk⟩, e]
theorem memG_stop {s : ByteArray} (h : ¬(memH s = true ∧ memK s ≤ s.size)) : memG s = (0, s.size == 0) := by
  unfold memG
  cases e : s.size with
  | zero => rw [memC, e]
  | succ n =>
    rw [memC, if_neg, e]
    exact h

/-- The head of a member. -/
def hedS (a b c d : UInt8) : ByteArray := ⟨#[80, 75, 3, 4, 0, 0, 0, 0, 0, 0, 0, 0, 0, 0, 0, 0, 0, 0, a, b, 0, 0, 0, 0, 0, 0, c, 0, d, 0]⟩
theorem hedS_size (a b c d : UInt8) : (hedS a b c d).size = 30 := rfl
theorem at_left {x y : ByteArray} {i : Nat} (h : i < x.size) : (x ++ y)[i]! = x[i]! := by
  have h2 : i < (x ++ y).size := by rw [ByteArray.size_append]; omega
  rw [getElem!_pos (x ++ y) i h2, getElem!_pos x i h]
  exact ByteArray.getElem_append_left h
theorem behind (x y : ByteArray) : (x ++ y).extract x.size (x ++ y).size = y := by
  have h : (x.extract x.size (x.size + y.size)).size = 0 := by simp
  have h0 : x.extract x.size (x.size + y.size) = ByteArray.empty := ByteArray.size_eq_zero_iff.1 h
  rw [ByteArray.size_append, ByteArray.extract_append, h0]
  simp
theorem memH_hed (a b c d : UInt8) (t : ByteArray) : memH (hedS a b c d ++ t) = true := by
  unfold memH
  rw [at_left (by rw [hedS_size]; decide), at_left (by rw [hedS_size]; decide), at_left (by rw [hedS_size]; decide), at_left (by rw [hedS_size]; decide), ByteArray.size_append, hedS_size]
  have h1 : decide (30 ≤ 30 + t.size) = true := by simp
  rw [h1]
  rfl
theorem memK_hed (a b c d : UInt8) (t : ByteArray) : memK (hedS a b c d ++ t) = 30 + c.toNat + d.toNat + (a.toNat + 256 * b.toNat) := by
  have h : ∀ i, i < 30 → (hedS a b c d ++ t)[i]! = (hedS a b c d)[i]! := fun i hi => at_left (by rw [hedS_size]; exact hi)
  unfold memK twoB
  rw [h 26 (by decide), h (26 + 1) (by decide), h 28 (by decide), h (28 + 1) (by decide), h 18 (by decide), h (18 + 1) (by decide), h 20 (by decide), h (20 + 1) (by decide)]
  have e26 : (hedS a b c d)[26]! = c := rfl
  have e27 : (hedS a b c d)[26 + 1]! = 0 := rfl
  have e28 : (hedS a b c d)[28]! = d := rfl
  have e29 : (hedS a b c d)[28 + 1]! = 0 := rfl
  have e18 : (hedS a b c d)[18]! = a := rfl
  have e19 : (hedS a b c d)[18 + 1]! = b := rfl
  have e20 : (hedS a b c d)[20]! = 0 := rfl
  have e21 : (hedS a b c d)[20 + 1]! = 0 := rfl
  rw [e26, e27, e28, e29, e18, e19, e20, e21]
  simp
/-- A member of a name, a rest and contents. -/
def memS (x y z : ByteArray) : ByteArray := hedS (UInt8.ofNat z.size) (UInt8.ofNat (z.size / 256)) (UInt8.ofNat x.size) (UInt8.ofNat y.size) ++ x ++ y ++ z
theorem memS_size (x y z : ByteArray) : (memS x y z).size = 30 + x.size + y.size + z.size := by
  unfold memS
  rw [ByteArray.size_append, ByteArray.size_append, ByteArray.size_append, hedS_size]
theorem memG_mem {x y z : ByteArray} (t : ByteArray) (hx : x.size < 256) (hy : y.size < 256) (hz : z.size < 65536) : memG (memS x y z ++ t) = ((memG t).1 + 1, (memG t).2) := by
  have ex : memS x y z ++ t = hedS (UInt8.ofNat z.size) (UInt8.ofNat (z.size / 256)) (UInt8.ofNat x.size) (UInt8.ofNat y.size) ++ (x ++ (y ++ (z ++ t))) := by
    unfold memS
    simp only [ByteArray.append_assoc]
  have hh : memH (memS x y z ++ t) = true := by rw [ex]; exact memH_hed _ _ _ _ _
  have hk : memK (memS x y z ++ t) = (memS x y z).size := by
    rw [ex, memK_hed, memS_size, UInt8.toNat_ofNat', UInt8.toNat_ofNat', UInt8.toNat_ofNat', UInt8.toNat_ofNat']
    omega
  rw [memG_step hh (by rw [hk, ByteArray.size_append]; omega), hk, behind]
/-- The first k members, one behind the other. -/
def catM (m : Nat → ByteArray) : Nat → ByteArray
  | 0 => ⟨#[]⟩
  | k + 1 => catM m k ++ m k
theorem memG_cat {m : Nat → ByteArray} (hm : ∀ i, ∃ x y z, m i = memS x y z ∧ x.size < 256 ∧ y.size < 256 ∧ z.size < 65536) : ∀ (k : Nat) (t : ByteArray), memG (catM m k ++ t) = ((memG t).1 + k, (memG t).2)
  | 0, t => by
    have : catM m 0 ++ t = t := ByteArray.empty_append
    rw [this]
    rfl
  | k + 1, t => by
    have e : catM m (k + 1) ++ t = catM m k ++ (m k ++ t) := by rw [catM, ByteArray.append_assoc]
    obtain ⟨x, y, z, h, h1, h2, h3⟩ := hm k
    rw [e, memG_cat hm k, h, memG_mem t h1 h2 h3]
    refine Prod.ext ?_ rfl
    show (memG t).1 + 1 + k = (memG t).1 + (k + 1)
    omega
theorem memG_none : memG ⟨#[]⟩ = (0, true) := by kernel_rfl
theorem memG_x : memG ⟨#[120]⟩ = (0, false) := by kernel_rfl

end Go.Proofs.Ytcoblepgehjamaa

