/-
  Plain facts on runs of bytes. No condition.
  Plain facts on single bytes, as layer 3 parts them. No condition.
  Plain facts on texts, as layer 3 turns them: small letters, what is cut at the ends. No condition.
-/
import Derived.KernelRfl
import Derived.Laws.Externs
import Derived.Lib.Strings
namespace Go.Proofs.YtagbndkfbnlpoaaGreatDoor

/-- The first place from i on at which p does not hold, or the end. -/
def scan (p : UInt8 → Bool) (s : ByteArray) (i : Nat) : Nat := i + ((s.data.toList.drop i).takeWhile p).length

theorem drop_cons (s : ByteArray) (i : Nat) (h : i < s.size) : s.data.toList.drop i = s[i] :: s.data.toList.drop (i + 1) := by
  rw [List.drop_eq_getElem_cons (by simpa using h)]; rfl
theorem scan_step {p : UInt8 → Bool} {s : ByteArray} {i : Nat} (h : i < s.size) (hp : p s[i] = true) : scan p s (i + 1) = scan p s i := by
  unfold scan
  rw [drop_cons s i h, List.takeWhile_cons, if_pos hp, List.length_cons]
  omega
theorem scan_stop {p : UInt8 → Bool} {s : ByteArray} {i : Nat} (h : i < s.size) (hp : p s[i] = false) : scan p s i = i := by
  unfold scan
  rw [drop_cons s i h, List.takeWhile_cons, if_neg (by simp [hp])]
  simp
theorem scan_end {p : UInt8 → Bool} {s : ByteArray} {i : Nat} (h : i = s.size) : scan p s i = i := by
  unfold scan
  rw [List.drop_of_length_le (by rw [h]; simp)]
  simp
theorem scan_ge (p : UInt8 → Bool) (s : ByteArray) (i : Nat) : i ≤ scan p s i := by unfold scan; omega
theorem scan_le (p : UInt8 → Bool) (s : ByteArray) (i : Nat) (h : i ≤ s.size) : scan p s i ≤ s.size := by
  unfold scan
  have h1 := (List.takeWhile_sublist (l := s.data.toList.drop i) p).length_le
  have h2 : s.data.toList.length = s.size := by simp
  rw [List.length_drop] at h1
  omega

theorem take_snoc (s : ByteArray) (k : Nat) (h : k < s.size) : s.data.toList.take (k + 1) = s.data.toList.take k ++ [s[k]] := by
  rw [List.take_succ_eq_append_getElem (by simpa using h)]; rfl

def lowerB (b : UInt8) : Bool := decide (97 ≤ b.toNat) && decide (b.toNat ≤ 122)

/-- Whether a byte is among some. -/
def hasB (t : ByteArray) (b : UInt8) : Bool := t.data.toList.contains b
theorem hasB_at {t : ByteArray} {b : UInt8} {i : Nat} (h : i < t.size) (e : t[i] = b) : hasB t b = true := by
  unfold hasB
  rw [List.contains_iff_mem]
  subst e
  exact List.getElem_mem (l := t.data.toList) (by simpa using h)
theorem hasB_no {t : ByteArray} {b : UInt8} (h : ∀ i (hi : i < t.size), t[i] ≠ b) : hasB t b = false := by
  unfold hasB
  rw [Bool.eq_false_iff]
  intro hc
  rw [List.contains_iff_mem] at hc
  obtain ⟨i, hi, e⟩ := List.getElem_of_mem hc
  exact h i (by simpa using hi) e

/-- Whether a text begins with another one. -/
def prefB (s p : ByteArray) : Bool := decide (p.size ≤ s.size) && ((s.extract 0 p.size).toList == p.toList)

end Go.Proofs.YtagbndkfbnlpoaaGreatDoor
namespace Go.Proofs.YtagbndkfbnlpoaaGreatDoor

/-- What holds of all 256 bytes, by trying them. -/
theorem bytes_all {p : UInt8 → Bool} (h : (List.range 256).all (fun n => p (UInt8.ofNat n)) = true) (b : UInt8) : p b = true := by
  rw [List.all_eq_true] at h
  have := h b.toNat (List.mem_range.2 b.toNat_lt)
  simpa using this

def lowB (b : UInt8) : UInt8 := if decide (65 ≤ b.toNat) && decide (b.toNat ≤ 90) then UInt8.ofNat (b.toNat + 32) else b
def digB (b : UInt8) : Bool := decide (48 ≤ b.toNat) && decide (b.toNat ≤ 57)
def tabB (b : UInt8) : Bool := b.toNat == 9 || b.toNat == 32
/-- The number of a digit to the base 16, or -1. -/
def hexB (b : UInt8) : Int := if digB b then (b.toNat : Int) - 48 else if decide (97 ≤ (lowB b).toNat) && decide ((lowB b).toNat ≤ 102) then ((lowB b).toNat : Int) - 87 else -1

def hexS : ByteArray := ⟨#[48, 49, 50, 51, 52, 53, 54, 55, 56, 57, 97, 98, 99, 100, 101, 102]⟩
def hexT : ByteArray := ⟨#[48, 49, 50, 51, 52, 53, 54, 55, 56, 57, 65, 66, 67, 68, 69, 70]⟩
theorem hexS_size : hexS.size = 16 := rfl
theorem hexT_size : hexT.size = 16 := rfl
theorem hexB_at {b : UInt8} {k : Nat} (hk : k < 16) (h : (hexS[k]'(by rw [hexS_size]; exact hk)).toNat = b.toNat ∨ (hexT[k]'(by rw [hexT_size]; exact hk)).toNat = b.toNat) : hexB b = k := by
  have := bytes_all (p := fun b => (List.range 16).all fun k => !(hexS[k]!.toNat == b.toNat || hexT[k]!.toNat == b.toNat) || hexB b == (k : Int)) (by kernel_rfl) b
  rw [List.all_eq_true] at this
  have := this k (List.mem_range.2 hk)
  rw [getElem!_pos hexS k (by rw [hexS_size]; exact hk), getElem!_pos hexT k (by rw [hexT_size]; exact hk)] at this
  simp only [Bool.or_eq_true, Bool.not_eq_true', Bool.or_eq_false_iff, beq_eq_false_iff_ne, ne_eq, beq_iff_eq] at this
  rcases this with ⟨h1, h2⟩ | h3
  · rcases h with h | h
    · exact absurd h h1
    · exact absurd h h2
  · exact h3
theorem hexB_no {b : UInt8} (h : ∀ k (hk : k < 16), (hexS[k]'(by rw [hexS_size]; exact hk)).toNat ≠ b.toNat ∧ (hexT[k]'(by rw [hexT_size]; exact hk)).toNat ≠ b.toNat) : hexB b = -1 := by
  have := bytes_all (p := fun b => (List.range 16).any (fun k => hexS[k]!.toNat == b.toNat || hexT[k]!.toNat == b.toNat) || hexB b == -1) (by kernel_rfl) b
  rw [Bool.or_eq_true] at this
  rcases this with h1 | h1
  · rw [List.any_eq_true] at h1
    obtain ⟨k, hk, e⟩ := h1
    have hk := List.mem_range.1 hk
    rw [getElem!_pos hexS k (by rw [hexS_size]; exact hk), getElem!_pos hexT k (by rw [hexT_size]; exact hk)] at e
    simp only [Bool.or_eq_true, beq_iff_eq] at e
    rcases e with e | e
    · exact absurd e (h k hk).1
    · exact absurd e (h k hk).2
  · exact beq_iff_eq.1 h1

theorem hexB_range (b : UInt8) : (-1 ≤ hexB b ∧ hexB b ≤ 15) := by
  have := bytes_all (p := fun b => decide (-1 ≤ hexB b) && decide (hexB b ≤ 15)) (by kernel_rfl) b
  simpa using this

end Go.Proofs.YtagbndkfbnlpoaaGreatDoor
namespace Go.Proofs.YtagbndkfbnlpoaaGreatDoor

/-- Small letters in place of great ones. -/
def lowS (s : ByteArray) : ByteArray := ⟨s.data.map lowB⟩
theorem lowS_size (s : ByteArray) : (lowS s).size = s.size := by
  show (s.data.map lowB).size = s.data.size
  simp
theorem lowS_at (s : ByteArray) (i : Nat) (h : i < s.size) : (lowS s)[i]'(by rw [lowS_size]; exact h) = lowB s[i] := by
  exact Array.getElem_map (f := lowB) (xs := s.data) (i := i) (hi := by simpa using h)

theorem toList_size (a : ByteArray) : a.toList.length = a.size := by
  rw [Lib.toList_data]
  exact (Lib.size_eq a).symm
/-- How many of the first k bytes are left where those that are so are taken from their back. -/
def backN (p : UInt8 → Bool) (s : ByteArray) : Nat → Nat
  | 0 => 0
  | k + 1 => if p s[k]! then backN p s k else k + 1
def cutP (p : UInt8 → Bool) (s : ByteArray) : ByteArray := s.extract 0 (backN p s s.size)
theorem backN_step {p : UInt8 → Bool} {s : ByteArray} {k : Nat} (h : k < s.size) (hp : p s[k] = true) : backN p s (k + 1) = backN p s k := by
  simp only [backN]
  rw [getElem!_pos s k h, if_pos hp]
theorem backN_stop {p : UInt8 → Bool} {s : ByteArray} {k : Nat} (h : k < s.size) (hp : p s[k] = false) : backN p s (k + 1) = k + 1 := by
  simp only [backN]
  rw [getElem!_pos s k h, if_neg (by simp [hp])]
theorem backN_le (p : UInt8 → Bool) (s : ByteArray) : ∀ k, backN p s k ≤ k
  | 0 => Nat.le_refl _
  | k + 1 => by
    have := backN_le p s k
    simp only [backN]
    split <;> omega
theorem backN_at (p : UInt8 → Bool) (s : ByteArray) : ∀ k, backN p s k = 0 ∨ p s[backN p s k - 1]! = false
  | 0 => .inl rfl
  | k + 1 => by
    have := backN_at p s k
    simp only [backN]
    split
    · exact this
    · rename_i h
      right
      simpa using h
theorem extract_at {s : ByteArray} {a b i : Nat} (h : i < (s.extract a b).size) : (s.extract a b)[i]! = s[a + i]! := by
  have h2 : a + i < s.size := by simp at h; omega
  rw [getElem!_pos _ i h, getElem!_pos s _ h2]
  exact ByteArray.getElem_extract h
theorem extract_all (s : ByteArray) : s.extract 0 s.size = s := by simp
theorem cutP_size (p : UInt8 → Bool) (s : ByteArray) : (cutP p s).size = backN p s s.size := by
  have := backN_le p s s.size
  unfold cutP
  simp
  omega
theorem scan_at {p : UInt8 → Bool} {s : ByteArray} {i : Nat} (hi : i ≤ s.size) (h : scan p s i < s.size) : p s[scan p s i] = false := by
  induction hn : s.size - i generalizing i with
  | zero =>
    have : i = s.size := by omega
    have := scan_ge p s i
    omega
  | succ n ih =>
    have hi2 : i < s.size := by omega
    cases hp : p s[i] with
    | true =>
      have e := scan_step hi2 hp
      have h' : scan p s (i + 1) < s.size := by omega
      have := ih (by omega) h' (by omega)
      simp only [e] at this
      exact this
    | false =>
      have e := scan_stop hi2 hp
      simp only [e]
      exact hp

/-- A text without what is so at both ends. -/
def trimP (p : UInt8 → Bool) (s : ByteArray) : ByteArray := cutP p (s.extract (scan p s 0) s.size)
theorem trimP_size (p : UInt8 → Bool) (s : ByteArray) : (trimP p s).size ≤ s.size := by
  have h1 := cutP_size p (s.extract (scan p s 0) s.size)
  have h2 := backN_le p (s.extract (scan p s 0) s.size) (s.extract (scan p s 0) s.size).size
  have h3 : (s.extract (scan p s 0) s.size).size ≤ s.size := by simp
  unfold trimP
  omega
end Go.Proofs.YtagbndkfbnlpoaaGreatDoor
