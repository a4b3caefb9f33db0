/-
  Plain facts on texts, as layer 3 turns them: small letters, what is cut at the ends. No condition.
-/
import Derived.Test.YtmepnfkgfbbkiaaByte
import Derived.Lib.Strings
namespace Go.Proofs.Ytmepnfkgfbbkiaa

/-- Small letters in place of great ones. -/
def lowS (s : ByteArray) : ByteArray := ⟨s.data.map lowB⟩
theorem lowS_size (s : ByteArray) : (lowS s).size = s.size := by
  show (s.data.map lowB).size = s.data.size
  simp
theorem lowS_lowS (s : ByteArray) : lowS (lowS s) = lowS s := by
  unfold lowS
  congr 1
  rw [Array.map_map]
  congr 1
  funext b
  exact lowB_lowB b
theorem lowS_at (s : ByteArray) (i : Nat) (h : i < s.size) : (lowS s)[i]'(by rw [lowS_size]; exact h) = lowB s[i] := by
  exact Array.getElem_map (f := lowB) (xs := s.data) (i := i) (hi := by simpa using h)

/-- Whether two texts are one, in small letters. -/
def sameB (a b : ByteArray) : Bool := (lowS a).toList == (lowS b).toList
theorem toList_size (a : ByteArray) : a.toList.length = a.size := by
  rw [Lib.toList_data]
  exact (Lib.size_eq a).symm
theorem sameB_size {a b : ByteArray} (h : a.size ≠ b.size) : sameB a b = false := by
  unfold sameB
  rw [beq_eq_false_iff_ne]
  intro e
  have := congrArg List.length e
  rw [toList_size, toList_size, lowS_size, lowS_size] at this
  exact h this
theorem sameB_not {a b : ByteArray} {i : Nat} (ha : i < a.size) (hb : i < b.size) (h : lowB a[i] ≠ lowB b[i]) : sameB a b = false := by
  unfold sameB
  rw [beq_eq_false_iff_ne]
  intro e
  rw [Lib.toList_data, Lib.toList_data] at e
  have e2 : lowS a = lowS b := by
    have := Array.toList_inj.1 e
    generalize lowS a = x at *
    generalize lowS b = y at *
    cases x; cases y
    simp at this
    rw [this]
  apply h
  rw [← lowS_at a i ha, ← lowS_at b i hb]
  simp [e2]
theorem sameB_all {a b : ByteArray} (hs : a.size = b.size) (h : ∀ i (ha : i < a.size) (hb : i < b.size), lowB a[i] = lowB b[i]) : sameB a b = true := by
  unfold sameB
  rw [beq_iff_eq]
  have : lowS a = lowS b := by
    unfold lowS
    congr 1
    apply Array.ext
    · simpa using hs
    · intro i h1 h2
      simp only [Array.size_map] at h1 h2
      rw [Array.getElem_map, Array.getElem_map]
      exact h i h1 h2
  rw [this]

/-- Whether a text begins with another one, in small letters. -/
def begB (s p : ByteArray) : Bool := decide (p.size ≤ s.size) && sameB (s.extract 0 p.size) p

/-- How many of the first k bytes are left where those that are so are taken from their back. -/
def backN (p : UInt8 → Bool) (s : ByteArray) : Nat → Nat
  | 0 => 0
  | k + 1 => if p s[k]! then backN p s k else k + 1
def cutP (p : UInt8 → Bool) (s : ByteArray) : ByteArray := s.extract 0 (backN p s s.size)
theorem backN_step {p : UInt8 → Bool} {s : ByteArray} {k : Nat} (h : k < s.size) (hp : p s[k] = true) : backN p s (k + 1) = backN p s k := by
  simp only [backN]
  rw [getElem!_pos s k h, if_pos hp]
theorem backN_stop {p : UInt8 → Bool} {s : ByteArray} {k : Nat} (h : k < s.size) (hp : p s[k] = false) : backN p s (k + 1) = k + 1 := by
  simp only [backN]
  rw [getElem!_pos s k h, if_neg (by simp [hp])]
theorem backN_le (p : UInt8 → Bool) (s : ByteArray) : ∀ k, backN p s k ≤ k
  | 0 => Nat.le_refl _
  | k + 1 => by
    have := backN_le p s k
    simp only [backN]
    split <;> omega
theorem backN_at (p : UInt8 → Bool) (s : ByteArray) : ∀ k, backN p s k = 0 ∨ p s[backN p s k - 1]! = false
  | 0 => .inl rfl
  | k + 1 => by
    have := backN_at p s k
    simp only [backN]
    split
    · exact this
    · rename_i h
      right
      simpa using h
theorem extract_at {s : ByteArray} {a b i : Nat} (h : i < (s.extract a b).size) : (s.extract a b)[i]! = s[a + i]! := by
  have h2 : a + i < s.size := by simp at h; omega
  rw [getElem!_pos _ i h, getElem!_pos s _ h2]
  exact ByteArray.getElem_extract h
theorem extract_all (s : ByteArray) : s.extract 0 s.size = s := by simp
theorem extract_head {s : ByteArray} {m n : Nat} (h : n ≤ m) : (s.extract 0 m).extract 0 n = s.extract 0 n := by
  rw [ByteArray.extract_extract]
  congr 1
  omega
theorem extract_tail {s : ByteArray} {k : Nat} (h : k < s.size) : (s.extract k s.size).extract 1 (s.extract k s.size).size = s.extract (k + 1) s.size := by
  rw [ByteArray.extract_extract]
  congr 1
  simp
  omega
theorem cutP_size (p : UInt8 → Bool) (s : ByteArray) : (cutP p s).size = backN p s s.size := by
  have := backN_le p s s.size
  unfold cutP
  simp
  omega
theorem cutP_at {p : UInt8 → Bool} {t : ByteArray} {i : Nat} (h : i < (cutP p t).size) : (cutP p t)[i]! = t[i]! := by
  have e : (cutP p t)[i]! = t[0 + i]! := extract_at (a := 0) (b := backN p t t.size) h
  rw [e, Nat.zero_add]
theorem cutP_cutP (p : UInt8 → Bool) (s : ByteArray) : cutP p (cutP p s) = cutP p s := by
  have hs := cutP_size p s
  have hl := backN_le p s s.size
  have key : backN p (cutP p s) (cutP p s).size = (cutP p s).size := by
    rcases backN_at p s s.size with h | h
    · rw [hs, h]; rfl
    · by_cases h0 : backN p s s.size = 0
      · rw [hs, h0]; rfl
      · obtain ⟨m, hm⟩ : ∃ m, backN p s s.size = m + 1 := ⟨backN p s s.size - 1, by omega⟩
        rw [hs, hm]
        rw [hm] at h
        have hm1 : m < (cutP p s).size := by omega
        apply backN_stop hm1
        rw [← getElem!_pos (cutP p s) m hm1]
        rw [cutP_at hm1]
        simpa using h
  rw [cutP, key, extract_all]

theorem scan_at {p : UInt8 → Bool} {s : ByteArray} {i : Nat} (hi : i ≤ s.size) (h : scan p s i < s.size) : p s[scan p s i] = false := by
  induction hn : s.size - i generalizing i with
  | zero =>
    have : i = s.size := by omega
    have := scan_ge p s i
    omega
  | succ n ih =>
    have hi2 : i < s.size := by omega
    cases hp : p s[i] with
    | true =>
      have e := scan_step hi2 hp
      have h' : scan p s (i + 1) < s.size := by omega
      have := ih (by omega) h' (by omega)
      simp only [e] at this
      exact this
    | false =>
      have e := scan_stop hi2 hp
      simp only [e]
      exact hp

/-- A text without what is so at both ends. -/
def trimP (p : UInt8 → Bool) (s : ByteArray) : ByteArray := cutP p (s.extract (scan p s 0) s.size)
theorem trimP_size (p : UInt8 → Bool) (s : ByteArray) : (trimP p s).size ≤ s.size := by
  have h1 := cutP_size p (s.extract (scan p s 0) s.size)
  have h2 := backN_le p (s.extract (scan p s 0) s.size) (s.extract (scan p s 0) s.size).size
  have h3 : (s.extract (scan p s 0) s.size).size ≤ s.size := by simp
  unfold trimP
  omega
theorem trimP_trimP (p : UInt8 → Bool) (s : ByteArray) : trimP p (trimP p s) = trimP p s := by
  obtain ⟨t, ht⟩ : ∃ t, t = s.extract (scan p s 0) s.size := ⟨_, rfl⟩
  have hT : trimP p s = cutP p t := by rw [ht]; rfl
  rw [hT]
  have key : scan p (cutP p t) 0 = 0 := by
    by_cases h : 0 < (cutP p t).size
    · apply scan_stop h
      have hl := backN_le p t t.size
      have hs := cutP_size p t
      have h2 : 0 < t.size := by omega
      have h3 : scan p s 0 < s.size := by
        rw [ht] at h2
        simp at h2
        omega
      have e : (cutP p t)[0]! = s[scan p s 0]! := by
        rw [cutP_at h]
        subst ht
        exact extract_at h2
      rw [← getElem!_pos (cutP p t) 0 h, e, getElem!_pos s _ h3]
      exact scan_at (Nat.zero_le _) h3
    · exact scan_end (by omega)
  unfold trimP
  rw [key, extract_all]
  exact cutP_cutP p t

end Go.Proofs.Ytmepnfkgfbbkiaa
