/-
  Plain facts on runs of bytes. No condition.
  Plain facts on single bytes, as layer 3 parts them. No condition.
  Plain facts on texts, as layer 3 turns them: small letters, what is cut at the ends. No condition.
-/
import Derived.KernelRfl
import Derived.Laws.Externs
import Derived.Lib.Strings
namespace Go.Proofs.YtkdjjlfpaciohaaGreatDoor

/-- The first place from i on at which p does not hold, or the end. -/
def scan (p : UInt8 → Bool) (s : ByteArray) (i : Nat) : Nat := i + ((s.data.toList.drop i).takeWhile p).length

theorem drop_cons (s : ByteArray) (i : Nat) (h : i < s.size) : s.data.toList.drop i = s[i] :: s.data.toList.drop (i + 1) := by
  rw [List.drop_eq_getElem_cons (by simpa using h)]; rfl
theorem scan_step {p : UInt8 → Bool} {s : ByteArray} {i : Nat} (h : i < s.size) (hp : p s[i] = true) : scan p s (i + 1) = scan p s i := by
  unfold scan
  rw [drop_cons s i h, List.takeWhile_cons, if_pos hp, List.length_cons]
  omega
theorem scan_stop {p : UInt8 → Bool} {s : ByteArray} {i : Nat} (h : i < s.size) (hp : p s[i] = false) : scan p s i = i := by
  unfold scan
  rw [drop_cons s i h, List.takeWhile_cons, if_neg (by simp [hp])]
  simp
theorem scan_end {p : UInt8 → Bool} {s : ByteArray} {i : Nat} (h : i = s.size) : scan p s i = i := by
  unfold scan
  rw [List.drop_of_length_le (by rw [h]; simp)]
  simp
theorem scan_ge (p : UInt8 → Bool) (s : ByteArray) (i : Nat) : i ≤ scan p s i := by unfold scan; omega
theorem scan_le (p : UInt8 → Bool) (s : ByteArray) (i : Nat) (h : i ≤ s.size) : scan p s i ≤ s.size := by
  unfold scan
  have h1 := (List.takeWhile_sublist (l := s.data.toList.drop i) p).length_le
  have h2 : s.data.toList.length = s.size := by simp
  rw [List.length_drop] at h1
  omega

theorem take_snoc (s : ByteArray) (k : Nat) (h : k < s.size) : s.data.toList.take (k + 1) = s.data.toList.take k ++ [s[k]] := by
  rw [List.take_succ_eq_append_getElem (by simpa using h)]; rfl

def lowerB (b : UInt8) : Bool := decide (97 ≤ b.toNat) && decide (b.toNat ≤ 122)

/-- Whether a byte is among some. -/
def hasB (t : ByteArray) (b : UInt8) : Bool := t.data.toList.contains b
theorem hasB_at {t : ByteArray} {b : UInt8} {i : Nat} (h : i < t.size) (e : t[i] = b) : hasB t b = true := by
  unfold hasB
  rw [List.contains_iff_mem]
  subst e
  exact List.getElem_mem (l := t.data.toList) (by simpa using h)
theorem hasB_no {t : ByteArray} {b : UInt8} (h : ∀ i (hi : i < t.size), t[i] ≠ b) : hasB t b = false := by
  unfold hasB
  rw [Bool.eq_false_iff]
  intro hc
  rw [List.contains_iff_mem] at hc
  obtain ⟨i, hi, e⟩ := List.getElem_of_mem hc
  exact h i (by simpa using hi) e

/-- Whether a text begins with another one. -/
def prefB (s p : ByteArray) : Bool := decide (p.size ≤ s.size) && ((s.extract 0 p.size).toList == p.toList)

end Go.Proofs.YtkdjjlfpaciohaaGreatDoor
namespace Go.Proofs.YtkdjjlfpaciohaaGreatDoor

/-- What holds of all 256 bytes, by trying them. -/
theorem bytes_all {p : UInt8 → Bool} (h : (List.range 256).all (fun n => p (UInt8.ofNat n)) = true) (b : UInt8) : p b = true := by
  rw [List.all_eq_true] at h
  have := h b.toNat (List.mem_range.2 b.toNat_lt)
  simpa using this

def lowB (b : UInt8) : UInt8 := if decide (65 ≤ b.toNat) && decide (b.toNat ≤ 90) then UInt8.ofNat (b.toNat + 32) else b
def letB (b : UInt8) : Bool := lowerB (lowB b)
end Go.Proofs.YtkdjjlfpaciohaaGreatDoor
namespace Go.Proofs.YtkdjjlfpaciohaaGreatDoor

/-- Small letters in place of great ones. -/
def lowS (s : ByteArray) : ByteArray := ⟨s.data.map lowB⟩
theorem lowS_size (s : ByteArray) : (lowS s).size = s.size := by
  show (s.data.map lowB).size = s.data.size
  simp
theorem lowS_at (s : ByteArray) (i : Nat) (h : i < s.size) : (lowS s)[i]'(by rw [lowS_size]; exact h) = lowB s[i] := by
  exact Array.getElem_map (f := lowB) (xs := s.data) (i := i) (hi := by simpa using h)

theorem toList_size (a : ByteArray) : a.toList.length = a.size := by
  rw [Lib.toList_data]
  exact (Lib.size_eq a).symm
theorem extract_at {s : ByteArray} {a b i : Nat} (h : i < (s.extract a b).size) : (s.extract a b)[i]! = s[a + i]! := by
  have h2 : a + i < s.size := by simp at h; omega
  rw [getElem!_pos _ i h, getElem!_pos s _ h2]
  exact ByteArray.getElem_extract h
end Go.Proofs.YtkdjjlfpaciohaaGreatDoor
