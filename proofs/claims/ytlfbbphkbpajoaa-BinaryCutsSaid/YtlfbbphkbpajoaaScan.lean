/-
  Plain facts on runs of bytes. No condition.
-/

namespace Go.Proofs.Ytlfbbphkbpajoaa

/-- The first place from i on at which p does not hold, or the end. -/
def scan (p : UInt8 → Bool) (s : ByteArray) (i : Nat) : Nat := i + ((s.data.toList.drop i).takeWhile p).length

theorem drop_cons (s : ByteArray) (i : Nat) (h : i < s.size) : s.data.toList.drop i = s[i] :: s.data.toList.drop (i + 1) := by
  rw [List.drop_eq_getElem_cons (by simpa using h)]; rfl
theorem scan_step {p : UInt8 → Bool} {s : ByteArray} {i : Nat} (h : i < s.size) (hp : p s[i] = true) : scan p s (i + 1) = scan p s i := by
  unfold scan
  rw [drop_cons s i h, List.takeWhile_cons, if_pos hp, List.length_cons]
  omega
theorem scan_stop {p : UInt8 → Bool} {s : ByteArray} {i : Nat} (h : i < s.size) (hp : p s[i] = false) : scan p s i = i := by
  unfold scan
  rw [drop_cons s i h, List.takeWhile_cons, if_neg (by simp [hp])]
  simp
theorem scan_end {p : UInt8 → Bool} {s : ByteArray} {i : Nat} (h : i = s.size) : scan p s i = i := by
  unfold scan
  rw [List.drop_of_length_le (by rw [h]; simp)]
  simp
theorem scan_le (p : UInt8 → Bool) (s : ByteArray) (i : Nat) (h : i ≤ s.size) : scan p s i ≤ s.size := by
  unfold scan
  have h1 := (List.takeWhile_sublist (l := s.data.toList.drop i) p).length_le
  have h2 : s.data.toList.length = s.size := by simp
  rw [List.length_drop] at h1
  omega

theorem take_snoc (s : ByteArray) (k : Nat) (h : k < s.size) : s.data.toList.take (k + 1) = s.data.toList.take k ++ [s[k]] := by
  rw [List.take_succ_eq_append_getElem (by simpa using h)]; rfl

/-- Whether a text begins with another one. -/
def prefB (s p : ByteArray) : Bool := decide (p.size ≤ s.size) && ((s.extract 0 p.size).toList == p.toList)

end Go.Proofs.Ytlfbbphkbpajoaa

