/-
  Plain facts on bytes that are no text. No condition.
-/
import Derived.Test.YtlfbbphkbpajoaaTexts
import Derived.Test.YtlfbbphkbpajoaaScan
namespace Go.Proofs.Ytlfbbphkbpajoaa

/-- Whether a byte is binary. -/
def binB (b : UInt8) : Bool := decide (b.toNat ≤ 8) || (decide (b.toNat = 11) || ((decide (14 ≤ b.toNat) && decide (b.toNat ≤ 26)) || (decide (28 ≤ b.toNat) && decide (b.toNat ≤ 31))))
/-- How many of the first k bytes are. -/
def binN (s : ByteArray) (k : Nat) : Nat := ((s.data.toList.take k).filter binB).length
theorem binN_zero (s : ByteArray) : binN s 0 = 0 := rfl
theorem binN_yes {s : ByteArray} {k : Nat} (h : k < s.size) (hb : binB s[k] = true) : binN s (k + 1) = binN s k + 1 := by
  unfold binN
  rw [take_snoc s k h, List.filter_append, List.length_append]
  simp [hb]
theorem binN_no {s : ByteArray} {k : Nat} (h : k < s.size) (hb : binB s[k] = false) : binN s (k + 1) = binN s k := by
  unfold binN
  rw [take_snoc s k h, List.filter_append, List.length_append]
  simp [hb]
theorem binN_le (s : ByteArray) (k : Nat) : binN s k ≤ k := by
  unfold binN
  have h1 := List.length_filter_le binB (s.data.toList.take k)
  have h2 := List.length_take_le k s.data.toList
  omega
/-- Where the first binary byte stands; how many bytes there are, if none is. -/
def binF (s : ByteArray) : Nat := scan (fun b => !binB b) s 0
/-- The mark of the order of bytes. -/
def mkU (a b : UInt8) : Nat := if (a.toNat = 254 ∧ b.toNat = 255) ∨ (a.toNat = 255 ∧ b.toNat = 254) then 2 else 0
def mkT (a b c : UInt8) : Nat := if a.toNat = 239 ∧ b.toNat = 187 ∧ c.toNat = 191 then 3 else mkU a b
def mrkN (s : ByteArray) : Nat := if _h : 2 < s.size then mkT s[0] s[1] s[2] else if _h : 1 < s.size then mkU s[0] s[1] else 0
theorem mrk_three {s : ByteArray} (h : 2 < s.size) : mrkN s = mkT s[0] s[1] s[2] := dif_pos h
theorem mrk_two {s : ByteArray} (h : ¬ 2 < s.size) (h1 : 1 < s.size) : mrkN s = mkU s[0] s[1] := (dif_neg h).trans (dif_pos h1)
theorem mrk_few {s : ByteArray} (h : ¬ 1 < s.size) : mrkN s = 0 := (dif_neg (by omega)).trans (dif_neg h)
/-- The first three bytes, and the first two. -/
theorem ext_three {s : ByteArray} (h : 2 < s.size) : (s.extract 0 3).toList = [s[0], s[1], s[2]] := by
  rw [Lib.toList_data]
  obtain ⟨⟨l⟩⟩ := s
  match l, h with
  | a :: b :: c :: l, _ => simp [ByteArray.extract, ByteArray.copySlice]; exact ⟨rfl, rfl, rfl⟩
theorem ext_two {s : ByteArray} (h : 1 < s.size) : (s.extract 0 2).toList = [s[0], s[1]] := by
  rw [Lib.toList_data]
  obtain ⟨⟨l⟩⟩ := s
  match l, h with
  | a :: b :: l, _ => simp [ByteArray.extract, ByteArray.copySlice]; exact ⟨rfl, rfl⟩
/-- Where a first one stands, it is one. -/
theorem binF_at {s : ByteArray} (h : binF s < s.size) : binB s[binF s] = true := by
  have key : ∀ n k, s.size - k = n → ∀ hk : scan (fun b => !binB b) s k < s.size, k ≤ s.size → binB (s[scan (fun b => !binB b) s k]'hk) = true := by
    intro n
    induction n with
    | zero =>
      intro k hn hk hks
      have := scan_end (p := fun b => !binB b) (s := s) (i := k) (by omega)
      omega
    | succ n ih =>
      intro k hn hk hks
      have hlt : k < s.size := by omega
      cases hb : binB s[k]
      · have e := scan_step (p := fun b => !binB b) hlt (by simp [hb])
        have := ih (k + 1) (by omega) (by rw [e]; exact hk) (by omega)
        simpa [e] using this
      · have e := scan_stop (p := fun b => !binB b) hlt (by simp [hb])
        simpa [e] using hb
  exact key s.size 0 (by omega) h (by omega)
theorem binN_pos {s : ByteArray} (h : binF s < s.size) : 0 < binN s s.size := by
  unfold binN
  rw [List.take_of_length_le (by simp)]
  have hm : s[binF s] ∈ s.data.toList := List.getElem_mem (l := s.data.toList) (by simpa using h)
  exact List.length_pos_of_mem (List.mem_filter.2 ⟨hm, binF_at h⟩)

end Go.Proofs.Ytlfbbphkbpajoaa
