/-
  Plain facts on tables of patterns: which is open, how many bytes lack, and the table of pictures. No condition.
-/
import Derived.Test.YtcoblepgehjamaaMk7
import Derived.Test.YtcoblepgehjamaaByte
import Derived.Lib.Hide
namespace Go.Proofs.Ytcoblepgehjamaa

/-- Two patterns that no text can both begin with, as far as it goes. -/
def clashB (p q : Pat) : Bool := p.k.toList.isEmpty && (q.k.toList.isEmpty && (List.range (min p.b.size q.b.size)).any fun x => p.m[x]! == 255 && (q.m[x]! == 255 && p.b[x]! != q.b[x]!))
theorem and_ff (b : UInt8) : b &&& 255 = b := by
  have := bytes_all (p := fun b => (b &&& 255) == b) (by kernel_rfl) b
  exact beq_iff_eq.1 this
theorem emp_list {k : ByteArray} (h : k.toList.isEmpty = true) : k = ⟨#[]⟩ := by
  have := toList_size k
  rw [List.isEmpty_iff.1 h] at this
  cases k with | mk d => have e : d = #[] := Array.eq_empty_of_size_eq_zero this.symm; rw [e]
theorem rest_none (s : ByteArray) : restS s ⟨#[]⟩ = s := by
  have hb : begN ⟨#[]⟩ s = 0 := by
    cases hs : s.size with
    | zero => have := begN_le ⟨#[]⟩ s; omega
    | succ n => exact begN_at (fun j _ h => absurd h (by omega)) (by omega) rfl
  unfold restS
  rw [hb]
  simp
theorem clash_fit {s : ByteArray} {p q : Pat} (h : clashB p q = true) (hm : matP s p = true) : fitB (restS s q.k) q.b q.m = false := by
  unfold clashB at h
  simp only [Bool.and_eq_true] at h
  obtain ⟨hk1, hk2, h⟩ := h
  obtain ⟨x, hx, h⟩ := List.any_eq_true.1 h
  simp only [Bool.and_eq_true, beq_iff_eq, bne_iff_ne] at h
  obtain ⟨h1, h2, h3⟩ := h
  have hx := List.mem_range.1 hx
  have e1 := emp_list hk1
  have e2 := emp_list hk2
  unfold matP matB at hm
  simp only [Bool.and_eq_true, decide_eq_true_eq] at hm
  obtain ⟨_, hsz, hf⟩ := hm
  rw [e1, rest_none] at hsz hf
  rw [e2, rest_none]
  have := fitB_iff.1 hf x (by omega)
  rw [h1, and_ff] at this
  refine fitB_not (j := x) (by omega) (by omega) ?_
  rw [h2, and_ff, this]
  exact h3
end Go.Proofs.Ytcoblepgehjamaa

