/-
  Plain facts on tables of patterns: which is open, how many bytes lack, and the table of pictures. No condition.
-/
import Derived.Test.YtnidokhlhgkjcaaMk7
import Derived.Test.YtnidokhlhgkjcaaByte
import Derived.Lib.Hide
namespace Go.Proofs.Ytnidokhlhgkjcaa

def opnP (s : ByteArray) (p : Pat) : Bool := opnB s p.b p.m p.k
/-- How many bytes a pattern lacks. -/
def lackN (s : ByteArray) (p : Pat) : Nat := p.b.size - (restS s p.k).size
/-- The least that one of the first k lacks which is open; 0: none is. -/
def lowN (s : ByteArray) (ps : Nat → Pat) : Nat → Nat
  | 0 => 0
  | k + 1 => if opnP s (ps k) = true ∧ (lowN s ps k = 0 ∨ lackN s (ps k) < lowN s ps k) then lackN s (ps k) else lowN s ps k
/-- How many bytes more must come, where r is the first that matches. -/
def needN (s : ByteArray) (ps : Nat → Pat) (n : Nat) (r : Int) : Nat := if 0 ≤ r then 0 else lowN s ps n
def mostN (ps : Nat → Pat) : Nat → Nat
  | 0 => 0
  | k + 1 => max (mostN ps k) (ps k).b.size

theorem opn_lack {s : ByteArray} {p : Pat} (h : opnP s p = true) : 0 < lackN s p := by
  unfold opnP opnB at h
  simp only [Bool.and_eq_true, decide_eq_true_eq] at h
  unfold lackN
  omega
theorem low_le {s : ByteArray} {ps : Nat → Pat} {j : Nat} (h : opnP s (ps j) = true) : ∀ k, j < k → 0 < lowN s ps k ∧ lowN s ps k ≤ lackN s (ps j)
  | 0, hk => absurd hk (by omega)
  | k + 1, hk => by
    have hp := opn_lack h
    rw [lowN]
    by_cases e : j = k
    · subst e
      by_cases h2 : lowN s ps j = 0 ∨ lackN s (ps j) < lowN s ps j
      · rw [if_pos ⟨h, h2⟩]; omega
      · rw [if_neg (fun x => h2 x.2)]; omega
    · have := low_le h k (by omega)
      split
      · rename_i h1
        have := opn_lack h1.1
        omega
      · exact this
theorem low_from {s : ByteArray} {ps : Nat → Pat} : ∀ {k : Nat}, lowN s ps k ≠ 0 → ∃ j, j < k ∧ opnP s (ps j) = true ∧ lowN s ps k = lackN s (ps j)
  | 0, h => absurd rfl h
  | k + 1, h => by
    rw [lowN] at h ⊢
    split
    · rename_i h1
      exact ⟨k, by omega, h1.1, rfl⟩
    · rename_i h1
      rw [if_neg h1] at h
      obtain ⟨j, h2, h3, h4⟩ := low_from h
      exact ⟨j, by omega, h3, h4⟩
theorem low_none {s : ByteArray} {ps : Nat → Pat} {k j : Nat} (h : lowN s ps k = 0) (hj : j < k) : opnP s (ps j) = false := by
  cases e : opnP s (ps j)
  · rfl
  · have := low_le e k hj
    omega
theorem lack_le (s : ByteArray) (p : Pat) (h : opnP s p = true) (hk : p.k = ⟨#[]⟩) : lackN s p = p.b.size - s.size ∧ s.size < p.b.size := by
  have hb : begN p.k s = 0 := by
    rw [hk]
    cases hs : s.size with
    | zero => have := begN_le ⟨#[]⟩ s; omega
    | succ n => exact begN_at (fun j _ h => absurd h (by omega)) (by omega) rfl
  unfold opnP opnB at h
  simp only [Bool.and_eq_true, decide_eq_true_eq] at h
  unfold lackN
  have := restS_size s p.k
  omega

/-- Two patterns that no text can both begin with, as far as it goes. -/
def clashB (p q : Pat) : Bool := p.k.toList.isEmpty && (q.k.toList.isEmpty && (List.range (min p.b.size q.b.size)).any fun x => p.m[x]! == 255 && (q.m[x]! == 255 && p.b[x]! != q.b[x]!))
theorem and_ff (b : UInt8) : b &&& 255 = b := by
  have := bytes_all (p := fun b => (b &&& 255) == b) (by kernel_rfl) b
  exact beq_iff_eq.1 this
theorem emp_list {k : ByteArray} (h : k.toList.isEmpty = true) : k = ⟨#[]⟩ := by
  have := toList_size k
  rw [List.isEmpty_iff.1 h] at this
  cases k with | mk d => have e : d = #[] := Array.eq_empty_of_size_eq_zero this.symm; rw [e]
theorem rest_none (s : ByteArray) : restS s ⟨#[]⟩ = s := by
  have hb : begN ⟨#[]⟩ s = 0 := by
    cases hs : s.size with
    | zero => have := begN_le ⟨#[]⟩ s; omega
    | succ n => exact begN_at (fun j _ h => absurd h (by omega)) (by omega) rfl
  unfold restS
  rw [hb]
  simp
theorem clash_fit {s : ByteArray} {p q : Pat} (h : clashB p q = true) (hm : matP s p = true) : fitB (restS s q.k) q.b q.m = false := by
  unfold clashB at h
  simp only [Bool.and_eq_true] at h
  obtain ⟨hk1, hk2, h⟩ := h
  obtain ⟨x, hx, h⟩ := List.any_eq_true.1 h
  simp only [Bool.and_eq_true, beq_iff_eq, bne_iff_ne] at h
  obtain ⟨h1, h2, h3⟩ := h
  have hx := List.mem_range.1 hx
  have e1 := emp_list hk1
  have e2 := emp_list hk2
  unfold matP matB at hm
  simp only [Bool.and_eq_true, decide_eq_true_eq] at hm
  obtain ⟨_, hsz, hf⟩ := hm
  rw [e1, rest_none] at hsz hf
  rw [e2, rest_none]
  have := fitB_iff.1 hf x (by omega)
  rw [h1, and_ff] at this
  refine fitB_not (j := x) (by omega) (by omega) ?_
  rw [h2, and_ff, this]
  exact h3
/-- In a table of patterns that clash by twos, one alone matches, and none is open then. -/
theorem clash_others {s : ByteArray} {ps : Nat → Pat} {n i : Nat} (hc : ∀ i j, i < n → j < n → i ≠ j → clashB (ps i) (ps j) = true) (hi : i < n) (hm : matP s (ps i) = true) {j : Nat} (hj : j < n) (hne : j ≠ i) : matP s (ps j) = false ∧ opnP s (ps j) = false := by
  have := clash_fit (hc i j hi hj (fun h => hne h.symm)) hm
  unfold matP matB opnP opnB
  rw [this]
  simp
theorem clash_first {s : ByteArray} {ps : Nat → Pat} {n i : Nat} (hc : ∀ i j, i < n → j < n → i ≠ j → clashB (ps i) (ps j) = true) (hi : i < n) (hm : matP s (ps i) = true) : IsFirst s ps n (i : Int) :=
  .inr ⟨i, hi, rfl, hm, fun _ hj => (clash_others hc hi hm (by omega) (by omega)).1⟩
/-- More bytes change nothing, where nothing is open. -/
theorem grow_closed {s t : ByteArray} {ps : Nat → Pat} {n : Nat} {r r' : Int} (hc : ∀ i j, i < n → j < n → i ≠ j → clashB (ps i) (ps j) = true) (h : IsFirst s ps n r) (h' : IsFirst (s ++ t) ps n r') (h0 : needN s ps n r = 0) : r' = r := by
  rcases h with ⟨rfl, hno⟩ | ⟨k, hk, rfl, hm, _⟩
  · unfold needN at h0
    rw [if_neg (by omega)] at h0
    exact h'.no fun j hj => mat_less t (hno j hj) (low_none h0 hj)
  · exact h'.at_ hk (mat_more t hm) fun j hj => (clash_others hc hk (mat_more t hm : matP (s ++ t) (ps k) = true) (by omega) (by omega)).1
/-- The patterns of pictures. -/
def imgP : Nat → Pat
  | 0 => ⟨⟨#[0, 0, 1, 0]⟩, ⟨#[255, 255, 255, 255]⟩, ⟨#[]⟩, ⟨#[105, 109, 97, 103, 101, 47, 120, 45, 105, 99, 111, 110]⟩⟩
  | 1 => ⟨⟨#[0, 0, 2, 0]⟩, ⟨#[255, 255, 255, 255]⟩, ⟨#[]⟩, ⟨#[105, 109, 97, 103, 101, 47, 120, 45, 105, 99, 111, 110]⟩⟩
  | 2 => ⟨⟨#[66, 77]⟩, ⟨#[255, 255]⟩, ⟨#[]⟩, ⟨#[105, 109, 97, 103, 101, 47, 98, 109, 112]⟩⟩
  | 3 => ⟨⟨#[71, 73, 70, 56, 55, 97]⟩, ⟨#[255, 255, 255, 255, 255, 255]⟩, ⟨#[]⟩, ⟨#[105, 109, 97, 103, 101, 47, 103, 105, 102]⟩⟩
  | 4 => ⟨⟨#[71, 73, 70, 56, 57, 97]⟩, ⟨#[255, 255, 255, 255, 255, 255]⟩, ⟨#[]⟩, ⟨#[105, 109, 97, 103, 101, 47, 103, 105, 102]⟩⟩
  | 5 => ⟨⟨#[82, 73, 70, 70, 0, 0, 0, 0, 87, 69, 66, 80, 86, 80]⟩, ⟨#[255, 255, 255, 255, 0, 0, 0, 0, 255, 255, 255, 255, 255, 255]⟩, ⟨#[]⟩, ⟨#[105, 109, 97, 103, 101, 47, 119, 101, 98, 112]⟩⟩
  | 6 => ⟨⟨#[137, 80, 78, 71, 13, 10, 26, 10]⟩, ⟨#[255, 255, 255, 255, 255, 255, 255, 255]⟩, ⟨#[]⟩, ⟨#[105, 109, 97, 103, 101, 47, 112, 110, 103]⟩⟩
  | 7 => ⟨⟨#[255, 216, 255]⟩, ⟨#[255, 255, 255]⟩, ⟨#[]⟩, ⟨#[105, 109, 97, 103, 101, 47, 106, 112, 101, 103]⟩⟩
  | _ => ⟨⟨#[]⟩, ⟨#[]⟩, ⟨#[]⟩, ⟨#[]⟩⟩
theorem below8 {p : Nat → Bool} (h : (List.range 8).all p = true) {i : Nat} (hi : i < 8) : p i = true := List.all_eq_true.1 h i (List.mem_range.2 hi)
theorem img_good {i : Nat} (h : i < 8) : goodP (imgP i).b (imgP i).m = true := below8 (p := fun i => goodP (imgP i).b (imgP i).m) (by kernel_rfl) h
theorem img_small {i : Nat} (h : i < 8) : (imgP i).b.size ≤ 14 ∧ (imgP i).m.size ≤ 14 := by
  have := below8 (p := fun i => decide ((imgP i).b.size ≤ 14) && decide ((imgP i).m.size ≤ 14)) (by kernel_rfl) h
  simpa using this
theorem img_skip {i : Nat} (h : i < 8) : (imgP i).k = ⟨#[]⟩ := emp_list (below8 (p := fun i => (imgP i).k.toList.isEmpty) (by kernel_rfl) h)
theorem img_ok {i : Nat} (h : i < 8) : (imgP i).ok := by
  have h1 := img_small h
  have h2 := img_skip h
  refine ⟨by omega, by omega, ?_⟩
  rw [h2]
  decide
end Go.Proofs.Ytnidokhlhgkjcaa

