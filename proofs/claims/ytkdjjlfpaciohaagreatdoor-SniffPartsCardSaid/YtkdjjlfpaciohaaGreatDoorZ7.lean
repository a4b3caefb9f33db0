/-
  Plain facts on tables of patterns: which is open, how many bytes lack, and the table of pictures. No condition.
  Plain facts on the table of sounds and films, and on what it and that of pictures are both open at. No condition.
  Plain facts on the tables of fonts and of archives. No condition.
-/
import Derived.Test.YtkdjjlfpaciohaaGreatDoorZ6
import Derived.Test.YtkdjjlfpaciohaaGreatDoorZ1
import Derived.Lib.Hide
namespace Go.Proofs.YtkdjjlfpaciohaaGreatDoor

theorem emp_list {k : ByteArray} (h : k.toList.isEmpty = true) : k = ⟨#[]⟩ := by
  have := toList_size k
  rw [List.isEmpty_iff.1 h] at this
  cases k with | mk d => have e : d = #[] := Array.eq_empty_of_size_eq_zero this.symm; rw [e]
/-- The patterns of pictures. -/
def imgP : Nat → Pat
  | 0 => ⟨⟨#[0, 0, 1, 0]⟩, ⟨#[255, 255, 255, 255]⟩, ⟨#[]⟩, ⟨#[105, 109, 97, 103, 101, 47, 120, 45, 105, 99, 111, 110]⟩⟩
  | 1 => ⟨⟨#[0, 0, 2, 0]⟩, ⟨#[255, 255, 255, 255]⟩, ⟨#[]⟩, ⟨#[105, 109, 97, 103, 101, 47, 120, 45, 105, 99, 111, 110]⟩⟩
  | 2 => ⟨⟨#[66, 77]⟩, ⟨#[255, 255]⟩, ⟨#[]⟩, ⟨#[105, 109, 97, 103, 101, 47, 98, 109, 112]⟩⟩
  | 3 => ⟨⟨#[71, 73, 70, 56, 55, 97]⟩, ⟨#[255, 255, 255, 255, 255, 255]⟩, ⟨#[]⟩, ⟨#[105, 109, 97, 103, 101, 47, 103, 105, 102]⟩⟩
  | 4 => ⟨⟨#[71, 73, 70, 56, 57, 97]⟩, ⟨#[255, 255, 255, 255, 255, 255]⟩, ⟨#[]⟩, ⟨#[105, 109, 97, 103, 101, 47, 103, 105, 102]⟩⟩
  | 5 => ⟨⟨#[82, 73, 70, 70, 0, 0, 0, 0, 87, 69, 66, 80, 86, 80]⟩, ⟨#[255, 255, 255, 255, 0, 0, 0, 0, 255, 255, 255, 255, 255, 255]⟩, ⟨#[]⟩, ⟨#[105, 109, 97, 103, 101, 47, 119, 101, 98, 112]⟩⟩
  | 6 => ⟨⟨#[137, 80, 78, 71, 13, 10, 26, 10]⟩, ⟨#[255, 255, 255, 255, 255, 255, 255, 255]⟩, ⟨#[]⟩, ⟨#[105, 109, 97, 103, 101, 47, 112, 110, 103]⟩⟩
  | 7 => ⟨⟨#[255, 216, 255]⟩, ⟨#[255, 255, 255]⟩, ⟨#[]⟩, ⟨#[105, 109, 97, 103, 101, 47, 106, 112, 101, 103]⟩⟩
  | _ => ⟨⟨#[]⟩, ⟨#[]⟩, ⟨#[]⟩, ⟨#[]⟩⟩
theorem below8 {p : Nat → Bool} (h : (List.range 8).all p = true) {i : Nat} (hi : i < 8) : p i = true := List.all_eq_true.1 h i (List.mem_range.2 hi)
theorem img_small {i : Nat} (h : i < 8) : (imgP i).b.size ≤ 14 ∧ (imgP i).m.size ≤ 14 := by
  have := below8 (p := fun i => decide ((imgP i).b.size ≤ 14) && decide ((imgP i).m.size ≤ 14)) (by kernel_rfl) h
  simpa using this
theorem img_skip {i : Nat} (h : i < 8) : (imgP i).k = ⟨#[]⟩ := emp_list (below8 (p := fun i => (imgP i).k.toList.isEmpty) (by kernel_rfl) h)
theorem img_ok {i : Nat} (h : i < 8) : (imgP i).ok := by
  have h1 := img_small h
  have h2 := img_skip h
  refine ⟨by omega, by omega, ?_⟩
  rw [h2]
  decide
theorem img_type {i : Nat} (h : i < 8) : (imgP i).t.toList.isEmpty = false := by
  have := below8 (p := fun i => !(imgP i).t.toList.isEmpty) (by kernel_rfl) h
  simpa using this
theorem img_said {s : ByteArray} {r : Int} (h : IsFirst s imgP 8 r) : (typeOf imgP r).toList.isEmpty = decide (r < 0) := by
  unfold typeOf
  rcases h with ⟨rfl, _⟩ | ⟨k, hk, rfl, _⟩
  · rw [if_pos (by omega)]; kernel_rfl
  · rw [if_neg (by omega)]
    have e : decide ((k : Int) < 0) = false := by simp
    rw [e]
    exact img_type hk

end Go.Proofs.YtkdjjlfpaciohaaGreatDoor
namespace Go.Proofs.YtkdjjlfpaciohaaGreatDoor

/-- The patterns of sounds and films. -/
def medP : Nat → Pat
  | 0 => ⟨⟨#[70, 79, 82, 77, 0, 0, 0, 0, 65, 73, 70, 70]⟩, ⟨#[255, 255, 255, 255, 0, 0, 0, 0, 255, 255, 255, 255]⟩, ⟨#[]⟩, ⟨#[97, 117, 100, 105, 111, 47, 97, 105, 102, 102]⟩⟩
  | 1 => ⟨⟨#[73, 68, 51]⟩, ⟨#[255, 255, 255]⟩, ⟨#[]⟩, ⟨#[97, 117, 100, 105, 111, 47, 109, 112, 101, 103]⟩⟩
  | 2 => ⟨⟨#[79, 103, 103, 83, 0]⟩, ⟨#[255, 255, 255, 255, 255]⟩, ⟨#[]⟩, ⟨#[97, 112, 112, 108, 105, 99, 97, 116, 105, 111, 110, 47, 111, 103, 103]⟩⟩
  | 3 => ⟨⟨#[77, 84, 104, 100, 0, 0, 0, 6]⟩, ⟨#[255, 255, 255, 255, 255, 255, 255, 255]⟩, ⟨#[]⟩, ⟨#[97, 117, 100, 105, 111, 47, 109, 105, 100, 105]⟩⟩
  | 4 => ⟨⟨#[82, 73, 70, 70, 0, 0, 0, 0, 65, 86, 73, 32]⟩, ⟨#[255, 255, 255, 255, 0, 0, 0, 0, 255, 255, 255, 255]⟩, ⟨#[]⟩, ⟨#[118, 105, 100, 101, 111, 47, 97, 118, 105]⟩⟩
  | 5 => ⟨⟨#[82, 73, 70, 70, 0, 0, 0, 0, 87, 65, 86, 69]⟩, ⟨#[255, 255, 255, 255, 0, 0, 0, 0, 255, 255, 255, 255]⟩, ⟨#[]⟩, ⟨#[97, 117, 100, 105, 111, 47, 119, 97, 118, 101]⟩⟩
  | _ => ⟨⟨#[]⟩, ⟨#[]⟩, ⟨#[]⟩, ⟨#[]⟩⟩
theorem below6 {p : Nat → Bool} (h : (List.range 6).all p = true) {i : Nat} (hi : i < 6) : p i = true := List.all_eq_true.1 h i (List.mem_range.2 hi)
theorem med_small {i : Nat} (h : i < 6) : (medP i).b.size ≤ 12 ∧ (medP i).m.size ≤ 12 := by
  have := below6 (p := fun i => decide ((medP i).b.size ≤ 12) && decide ((medP i).m.size ≤ 12)) (by kernel_rfl) h
  simpa using this
theorem med_skip {i : Nat} (h : i < 6) : (medP i).k = ⟨#[]⟩ := emp_list (below6 (p := fun i => (medP i).k.toList.isEmpty) (by kernel_rfl) h)
theorem med_ok {i : Nat} (h : i < 6) : (medP i).ok := by
  have h1 := med_small h
  have h2 := med_skip h
  refine ⟨by omega, by omega, ?_⟩
  rw [h2]
  decide
theorem med_type {i : Nat} (h : i < 6) : (medP i).t.toList.isEmpty = false := by
  have := below6 (p := fun i => !(medP i).t.toList.isEmpty) (by kernel_rfl) h
  simpa using this
theorem med_said {s : ByteArray} {r : Int} (h : IsFirst s medP 6 r) : (typeOf medP r).toList.isEmpty = decide (r < 0) := by
  unfold typeOf
  rcases h with ⟨rfl, _⟩ | ⟨k, hk, rfl, _⟩
  · rw [if_pos (by omega)]; kernel_rfl
  · rw [if_neg (by omega)]
    have e : decide ((k : Int) < 0) = false := by simp
    rw [e]
    exact med_type hk

end Go.Proofs.YtkdjjlfpaciohaaGreatDoor
namespace Go.Proofs.YtkdjjlfpaciohaaGreatDoor

/-- The patterns of archives. -/
def arcP : Nat → Pat
  | 0 => ⟨⟨#[31, 139, 8]⟩, ⟨#[255, 255, 255]⟩, ⟨#[]⟩, ⟨#[97, 112, 112, 108, 105, 99, 97, 116, 105, 111, 110, 47, 120, 45, 103, 122, 105, 112]⟩⟩
  | 1 => ⟨⟨#[80, 75, 3, 4]⟩, ⟨#[255, 255, 255, 255]⟩, ⟨#[]⟩, ⟨#[97, 112, 112, 108, 105, 99, 97, 116, 105, 111, 110, 47, 122, 105, 112]⟩⟩
  | 2 => ⟨⟨#[82, 97, 114, 32, 26, 7, 0]⟩, ⟨#[255, 255, 255, 255, 255, 255, 255]⟩, ⟨#[]⟩, ⟨#[97, 112, 112, 108, 105, 99, 97, 116, 105, 111, 110, 47, 120, 45, 114, 97, 114, 45, 99, 111, 109, 112, 114, 101, 115, 115, 101, 100]⟩⟩
  | _ => ⟨⟨#[]⟩, ⟨#[]⟩, ⟨#[]⟩, ⟨#[]⟩⟩

theorem below3arc {p : Nat → Bool} (h : (List.range 3).all p = true) {i : Nat} (hi : i < 3) : p i = true := List.all_eq_true.1 h i (List.mem_range.2 hi)
theorem arc_small {i : Nat} (h : i < 3) : (arcP i).b.size ≤ 7 ∧ (arcP i).m.size ≤ 7 := by
  have := below3arc (p := fun i => decide ((arcP i).b.size ≤ 7) && decide ((arcP i).m.size ≤ 7)) (by kernel_rfl) h
  simpa using this
theorem arc_skip {i : Nat} (h : i < 3) : (arcP i).k = ⟨#[]⟩ := emp_list (below3arc (p := fun i => (arcP i).k.toList.isEmpty) (by kernel_rfl) h)
theorem arc_ok {i : Nat} (h : i < 3) : (arcP i).ok := by
  have h1 := arc_small h
  have h2 := arc_skip h
  refine ⟨by omega, by omega, ?_⟩
  rw [h2]
  decide
end Go.Proofs.YtkdjjlfpaciohaaGreatDoor
