/-
  Plain facts on the table of sounds and films, and on what it and that of pictures are both open at. No condition.
-/
import Derived.Test.YtnidokhlhgkjcaaIa
namespace Go.Proofs.Ytnidokhlhgkjcaa

/-- The patterns of sounds and films. -/
def medP : Nat → Pat
  | 0 => ⟨⟨#[70, 79, 82, 77, 0, 0, 0, 0, 65, 73, 70, 70]⟩, ⟨#[255, 255, 255, 255, 0, 0, 0, 0, 255, 255, 255, 255]⟩, ⟨#[]⟩, ⟨#[97, 117, 100, 105, 111, 47, 97, 105, 102, 102]⟩⟩
  | 1 => ⟨⟨#[73, 68, 51]⟩, ⟨#[255, 255, 255]⟩, ⟨#[]⟩, ⟨#[97, 117, 100, 105, 111, 47, 109, 112, 101, 103]⟩⟩
  | 2 => ⟨⟨#[79, 103, 103, 83, 0]⟩, ⟨#[255, 255, 255, 255, 255]⟩, ⟨#[]⟩, ⟨#[97, 112, 112, 108, 105, 99, 97, 116, 105, 111, 110, 47, 111, 103, 103]⟩⟩
  | 3 => ⟨⟨#[77, 84, 104, 100, 0, 0, 0, 6]⟩, ⟨#[255, 255, 255, 255, 255, 255, 255, 255]⟩, ⟨#[]⟩, ⟨#[97, 117, 100, 105, 111, 47, 109, 105, 100, 105]⟩⟩
  | 4 => ⟨⟨#[82, 73, 70, 70, 0, 0, 0, 0, 65, 86, 73, 32]⟩, ⟨#[255, 255, 255, 255, 0, 0, 0, 0, 255, 255, 255, 255]⟩, ⟨#[]⟩, ⟨#[118, 105, 100, 101, 111, 47, 97, 118, 105]⟩⟩
  | 5 => ⟨⟨#[82, 73, 70, 70, 0, 0, 0, 0, 87, 65, 86, 69]⟩, ⟨#[255, 255, 255, 255, 0, 0, 0, 0, 255, 255, 255, 255]⟩, ⟨#[]⟩, ⟨#[97, 117, 100, 105, 111, 47, 119, 97, 118, 101]⟩⟩
  | _ => ⟨⟨#[]⟩, ⟨#[]⟩, ⟨#[]⟩, ⟨#[]⟩⟩
theorem below6 {p : Nat → Bool} (h : (List.range 6).all p = true) {i : Nat} (hi : i < 6) : p i = true := List.all_eq_true.1 h i (List.mem_range.2 hi)
theorem med_good {i : Nat} (h : i < 6) : goodP (medP i).b (medP i).m = true := below6 (p := fun i => goodP (medP i).b (medP i).m) (by kernel_rfl) h
theorem med_small {i : Nat} (h : i < 6) : (medP i).b.size ≤ 12 ∧ (medP i).m.size ≤ 12 := by
  have := below6 (p := fun i => decide ((medP i).b.size ≤ 12) && decide ((medP i).m.size ≤ 12)) (by kernel_rfl) h
  simpa using this
theorem med_skip {i : Nat} (h : i < 6) : (medP i).k = ⟨#[]⟩ := emp_list (below6 (p := fun i => (medP i).k.toList.isEmpty) (by kernel_rfl) h)
theorem med_ok {i : Nat} (h : i < 6) : (medP i).ok := by
  have h1 := med_small h
  have h2 := med_skip h
  refine ⟨by omega, by omega, ?_⟩
  rw [h2]
  decide
theorem med_type {i : Nat} (h : i < 6) : (medP i).t.toList.isEmpty = false := by
  have := below6 (p := fun i => !(medP i).t.toList.isEmpty) (by kernel_rfl) h
  simpa using this
theorem med_clash (i j : Nat) (hi : i < 6) (hj : j < 6) (hne : i ≠ j) : clashB (medP i) (medP j) = true := by
  have := below6 (p := fun i => (List.range 6).all fun j => i == j || clashB (medP i) (medP j)) (by kernel_rfl) hi
  have := below6 this hj
  simpa [hne] using this
theorem med_self {i : Nat} (h : i < 6) : matP (medP i).b (medP i) = true := below6 (p := fun i => matP (medP i).b (medP i)) (by kernel_rfl) h
theorem med_most : mostN medP 6 = 12 := by kernel_rfl
theorem med_first {i : Nat} (h : i < 6) (t : ByteArray) : IsFirst ((medP i).b ++ t) medP 6 (i : Int) := clash_first med_clash h (mat_more t (med_self h))
theorem med_said {s : ByteArray} {r : Int} (h : IsFirst s medP 6 r) : (typeOf medP r).toList.isEmpty = decide (r < 0) := by
  unfold typeOf
  rcases h with ⟨rfl, _⟩ | ⟨k, hk, rfl, _⟩
  · rw [if_pos (by omega)]; kernel_rfl
  · rw [if_neg (by omega)]
    have e : decide ((k : Int) < 0) = false := by simp
    rw [e]
    exact med_type hk

/-- A picture and a sound or film: no bytes are both. -/
theorem cross_clash {i j : Nat} (hi : i < 6) (hj : j < 8) : clashB (medP i) (imgP j) = true := by
  have := below6 (p := fun i => (List.range 8).all fun j => clashB (medP i) (imgP j)) (by kernel_rfl) hi
  exact below8 this hj
theorem apart_none {s : ByteArray} {r q : Int} (h : IsFirst s medP 6 r) (hq : IsFirst s imgP 8 q) (hr : 0 ≤ r) : q = -1 := by
  rcases h with ⟨rfl, _⟩ | ⟨k, hk, rfl, hm, _⟩
  · omega
  · refine hq.no fun j hj => ?_
    have := clash_fit (cross_clash hk hj) hm
    unfold matP matB
    rw [this]
    simp
theorem opn_at {s : ByteArray} {p : Pat} (h : opnP s p = true) (hk : p.k = ⟨#[]⟩) {x : Nat} (hx : x < s.size) (hm : p.m[x]! = 255) : s[x]! = p.b[x]! := by
  have h1 := lack_le s p h hk
  unfold opnP opnB at h
  simp only [Bool.and_eq_true, decide_eq_true_eq] at h
  have h2 := h.2.2
  rw [hk, rest_none] at h2
  have := fitB_iff.1 h2 x (by omega)
  rwa [hm, and_ff] at this
theorem ahead_full {i j : Nat} (hi : i < 6) (hj : j < 8) : (medP i).m[0]! = 255 ∧ (imgP j).m[0]! = 255 := by
  have h1 := below6 (p := fun i => (medP i).m[0]! == 255) (by kernel_rfl) hi
  have h2 := below8 (p := fun i => (imgP i).m[0]! == 255) (by kernel_rfl) hj
  exact ⟨by simpa using h1, by simpa using h2⟩
theorem cross_head {i j : Nat} (hi : i < 6) (hj : j < 8) (h : (medP i).b[0]! = (imgP j).b[0]!) : j = 5 ∧ (i = 4 ∨ i = 5) := by
  have := below6 (p := fun i => (List.range 8).all fun j => (medP i).b[0]! != (imgP j).b[0]! || (j == 5 && (i == 4 || i == 5))) (by kernel_rfl) hi
  have := below8 this hj
  simp [h] at this
  exact this
abbrev rifS : ByteArray := ⟨#[82, 73, 70, 70]⟩
/-- What may still be both begins RIFF, four bytes, W. -/
theorem both_open {s : ByteArray} {i j : Nat} (hi : i < 6) (hj : j < 8) (ho : opnP s (medP i) = true) (hq : opnP s (imgP j) = true) {x : Nat} (hx : x < s.size) : (x < 4 → s[x]! = rifS[x]!) ∧ (x = 8 → s[x]! = 87) ∧ x ≤ 8 := by
  have hf := ahead_full hi hj
  have e0 := (opn_at ho (med_skip hi) (x := 0) (by omega) hf.1).symm.trans (opn_at hq (img_skip hj) (x := 0) (by omega) hf.2)
  obtain ⟨rfl, h45⟩ := cross_head hi hj e0
  have key : ∀ y, y < s.size → (imgP 5).m[y]! = 255 → s[y]! = (imgP 5).b[y]! := fun y hy hm => opn_at hq (img_skip hj) hy hm
  have h8 : 8 < s.size → i = 5 := fun h => by
    rcases h45 with rfl | rfl
    · have h1 := opn_at ho (med_skip hi) (x := 8) h (by kernel_rfl)
      have h2 := key 8 h (by kernel_rfl)
      rw [h2] at h1
      exact absurd h1 (by decide)
    · rfl
  have h9 : ¬9 < s.size := fun h => by
    have h5 := h8 (by omega)
    subst h5
    have h1 := opn_at ho (med_skip hi) (x := 9) h (by kernel_rfl)
    have h2 := key 9 h (by kernel_rfl)
    rw [h2] at h1
    exact absurd h1 (by decide)
  refine ⟨fun h4 => ?_, fun h => ?_, by omega⟩
  · match x, hx, h4 with
    | 0, hx, _ => exact key 0 hx (by kernel_rfl)
    | 1, hx, _ => exact key 1 hx (by kernel_rfl)
    | 2, hx, _ => exact key 2 hx (by kernel_rfl)
    | 3, hx, _ => exact key 3 hx (by kernel_rfl)
  · subst h
    exact key 8 hx (by kernel_rfl)

end Go.Proofs.Ytnidokhlhgkjcaa

