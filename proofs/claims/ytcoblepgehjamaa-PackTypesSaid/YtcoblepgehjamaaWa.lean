/-
  Plain facts on the tables of fonts and of archives. No condition.
-/
import Derived.Test.YtcoblepgehjamaaIa
namespace Go.Proofs.Ytcoblepgehjamaa

/-- The patterns of fonts. -/
def fntP : Nat → Pat
  | 0 => ⟨⟨#[0, 0, 0, 0, 0, 0, 0, 0, 0, 0, 0, 0, 0, 0, 0, 0, 0, 0, 0, 0, 0, 0, 0, 0, 0, 0, 0, 0, 0, 0, 0, 0, 0, 0, 76, 80]⟩, ⟨#[0, 0, 0, 0, 0, 0, 0, 0, 0, 0, 0, 0, 0, 0, 0, 0, 0, 0, 0, 0, 0, 0, 0, 0, 0, 0, 0, 0, 0, 0, 0, 0, 0, 0, 255, 255]⟩, ⟨#[]⟩, ⟨#[97, 112, 112, 108, 105, 99, 97, 116, 105, 111, 110, 47, 118, 110, 100, 46, 109, 115, 45, 102, 111, 110, 116, 111, 98, 106, 101, 99, 116]⟩⟩
  | 1 => ⟨⟨#[0, 1, 0, 0]⟩, ⟨#[255, 255, 255, 255]⟩, ⟨#[]⟩, ⟨#[102, 111, 110, 116, 47, 116, 116, 102]⟩⟩
  | 2 => ⟨⟨#[79, 84, 84, 79]⟩, ⟨#[255, 255, 255, 255]⟩, ⟨#[]⟩, ⟨#[102, 111, 110, 116, 47, 111, 116, 102]⟩⟩
  | 3 => ⟨⟨#[116, 116, 99, 102]⟩, ⟨#[255, 255, 255, 255]⟩, ⟨#[]⟩, ⟨#[102, 111, 110, 116, 47, 99, 111, 108, 108, 101, 99, 116, 105, 111, 110]⟩⟩
  | 4 => ⟨⟨#[119, 79, 70, 70]⟩, ⟨#[255, 255, 255, 255]⟩, ⟨#[]⟩, ⟨#[102, 111, 110, 116, 47, 119, 111, 102, 102]⟩⟩
  | 5 => ⟨⟨#[119, 79, 70, 50]⟩, ⟨#[255, 255, 255, 255]⟩, ⟨#[]⟩, ⟨#[102, 111, 110, 116, 47, 119, 111, 102, 102, 50]⟩⟩
  | _ => ⟨⟨#[]⟩, ⟨#[]⟩, ⟨#[]⟩, ⟨#[]⟩⟩
/-- The patterns of archives. -/
def arcP : Nat → Pat
  | 0 => ⟨⟨#[31, 139, 8]⟩, ⟨#[255, 255, 255]⟩, ⟨#[]⟩, ⟨#[97, 112, 112, 108, 105, 99, 97, 116, 105, 111, 110, 47, 120, 45, 103, 122, 105, 112]⟩⟩
  | 1 => ⟨⟨#[80, 75, 3, 4]⟩, ⟨#[255, 255, 255, 255]⟩, ⟨#[]⟩, ⟨#[97, 112, 112, 108, 105, 99, 97, 116, 105, 111, 110, 47, 122, 105, 112]⟩⟩
  | 2 => ⟨⟨#[82, 97, 114, 32, 26, 7, 0]⟩, ⟨#[255, 255, 255, 255, 255, 255, 255]⟩, ⟨#[]⟩, ⟨#[97, 112, 112, 108, 105, 99, 97, 116, 105, 111, 110, 47, 120, 45, 114, 97, 114, 45, 99, 111, 109, 112, 114, 101, 115, 115, 101, 100]⟩⟩
  | _ => ⟨⟨#[]⟩, ⟨#[]⟩, ⟨#[]⟩, ⟨#[]⟩⟩

theorem below6fnt {p : Nat → Bool} (h : (List.range 6).all p = true) {i : Nat} (hi : i < 6) : p i = true := List.all_eq_true.1 h i (List.mem_range.2 hi)
theorem fnt_good {i : Nat} (h : i < 6) : goodP (fntP i).b (fntP i).m = true := below6fnt (p := fun i => goodP (fntP i).b (fntP i).m) (by kernel_rfl) h
theorem fnt_small {i : Nat} (h : i < 6) : (fntP i).b.size ≤ 36 ∧ (fntP i).m.size ≤ 36 := by
  have := below6fnt (p := fun i => decide ((fntP i).b.size ≤ 36) && decide ((fntP i).m.size ≤ 36)) (by kernel_rfl) h
  simpa using this
theorem fnt_skip {i : Nat} (h : i < 6) : (fntP i).k = ⟨#[]⟩ := emp_list (below6fnt (p := fun i => (fntP i).k.toList.isEmpty) (by kernel_rfl) h)
theorem fnt_ok {i : Nat} (h : i < 6) : (fntP i).ok := by
  have h1 := fnt_small h
  have h2 := fnt_skip h
  refine ⟨by omega, by omega, ?_⟩
  rw [h2]
  decide
theorem fnt_type {i : Nat} (h : i < 6) : (fntP i).t.toList.isEmpty = false := by
  have := below6fnt (p := fun i => !(fntP i).t.toList.isEmpty) (by kernel_rfl) h
  simpa using this
theorem fnt_said {s : ByteArray} {r : Int} (h : IsFirst s fntP 6 r) : (typeOf fntP r).toList.isEmpty = decide (r < 0) := by
  unfold typeOf
  rcases h with ⟨rfl, _⟩ | ⟨k, hk, rfl, _⟩
  · rw [if_pos (by omega)]; kernel_rfl
  · rw [if_neg (by omega)]
    have e : decide ((k : Int) < 0) = false := by simp
    rw [e]
    exact fnt_type hk

theorem below3arc {p : Nat → Bool} (h : (List.range 3).all p = true) {i : Nat} (hi : i < 3) : p i = true := List.all_eq_true.1 h i (List.mem_range.2 hi)
theorem arc_good {i : Nat} (h : i < 3) : goodP (arcP i).b (arcP i).m = true := below3arc (p := fun i => goodP (arcP i).b (arcP i).m) (by kernel_rfl) h
theorem arc_small {i : Nat} (h : i < 3) : (arcP i).b.size ≤ 7 ∧ (arcP i).m.size ≤ 7 := by
  have := below3arc (p := fun i => decide ((arcP i).b.size ≤ 7) && decide ((arcP i).m.size ≤ 7)) (by kernel_rfl) h
  simpa using this
theorem arc_skip {i : Nat} (h : i < 3) : (arcP i).k = ⟨#[]⟩ := emp_list (below3arc (p := fun i => (arcP i).k.toList.isEmpty) (by kernel_rfl) h)
theorem arc_ok {i : Nat} (h : i < 3) : (arcP i).ok := by
  have h1 := arc_small h
  have h2 := arc_skip h
  refine ⟨by omega, by omega, ?_⟩
  rw [h2]
  decide
theorem arc_type {i : Nat} (h : i < 3) : (arcP i).t.toList.isEmpty = false := by
  have := below3arc (p := fun i => !(arcP i).t.toList.isEmpty) (by kernel_rfl) h
  simpa using this
theorem arc_said {s : ByteArray} {r : Int} (h : IsFirst s arcP 3 r) : (typeOf arcP r).toList.isEmpty = decide (r < 0) := by
  unfold typeOf
  rcases h with ⟨rfl, _⟩ | ⟨k, hk, rfl, _⟩
  · rw [if_pos (by omega)]; kernel_rfl
  · rw [if_neg (by omega)]
    have e : decide ((k : Int) < 0) = false := by simp
    rw [e]
    exact arc_type hk

/-- The type of the first kind of font. -/
abbrev eotS : ByteArray := ⟨#[97, 112, 112, 108, 105, 99, 97, 116, 105, 111, 110, 47, 118, 110, 100, 46, 109, 115, 45, 102, 111, 110, 116, 111, 98, 106, 101, 99, 116]⟩
theorem fnt_zero : typeOf fntP 0 = eotS := by kernel_rfl
/-- No other font, and none, says the first kind's type. -/
theorem fnt_other {s : ByteArray} {r : Int} (h : IsFirst s fntP 6 r) (h0 : r ≠ 0) : ((typeOf fntP r).toList == eotS.toList) = false := by
  unfold typeOf
  rcases h with ⟨rfl, _⟩ | ⟨k, hk, rfl, _⟩
  · rw [if_pos (by omega)]; kernel_rfl
  · rw [if_neg (by omega)]
    have := below6fnt (p := fun i => i == 0 || !((fntP i).t.toList == eotS.toList)) (by kernel_rfl) hk
    have hk0 : k ≠ 0 := fun e => h0 (by rw [e]; rfl)
    rw [beq_eq_false_iff_ne.2 hk0, Bool.false_or] at this
    rw [show ((k : Int).toNat) = k from rfl]
    cases e : ((fntP k).t.toList == eotS.toList)
    · rfl
    · rw [e] at this; cases this
theorem fa_clash {i j : Nat} (hi : i < 6) (h0 : i ≠ 0) (hj : j < 3) : clashB (fntP i) (arcP j) = true := by
  have := below6fnt (p := fun i => i == 0 || (List.range 3).all fun j => clashB (fntP i) (arcP j)) (by kernel_rfl) hi
  rw [beq_eq_false_iff_ne.2 h0, Bool.false_or] at this
  exact below3arc this hj
/-- A font of another kind than the first is no archive. -/
theorem font_alone {s : ByteArray} {r q : Int} (h : IsFirst s fntP 6 r) (hq : IsFirst s arcP 3 q) (hr : 0 < r) : q = -1 := by
  rcases h with ⟨rfl, _⟩ | ⟨k, hk, rfl, hm, _⟩
  · omega
  · refine hq.no fun j hj => ?_
    have := clash_fit (fa_clash hk (by omega) hj) hm
    unfold matP matB
    rw [this]
    simp

end Go.Proofs.Ytcoblepgehjamaa

