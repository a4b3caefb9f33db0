/-
  What each of three deeds panics with: the law's walk, for every three deeds. No condition.
-/
import Derived.Test.YtnifdponeccdgaaAll
import Derived.Deep.DeepCutAuto
import Derived.Deep.LoopGhost
import Derived.Deep.RegionHeld3
import Derived.OrdersHeld
namespace Go.Proofs.Ytnifdponeccdgaa
open Go.RowKit

def three {α : Type} (x y z : α) : Nat → α
  | 0 => x
  | 1 => y
  | _ => z

def clod (d : D) : Value := .func (.func 10) #[.agg #[.int .i64 d.a, .int .i64 d.c, .bool d.f, .int .i64 d.n]] #[]
/-- What a deed panics with, or nothing: the place, the code. -/
def fa (d : D) : Int := if d.f = true then d.a else 0
def fc (d : D) : Int := if d.f = true then tc d.c else 0

theorem catch_do (d : D) (w : World) :
    Calls Try.prog 9 #[clod d] w fun e w' => e = .returned (.tuple #[.agg #[.int .i64 (fa d), .int .i64 (fc d)], .bool d.f]) ∧ Below w.heap.size w w' := by
  obtain ⟨a, c, f, n⟩ := d
  cases f
  · exact catch_do_idle a c n w
  · exact catch_do_fails a c n w

theorem all_deeds (b cap : Nat) (d0 d1 d2 : D) (w : World) (hb : b < w.heap.size) (h0 : w.cell? ⟨b, 0, none⟩ = some (clod d0)) (h1 : w.cell? ⟨b, 1, none⟩ = some (clod d1)) (h2 : w.cell? ⟨b, 2, none⟩ = some (clod d2)) :
    Calls Try.prog 17 #[.slice (some ⟨b, 0, none⟩) 3 cap] w fun e w' => e = .returned (.slice (some ⟨w.heap.size, 0, none⟩) 3 3) ∧ Below w.heap.size w w' ∧ w.heap.size < w'.heap.size ∧ St w.heap.size (three (fa d0) (fa d1) (fa d2)) (three (fc d0) (fc d1) (fc d2)) 3 w' := by
  refine all_three b cap (three (clod d0) (clod d1) (clod d2)) _ _ (three d0.f d1.f d2.f) w hb ?_ ?_
  · intro i hi
    match i, hi with
    | 0, _ => exact h0
    | 1, _ => exact h1
    | 2, _ => exact h2
  · intro i hi w
    match i, hi with
    | 0, _ => exact catch_do d0 w
    | 1, _ => exact catch_do d1 w
    | 2, _ => exact catch_do d2 w

abbrev dcell (a c : Int) (f : Bool) (n : Int) (b : Nat) (w : World) : Prop :=
  w.cell? ⟨b, 0, none⟩ = some (.int .i64 a) ∧ w.cell? ⟨b, 1, none⟩ = some (.int .i64 c) ∧ w.cell? ⟨b, 2, none⟩ = some (.bool f) ∧ w.cell? ⟨b, 3, none⟩ = some (.int .i64 n)

/-- The deeds' own slice reads as the three. -/
def Dl (M : Nat) (ds : Nat → D) (w : World) : Prop := ∀ j, j < 3 →
  w.cell? ⟨M, j * 4, none⟩ = some (.int .i64 (ds j).a) ∧ w.cell? ⟨M, j * 4 + 1, none⟩ = some (.int .i64 (ds j).c) ∧ w.cell? ⟨M, j * 4 + 2, none⟩ = some (.bool (ds j).f)

theorem dl_new (w : World) (a0 c0 : Int) (f0 : Bool) (n0 a1 c1 : Int) (f1 : Bool) (n1 a2 c2 : Int) (f2 : Bool) (n2 : Int) (t : TypeId) :
    Dl w.heap.size (three ⟨a0, c0, f0, n0⟩ ⟨a1, c1, f1, n1⟩ ⟨a2, c2, f2, n2⟩) (w.alloc (.cells #[.int .i64 a0, .int .i64 c0, .bool f0, .int .i64 n0, .int .i64 a1, .int .i64 c1, .bool f1, .int .i64 n1, .int .i64 a2, .int .i64 c2, .bool f2, .int .i64 n2] t)) := by
  intro j hj
  match j, hj with
  | 0, _ => simp [go_sem, three]
  | 1, _ => simp [go_sem, three]
  | 2, _ => simp [go_sem, three]

theorem dl_below {M : Nat} {ds : Nat → D} {w w1 : World} (h : Dl M ds w) (hb : Below w.heap.size w w1) (hM : M < w.heap.size) : Dl M ds w1 := by
  intro j hj
  obtain ⟨h1, h2, h3⟩ := h j hj
  exact ⟨(hb.cell (p := ⟨M, j * 4, none⟩) hM).trans h1, (hb.cell (p := ⟨M, j * 4 + 1, none⟩) hM).trans h2, (hb.cell (p := ⟨M, j * 4 + 2, none⟩) hM).trans h3⟩

theorem three_fa (d0 d1 d2 : D) : three (fa d0) (fa d1) (fa d2) = fun k => fa (three d0 d1 d2 k) := by
  funext k
  match k with
  | 0 => rfl
  | 1 => rfl
  | _ + 2 => rfl
theorem three_fc (d0 d1 d2 : D) : three (fc d0) (fc d1) (fc d2) = fun k => fc (three d0 d1 d2 k) := by
  funext k
  match k with
  | 0 => rfl
  | 1 => rfl
  | _ + 2 => rfl

theorem below_drawn {B : Nat} {a w : World} (h : Below B a w) (n : Nat) : Below B a (w.drewN n) := ⟨h.os, h.tape, h.output, h.size, h.block⟩
theorem st_to {N B : Nat} {X Y : Nat → Int} {k : Nat} {w w1 : World} (h : St N X Y k w) (hb : Below B w w1) (hN : N < B) : St N X Y k w1 := by
  intro j hj
  obtain ⟨h1, h2, h3, h4⟩ := h j hj
  exact ⟨(hb.cell (p := ⟨N, j * 2, none⟩) hN).trans h1, (hb.cell (p := ⟨N, j * 2 + 1, none⟩) hN).trans h2, (hb.frozen (p := ⟨N, j * 2, none⟩) hN).trans h3, (hb.frozen (p := ⟨N, j * 2 + 1, none⟩) hN).trans h4⟩
theorem dl_to {M B : Nat} {ds : Nat → D} {w w1 : World} (h : Dl M ds w) (hb : Below B w w1) (hM : M < B) : Dl M ds w1 := by
  intro j hj
  obtain ⟨h1, h2, h3⟩ := h j hj
  exact ⟨(hb.cell (p := ⟨M, j * 4, none⟩) hM).trans h1, (hb.cell (p := ⟨M, j * 4 + 1, none⟩) hM).trans h2, (hb.cell (p := ⟨M, j * 4 + 2, none⟩) hM).trans h3⟩

set_option maxRecDepth 100000 in
set_option maxHeartbeats 1000000 in
theorem trapAll_any (a0 c0 : Int) (f0 : Bool) (n0 a1 c1 : Int) (f1 : Bool) (n1 a2 c2 : Int) (f2 : Bool) (n2 : Int) (w : World) :
    Calls Try.prog 6 #[.agg #[.int .i64 a0, .int .i64 c0, .bool f0, .int .i64 n0], .agg #[.int .i64 a1, .int .i64 c1, .bool f1, .int .i64 n1], .agg #[.int .i64 a2, .int .i64 c2, .bool f2, .int .i64 n2]] w
      fun e w' => e = .returned (.bool true) ∧ Below w.heap.size w w' := by
  have hmf := make_func
  have hw3 : Below w.heap.size w (((w.alloc (dc a0 c0 f0 n0)).alloc (dc a1 c1 f1 n1)).alloc (dc a2 c2 f2 n2)) := (((Below.refl _ _).alloc (Nat.le_refl _) _).alloc (by simp) _).alloc (by simp; omega) _
  have hs3 : w.heap.size + 1 + 1 < (((w.alloc (dc a0 c0 f0 n0)).alloc (dc a1 c1 f1 n1)).alloc (dc a2 c2 f2 n2)).heap.size := by simp
  have hd0 : dcell a0 c0 f0 n0 w.heap.size (((w.alloc (dc a0 c0 f0 n0)).alloc (dc a1 c1 f1 n1)).alloc (dc a2 c2 f2 n2)) := by refine ⟨?_, ?_, ?_, ?_⟩ <;> simp [go_sem]
  have hd1 : dcell a1 c1 f1 n1 (w.heap.size + 1) (((w.alloc (dc a0 c0 f0 n0)).alloc (dc a1 c1 f1 n1)).alloc (dc a2 c2 f2 n2)) := by refine ⟨?_, ?_, ?_, ?_⟩ <;> simp [go_sem]
  have hd2 : dcell a2 c2 f2 n2 (w.heap.size + 1 + 1) (((w.alloc (dc a0 c0 f0 n0)).alloc (dc a1 c1 f1 n1)).alloc (dc a2 c2 f2 n2)) := by refine ⟨?_, ?_, ?_, ?_⟩ <;> simp [go_sem]
  go_enter Try.func6, Try.ntmps6
  go_upto_region 1 with fail
  generalize ((w.alloc (dc a0 c0 f0 n0)).alloc (dc a1 c1 f1 n1)).alloc (dc a2 c2 f2 n2) = w3 at *
  have HF : ∀ wq, Below w3.heap.size w3 wq → dcell a0 c0 f0 n0 w.heap.size wq ∧ dcell a1 c1 f1 n1 (w.heap.size + 1) wq ∧ dcell a2 c2 f2 n2 (w.heap.size + 1 + 1) wq := by
    intro wq h
    obtain ⟨k0, k1, k2, k3⟩ := hd0
    obtain ⟨l0, l1, l2, l3⟩ := hd1
    obtain ⟨m0, m1, m2, m3⟩ := hd2
    refine ⟨⟨?_, ?_, ?_, ?_⟩, ⟨?_, ?_, ?_, ?_⟩, ?_, ?_, ?_, ?_⟩
    · exact (h.cell (by show w.heap.size < _; omega)).trans k0
    · exact (h.cell (by show w.heap.size < _; omega)).trans k1
    · exact (h.cell (by show w.heap.size < _; omega)).trans k2
    · exact (h.cell (by show w.heap.size < _; omega)).trans k3
    · exact (h.cell (by show w.heap.size + 1 < _; omega)).trans l0
    · exact (h.cell (by show w.heap.size + 1 < _; omega)).trans l1
    · exact (h.cell (by show w.heap.size + 1 < _; omega)).trans l2
    · exact (h.cell (by show w.heap.size + 1 < _; omega)).trans l3
    · exact (h.cell (by show w.heap.size + 1 + 1 < _; omega)).trans m0
    · exact (h.cell (by show w.heap.size + 1 + 1 < _; omega)).trans m1
    · exact (h.cell (by show w.heap.size + 1 + 1 < _; omega)).trans m2
    · exact (h.cell (by show w.heap.size + 1 + 1 < _; omega)).trans m3
  clear hd0 hd1 hd2
  go_cut [7, 8] (fun s7 s8 wx => ∃ N M : Nat, s7 = .slice (some ⟨N, 0, none⟩) 3 3 ∧ s8 = .slice (some ⟨M, 0, none⟩) 3 3 ∧ Below w.heap.size w wx ∧ N < wx.heap.size ∧ M < wx.heap.size ∧
    St N (three (fa ⟨a0, c0, f0, n0⟩) (fa ⟨a1, c1, f1, n1⟩) (fa ⟨a2, c2, f2, n2⟩)) (three (fc ⟨a0, c0, f0, n0⟩) (fc ⟨a1, c1, f1, n1⟩) (fc ⟨a2, c2, f2, n2⟩)) 3 wx ∧
    Dl M (three ⟨a0, c0, f0, n0⟩ ⟨a1, c1, f1, n1⟩ ⟨a2, c2, f2, n2⟩) wx)
  case first =>
    refine wp_region_noPanic ?_
    refine wp_region_held_drew (S := fun w' => Below w3.heap.size w3 w') (by kernel_rfl) (Below.refl _ _).drew (fun hHeld => ?_)
    refine wpAnyH_take (i := 0) (oi := ⟨some 11, _, _, _, _, _⟩) (v := .agg #[.int .i64 a0, .int .i64 c0, .bool f0, .int .i64 n0]) rfl (by kernel_rfl) (by kernel_rfl) (by kernel_rfl) (fun _ _ _ h => h) (Or.inl ⟨by rfl, ?_⟩) hHeld ?_
    · intro wq hSw
      obtain ⟨⟨k0, k1, k2, k3⟩, ⟨l0, l1, l2, l3⟩, m0, m1, m2, m3⟩ := HF wq hSw
      go_simp
    simp only [Act.put, List.setIfInBounds_toArray, List.set_cons_zero, List.set_cons_succ]
    refine wpAnyH_take (i := 1) (oi := ⟨some 12, _, _, _, _, _⟩) (v := .func (.func 10) #[.agg #[.int .i64 a0, .int .i64 c0, .bool f0, .int .i64 n0]] #[]) rfl (by kernel_rfl) (by kernel_rfl) (by kernel_rfl) (fun _ _ _ h => h) (Or.inl ⟨by rfl, ?_⟩) hHeld ?_
    · intro wq hSw
      go_simp
    simp only [Act.put, List.setIfInBounds_toArray, List.set_cons_zero, List.set_cons_succ]
    refine wpAnyH_take (i := 2) (oi := ⟨some 13, _, _, _, _, _⟩) (v := .agg #[.int .i64 a1, .int .i64 c1, .bool f1, .int .i64 n1]) rfl (by kernel_rfl) (by kernel_rfl) (by kernel_rfl) (fun _ _ _ h => h) (Or.inl ⟨by rfl, ?_⟩) hHeld ?_
    · intro wq hSw
      obtain ⟨⟨k0, k1, k2, k3⟩, ⟨l0, l1, l2, l3⟩, m0, m1, m2, m3⟩ := HF wq hSw
      go_simp
    simp only [Act.put, List.setIfInBounds_toArray, List.set_cons_zero, List.set_cons_succ]
    refine wpAnyH_take (i := 3) (oi := ⟨some 14, _, _, _, _, _⟩) (v := .func (.func 10) #[.agg #[.int .i64 a1, .int .i64 c1, .bool f1, .int .i64 n1]] #[]) rfl (by kernel_rfl) (by kernel_rfl) (by kernel_rfl) (fun _ _ _ h => h) (Or.inl ⟨by rfl, ?_⟩) hHeld ?_
    · intro wq hSw
      go_simp
    simp only [Act.put, List.setIfInBounds_toArray, List.set_cons_zero, List.set_cons_succ]
    refine wpAnyH_take (i := 4) (oi := ⟨some 15, _, _, _, _, _⟩) (v := .agg #[.int .i64 a2, .int .i64 c2, .bool f2, .int .i64 n2]) rfl (by kernel_rfl) (by kernel_rfl) (by kernel_rfl) (fun _ _ _ h => h) (Or.inl ⟨by rfl, ?_⟩) hHeld ?_
    · intro wq hSw
      obtain ⟨⟨k0, k1, k2, k3⟩, ⟨l0, l1, l2, l3⟩, m0, m1, m2, m3⟩ := HF wq hSw
      go_simp
    simp only [Act.put, List.setIfInBounds_toArray, List.set_cons_zero, List.set_cons_succ]
    refine wpAnyH_take (i := 5) (oi := ⟨some 16, _, _, _, _, _⟩) (v := .func (.func 10) #[.agg #[.int .i64 a2, .int .i64 c2, .bool f2, .int .i64 n2]] #[]) rfl (by kernel_rfl) (by kernel_rfl) (by kernel_rfl) (fun _ _ _ h => h) (Or.inl ⟨by rfl, ?_⟩) hHeld ?_
    · intro wq hSw
      go_simp
    simp only [Act.put, List.setIfInBounds_toArray, List.set_cons_zero, List.set_cons_succ]
    refine wpAnyH_take (i := 8) (oi := ⟨some 19, _, _, _, _, _⟩) (v := .agg #[.int .i64 a0, .int .i64 c0, .bool f0, .int .i64 n0]) rfl (by kernel_rfl) (by kernel_rfl) (by kernel_rfl) (fun _ _ _ h => h) (Or.inl ⟨by rfl, ?_⟩) hHeld ?_
    · intro wq hSw
      obtain ⟨⟨k0, k1, k2, k3⟩, ⟨l0, l1, l2, l3⟩, m0, m1, m2, m3⟩ := HF wq hSw
      go_simp
    simp only [Act.put, List.setIfInBounds_toArray, List.set_cons_zero, List.set_cons_succ]
    refine wpAnyH_take (i := 9) (oi := ⟨some 20, _, _, _, _, _⟩) (v := .agg #[.int .i64 a1, .int .i64 c1, .bool f1, .int .i64 n1]) rfl (by kernel_rfl) (by kernel_rfl) (by kernel_rfl) (fun _ _ _ h => h) (Or.inl ⟨by rfl, ?_⟩) hHeld ?_
    · intro wq hSw
      obtain ⟨⟨k0, k1, k2, k3⟩, ⟨l0, l1, l2, l3⟩, m0, m1, m2, m3⟩ := HF wq hSw
      go_simp
    simp only [Act.put, List.setIfInBounds_toArray, List.set_cons_zero, List.set_cons_succ]
    refine wpAnyH_take (i := 10) (oi := ⟨some 21, _, _, _, _, _⟩) (v := .agg #[.int .i64 a2, .int .i64 c2, .bool f2, .int .i64 n2]) rfl (by kernel_rfl) (by kernel_rfl) (by kernel_rfl) (fun _ _ _ h => h) (Or.inl ⟨by rfl, ?_⟩) hHeld ?_
    · intro wq hSw
      obtain ⟨⟨k0, k1, k2, k3⟩, ⟨l0, l1, l2, l3⟩, m0, m1, m2, m3⟩ := HF wq hSw
      go_simp
    simp only [Act.put, List.setIfInBounds_toArray, List.set_cons_zero, List.set_cons_succ]
    refine wpAnyH_ready (rs := [6, 11]) (by kernel_rfl) (by simp) ?_
    refine AllReadyH.cons (o := _) rfl (fun K hK => ?_) (AllReadyH.cons (o := _) rfl (fun K hK => ?_) AllReadyH.nil)
    · go_simp
      refine hK.out _ _ (hHeld.alloc hHeld.size _) (fun hHeld => ?_)
      clear hK K
      refine wpAnyH_ready (rs := [7, 11]) (by kernel_rfl) (by simp) ?_
      refine AllReadyH.cons (o := _) rfl (fun K hK => ?_) (AllReadyH.cons (o := _) rfl (fun K hK => ?_) AllReadyH.nil)
      · go_simp
        refine (all_deeds (w3.heap.size) 3 ⟨a0, c0, f0, n0⟩ ⟨a1, c1, f1, n1⟩ ⟨a2, c2, f2, n2⟩ _ (by simp <;> omega) (by simp [go_sem, clod]) (by simp [go_sem, clod]) (by simp [go_sem, clod])).mono ?_
        rintro e w4 ⟨rfl, hb4, hs4, hst4⟩
        have hz4 := hb4.size
        simp at hz4
        simp at hs4
        refine hK.out _ _ (hHeld.trans (hb4.mono hHeld.size)) (fun hHeld => ?_)
        clear hK K
        refine wpAnyH_take (i := 12) (oi := ⟨some 7, _, _, _, _, _⟩) (v := .slice (some ⟨w3.heap.size + 1, 0, none⟩) 3 3) rfl (by kernel_rfl) (by kernel_rfl) (by kernel_rfl) (fun _ _ _ h => h) (Or.inl ⟨by rfl, ?_⟩) hHeld ?_
        · intro wq hSw
          go_simp
        simp only [Act.put, List.setIfInBounds_toArray, List.set_cons_zero, List.set_cons_succ]
        refine wpAnyH_ready (rs := [11]) (by kernel_rfl) (by simp) ?_
        refine AllReadyH.cons (o := _) rfl (fun K hK => ?_) AllReadyH.nil
        go_simp
        refine hK.out _ _ (hHeld.alloc hHeld.size _) (fun hHeld => ?_)
        clear hK K
        refine wpAnyH_take (i := 13) (oi := ⟨some 8, _, _, _, _, _⟩) (v := .slice (some ⟨w4.heap.size, 0, none⟩) 3 3) rfl (by kernel_rfl) (by kernel_rfl) (by kernel_rfl) (fun _ _ _ h => h) (Or.inl ⟨by rfl, ?_⟩) hHeld ?_
        · intro wq hSw
          go_simp
        simp only [Act.put, List.setIfInBounds_toArray, List.set_cons_zero, List.set_cons_succ]
        refine wpAnyH_done (by kernel_rfl) ?_ _
        refine NoPanic.normal ?_
        go_wp2_with fail
        have hw := hw3.trans (hHeld.mono hw3.size)
        have hS := st_below hst4 ((Below.refl _ _).alloc (Nat.le_refl _) (.cells #[.int .i64 a0, .int .i64 c0, .bool f0, .int .i64 n0, .int .i64 a1, .int .i64 c1, .bool f1, .int .i64 n1, .int .i64 a2, .int .i64 c2, .bool f2, .int .i64 n2] 24)) (by simpa using hs4)
        have hD := dl_new w4 a0 c0 f0 n0 a1 c1 f1 n1 a2 c2 f2 n2 24
        simp at hS hD
        go_meet
        exact ⟨w3.heap.size + 1, w4.heap.size, rfl, rfl, hw, by simp <;> omega, by simp <;> omega, hS, hD⟩
      · go_simp
        refine hK.out _ _ (hHeld.alloc hHeld.size _) (fun hHeld => ?_)
        clear hK K
        refine wpAnyH_ready (rs := [7]) (by kernel_rfl) (by simp) ?_
        refine AllReadyH.cons (o := _) rfl (fun K hK => ?_) AllReadyH.nil
        go_simp
        refine (all_deeds (w3.heap.size) 3 ⟨a0, c0, f0, n0⟩ ⟨a1, c1, f1, n1⟩ ⟨a2, c2, f2, n2⟩ _ (by simp <;> omega) (by simp [go_sem, clod]) (by simp [go_sem, clod]) (by simp [go_sem, clod])).mono ?_
        rintro e w4 ⟨rfl, hb4, hs4, hst4⟩
        have hz4 := hb4.size
        simp at hz4
        simp at hs4
        refine hK.out _ _ (hHeld.trans (hb4.mono hHeld.size)) (fun hHeld => ?_)
        clear hK K
        refine wpAnyH_take (i := 12) (oi := ⟨some 7, _, _, _, _, _⟩) (v := .slice (some ⟨w3.heap.size + 1 + 1, 0, none⟩) 3 3) rfl (by kernel_rfl) (by kernel_rfl) (by kernel_rfl) (fun _ _ _ h => h) (Or.inl ⟨by rfl, ?_⟩) hHeld ?_
        · intro wq hSw
          go_simp
        simp only [Act.put, List.setIfInBounds_toArray, List.set_cons_zero, List.set_cons_succ]
        refine wpAnyH_take (i := 13) (oi := ⟨some 8, _, _, _, _, _⟩) (v := .slice (some ⟨w3.heap.size + 1, 0, none⟩) 3 3) rfl (by kernel_rfl) (by kernel_rfl) (by kernel_rfl) (fun _ _ _ h => h) (Or.inl ⟨by rfl, ?_⟩) hHeld ?_
        · intro wq hSw
          go_simp
        simp only [Act.put, List.setIfInBounds_toArray, List.set_cons_zero, List.set_cons_succ]
        refine wpAnyH_done (by kernel_rfl) ?_ _
        refine NoPanic.normal ?_
        go_wp2_with fail
        have hw := hw3.trans (hHeld.mono hw3.size)
        have hS := hst4
        have hD := dl_below (dl_new (w3.alloc (.cells #[clod ⟨a0, c0, f0, n0⟩, clod ⟨a1, c1, f1, n1⟩, clod ⟨a2, c2, f2, n2⟩] 1)) a0 c0 f0 n0 a1 c1 f1 n1 a2 c2 f2 n2 24) ⟨hb4.os, hb4.tape, hb4.output, hb4.size, hb4.block⟩ (by simp)
        simp at hS hD
        go_meet
        exact ⟨w3.heap.size + 1 + 1, w3.heap.size + 1, rfl, rfl, hw, by omega, by omega, hS, hD⟩
    · go_simp
      refine hK.out _ _ (hHeld.alloc hHeld.size _) (fun hHeld => ?_)
      clear hK K
      refine wpAnyH_ready (rs := [6]) (by kernel_rfl) (by simp) ?_
      refine AllReadyH.cons (o := _) rfl (fun K hK => ?_) AllReadyH.nil
      go_simp
      refine hK.out _ _ (hHeld.alloc hHeld.size _) (fun hHeld => ?_)
      clear hK K
      refine wpAnyH_ready (rs := [7]) (by kernel_rfl) (by simp) ?_
      refine AllReadyH.cons (o := _) rfl (fun K hK => ?_) AllReadyH.nil
      go_simp
      refine (all_deeds (w3.heap.size + 1) 3 ⟨a0, c0, f0, n0⟩ ⟨a1, c1, f1, n1⟩ ⟨a2, c2, f2, n2⟩ _ (by simp <;> omega) (by simp [go_sem, clod]) (by simp [go_sem, clod]) (by simp [go_sem, clod])).mono ?_
      rintro e w4 ⟨rfl, hb4, hs4, hst4⟩
      have hz4 := hb4.size
      simp at hz4
      simp at hs4
      refine hK.out _ _ (hHeld.trans (hb4.mono hHeld.size)) (fun hHeld => ?_)
      clear hK K
      refine wpAnyH_take (i := 12) (oi := ⟨some 7, _, _, _, _, _⟩) (v := .slice (some ⟨w3.heap.size + 1 + 1, 0, none⟩) 3 3) rfl (by kernel_rfl) (by kernel_rfl) (by kernel_rfl) (fun _ _ _ h => h) (Or.inl ⟨by rfl, ?_⟩) hHeld ?_
      · intro wq hSw
        go_simp
      simp only [Act.put, List.setIfInBounds_toArray, List.set_cons_zero, List.set_cons_succ]
      refine wpAnyH_take (i := 13) (oi := ⟨some 8, _, _, _, _, _⟩) (v := .slice (some ⟨w3.heap.size, 0, none⟩) 3 3) rfl (by kernel_rfl) (by kernel_rfl) (by kernel_rfl) (fun _ _ _ h => h) (Or.inl ⟨by rfl, ?_⟩) hHeld ?_
      · intro wq hSw
        go_simp
      simp only [Act.put, List.setIfInBounds_toArray, List.set_cons_zero, List.set_cons_succ]
      refine wpAnyH_done (by kernel_rfl) ?_ _
      refine NoPanic.normal ?_
      go_wp2_with fail
      have hw := hw3.trans (hHeld.mono hw3.size)
      have hS := hst4
      have hD := dl_below (dl_below (dl_new w3 a0 c0 f0 n0 a1 c1 f1 n1 a2 c2 f2 n2 24) ((Below.refl _ _).alloc (Nat.le_refl _) (.cells #[clod ⟨a0, c0, f0, n0⟩, clod ⟨a1, c1, f1, n1⟩, clod ⟨a2, c2, f2, n2⟩] 1)) (by simp)) ⟨hb4.os, hb4.tape, hb4.output, hb4.size, hb4.block⟩ (by simp; omega)
      simp at hS hD
      go_meet
      exact ⟨w3.heap.size + 1 + 1, w3.heap.size, rfl, rfl, hw, by omega, by omega, hS, hD⟩
  case rest =>
    obtain ⟨N, M, rfl, rfl, hw, hN, hM, hS, hD⟩ := hcut
    have e1 := three_fa ⟨a0, c0, f0, n0⟩ ⟨a1, c1, f1, n1⟩ ⟨a2, c2, f2, n2⟩
    have e2 := three_fc ⟨a0, c0, f0, n0⟩ ⟨a1, c1, f1, n1⟩ ⟨a2, c2, f2, n2⟩
    rw [e1, e2] at hS
    clear e1 e2 HF hs3 hw3
    generalize three (⟨a0, c0, f0, n0⟩ : D) ⟨a1, c1, f1, n1⟩ ⟨a2, c2, f2, n2⟩ = ds at *
    go_wp2_with (go_at_call 17; refine (all_none _).mono ?_; rintro e w5 ⟨rfl, hb5⟩)
    have hN5 : N < w5.heap.size := Nat.lt_of_lt_of_le hN hb5.size
    have hM5 : M < w5.heap.size := Nat.lt_of_lt_of_le hM hb5.size
    have hS5 := st_to hS hb5 hN
    have hD5 := dl_to hD hb5 hM
    have hw5 := hw.trans (hb5.mono hw.size)
    clear hS hD hw hb5 hmf
    go_loopw [9] (fun i wr => ∃ k : Nat, k ≤ 3 ∧ i = .int .i64 k ∧ Below w.heap.size w wr ∧ N < wr.heap.size ∧ M < wr.heap.size ∧ St N (fun k => fa (ds k)) (fun k => fc (ds k)) 3 wr ∧ Dl M ds wr) (fun i _ => 3 - (intOf i).toNat)
    case atStart => exact ⟨0, by omega, rfl, hw5, hN5, hM5, hS5, hD5⟩
    case round =>
      clear hw5 hN5 hM5 hS5 hD5 hN hM
      obtain ⟨k, hk, rfl, hbr, hNr, hMr, hSr, hDr⟩ := hrel
      by_cases hk3 : k < 3
      · obtain ⟨q0, q1, _, _⟩ := hSr k hk3
        obtain ⟨p0, p1, p2⟩ := hDr k hk3
        rw [if_pos hk3] at q0 q1
        have q0 : wr.cell? ⟨N, k * 2, none⟩ = some (.int .i64 (fa (ds k))) := q0
        have q1 : wr.cell? ⟨N, k * 2 + 1, none⟩ = some (.int .i64 (fc (ds k))) := q1
        have HS : Hid _ := Lib.hid hSr
        have HD : Hid _ := Lib.hid hDr
        clear hSr hDr
        have hk4 : (k : Int) < 3 := by omega
        have hk5 : (0 : Int) ≤ (k : Int) := by omega
        by_cases hf : (ds k).f = true
        · have x0 : fa (ds k) = (ds k).a := if_pos hf
          have x1 : fc (ds k) = tc (ds k).c := if_pos hf
          have q0' : wr.cell? ⟨N, k * 2, none⟩ = some (.int .i64 (ds k).a) := by rw [q0, x0]
          have q1' : wr.cell? ⟨N, k * 2 + 1, none⟩ = some (.int .i64 (tc (ds k).c)) := by rw [q1, x1]
          rw [hf] at p2
          clear q0 q1 x0 x1 hf
          generalize (ds k).a = a at p0 q0'
          generalize (ds k).c = c at p1 q1'
          go_wp2_with fail
          have p0' : (wr.alloc (flc 0 0)).cell? ⟨M, k * 4, none⟩ = some (.int .i64 a) := by rw [World.cell?_alloc_past _ _ _ hMr]; exact p0
          have p1' : (wr.alloc (flc 0 0)).cell? ⟨M, k * 4 + 1, none⟩ = some (.int .i64 c) := by rw [World.cell?_alloc_past _ _ _ hMr]; exact p1
          have w0' : (wr.alloc (flc 0 0)).cell? ⟨wr.heap.size, 0, none⟩ = some (.int .i64 0) := by simp [go_sem]
          have w1' : (wr.alloc (flc 0 0)).cell? ⟨wr.heap.size, 1, none⟩ = some (.int .i64 0) := by simp [go_sem]
          have z0' : (wr.alloc (flc 0 0)).frozen? ⟨wr.heap.size, 0, none⟩ = false := by simp [go_sem]
          have z1' : (wr.alloc (flc 0 0)).frozen? ⟨wr.heap.size, 1, none⟩ = false := by simp [go_sem]
          have hPr : wr.heap.size < (wr.alloc (flc 0 0)).heap.size := by simp
          have hbP : Below wr.heap.size wr (wr.alloc (flc 0 0)) := (Below.refl _ _).alloc (Nat.le_refl _) _
          generalize wr.alloc (flc 0 0) = wq at *
          generalize hP : wr.heap.size = P at *
          have hPM : P ≠ M := by omega
          go_region_held3 (fun w' => w'.cell? ⟨M, k * 4, none⟩ = some (.int .i64 a) ∧ w'.cell? ⟨M, k * 4 + 1, none⟩ = some (.int .i64 c) ∧ P < w'.heap.size ∧ Below P wr w')
            (first
              | exact ⟨p0', p1', hPr, hbP.drew⟩
              | (go_split_ands; exact ⟨‹_›, ‹_›, ‹_›, ‹_›⟩)
              | (go_split_ands; refine ⟨(hb4.cell (by simp; omega)).trans ‹_›, (hb4.cell (by simp; omega)).trans ‹_›, Nat.lt_of_lt_of_le ‹_› hb4.size, Below.trans ‹_› (hb4.mono (by simp; omega))⟩)
              | (go_split_ands; exact ⟨(World.cell?_setCell_far _ ⟨P, 1, none⟩ _ _ hPM).trans ((World.cell?_setCell_far _ ⟨P, 0, none⟩ _ _ hPM).trans ‹_›), (World.cell?_setCell_far _ ⟨P, 1, none⟩ _ _ hPM).trans ((World.cell?_setCell_far _ ⟨P, 0, none⟩ _ _ hPM).trans ‹_›), (by simp [World.setCell]; omega), Below.setCell (p := ⟨P, 1, none⟩) (Below.setCell (p := ⟨P, 0, none⟩) ‹_› (Nat.le_refl P) _) (Nat.le_refl P) _⟩))
            (first
              | (go_at_call 13; refine (thrown_any _ _ _).mono ?_; rintro e w4 ⟨rfl, hb4⟩
                 have y0 : w4.cell? ⟨P, 0, none⟩ = some (.int .i64 0) := (hb4.cell (p := ⟨P, 0, none⟩) hPr).trans w0'
                 have y1 : w4.cell? ⟨P, 1, none⟩ = some (.int .i64 0) := (hb4.cell (p := ⟨P, 1, none⟩) hPr).trans w1'
                 have y2 : w4.frozen? ⟨P, 0, none⟩ = false := (hb4.frozen (p := ⟨P, 0, none⟩) hPr).trans z0'
                 have y3 : w4.frozen? ⟨P, 1, none⟩ = false := (hb4.frozen (p := ⟨P, 1, none⟩) hPr).trans z1'))
          all_goals
            go_wp2_with fail
            go_split_ands
            obtain ⟨r0, r1⟩ := cells2 (w := w4) (b' := P) (.int .i64 a) (.int .i64 (tc c)) y0 y1
            have hbQ : Below P wr ((w4.setCell ⟨P, 0, none⟩ (.int .i64 a)).setCell ⟨P, 1, none⟩ (.int .i64 (tc c))) := by assumption
            have hsQ : P < ((w4.setCell ⟨P, 0, none⟩ (.int .i64 a)).setCell ⟨P, 1, none⟩ (.int .i64 (tc c))).heap.size := by assumption
            generalize (w4.setCell ⟨P, 0, none⟩ (.int .i64 a)).setCell ⟨P, 1, none⟩ (.int .i64 (tc c)) = wz at *
            have q0'' := (hbQ.cell (p := ⟨N, k * 2, none⟩) hNr).trans q0'
            have q1'' := (hbQ.cell (p := ⟨N, k * 2 + 1, none⟩) hNr).trans q1'
            clear y0 y1 y2 y3
            go_quiet (fail)
            go_wp2
            have hbw := hbr.trans (hbQ.mono (by have := hbr.size; omega))
            exact ⟨⟨k + 1, by omega, by go_num, ⟨hbw.os, hbw.tape, hbw.output, hbw.size, hbw.block⟩, Nat.lt_trans hNr hsQ, Nat.lt_trans hMr hsQ, st_to HS.out (below_drawn hbQ _) hNr, dl_to HD.out (below_drawn hbQ _) hMr⟩, by simp [intOf]; omega⟩
        · have hf' : (ds k).f = false := by simpa using hf
          have x0 : fa (ds k) = 0 := if_neg hf
          have x1 : fc (ds k) = 0 := if_neg hf
          have q0' : wr.cell? ⟨N, k * 2, none⟩ = some (.int .i64 0) := by rw [q0, x0]
          have q1' : wr.cell? ⟨N, k * 2 + 1, none⟩ = some (.int .i64 0) := by rw [q1, x1]
          rw [hf'] at p2
          clear q0 q1 x0 x1 hf hf'
          generalize (ds k).a = a at p0
          generalize (ds k).c = c at p1
          go_wp2_with fail
          have q0' : (wr.alloc (flc 0 0)).cell? ⟨N, k * 2, none⟩ = some (.int .i64 0) := by rw [World.cell?_alloc_past _ _ _ hNr]; exact q0'
          have q1' : (wr.alloc (flc 0 0)).cell? ⟨N, k * 2 + 1, none⟩ = some (.int .i64 0) := by rw [World.cell?_alloc_past _ _ _ hNr]; exact q1'
          have w0' : (wr.alloc (flc 0 0)).cell? ⟨wr.heap.size, 0, none⟩ = some (.int .i64 0) := by simp [go_sem]
          have w1' : (wr.alloc (flc 0 0)).cell? ⟨wr.heap.size, 1, none⟩ = some (.int .i64 0) := by simp [go_sem]
          have hbP : Below wr.heap.size wr (wr.alloc (flc 0 0)) := (Below.refl _ _).alloc (Nat.le_refl _) _
          have hPr : wr.heap.size < (wr.alloc (flc 0 0)).heap.size := by simp
          generalize wr.alloc (flc 0 0) = wq at *
          generalize hP : wr.heap.size = P at *
          go_quiet (fail)
          go_wp2
          have hbw := hbr.trans (hbP.mono (by have := hbr.size; omega))
          exact ⟨⟨k + 1, by omega, by go_num, ⟨hbw.os, hbw.tape, hbw.output, hbw.size, hbw.block⟩, Nat.lt_trans hNr hPr, Nat.lt_trans hMr hPr, st_to HS.out (below_drawn hbP _) hNr, dl_to HD.out (below_drawn hbP _) hMr⟩, by simp [intOf]; omega⟩
      · obtain rfl : k = 3 := by omega
        go_wp2_with (go_at_call 14; refine (lives_any _).mono ?_; rintro e w6 ⟨rfl, hb6⟩)
        go_ret
        exact ⟨rfl, hbr.trans (hb6.mono hbr.size)⟩

end Go.Proofs.Ytnifdponeccdgaa
