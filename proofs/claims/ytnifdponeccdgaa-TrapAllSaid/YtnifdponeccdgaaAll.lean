/-
  What All tells of three functions of which each one's outcome is known, and of none. Condition: each of them changes nothing older.
-/
import Derived.Test.YtnifdponeccdgaaFour
namespace Go.Proofs.Ytnifdponeccdgaa
open Go.RowKit

theorem make0 (w : World) : (Instr.makeSlice 39 (.int .i64 0) (.int .i64 0)).run Try.prog w = .ok (.slice (some ⟨w.heap.size, 0, none⟩) 0 0) (w.alloc (.cells #[] 26)) := by kernel_rfl
theorem make3 (w : World) : (Instr.makeSlice 39 (.int .i64 3) (.int .i64 3)).run Try.prog w = .ok (.slice (some ⟨w.heap.size, 0, none⟩) 3 3) (w.alloc (.cells #[.int .i64 0, .int .i64 0, .int .i64 0, .int .i64 0, .int .i64 0, .int .i64 0] 26)) := by kernel_rfl

set_option maxHeartbeats 400000 in
theorem all_none (w : World) :
    Calls Try.prog 17 #[.slice none 0 0] w fun e w' => e = .returned (.slice (some ⟨w.heap.size, 0, none⟩) 0 0) ∧ Below w.heap.size w w' := by
  have hmk := make0
  go_enter Try.func17, Try.ntmps17
  go_wp2
  refine wp_loop_rounds 1 ?_
  rw [rounds_succ]
  go_wp2
  go_ret
  exact ⟨rfl, (Below.refl _ _).alloc (Nat.le_refl _) _⟩

/-- What All's own three cells hold after k of them. -/
def St (N : Nat) (X Y : Nat → Int) (k : Nat) (w : World) : Prop := ∀ j, j < 3 →
  w.cell? ⟨N, j * 2, none⟩ = some (.int .i64 (if j < k then X j else 0)) ∧ w.cell? ⟨N, j * 2 + 1, none⟩ = some (.int .i64 (if j < k then Y j else 0)) ∧
  w.frozen? ⟨N, j * 2, none⟩ = false ∧ w.frozen? ⟨N, j * 2 + 1, none⟩ = false

theorem st_start (w : World) (X Y : Nat → Int) : St w.heap.size X Y 0 (w.alloc (.cells #[.int .i64 0, .int .i64 0, .int .i64 0, .int .i64 0, .int .i64 0, .int .i64 0] 26)) := by
  intro j hj
  match j, hj with
  | 0, _ => simp [go_sem]
  | 1, _ => simp [go_sem]
  | 2, _ => simp [go_sem]

theorem st_below {N : Nat} {X Y : Nat → Int} {k : Nat} {w w1 : World} (h : St N X Y k w) (hb : Below w.heap.size w w1) (hN : N < w.heap.size) : St N X Y k w1 := by
  intro j hj
  obtain ⟨h1, h2, h3, h4⟩ := h j hj
  exact ⟨(hb.cell (p := ⟨N, j * 2, none⟩) hN).trans h1, (hb.cell (p := ⟨N, j * 2 + 1, none⟩) hN).trans h2, (hb.frozen (p := ⟨N, j * 2, none⟩) hN).trans h3, (hb.frozen (p := ⟨N, j * 2 + 1, none⟩) hN).trans h4⟩

theorem st_step {N : Nat} {X Y : Nat → Int} {k : Nat} {w : World} (h : St N X Y k w) (hk : k < 3) : St N X Y (k + 1) ((w.setCell ⟨N, k * 2, none⟩ (.int .i64 (X k))).setCell ⟨N, k * 2 + 1, none⟩ (.int .i64 (Y k))) := by
  intro j hj
  obtain ⟨h1, h2, h3, h4⟩ := h j hj
  refine ⟨?_, ?_, ?_, ?_⟩
  · rw [World.cell?_setCell_other _ _ _ _ (by simp <;> omega)]
    by_cases e : j = k
    · subst e
      rw [if_pos (by omega)]; exact World.cell?_setCell_same _ _ _ h1
    · rw [World.cell?_setCell_other _ _ _ _ (by simp <;> omega), h1]
      by_cases e2 : j < k
      · rw [if_pos e2, if_pos (by omega)]
      · rw [if_neg e2, if_neg (by omega)]
  · by_cases e : j = k
    · subst e
      rw [if_pos (by omega)]; exact World.cell?_setCell_same _ _ _ ((World.cell?_setCell_other _ _ _ _ (by simp)).trans h2)
    · rw [World.cell?_setCell_other _ _ _ _ (by simp <;> omega), World.cell?_setCell_other _ _ _ _ (by simp <;> omega), h2]
      by_cases e2 : j < k
      · rw [if_pos e2, if_pos (by omega)]
      · rw [if_neg e2, if_neg (by omega)]
  · rw [World.frozen?_setCell, World.frozen?_setCell]; exact h3
  · rw [World.frozen?_setCell, World.frozen?_setCell]; exact h4

set_option maxRecDepth 100000 in
set_option maxHeartbeats 1000000 in
theorem all_three (b cap : Nat) (vs : Nat → Value) (X Y : Nat → Int) (F : Nat → Bool) (w : World) (hb : b < w.heap.size) (hcell : ∀ i, i < 3 → w.cell? ⟨b, i, none⟩ = some (vs i))
    (h9 : ∀ i, i < 3 → ∀ w, Calls Try.prog 9 #[vs i] w fun e w' => e = .returned (.tuple #[.agg #[.int .i64 (X i), .int .i64 (Y i)], .bool (F i)]) ∧ Below w.heap.size w w') :
    Calls Try.prog 17 #[.slice (some ⟨b, 0, none⟩) 3 cap] w fun e w' => e = .returned (.slice (some ⟨w.heap.size, 0, none⟩) 3 3) ∧ Below w.heap.size w w' ∧ w.heap.size < w'.heap.size ∧ St w.heap.size X Y 3 w' := by
  have HC : Hid _ := Lib.hid hcell
  have H9 : Hid _ := Lib.hid h9
  have hmk := make3
  clear hcell h9
  go_enter Try.func17, Try.ntmps17
  go_wp2_with fail
  go_loopw [11] (fun i wr => ∃ k : Nat, k ≤ 3 ∧ i = .int .i64 k ∧ Below w.heap.size w wr ∧ w.heap.size < wr.heap.size ∧ St w.heap.size X Y k wr) (fun i _ => 3 - (intOf i).toNat)
  case atStart => exact ⟨0, by omega, rfl, (Below.refl _ _).alloc (Nat.le_refl _) _, by simp, st_start _ _ _⟩
  case round =>
    obtain ⟨k, hk, rfl, hbr, hz, hst⟩ := hrel
    clear hmk
    by_cases hkr : k < 3
    · have hc : wr.cell? ⟨b, k, none⟩ = some (vs k) := (hbr.cell (p := ⟨b, k, none⟩) hb).trans (HC.out k hkr)
      have h9 := H9.out k hkr
      go_wp2_with (go_at_call 9; refine (h9 _).mono ?_; rintro e w1 ⟨rfl, hb1⟩; have hst1 := st_below hst hb1 hz; obtain ⟨g0, g1, g2, g3⟩ := hst1 k hkr)
      have hz1 := hb1.size
      refine ⟨⟨k + 1, by omega, by go_num, (((hbr.trans (hb1.mono (by omega))).setCell (by simp) _).setCell (by simp) _), ?_, st_step hst1 hkr⟩, by simp [intOf]; omega⟩
      simp [World.setCell]; omega
    · obtain rfl : k = 3 := by omega
      go_wp2
      go_ret
      exact ⟨rfl, hbr, hz, hst⟩

end Go.Proofs.Ytnifdponeccdgaa
