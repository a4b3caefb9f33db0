/-
  What is caught of whatever is thrown, for every deed that throws. No condition.
-/
import Derived.Test.YtnifdponeccdgaaMust
import Derived.Deep.RegionHeld3
namespace Go.Proofs.Ytnifdponeccdgaa
open Go.RowKit

set_option maxRecDepth 100000 in
set_option maxHeartbeats 1000000 in
theorem trapCatches_fails (a c n : Int) (w : World) :
    Calls Try.prog 3 #[.agg #[.int .i64 a, .int .i64 c, .bool true, .int .i64 n]] w fun e w' => e = .returned (.bool true) ∧ Below w.heap.size w w' := by
  have hmf := make_func
  go_enter Try.func3, Try.ntmps3
  go_wp2_with (first
    | (go_at_call 9; refine (catch_do_fails _ _ _ _).mono ?_; rintro e w1 ⟨rfl, hb1⟩; obtain ⟨hc, hf⟩ := bcell hb1; have hz : w.heap.size < w1.heap.size := (by have := hb1.size; simp at this; omega))
    | (go_at_call 11; refine (value_number_fails _ _ _ _).mono ?_; rintro e w2 ⟨rfl, hb2⟩; obtain ⟨hc2, hf2⟩ := bcell hb2; have hz2 : w1.heap.size < w2.heap.size := (by have := hb2.size; simp at this; omega); have hz3 : w.heap.size < w2.heap.size := (by omega); have hz4 : w.heap.size < w1.heap.size + 1 := (by omega)))
  have c0 : (w2.alloc (.cells #[.int .i64 a, .int .i64 (tc c)] 26)).cell? ⟨w.heap.size, 0, none⟩ = some (.int .i64 a) := by rw [World.cell?_alloc_past _ _ _ hz3, hc2 _ _ (by simp; omega), World.cell?_alloc_past _ _ _ hz, hc _ _ (by simp)]; simp [go_sem]
  have c1 : (w2.alloc (.cells #[.int .i64 a, .int .i64 (tc c)] 26)).cell? ⟨w.heap.size, 1, none⟩ = some (.int .i64 c) := by rw [World.cell?_alloc_past _ _ _ hz3, hc2 _ _ (by simp; omega), World.cell?_alloc_past _ _ _ hz, hc _ _ (by simp)]; simp [go_sem]
  have c2 : (w2.alloc (.cells #[.int .i64 a, .int .i64 (tc c)] 26)).cell? ⟨w1.heap.size, 0, none⟩ = some (.int .i64 a) := by rw [World.cell?_alloc_past _ _ _ hz2, hc2 _ _ (by simp)]; simp [go_sem]
  have c3 : (w2.alloc (.cells #[.int .i64 a, .int .i64 (tc c)] 26)).cell? ⟨w1.heap.size, 1, none⟩ = some (.int .i64 (tc c)) := by rw [World.cell?_alloc_past _ _ _ hz2, hc2 _ _ (by simp)]; simp [go_sem]
  have c4 : (w2.alloc (.cells #[.int .i64 a, .int .i64 (tc c)] 26)).cell? ⟨w2.heap.size, 0, none⟩ = some (.int .i64 a) := by simp [go_sem]
  have c5 : (w2.alloc (.cells #[.int .i64 a, .int .i64 (tc c)] 26)).cell? ⟨w2.heap.size, 1, none⟩ = some (.int .i64 (tc c)) := by simp [go_sem]
  have hs : w2.heap.size < (w2.alloc (.cells #[.int .i64 a, .int .i64 (tc c)] 26)).heap.size := by simp
  have hbw : Below w.heap.size w (w2.alloc (.cells #[.int .i64 a, .int .i64 (tc c)] 26)) := (((((Below.refl _ _).alloc (Nat.le_refl _) _).trans (hb1.mono (by simp))).alloc (by omega) _).trans (hb2.mono (by simp; omega))).alloc (by omega) _
  clear hc hf hc2 hf2 hb1 hb2 hmf
  generalize w2.alloc (.cells #[.int .i64 a, .int .i64 (tc c)] 26) = w3 at *
  generalize hn2 : w2.heap.size = n2 at *
  generalize hn1 : w1.heap.size = n1 at *
  clear hn1 hn2
  go_region_held3 (fun w' => w'.cell? ⟨w.heap.size, 0, none⟩ = some (.int .i64 a) ∧ w'.cell? ⟨w.heap.size, 1, none⟩ = some (.int .i64 c) ∧ w'.cell? ⟨n1, 0, none⟩ = some (.int .i64 a) ∧ w'.cell? ⟨n1, 1, none⟩ = some (.int .i64 (tc c)) ∧
      w'.cell? ⟨n2, 0, none⟩ = some (.int .i64 a) ∧ w'.cell? ⟨n2, 1, none⟩ = some (.int .i64 (tc c)) ∧ n2 < w'.heap.size ∧ Below w.heap.size w w')
    (first
      | exact ⟨c0, c1, c2, c3, c4, c5, hs, hbw.drew⟩
      | (go_split_ands; exact ⟨‹_›, ‹_›, ‹_›, ‹_›, ‹_›, ‹_›, ‹_›, ‹_›⟩)
      | (go_split_ands; refine ⟨(hb4.cell (by simp; omega)).trans ‹_›, (hb4.cell (by simp; omega)).trans ‹_›, (hb4.cell (by simp; omega)).trans ‹_›, (hb4.cell (by simp; omega)).trans ‹_›, (hb4.cell (by simp; omega)).trans ‹_›, (hb4.cell (by simp; omega)).trans ‹_›, Nat.lt_of_lt_of_le ‹_› hb4.size, Below.trans ‹_› (hb4.mono (by omega))⟩))
    (first
      | (go_at_call 13; refine (thrown_any _ _ _).mono ?_; rintro e w4 ⟨rfl, hb4⟩)
      | (go_at_call 14; refine (lives_any _).mono ?_; rintro e w4 ⟨rfl, hb4⟩))
  all_goals
    go_split_ands
    go_wp2
    go_ret
    exact ⟨rfl, by assumption⟩

end Go.Proofs.Ytnifdponeccdgaa
