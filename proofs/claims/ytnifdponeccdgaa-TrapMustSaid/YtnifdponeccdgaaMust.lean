/-
  What must be is answered just if its code is OK; what is caught of whatever is thrown; for every deed. No condition.
-/
import Derived.Test.YtnifdponeccdgaaDeeds
namespace Go.Proofs.Ytnifdponeccdgaa
open Go.RowKit

set_option maxHeartbeats 400000 in
theorem trapMust_ok (a n : Int) (f : Bool) (w : World) :
    Calls Try.prog 4 #[.agg #[.int .i64 a, .int .i64 0, .bool f, .int .i64 n]] w fun e w' => e = .returned (.bool true) ∧ Below w.heap.size w w' := by
  have hmf := make_func
  go_enter Try.func4, Try.ntmps4
  go_wp2_with (first | (go_at_call 11; refine (value_must_ok _ _ _ _).mono ?_; rintro e w1 ⟨rfl, hb1⟩; obtain ⟨hc, hf⟩ := bcell hb1; have hz : w.heap.size < w1.heap.size := by (have := hb1.size; simp at this; omega)) | (go_at_call 14; refine (lives_any _).mono ?_; rintro e w2 ⟨rfl, hb2⟩))
  go_ret
  have hz2 := hb2.size
  exact ⟨rfl, ((((Below.refl _ _).alloc (Nat.le_refl _) _).trans (hb1.mono (by simp))).alloc (by omega) _).trans (hb2.mono (by simp; omega))⟩

set_option maxHeartbeats 400000 in
theorem trapMust_not (a c n : Int) (f : Bool) (hc0 : (c == 0) = false) (ht : tc c = c) (w : World) :
    Calls Try.prog 4 #[.agg #[.int .i64 a, .int .i64 c, .bool f, .int .i64 n]] w fun e w' => e = .returned (.bool true) ∧ Below w.heap.size w w' := by
  have hmf := make_func
  have hv := value_must_not a c n f hc0
  rw [ht] at hv
  clear ht
  go_enter Try.func4, Try.ntmps4
  go_wp2_with (first | (go_at_call 11; refine (hv _).mono ?_; rintro e w1 ⟨rfl, hb1⟩; obtain ⟨hc, hf⟩ := bcell hb1; have hz : w.heap.size < w1.heap.size := by (have := hb1.size; simp at this; omega)) | (go_at_call 14; refine (lives_any _).mono ?_; rintro e w2 ⟨rfl, hb2⟩))
  go_ret
  have hz2 := hb2.size
  exact ⟨rfl, ((((Below.refl _ _).alloc (Nat.le_refl _) _).trans (hb1.mono (by simp))).alloc (by omega) _).trans (hb2.mono (by simp; omega))⟩

set_option maxHeartbeats 400000 in
theorem trapCatches_idle (a c n : Int) (w : World) :
    Calls Try.prog 3 #[.agg #[.int .i64 a, .int .i64 c, .bool false, .int .i64 n]] w fun e w' => e = .returned (.bool true) ∧ Below w.heap.size w w' := by
  have hmf := make_func
  go_enter Try.func3, Try.ntmps3
  go_wp2_with (first
    | (go_at_call 9; refine (catch_do_idle _ _ _ _).mono ?_; rintro e w1 ⟨rfl, hb1⟩; obtain ⟨hc, hf⟩ := bcell hb1; have hz : w.heap.size < w1.heap.size := by (have := hb1.size; simp at this; omega))
    | (go_at_call 11; refine (value_number_idle _ _ _ _).mono ?_; rintro e w2 ⟨rfl, hb2⟩; obtain ⟨hc2, hf2⟩ := bcell hb2; (have hz2 : w1.heap.size < w2.heap.size := (by have := hb2.size; simp at this; omega)); (have hz3 : w.heap.size < w2.heap.size := (by omega); have hz4 : w.heap.size < w1.heap.size + 1 := (by omega)))
    | (go_at_call 14; refine (lives_any _).mono ?_; rintro e w3 ⟨rfl, hb3⟩))
  go_ret
  have hz5 := hb3.size
  exact ⟨rfl, ((((((Below.refl _ _).alloc (Nat.le_refl _) _).trans (hb1.mono (by simp))).alloc (by omega) _).trans (hb2.mono (by simp; omega))).alloc (by omega) _).trans (hb3.mono (by simp; omega))⟩

end Go.Proofs.Ytnifdponeccdgaa
