/-
  What is thrown within what is caught is caught there alone, for every deed. No condition.
-/
import Derived.Test.YtnifdponeccdgaaBase
import Derived.BigQuiet
import Derived.Deep.RegionHeld3
import Derived.Deep.DeepMust
namespace Go.Proofs.Ytnifdponeccdgaa
open Go.RowKit

theorem bcell {W w1 : World} {B : Nat} (hb : Below B W w1) : (∀ b o, b < B → w1.cell? ⟨b, o, none⟩ = W.cell? ⟨b, o, none⟩) ∧ (∀ b o, b < B → w1.frozen? ⟨b, o, none⟩ = W.frozen? ⟨b, o, none⟩) :=
  ⟨fun b o h => hb.cell (p := ⟨b, o, none⟩) h, fun b o h => hb.frozen (p := ⟨b, o, none⟩) h⟩

set_option maxHeartbeats 400000 in
theorem lives_any (w : World) :
    Calls Try.prog 14 #[] w fun e w' => e = .returned (.bool true) ∧ Below w.heap.size w w' := by
  have hmf := make_func
  have ht : tc 2 = 2 := by decide
  go_enter Try.func14, Try.ntmps14
  go_wp2_with (go_at_call 9; refine (catch_do_fails _ _ _ _).mono ?_; rintro e w1 ⟨rfl, hb1⟩)
  go_ret
  exact ⟨rfl, (hb1).alloc hb1.size _⟩

set_option maxHeartbeats 400000 in
theorem inner_idle (a c n : Int) (w : World) :
    Calls Try.prog 18 #[.agg #[.int .i64 a, .int .i64 c, .bool false, .int .i64 n]] w fun e w' => e = .returned (.tuple #[]) ∧ Below w.heap.size w w' := by
  have hmf := make_func
  go_enter Try.func18, Try.ntmps18
  go_wp2_with (go_at_call 9; refine (catch_do_idle _ _ _ _).mono ?_; rintro e w1 ⟨rfl, hb1⟩)
  go_end0
  have hz := hb1.size
  simp at hz
  exact ⟨rfl, (((Below.refl _ _).alloc (Nat.le_refl _) _).trans (hb1.mono (by simp))).alloc (by omega) _⟩

set_option maxHeartbeats 400000 in
theorem inner_fails (a c n : Int) (w : World) :
    Calls Try.prog 18 #[.agg #[.int .i64 a, .int .i64 c, .bool true, .int .i64 n]] w fun e w' => e = pnc a 9 ∧ Below w.heap.size w w' := by
  have hmf := make_func
  go_enter Try.func18, Try.ntmps18
  go_wp2_with (first | (go_at_call 9; refine (catch_do_fails _ _ _ _).mono ?_; rintro e w1 ⟨rfl, hb1⟩) | (go_at_call 23; refine (throw_some _ _ (by decide) _).mono ?_; rintro e w2 ⟨rfl, rfl⟩))
  have hz := hb1.size
  simp at hz
  exact ⟨rfl, rfl, (((Below.refl _ _).alloc (Nat.le_refl _) _).trans (hb1.mono (by simp))).alloc (by omega) _⟩

theorem enter_inner (d : Value) (w : World) : (callFunc 18 (#[d] ++ #[])).run Try.prog w = .ok (.enter 18 (#[d] ++ #[])) w := by simp [go_sem]

theorem catch_inner_idle (a c n : Int) (w : World) :
    Calls Try.prog 9 #[.func (.func 18) #[.agg #[.int .i64 a, .int .i64 c, .bool false, .int .i64 n]] #[]] w fun e w' => e = .returned (.tuple #[.agg #[.int .i64 0, .int .i64 0], .bool false]) ∧ Below w.heap.size w w' := by
  refine (catch_returns 18 #[deed a c false n] #[] w (fun w1 => Below (w.heap.size + 2) (cw w) w1) (fun w1 h => keeps_below w w1 h) (enter_inner _) ?_).mono ?_
  · refine (inner_idle a c n (cw w)).mono ?_
    rintro e w1 ⟨rfl, hb⟩
    exact ⟨⟨_, rfl⟩, hb.mono (by simp)⟩
  · rintro e w' ⟨rfl, w1, h, rfl⟩
    refine ⟨rfl, ?_⟩
    exact ((((((Below.refl _ _).alloc (Nat.le_refl _) _).alloc (by simp) _).trans (h.mono (by omega))).setCell (by simp) _).setCell (by simp) _).setCell (by simp) _

theorem catch_inner_fails (a c n : Int) (w : World) :
    Calls Try.prog 9 #[.func (.func 18) #[.agg #[.int .i64 a, .int .i64 c, .bool true, .int .i64 n]] #[]] w fun e w' => e = .returned (.tuple #[.agg #[.int .i64 a, .int .i64 9], .bool true]) ∧ Below w.heap.size w w' := by
  refine (catch_throws 18 #[deed a c true n] #[] w a 9 (fun w1 => Below (w.heap.size + 2) (cw w) w1) (fun w1 h => keeps_below w w1 h) (enter_inner _) ?_).mono ?_
  · refine (inner_fails a c n (cw w)).mono ?_
    rintro e w1 ⟨rfl, hb⟩
    exact ⟨rfl, hb.mono (by simp)⟩
  · rintro e w' ⟨rfl, w1, h, rfl⟩
    refine ⟨rfl, ?_⟩
    have hs := h.size
    simp at hs
    exact (((((((Below.refl _ _).alloc (Nat.le_refl _) _).alloc (by simp) _).trans (h.mono (by omega))).alloc (by omega) _).alloc (by simp; omega) _).setCell (by simp) _).setCell (by simp) _

set_option maxHeartbeats 400000 in
theorem trapInner_idle (a c n : Int) (w : World) :
    Calls Try.prog 7 #[.agg #[.int .i64 a, .int .i64 c, .bool false, .int .i64 n]] w fun e w' => e = .returned (.bool true) ∧ Below w.heap.size w w' := by
  have hmf := make_func
  go_enter Try.func7, Try.ntmps7
  go_wp2_with (first | (go_at_call 9; refine (catch_inner_idle _ _ _ _).mono ?_; rintro e w1 ⟨rfl, hb1⟩; obtain ⟨hc, hf⟩ := bcell hb1; have hz : w.heap.size < w1.heap.size := by (have := hb1.size; simp at this; omega)) | (go_at_call 14; refine (lives_any _).mono ?_; rintro e w2 ⟨rfl, hb2⟩))
  go_ret
  have hz2 := hb2.size
  exact ⟨rfl, ((((Below.refl _ _).alloc (Nat.le_refl _) _).trans (hb1.mono (by simp))).alloc (by omega) _).trans (hb2.mono (by simp; omega))⟩

set_option maxHeartbeats 400000 in
theorem trapInner_fails (a c n : Int) (w : World) :
    Calls Try.prog 7 #[.agg #[.int .i64 a, .int .i64 c, .bool true, .int .i64 n]] w fun e w' => e = .returned (.bool true) ∧ Below w.heap.size w w' := by
  have hmf := make_func
  go_enter Try.func7, Try.ntmps7
  go_wp2_with (first | (go_at_call 9; refine (catch_inner_fails _ _ _ _).mono ?_; rintro e w1 ⟨rfl, hb1⟩; obtain ⟨hc, hf⟩ := bcell hb1; have hz : w.heap.size < w1.heap.size := by (have := hb1.size; simp at this; omega)) | (go_at_call 14; refine (lives_any _).mono ?_; rintro e w2 ⟨rfl, hb2⟩))
  go_ret
  have hz2 := hb2.size
  exact ⟨rfl, ((((Below.refl _ _).alloc (Nat.le_refl _) _).trans (hb1.mono (by simp))).alloc (by omega) _).trans (hb2.mono (by simp; omega))⟩

end Go.Proofs.Ytnifdponeccdgaa
