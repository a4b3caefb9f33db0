/-
  What the deeds of layer 1's statements do (Number, Tell, Must), and what Value tells of them. No condition.
-/
import Derived.Test.YtnifdponeccdgaaAttempt
namespace Go.Proofs.Ytnifdponeccdgaa
open Go.RowKit

theorem throw_any (a c : Int) (w : World) :
    Calls Try.prog 23 #[.int .i64 a, .int .i64 c] w fun e w' => e = pnc a (tc c) ∧ w' = w := by
  by_cases h : c = 0
  · subst h; exact throw_zero a w
  · have ht : tc c = c := by simp [tc, h]
    rw [ht]; exact throw_some a c (by simp [h]) w

set_option maxHeartbeats 400000 in
theorem check_ok (a c : Int) (w : World) :
    Calls Try.prog 25 #[.bool true, .int .i64 a, .int .i64 c] w fun e w' => e = .returned (.tuple #[]) ∧ w' = w := by
  go_enter Try.func25, Try.ntmps25
  go_wp2
  go_end0
  exact ⟨rfl, rfl⟩

set_option maxHeartbeats 400000 in
theorem check_not (a c : Int) (w : World) :
    Calls Try.prog 25 #[.bool false, .int .i64 a, .int .i64 c] w fun e w' => e = pnc a (tc c) ∧ w' = w := by
  go_enter Try.func25, Try.ntmps25
  go_wp2_with (go_at_call 23; refine (throw_any _ _ _).mono ?_; rintro e w' ⟨rfl, rfl⟩)
  exact ⟨rfl, rfl, rfl⟩

abbrev dc (a c : Int) (f : Bool) (n : Int) : Obj := .cells #[.int .i64 a, .int .i64 c, .bool f, .int .i64 n] 24

set_option maxHeartbeats 400000 in
theorem number_idle (a c n : Int) (w : World) :
    Calls Try.prog 12 #[.agg #[.int .i64 a, .int .i64 c, .bool false, .int .i64 n]] w fun e w' => e = .returned (.int .i64 n) ∧ Below w.heap.size w w' := by
  go_enter Try.func12, Try.ntmps12
  go_wp2_with (go_at_call 25; refine (check_ok _ _ _).mono ?_; rintro e w' ⟨rfl, rfl⟩)
  go_ret
  exact ⟨rfl, (Below.refl _ _).alloc (Nat.le_refl _) _⟩

set_option maxHeartbeats 400000 in
theorem number_fails (a c n : Int) (w : World) :
    Calls Try.prog 12 #[.agg #[.int .i64 a, .int .i64 c, .bool true, .int .i64 n]] w fun e w' => e = pnc a (tc c) ∧ Below w.heap.size w w' := by
  go_enter Try.func12, Try.ntmps12
  go_wp2_with (go_at_call 25; refine (check_not _ _ _).mono ?_; rintro e w' ⟨rfl, rfl⟩)
  exact ⟨rfl, rfl, (Below.refl _ _).alloc (Nat.le_refl _) _⟩

set_option maxHeartbeats 400000 in
theorem tell_idle (a c n : Int) (w : World) :
    Calls Try.prog 20 #[.agg #[.int .i64 a, .int .i64 c, .bool false, .int .i64 n]] w fun e w' => e = .returned (.int .i64 n) ∧ Below w.heap.size w w' := by
  go_enter Try.func20, Try.ntmps20
  go_wp2_with (go_at_call 10; refine (do_idle _ _ _ _).mono ?_; rintro e w' ⟨rfl, rfl⟩)
  go_ret
  exact ⟨rfl, ((Below.refl _ _).alloc (Nat.le_refl _) _).alloc (by simp) _⟩

set_option maxHeartbeats 400000 in
theorem tell_fails (a c n : Int) (w : World) :
    Calls Try.prog 20 #[.agg #[.int .i64 a, .int .i64 c, .bool true, .int .i64 n]] w fun e w' => e = pnc a (tc c) ∧ Below w.heap.size w w' := by
  go_enter Try.func20, Try.ntmps20
  go_wp2_with (go_at_call 10; refine (do_fails _ _ _ _).mono ?_; rintro e w' ⟨rfl, rfl⟩)
  exact ⟨rfl, rfl, ((Below.refl _ _).alloc (Nat.le_refl _) _).alloc (by simp) _⟩

set_option maxHeartbeats 400000 in
theorem must_ok (v : Int) (w : World) :
    Calls Try.prog 26 #[.int .i64 v, .int .i64 0] w fun e w' => e = .returned (.int .i64 v) ∧ w' = w := by
  go_enter Try.func26, Try.ntmps26
  go_wp2_with (go_at_call 25; refine (check_ok _ _ _).mono ?_; rintro e w' ⟨rfl, rfl⟩)
  go_ret
  exact ⟨rfl, rfl⟩

set_option maxHeartbeats 400000 in
theorem must_not (v c : Int) (hc : (c == 0) = false) (w : World) :
    Calls Try.prog 26 #[.int .i64 v, .int .i64 c] w fun e w' => e = pnc 0 (tc c) ∧ w' = w := by
  go_enter Try.func26, Try.ntmps26
  go_wp2_with (go_at_call 25; refine (check_not _ _ _).mono ?_; rintro e w' ⟨rfl, rfl⟩)
  exact ⟨rfl, rfl, rfl⟩

set_option maxHeartbeats 400000 in
theorem deedMust_ok (a n : Int) (f : Bool) (w : World) :
    Calls Try.prog 15 #[.agg #[.int .i64 a, .int .i64 0, .bool f, .int .i64 n]] w fun e w' => e = .returned (.int .i64 n) ∧ Below w.heap.size w w' := by
  go_enter Try.func15, Try.ntmps15
  go_wp2_with (go_at_call 26; refine (must_ok _ _).mono ?_; rintro e w' ⟨rfl, rfl⟩)
  go_ret
  exact ⟨rfl, (Below.refl _ _).alloc (Nat.le_refl _) _⟩

set_option maxHeartbeats 400000 in
theorem deedMust_not (a c n : Int) (f : Bool) (hc : (c == 0) = false) (w : World) :
    Calls Try.prog 15 #[.agg #[.int .i64 a, .int .i64 c, .bool f, .int .i64 n]] w fun e w' => e = pnc 0 (tc c) ∧ Below w.heap.size w w' := by
  go_enter Try.func15, Try.ntmps15
  go_wp2_with (go_at_call 26; refine (must_not _ _ hc _).mono ?_; rintro e w' ⟨rfl, rfl⟩)
  exact ⟨rfl, rfl, (Below.refl _ _).alloc (Nat.le_refl _) _⟩

set_option maxHeartbeats 1000000 in
theorem value_any (g : FuncId) (fi ca : Array Value) (v a c : Int) (f : Bool) (w : World) (h : ∀ w : World, Calls Try.prog 24 #[.func (.func g) fi ca] w fun e w' => e = tell v a c f ∧ Below w.heap.size w w') :
    Calls Try.prog 11 #[.func (.func g) fi ca] w fun e w' => e = .returned (.tuple #[.int .i64 v, .agg #[.int .i64 a, .int .i64 c]]) ∧ Below w.heap.size w w' := by
  go_enter Try.func11, Try.ntmps11
  go_wp2_with (go_at_call 24; refine (h _).mono ?_; rintro e w1 ⟨rfl, hb1⟩)
  obtain ⟨hc, hfz⟩ := bcell hb1
  have hz := hb1.size
  simp at hz
  have c0 : (w1.alloc (.cells #[.int .i64 a, .int .i64 c] 26)).cell? ⟨w.heap.size, 0, none⟩ = some (.int .i64 0) := by rw [World.cell?_alloc_past _ _ _ (by omega), hc _ _ (by simp)]; simp [go_sem]
  have c1 : (w1.alloc (.cells #[.int .i64 a, .int .i64 c] 26)).cell? ⟨w.heap.size, 1, none⟩ = some (.int .i64 0) := by rw [World.cell?_alloc_past _ _ _ (by omega), hc _ _ (by simp)]; simp [go_sem]
  have z0 : (w1.alloc (.cells #[.int .i64 a, .int .i64 c] 26)).frozen? ⟨w.heap.size, 0, none⟩ = false := by rw [World.frozen?_alloc_past _ _ _ (by omega), hfz _ _ (by simp)]; simp [go_sem]
  have z1 : (w1.alloc (.cells #[.int .i64 a, .int .i64 c] 26)).frozen? ⟨w.heap.size, 1, none⟩ = false := by rw [World.frozen?_alloc_past _ _ _ (by omega), hfz _ _ (by simp)]; simp [go_sem]
  have y0 : (w1.alloc (.cells #[.int .i64 a, .int .i64 c] 26)).cell? ⟨w1.heap.size, 0, none⟩ = some (.int .i64 a) := by simp [go_sem]
  have y1 : (w1.alloc (.cells #[.int .i64 a, .int .i64 c] 26)).cell? ⟨w1.heap.size, 1, none⟩ = some (.int .i64 c) := by simp [go_sem]
  have hbw : Below w.heap.size w (w1.alloc (.cells #[.int .i64 a, .int .i64 c] 26)) := (((Below.refl _ _).alloc (Nat.le_refl _) _).trans (hb1.mono (by simp))).alloc (by omega) _
  clear hc hfz hb1 h
  generalize hn : w1.heap.size = n1 at *
  generalize w1.alloc (.cells #[.int .i64 a, .int .i64 c] 26) = w2 at *
  clear hn
  have G : Hid (_ ∧ _) := cells2 (w := w2) (b' := w.heap.size) (.int .i64 a) (.int .i64 c) c0 c1
  go_region
  all_goals go_wp2
  obtain ⟨g0, g1⟩ := G.out
  refine bodyPost_ret (v := .tuple #[.int .i64 v, .agg #[.int .i64 a, .int .i64 c]]) (by simp [results, Try.results11, go_sem, g0, g1]) rfl ⟨rfl, ?_⟩
  exact ((hbw.setCell (by simp) _).setCell (by simp) _).drew


theorem enter_number (d : Value) (w : World) : (callFunc 12 (#[d] ++ #[])).run Try.prog w = .ok (.enter 12 (#[d] ++ #[])) w := by simp [go_sem]
theorem enter_tell (d : Value) (w : World) : (callFunc 20 (#[d] ++ #[])).run Try.prog w = .ok (.enter 20 (#[d] ++ #[])) w := by simp [go_sem]
theorem enter_must (d : Value) (w : World) : (callFunc 15 (#[d] ++ #[])).run Try.prog w = .ok (.enter 15 (#[d] ++ #[])) w := by simp [go_sem]

theorem value_number_idle (a c n : Int) (w : World) :
    Calls Try.prog 11 #[.func (.func 12) #[.agg #[.int .i64 a, .int .i64 c, .bool false, .int .i64 n]] #[]] w fun e w' => e = .returned (.tuple #[.int .i64 n, .agg #[.int .i64 0, .int .i64 0]]) ∧ Below w.heap.size w w' :=
  value_any 12 #[deed a c false n] #[] n 0 0 false w fun w => attempt24_returns 12 _ _ n w (enter_number _) fun w => number_idle a c n w
theorem value_number_fails (a c n : Int) (w : World) :
    Calls Try.prog 11 #[.func (.func 12) #[.agg #[.int .i64 a, .int .i64 c, .bool true, .int .i64 n]] #[]] w fun e w' => e = .returned (.tuple #[.int .i64 0, .agg #[.int .i64 a, .int .i64 (tc c)]]) ∧ Below w.heap.size w w' :=
  value_any 12 #[deed a c true n] #[] 0 a (tc c) true w fun w => attempt24_throws 12 _ _ a (tc c) w (enter_number _) fun w => number_fails a c n w
theorem value_must_ok (a n : Int) (f : Bool) (w : World) :
    Calls Try.prog 11 #[.func (.func 15) #[.agg #[.int .i64 a, .int .i64 0, .bool f, .int .i64 n]] #[]] w fun e w' => e = .returned (.tuple #[.int .i64 n, .agg #[.int .i64 0, .int .i64 0]]) ∧ Below w.heap.size w w' :=
  value_any 15 #[deed a 0 f n] #[] n 0 0 false w fun w => attempt24_returns 15 _ _ n w (enter_must _) fun w => deedMust_ok a n f w
theorem value_must_not (a c n : Int) (f : Bool) (hc : (c == 0) = false) (w : World) :
    Calls Try.prog 11 #[.func (.func 15) #[.agg #[.int .i64 a, .int .i64 c, .bool f, .int .i64 n]] #[]] w fun e w' => e = .returned (.tuple #[.int .i64 0, .agg #[.int .i64 0, .int .i64 (tc c)]]) ∧ Below w.heap.size w w' :=
  value_any 15 #[deed a c f n] #[] 0 0 (tc c) true w fun w => attempt24_throws 15 _ _ 0 (tc c) w (enter_must _) fun w => deedMust_not a c n f hc w

set_option maxHeartbeats 400000 in
theorem thrown_any (a c : Int) (w : World) :
    Calls Try.prog 13 #[.int .i64 a, .int .i64 c] w fun e w' => e = .returned (.agg #[.int .i64 a, .int .i64 (tc c)]) ∧ Below w.heap.size w w' := by
  by_cases h : c = 0
  · subst h
    go_enter Try.func13, Try.ntmps13
    go_wp2
    exact bodyPost_ret (v := .agg #[.int .i64 a, .int .i64 1]) (by simp [results, Try.results13, go_sem]) rfl ⟨rfl, (Below.refl _ _).alloc (Nat.le_refl _) _⟩
  · have ht : tc c = c := by simp [tc, h]
    rw [ht]
    have hc' : (c == 0) = false := by simp [h]
    clear h ht
    go_enter Try.func13, Try.ntmps13
    go_wp2
    exact bodyPost_ret (v := .agg #[.int .i64 a, .int .i64 c]) (by simp [results, Try.results13, go_sem]) rfl ⟨rfl, (Below.refl _ _).alloc (Nat.le_refl _) _⟩

end Go.Proofs.Ytnifdponeccdgaa
