/-
  What is told of no function, for every deed. No condition.
-/
import Derived.Test.YtnifdponeccdgaaFirst
namespace Go.Proofs.Ytnifdponeccdgaa
open Go.RowKit

/-- A deed asked by attempt, its outcome. -/
theorem attempt_tell (a c n : Int) (f : Bool) (w : World) :
    Calls Try.prog 27 #[.func (.func 20) #[.agg #[.int .i64 a, .int .i64 c, .bool f, .int .i64 n]] #[]] w fun e w' => e = tell (if f then 0 else n) (if f then a else 0) (if f then tc c else 0) f ∧ Below w.heap.size w w' := by
  cases f
  · exact attempt27_returns 20 #[deed a c false n] #[] n w (enter_tell _) fun w => tell_idle a c n w
  · exact attempt27_throws 20 #[deed a c true n] #[] a (tc c) w (enter_tell _) fun w => tell_fails a c n w

/-- The value asked, and nil behind it. -/
def two (x : Value) : Nat → Value
  | 0 => x
  | _ => .nilFunc

theorem first_two (b cap : Nat) (a c n : Int) (f : Bool) (r : Nat) (code : Int) (w : World) (hr : r ≤ 1)
    (h0 : w.cell? ⟨b, 0, none⟩ = some (.func (.func 20) #[.agg #[.int .i64 a, .int .i64 c, .bool f, .int .i64 n]] #[])) (h1 : w.cell? ⟨b, 1, none⟩ = some .nilFunc)
    (hcase : (f = true ∧ r = 0 ∧ code = tc c) ∨ (f = false ∧ (n == 0) = false ∧ r = 0 ∧ code = n) ∨ (f = false ∧ n = 0 ∧ r = 1 ∧ code = 1)) :
    Calls Try.prog 19 #[.slice (some ⟨b, 0, none⟩) 2 cap] w fun e w' => e = .returned (.tuple #[.int .i64 r, .int .i64 code]) ∧ Below w.heap.size w w' := by
  refine first_any b 2 cap (two (.func (.func 20) #[.agg #[.int .i64 a, .int .i64 c, .bool f, .int .i64 n]] #[])) (fun i => if i = 0 then (if f then 0 else n) else 0) (fun i => if i = 0 then (if f then a else 0) else 0)
    (fun i => if i = 0 then (if f then tc c else 0) else 1) (fun i => if i = 0 then f else true) r code w (by omega) (by omega) ?_ ?_ ?_ ?_ ?_ (World.block_lt_of_cell? w _ h0)
  · intro i hi
    match i, hi with
    | 0, _ => exact h0
    | 1, _ => exact h1
  · intro i hi w
    match i, hi with
    | 0, _ => exact attempt_tell a c n f w
    | 1, _ => exact attempt27_nil w
  · intro j hj
    rcases hcase with ⟨_, h, _⟩ | ⟨_, _, h, _⟩ | ⟨rfl, rfl, rfl, _⟩
    · omega
    · omega
    · obtain rfl : j = 0 := by omega
      exact ⟨rfl, rfl⟩
  · intro _
    rcases hcase with ⟨rfl, rfl, rfl⟩ | ⟨rfl, hn, rfl, rfl⟩ | ⟨rfl, rfl, rfl, rfl⟩
    · exact Or.inl ⟨rfl, rfl⟩
    · exact Or.inr ⟨rfl, hn, rfl⟩
    · exact Or.inl ⟨rfl, rfl⟩
  · intro h; omega

set_option maxRecDepth 100000 in
set_option maxHeartbeats 1000000 in
theorem trapNil_any (a c n : Int) (f : Bool) (r : Nat) (code : Int) (hr : r ≤ 1) (hcase : (f = true ∧ r = 0 ∧ code = tc c) ∨ (f = false ∧ (n == 0) = false ∧ r = 0 ∧ code = n) ∨ (f = false ∧ n = 0 ∧ r = 1 ∧ code = 1)) (w : World) :
    Calls Try.prog 8 #[.agg #[.int .i64 a, .int .i64 c, .bool f, .int .i64 n]] w fun e w' => e = .returned (.bool true) ∧ Below w.heap.size w w' := by
  have hmf := make_func
  have HC : Hid _ := Lib.hid hcase
  clear hcase
  go_enter Try.func8, Try.ntmps8
  go_wp2_with (go_at_call 9; refine (catch_nil _).mono ?_; rintro e w1 ⟨rfl, rfl⟩)
  have hs0 : w.heap.size < w.heap.size + 1 + 1 + 1 + 1 := by omega
  refine (first_two (w.heap.size + 1 + 1 + 1 + 1) 2 a c n f r code _ hr (by simp [go_sem]) (by simp [go_sem]) HC.out).mono ?_
  rintro e w4 ⟨rfl, hb4⟩
  obtain ⟨hc4, _⟩ := bcell hb4
  have hz := hb4.size
  simp at hz
  have d2 : w4.cell? ⟨w.heap.size, 2, none⟩ = some (.bool f) := by rw [hc4 _ _ (by simp; omega)]; simp [go_sem]
  have d3 : w4.cell? ⟨w.heap.size, 3, none⟩ = some (.int .i64 n) := by rw [hc4 _ _ (by simp; omega)]; simp [go_sem]
  have d4 : w4.cell? ⟨w.heap.size + 1 + 1 + 1, 0, none⟩ = some (.int .i64 0) := by rw [hc4 _ _ (by simp)]; simp [go_sem]
  have d5 : w4.cell? ⟨w.heap.size + 1 + 1 + 1, 1, none⟩ = some (.int .i64 1) := by rw [hc4 _ _ (by simp)]; simp [go_sem]
  have hbw : Below w.heap.size w w4 := ((((((Below.refl _ _).alloc (Nat.le_refl _) _).alloc (by simp) _).alloc (by simp; omega) _).alloc (by simp; omega) _).alloc (by simp; omega) _).trans (hb4.mono (by simp; omega))
  clear hb4 hc4 hmf hs0
  rcases HC.out with ⟨rfl, rfl, rfl⟩ | ⟨rfl, hn, rfl, rfl⟩ | ⟨rfl, rfl, rfl, rfl⟩
  all_goals
    clear HC
    go_wp2_with (go_at_call 14; refine (lives_any _).mono ?_; rintro e w5 ⟨rfl, hb5⟩)
    go_ret
    exact ⟨rfl, hbw.trans (hb5.mono (by omega))⟩

end Go.Proofs.Ytnifdponeccdgaa
