/-
  Quotients, tens and sums: what package float answers, and the document's own. Condition: bits below 2^64.
-/
import Derived.Test.YtlfbbphkbpajoaaFn4
namespace Go.Proofs.Ytlfbbphkbpajoaa
open Go.RowKit

/-- What an operation gives, the same bits of all that are no number. -/
def arithB (op : BinOp) (x y : Nat) : Nat := match floatBits op .f64 x y with
  | some r => normB r
  | none => 9221120237041090561

theorem norm_bits (x y t : Nat) : (Question.nanBits .f64 x y).cut t < 18446744073709551616 ∧ nanB ((Question.nanBits .f64 x y).cut t) = true := norm_cut true x y t
theorem floatBits_lt {op : BinOp} {x y r : Nat} (h : floatBits op .f64 x y = some r) : r < 18446744073709551616 := by
  have := floatBits_wf h
  simpa [Lit.wf] using this
theorem norm_norm (x : Nat) : normB (normB x) = normB x := by
  have n : nanB 9221120237041090561 = true := by kernel_rfl
  cases h : nanB x
  · rw [normB_num h]
    exact normB_num h
  · rw [normB_nan h]
    exact normB_nan n
theorem normB_lt {x : Nat} (h : x < 18446744073709551616) : normB x < 18446744073709551616 := by
  unfold normB
  split
  · decide
  · exact h
theorem arithB_norm (op : BinOp) (x y : Nat) : normB (arithB op x y) = arithB op x y := by
  unfold arithB
  split
  · exact norm_norm _
  · kernel_rfl

theorem run_arith (op : BinOp) (hop : op = .add ∨ op = .mul ∨ op = .quo) (t : TypeId) (x y : Nat) (w : World) :
    ∃ r n, r < 18446744073709551616 ∧ normB r = arithB op x y ∧ (binOp op t (.float .f64 x) (.float .f64 y)).run Try.prog w = .ok (.float .f64 r) (w.drewN n) := by
  unfold arithB
  cases h : floatBits op .f64 x y with
  | some r => exact ⟨r, 0, floatBits_lt h, rfl, run_float_arith w op t .f64 x y r h⟩
  | none =>
    have hc := norm_bits x y (w.tape w.drawn (Question.nanBits .f64 x y))
    refine ⟨_, 1, hc.1, normB_nan hc.2, ?_⟩
    rcases hop with rfl | rfl | rfl <;> (unfold floatBits at h; simp [binOp, Op.floatArith, h, Question.forced]; rfl)

/-- A quotient of two whole numbers. -/
def quotB (a b : Int) : Nat := if b = 0 then (if a = 0 then 9221120237041090561 else infOf a) else arithB .quo (floatOfInt .f64 a) (floatOfInt .f64 b)

set_option maxHeartbeats 400000 in
theorem ratio_any (a b : Int) (w : World) :
    Calls Try.prog 25 #[.int .i64 a, .int .i64 b] w fun e w' => ∃ r, e = .returned (.float .f64 r) ∧ r < 18446744073709551616 ∧ normB r = normB (quotB a b) ∧ ∃ n, w' = w.drewN n := by
  unfold quotB
  by_cases hb : b = 0
  · rw [if_pos hb]
    subst hb
    by_cases ha : a = 0
    · rw [if_pos ha]
      subst ha
      have HN := Lib.hid fun W => nan_any W
      go_enter Try.func25, Try.ntmps25
      go_wp2_with (go_at_call 30; refine (HN.out _).mono ?_; rintro e w1 ⟨rfl, rfl⟩)
      go_ret
      exact ⟨_, rfl, by decide, rfl, 0, rfl⟩
    · rw [if_neg ha]
      have HI := Lib.hid fun W => inf_any a W
      go_enter Try.func25, Try.ntmps25
      go_wp2_with (go_at_call 31; refine (HI.out _).mono ?_; rintro e w1 ⟨rfl, rfl⟩)
      go_ret
      exact ⟨_, rfl, by unfold infOf; split <;> decide, rfl, 0, rfl⟩
  · rw [if_neg hb]
    obtain ⟨r, n, h1, h2, h3⟩ := run_arith .quo (by simp) 28 (floatOfInt .f64 a) (floatOfInt .f64 b) w
    have H2 := Lib.hid h2
    clear h2
    go_enter Try.func25, Try.ntmps25
    go_wp2
    go_ret
    exact ⟨r, rfl, h1, by rw [H2.out, arithB_norm], _, rfl⟩

set_option maxHeartbeats 400000 in
theorem rratio_any (a b : Int) (w : World) :
    Calls Try.prog 16 #[.int .i64 a, .int .i64 b] w fun e w' => ∃ r, e = .returned (.float .f64 r) ∧ r < 18446744073709551616 ∧ normB r = normB (quotB a b) ∧ ∃ n, w' = w.drewN n := by
  unfold quotB
  have HN := Lib.hid fun W => of_lit 9221120237041090561 9221120237041090561 rfl W
  have HP := Lib.hid fun W => of_lit 9218868437227405312 9218868437227405312 rfl W
  have HM := Lib.hid fun W => of_lit 18442240474082181120 18442240474082181120 rfl W
  by_cases hb : b = 0
  · rw [if_pos hb]
    subst hb
    by_cases ha : a = 0
    · rw [if_pos ha]
      subst ha
      go_enter Try.func16, Try.ntmps16
      go_wp2_with (go_at_call 27; (with_reducible refine (HN.out _).mono ?_); rintro e w1 ⟨rfl, rfl⟩)
      go_ret
      exact ⟨_, rfl, by decide, rfl, 0, rfl⟩
    · rw [if_neg ha]
      by_cases hp : 0 < a
      · have e : infOf a = 9218868437227405312 := if_pos (by omega)
        rw [e]
        clear e
        go_enter Try.func16, Try.ntmps16
        go_wp2_with (go_at_call 27; (with_reducible refine (HP.out _).mono ?_); rintro e w1 ⟨rfl, rfl⟩)
        go_ret
        exact ⟨_, rfl, by decide, rfl, 0, rfl⟩
      · have e : infOf a = 18442240474082181120 := if_neg (by omega)
        rw [e]
        clear e
        go_enter Try.func16, Try.ntmps16
        go_wp2_with (go_at_call 27; (with_reducible refine (HM.out _).mono ?_); rintro e w1 ⟨rfl, rfl⟩)
        go_ret
        exact ⟨_, rfl, by decide, rfl, 0, rfl⟩
  · rw [if_neg hb]
    obtain ⟨r, n, h1, h2, h3⟩ := run_arith .quo (by simp) 28 (floatOfInt .f64 a) (floatOfInt .f64 b) w
    have H2 := Lib.hid h2
    clear h2
    go_enter Try.func16, Try.ntmps16
    go_wp2
    go_ret
    exact ⟨r, rfl, h1, by rw [H2.out, arithB_norm], _, rfl⟩

end Go.Proofs.Ytlfbbphkbpajoaa

