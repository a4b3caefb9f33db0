/-
  Which of two numbers comes first, the greater and the lesser one: package float's answers, and the document's own. Condition: bits below 2^64.
-/
import Derived.Test.YtjhebbeojgbaoaaFn2
namespace Go.Proofs.Ytjhebbeojgbaoaa
open Go.RowKit

theorem notnan {x : Nat} (h : nanB x = false) : x % 9223372036854775808 ≤ 9218868437227405312 := by unfold nanB at h; simpa using h
theorem isnan {x : Nat} (h : nanB x = true) : 9218868437227405312 < x % 9223372036854775808 := by unfold nanB at h; simpa using h
theorem normB_nan {x : Nat} (h : nanB x = true) : normB x = 9221120237041090561 := if_pos h
theorem normB_num {x : Nat} (h : nanB x = false) : normB x = x := by unfold normB; rw [h]; rfl
theorem nan_norm {x y : Nat} (h : normB x = normB y) : nanB x = nanB y := by
  have n : nanB 9221120237041090561 = true := by kernel_rfl
  cases h1 : nanB x <;> cases h2 : nanB y
  · rfl
  · rw [normB_num h1, normB_nan h2] at h; rw [h, n] at h1; cases h1
  · rw [normB_nan h1, normB_num h2] at h; rw [← h, n] at h2; cases h2
  · rfl
theorem num_norm {x y : Nat} (h : normB x = normB y) (hy : nanB y = false) : x = y := by
  have hx := nan_norm h
  rw [hy] at hx
  rwa [normB_num hx, normB_num hy] at h

theorem place_nan {x : Nat} (h : nanB x = true) : placeB x = 0 := if_pos h
theorem place_num {x : Nat} (h : nanB x = false) : placeB x = if 9223372036854775808 ≤ x then 9223372036854775808 - x % 9223372036854775808 else 9223372036854775809 + x % 9223372036854775808 := by
  unfold placeB negB
  rw [h]
  simp
theorem place_pos {x : Nat} (h : nanB x = false) : 0 < placeB x := by
  have := notnan h
  rw [place_num h]
  split <;> omega
theorem place_same {x y : Nat} (hx : x < 18446744073709551616) (hy : y < 18446744073709551616) : placeB x = placeB y ↔ normB x = normB y := by
  cases h1 : nanB x <;> cases h2 : nanB y
  · rw [place_num h1, place_num h2, normB_num h1, normB_num h2]
    have := notnan h1
    have := notnan h2
    by_cases q1 : 9223372036854775808 ≤ x <;> by_cases q2 : 9223372036854775808 ≤ y <;> simp only [q1, q2, if_true, if_false] <;> omega
  · have := place_pos h1
    rw [place_nan h2]
    refine ⟨fun h => by omega, fun h => ?_⟩
    have := nan_norm h
    rw [h1, h2] at this
    cases this
  · have := place_pos h2
    rw [place_nan h1]
    refine ⟨fun h => by omega, fun h => ?_⟩
    have := nan_norm h
    rw [h1, h2] at this
    cases this
  · rw [place_nan h1, place_nan h2, normB_nan h1, normB_nan h2]
    simp

theorem place_key {x y : Nat} (hx : x < 18446744073709551616) (hy : y < 18446744073709551616) (h1 : nanB x = false) (h2 : nanB y = false) : key x < key y → placeB x < placeB y := by
  rw [place_num h1, place_num h2]
  unfold key
  have := notnan h1
  have := notnan h2
  by_cases q1 : 9223372036854775808 ≤ x <;> by_cases q2 : 9223372036854775808 ≤ y <;> simp only [q1, q2, if_true, if_false] <;> omega
theorem place_keyed {x y : Nat} (hx : x < 18446744073709551616) (hy : y < 18446744073709551616) (h1 : nanB x = false) (h2 : nanB y = false) (h : key x = key y) (hne : placeB x ≠ placeB y) : negB x = decide (placeB x < placeB y) := by
  rw [place_num h1, place_num h2] at hne ⊢
  unfold key at h
  unfold negB
  have := notnan h1
  have := notnan h2
  rw [decide_eq_decide]
  by_cases q1 : 9223372036854775808 ≤ x <;> by_cases q2 : 9223372036854775808 ≤ y <;> simp only [q1, q2, if_true, if_false, true_iff, false_iff] at h hne ⊢ <;> omega

set_option maxHeartbeats 400000 in
theorem rcmp_any (x y : Nat) (hx : x < 18446744073709551616) (hy : y < 18446744073709551616) (w : World) :
    Calls Try.prog 17 #[.float .f64 x, .float .f64 y] w fun e w' => e = .returned (.int .i64 (cmpB x y)) ∧ ∃ n, w' = w.drewN n := by
  have HX := Lib.hid fun W => place_any x hx W
  have HY := Lib.hid fun W => place_any y hy W
  unfold cmpB
  generalize placeB x = p at *
  generalize placeB y = q at *
  by_cases h1 : p < q
  · rw [if_pos h1]
    go_enter Try.func17, Try.ntmps17
    go_wp2_with (first
      | (go_at_call 36; (with_reducible refine (HX.out _).mono ?_); rintro e w1 ⟨rfl, n1, rfl⟩)
      | (go_at_call 36; (with_reducible refine (HY.out _).mono ?_); rintro e w1 ⟨rfl, n2, rfl⟩))
    go_ret
    exact ⟨rfl, _, rfl⟩
  · rw [if_neg h1]
    by_cases h2 : q < p
    · rw [if_pos h2]
      go_enter Try.func17, Try.ntmps17
      go_wp2_with (first
        | (go_at_call 36; (with_reducible refine (HX.out _).mono ?_); rintro e w1 ⟨rfl, n1, rfl⟩)
        | (go_at_call 36; (with_reducible refine (HY.out _).mono ?_); rintro e w1 ⟨rfl, n2, rfl⟩))
      go_ret
      exact ⟨rfl, _, rfl⟩
    · rw [if_neg h2]
      go_enter Try.func17, Try.ntmps17
      go_wp2_with (first
        | (go_at_call 36; (with_reducible refine (HX.out _).mono ?_); rintro e w1 ⟨rfl, n1, rfl⟩)
        | (go_at_call 36; (with_reducible refine (HY.out _).mono ?_); rintro e w1 ⟨rfl, n2, rfl⟩))
      go_ret
      exact ⟨rfl, _, rfl⟩

set_option maxHeartbeats 400000 in
theorem ahead_any (x y : Nat) (hx : x < 18446744073709551616) (hy : y < 18446744073709551616) (hne : placeB x ≠ placeB y) (w : World) :
    Calls Try.prog 37 #[.float .f64 x, .float .f64 y] w fun e w' => e = .returned (.bool (decide (placeB x < placeB y))) ∧ ∃ n, w' = w.drewN n := by
  have e0 := ord_eq hx hy
  have e1 := ord_lt hx hy
  cases h1 : nanB x
  · have HN := Lib.hid fun W => isNaN_is hx h1 W
    cases h2 : nanB y
    · by_cases h3 : key x = key y
      · have h4 := place_keyed hx hy h1 h2 h3 hne
        rw [← h4]
        have HS := Lib.hid fun W => signbit_any x hx W
        rw [h1, h2, decide_eq_true h3] at e0
        clear e1 h4
        generalize negB x = b at *
        go_enter Try.func37, Try.ntmps37
        go_wp2_with (first
          | (go_at_call 35; refine (HS.out _).mono ?_; rintro e w1 ⟨rfl, rfl⟩))
        go_ret
        exact ⟨rfl, 0, rfl⟩
      · have h4 : decide (key x < key y) = decide (placeB x < placeB y) := by
          rw [decide_eq_decide]
          refine ⟨place_key hx hy h1 h2, fun h => ?_⟩
          rcases Int.lt_trichotomy (key x) (key y) with h5 | h5 | h5
          · exact h5
          · exact absurd h5 h3
          · have := place_key hy hx h2 h1 h5
            omega
        rw [h1, h2, decide_eq_false h3] at e0
        rw [h1, h2, h4] at e1
        generalize decide (placeB x < placeB y) = b at *
        simp only [Bool.not_false, Bool.true_and] at e0 e1
        go_enter Try.func37, Try.ntmps37
        go_wp2_with (first
          | (go_at_call 32; refine (HN.out _).mono ?_; rintro e w1 ⟨rfl, rfl⟩))
        go_ret
        exact ⟨rfl, 0, rfl⟩
    · have h4 : decide (placeB x < placeB y) = false := by
        rw [place_nan h2]
        simp
      rw [h4]
      rw [h1, h2] at e0 e1
      simp only [Bool.not_false, Bool.not_true, Bool.and_false, Bool.false_and, Bool.true_and] at e0 e1
      go_enter Try.func37, Try.ntmps37
      go_wp2_with (first
        | (go_at_call 32; refine (HN.out _).mono ?_; rintro e w1 ⟨rfl, rfl⟩))
      go_ret
      exact ⟨rfl, 0, rfl⟩
  · have HN := Lib.hid fun W => isNaN_is hx h1 W
    have h4 : decide (placeB x < placeB y) = true := by
      rw [place_nan h1] at hne ⊢
      simp
      omega
    rw [h4]
    rw [h1] at e0
    simp only [Bool.not_true, Bool.false_and] at e0
    clear e1
    go_enter Try.func37, Try.ntmps37
    go_wp2_with (first
      | (go_at_call 32; refine (HN.out _).mono ?_; rintro e w1 ⟨rfl, rfl⟩))
    go_ret
    exact ⟨rfl, 0, rfl⟩

theorem same_place {x y : Nat} (hx : x < 18446744073709551616) (hy : y < 18446744073709551616) : sameB x y = decide (placeB x = placeB y) := by
  unfold sameB
  rw [decide_eq_decide, place_same hx hy]
theorem cmp_same {x y : Nat} (hx : x < 18446744073709551616) (hy : y < 18446744073709551616) : sameB x y = (cmpB x y == 0) := by
  rw [same_place hx hy]
  unfold cmpB
  rw [Bool.eq_iff_iff, decide_eq_true_eq, beq_iff_eq]
  split
  · simp; omega
  · split
    · simp; omega
    · simp; omega

set_option maxHeartbeats 400000 in
theorem cmp_any (x y : Nat) (hx : x < 18446744073709551616) (hy : y < 18446744073709551616) (w : World) :
    Calls Try.prog 18 #[.float .f64 x, .float .f64 y] w fun e w' => e = .returned (.int .i64 (cmpB x y)) ∧ ∃ n, w' = w.drewN n := by
  have hS := same_any x y hx hy
  rw [same_place hx hy] at hS
  by_cases h1 : placeB x = placeB y
  · have e : cmpB x y = 0 := by unfold cmpB; rw [h1]; simp
    rw [decide_eq_true h1] at hS
    rw [e]
    have HS := Lib.hid hS
    clear hS e h1
    go_enter Try.func18, Try.ntmps18
    go_wp2_with (first
      | (go_at_call 19; refine (HS.out _).mono ?_; rintro e w1 ⟨rfl, n1, rfl⟩))
    go_ret
    exact ⟨rfl, _, rfl⟩
  · have hA := ahead_any x y hx hy h1
    rw [decide_eq_false h1] at hS
    have HS := Lib.hid hS
    clear hS
    by_cases h2 : placeB x < placeB y
    · have e : cmpB x y = -1 := by unfold cmpB; rw [if_pos h2]
      rw [decide_eq_true h2] at hA
      rw [e]
      have HA := Lib.hid hA
      clear hA e h1 h2
      go_enter Try.func18, Try.ntmps18
      go_wp2_with (first
        | (go_at_call 19; refine (HS.out _).mono ?_; rintro e w1 ⟨rfl, n1, rfl⟩)
        | (go_at_call 37; refine (HA.out _).mono ?_; rintro e w1 ⟨rfl, n2, rfl⟩))
      go_ret
      exact ⟨rfl, _, rfl⟩
    · have e : cmpB x y = 1 := by unfold cmpB; rw [if_neg h2, if_pos (by omega)]
      rw [decide_eq_false h2] at hA
      rw [e]
      have HA := Lib.hid hA
      clear hA e h1 h2
      go_enter Try.func18, Try.ntmps18
      go_wp2_with (first
        | (go_at_call 19; refine (HS.out _).mono ?_; rintro e w1 ⟨rfl, n1, rfl⟩)
        | (go_at_call 37; refine (HA.out _).mono ?_; rintro e w1 ⟨rfl, n2, rfl⟩))
      go_ret
      exact ⟨rfl, _, rfl⟩

end Go.Proofs.Ytjhebbeojgbaoaa
