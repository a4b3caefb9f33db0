/-
  A number brought between two others: package float's Clamp, and the document's own Max and Min. Condition: bits below 2^64.
-/
import Derived.Test.YtjhebbeojgbaoaaFn4
namespace Go.Proofs.Ytjhebbeojgbaoaa
open Go.RowKit

theorem minN_norm {r s z : Nat} (h : normB r = normB s) : normB (minN r z) = normB (minN s z) := by
  cases hs : nanB s
  · rw [num_norm h hs]
  · have hr := nan_norm h
    rw [hs] at hr
    unfold minN
    rw [hr, hs]
    rfl

theorem clamp_any (x y z : Nat) (hx : x < 18446744073709551616) (hy : y < 18446744073709551616) (hz : z < 18446744073709551616) (w : World) :
    Calls Try.prog 24 #[.float .f64 x, .float .f64 y, .float .f64 z] w fun e w' => ∃ r, e = .returned (.float .f64 r) ∧ r < 18446744073709551616 ∧ normB r = normB (minN (maxN x y) z) ∧ ∃ n, w' = w.drewN n := by
  have HM := Lib.hid fun W => max_any x y hx hy W
  have HN := Lib.hid fun r (hr : r < 18446744073709551616) W => min_any r z hr hz W
  go_enter Try.func24, Try.ntmps24
  go_wp2_with (first
    | (go_at_call 20; refine (HM.out _).mono ?_; rintro e w1 ⟨r, rfl, hr, hn, n1, rfl⟩; have H1 := Lib.hid hr; have H2 := Lib.hid hn; clear hr hn)
    | (go_at_call 22; refine (HN.out r H1.out _).mono ?_; rintro e w2 ⟨s, rfl, hs, hm, n2, rfl⟩; have H3 := Lib.hid hs; have H4 := Lib.hid hm; clear hs hm))
  go_ret
  exact ⟨s, rfl, H3.out, H4.out.trans (minN_norm H2.out), _, rfl⟩

theorem rmax_any (x y : Nat) (hx : x < 18446744073709551616) (hy : y < 18446744073709551616) (w : World) :
    Calls Try.prog 21 #[.float .f64 x, .float .f64 y] w fun e w' => e = .returned (.float .f64 (maxN x y)) ∧ ∃ n, w' = w.drewN n := by
  have HX := Lib.hid fun W => rkind_any x hx W
  have HY := Lib.hid fun W => rkind_any y hy W
  have HO := Lib.hid fun W => of_lit 9221120237041090561 9221120237041090561 rfl W
  have HC := Lib.hid fun W => rcmp_any x y hx hy W
  have zx := kind_zero x
  have zy := kind_zero y
  unfold maxN
  cases h1 : nanB x
  · rw [h1] at zx
    cases h2 : nanB y
    · rw [h2] at zy
      have hd : decide (0 < cmpB x y) = decide (placeB y < placeB x) := by
        unfold cmpB
        rw [decide_eq_decide]
        split
        · simp; omega
        · split
          · simp; omega
          · simp; omega
      by_cases h3 : placeB y < placeB x
      · rw [decide_eq_true h3] at hd
        rw [if_pos h3]
        clear h1 h2 h3
        generalize kindB x = kx at *
        generalize kindB y = ky at *
        generalize cmpB x y = c at *
        go_enter Try.func21, Try.ntmps21
        go_wp2_with (first
          | (go_at_call 11; (with_reducible refine (HX.out _).mono ?_); rintro e w1 ⟨rfl, n1, rfl⟩)
          | (go_at_call 11; (with_reducible refine (HY.out _).mono ?_); rintro e w1 ⟨rfl, n2, rfl⟩)
          | (go_at_call 17; (with_reducible refine (HC.out _).mono ?_); rintro e w1 ⟨rfl, n3, rfl⟩))
        go_ret
        exact ⟨rfl, _, rfl⟩
      · rw [decide_eq_false h3] at hd
        rw [if_neg h3]
        clear h1 h2 h3
        generalize kindB x = kx at *
        generalize kindB y = ky at *
        generalize cmpB x y = c at *
        go_enter Try.func21, Try.ntmps21
        go_wp2_with (first
          | (go_at_call 11; (with_reducible refine (HX.out _).mono ?_); rintro e w1 ⟨rfl, n1, rfl⟩)
          | (go_at_call 11; (with_reducible refine (HY.out _).mono ?_); rintro e w1 ⟨rfl, n2, rfl⟩)
          | (go_at_call 17; (with_reducible refine (HC.out _).mono ?_); rintro e w1 ⟨rfl, n3, rfl⟩))
        go_ret
        exact ⟨rfl, _, rfl⟩
    · rw [h2] at zy
      clear h1 h2
      generalize kindB x = kx at *
      generalize kindB y = ky at *
      go_enter Try.func21, Try.ntmps21
      go_wp2_with (first
        | (go_at_call 11; (with_reducible refine (HX.out _).mono ?_); rintro e w1 ⟨rfl, n1, rfl⟩)
        | (go_at_call 11; (with_reducible refine (HY.out _).mono ?_); rintro e w1 ⟨rfl, n2, rfl⟩)
        | (go_at_call 7; (with_reducible refine (HO.out _).mono ?_); rintro e w1 ⟨rfl, rfl⟩))
      go_ret
      exact ⟨rfl, _, rfl⟩
  · rw [h1] at zx
    clear h1
    generalize kindB x = kx at *
    go_enter Try.func21, Try.ntmps21
    go_wp2_with (first
      | (go_at_call 11; (with_reducible refine (HX.out _).mono ?_); rintro e w1 ⟨rfl, n1, rfl⟩)
      | (go_at_call 7; (with_reducible refine (HO.out _).mono ?_); rintro e w1 ⟨rfl, rfl⟩))
    go_ret
    exact ⟨rfl, _, rfl⟩

theorem rmin_any (x y : Nat) (hx : x < 18446744073709551616) (hy : y < 18446744073709551616) (w : World) :
    Calls Try.prog 23 #[.float .f64 x, .float .f64 y] w fun e w' => e = .returned (.float .f64 (minN x y)) ∧ ∃ n, w' = w.drewN n := by
  have HX := Lib.hid fun W => rkind_any x hx W
  have HY := Lib.hid fun W => rkind_any y hy W
  have HO := Lib.hid fun W => of_lit 9221120237041090561 9221120237041090561 rfl W
  have HC := Lib.hid fun W => rcmp_any x y hx hy W
  have zx := kind_zero x
  have zy := kind_zero y
  unfold minN
  cases h1 : nanB x
  · rw [h1] at zx
    cases h2 : nanB y
    · rw [h2] at zy
      have hd : decide (cmpB x y < 0) = decide (placeB x < placeB y) := by
        unfold cmpB
        rw [decide_eq_decide]
        split
        · simp; omega
        · split
          · simp; omega
          · simp; omega
      by_cases h3 : placeB x < placeB y
      · rw [decide_eq_true h3] at hd
        rw [if_pos h3]
        clear h1 h2 h3
        generalize kindB x = kx at *
        generalize kindB y = ky at *
        generalize cmpB x y = c at *
        go_enter Try.func23, Try.ntmps23
        go_wp2_with (first
          | (go_at_call 11; (with_reducible refine (HX.out _).mono ?_); rintro e w1 ⟨rfl, n1, rfl⟩)
          | (go_at_call 11; (with_reducible refine (HY.out _).mono ?_); rintro e w1 ⟨rfl, n2, rfl⟩)
          | (go_at_call 17; (with_reducible refine (HC.out _).mono ?_); rintro e w1 ⟨rfl, n3, rfl⟩))
        go_ret
        exact ⟨rfl, _, rfl⟩
      · rw [decide_eq_false h3] at hd
        rw [if_neg h3]
        clear h1 h2 h3
        generalize kindB x = kx at *
        generalize kindB y = ky at *
        generalize cmpB x y = c at *
        go_enter Try.func23, Try.ntmps23
        go_wp2_with (first
          | (go_at_call 11; (with_reducible refine (HX.out _).mono ?_); rintro e w1 ⟨rfl, n1, rfl⟩)
          | (go_at_call 11; (with_reducible refine (HY.out _).mono ?_); rintro e w1 ⟨rfl, n2, rfl⟩)
          | (go_at_call 17; (with_reducible refine (HC.out _).mono ?_); rintro e w1 ⟨rfl, n3, rfl⟩))
        go_ret
        exact ⟨rfl, _, rfl⟩
    · rw [h2] at zy
      clear h1 h2
      generalize kindB x = kx at *
      generalize kindB y = ky at *
      go_enter Try.func23, Try.ntmps23
      go_wp2_with (first
        | (go_at_call 11; (with_reducible refine (HX.out _).mono ?_); rintro e w1 ⟨rfl, n1, rfl⟩)
        | (go_at_call 11; (with_reducible refine (HY.out _).mono ?_); rintro e w1 ⟨rfl, n2, rfl⟩)
        | (go_at_call 7; (with_reducible refine (HO.out _).mono ?_); rintro e w1 ⟨rfl, rfl⟩))
      go_ret
      exact ⟨rfl, _, rfl⟩
  · rw [h1] at zx
    clear h1
    generalize kindB x = kx at *
    go_enter Try.func23, Try.ntmps23
    go_wp2_with (first
      | (go_at_call 11; (with_reducible refine (HX.out _).mono ?_); rintro e w1 ⟨rfl, n1, rfl⟩)
      | (go_at_call 7; (with_reducible refine (HO.out _).mono ?_); rintro e w1 ⟨rfl, rfl⟩))
    go_ret
    exact ⟨rfl, _, rfl⟩

end Go.Proofs.Ytjhebbeojgbaoaa
