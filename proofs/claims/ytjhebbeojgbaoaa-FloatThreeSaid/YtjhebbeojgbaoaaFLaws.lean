/-
  What layer 8's lives answers, and that the laws FloatKinds, FloatOrders and FloatThree return true for any bits. Condition: bits below 2^64.
-/
import Derived.Test.YtjhebbeojgbaoaaFr
namespace Go.Proofs.Ytjhebbeojgbaoaa
open Go.RowKit

theorem cmp_lives : cmpB 9223372036854775808 0 = -1 := by kernel_rfl
theorem kind_lives (r : Nat) (h : normB r = normB (quotB 1 0)) : kindB r = 1 := by
  have e : quotB 1 0 = 9218868437227405312 := by kernel_rfl
  have n : nanB 9218868437227405312 = false := by kernel_rfl
  have k : kindB 9218868437227405312 = 1 := by kernel_rfl
  rw [e] at h
  rw [num_norm h n, k]
theorem tens_lives : tensB (upto22 2) = 4636737291354636288 := by kernel_rfl

set_option maxHeartbeats 1000000 in
theorem lives8_any (w : World) :
    Calls Try.prog 16 #[] w fun e w' => e = .returned (.bool true) ∧ ∃ n, w' = w.drewN n := by
  have HO := Lib.hid fun W => of_lit 9223372036854775808 9223372036854775808 rfl W
  have HC : Hid (∀ W, Calls Try.prog 18 #[.float .f64 9223372036854775808, .float .f64 0] W fun e w' => e = .returned (.int .i64 (-1)) ∧ ∃ n, w' = W.drewN n) := fun W => cmp_lives ▸ cmp_any 9223372036854775808 0 (by decide) (by decide) W
  have HR := Lib.hid fun W => ratio_any 1 0 W
  have HK : Hid (∀ r W, r < 18446744073709551616 → normB r = normB (quotB 1 0) → Calls Try.prog 10 #[.float .f64 r] W fun e w' => e = .returned (.int .i64 1) ∧ ∃ n, w' = W.drewN n) := fun r W h1 h2 => kind_lives r h2 ▸ kind_any r h1 W
  have HT : Hid (∀ W, Calls Try.prog 27 #[.int .i64 2] W fun e w' => e = .returned (.float .f64 4636737291354636288) ∧ W = w') := fun W => tens_lives ▸ tens_any 2 W
  have ho : (FloatKind.f64.format.order 4636737291354636288 4636737291354636288 == some .eq) = true := by kernel_rfl
  go_enter Try.func16, Try.ntmps16
  go_wp2_with (first
    | (go_at_call 7; (with_reducible refine (HO.out _).mono ?_); rintro e w1 ⟨rfl, rfl⟩)
    | (go_at_call 18; (with_reducible refine (HC.out _).mono ?_); rintro e w1 ⟨rfl, n1, rfl⟩)
    | (go_at_call 25; (with_reducible refine (HR.out _).mono ?_); rintro e w1 ⟨r, rfl, hr, hn, n2, rfl⟩; have H1 := Lib.hid hr; have H2 := Lib.hid hn; clear hr hn)
    | (go_at_call 10; (with_reducible refine (HK.out r _ H1.out H2.out).mono ?_); rintro e w1 ⟨rfl, n3, rfl⟩)
    | (go_at_call 27; (with_reducible refine (HT.out _).mono ?_); rintro e w1 ⟨rfl, rfl⟩))
  go_ret
  exact ⟨rfl, _, rfl⟩

theorem below_drewN (w : World) (n : Nat) : Below w.heap.size w (w.drewN n) := ⟨rfl, rfl, rfl, Nat.le_refl _, fun _ _ => rfl⟩

set_option maxHeartbeats 1000000 in
theorem floatKinds_any (x : Nat) (hx : x < 18446744073709551616) (w : World) :
    Calls Try.prog 3 #[.int .u64 x] w fun e w' => e = .returned (.bool true) ∧ Below w.heap.size w w' := by
  have HO := Lib.hid fun W => of_any x W
  have HW := Lib.hid fun W => whole_any x hx W
  have HV := Lib.hid fun W => rwhole_any x hx W
  have HK := Lib.hid fun W => kind_any x hx W
  have HJ := Lib.hid fun W => rkind_any x hx W
  have HS := Lib.hid fun W => sign_any x hx W
  have HT := Lib.hid fun W => rsign_any x hx W
  have HB := Lib.hid fun W => fbits_any x hx W
  have HC := Lib.hid fun W => rbits_any x hx W
  have HL := Lib.hid fun W => lives8_any W
  generalize wholeV x = v at *
  generalize wholeB x = b at *
  generalize kindB x = k at *
  generalize signB x = s at *
  generalize normB x = m at *
  go_enter Try.func3, Try.ntmps3
  go_wp2_with (first
    | (go_at_call 7; refine (HO.out _).mono ?_; rintro e w1 ⟨rfl, rfl⟩)
    | (go_at_call 8; refine (HW.out _).mono ?_; rintro e w1 ⟨rfl, n1, rfl⟩)
    | (go_at_call 9; refine (HV.out _).mono ?_; rintro e w1 ⟨rfl, n2, rfl⟩)
    | (go_at_call 10; refine (HK.out _).mono ?_; rintro e w1 ⟨rfl, n3, rfl⟩)
    | (go_at_call 11; refine (HJ.out _).mono ?_; rintro e w1 ⟨rfl, n4, rfl⟩)
    | (go_at_call 12; refine (HS.out _).mono ?_; rintro e w1 ⟨rfl, n5, rfl⟩)
    | (go_at_call 13; refine (HT.out _).mono ?_; rintro e w1 ⟨rfl, n6, rfl⟩)
    | (go_at_call 14; refine (HB.out _).mono ?_; rintro e w1 ⟨rfl, n7, rfl⟩)
    | (go_at_call 15; refine (HC.out _).mono ?_; rintro e w1 ⟨rfl, n8, rfl⟩)
    | (go_at_call 16; refine (HL.out _).mono ?_; rintro e w1 ⟨rfl, n9, rfl⟩))
  go_ret
  exact ⟨rfl, below_drewN _ _⟩

set_option maxHeartbeats 2000000 in
theorem floatOrders_any (x y : Nat) (hx : x < 18446744073709551616) (hy : y < 18446744073709551616) (w : World) :
    Calls Try.prog 4 #[.int .u64 x, .int .u64 y] w fun e w' => e = .returned (.bool true) ∧ Below w.heap.size w w' := by
  have HOx := Lib.hid fun W => of_any x W
  have HOy := Lib.hid fun W => of_any y W
  have HC := Lib.hid fun W => cmp_any x y hx hy W
  have HD := Lib.hid fun W => rcmp_any x y hx hy W
  have HS := Lib.hid fun W => same_any x y hx hy W
  have HBx := Lib.hid fun W => rbits_any x hx W
  have HBy := Lib.hid fun W => rbits_any y hy W
  have HM := Lib.hid fun W => max_any x y hx hy W
  have HN := Lib.hid fun W => min_any x y hx hy W
  have HP := Lib.hid fun W => rmax_any x y hx hy W
  have HQ := Lib.hid fun W => rmin_any x y hx hy W
  have HBP := Lib.hid fun W => rbits_any (maxN x y) (maxN_lt hx hy) W
  have HBQ := Lib.hid fun W => rbits_any (minN x y) (minN_lt hx hy) W
  have HF : Hid (∀ r m W, r < 18446744073709551616 → normB r = m → Calls Try.prog 14 #[.float .f64 r] W fun e w' => e = .returned (.int .u64 (m : Nat)) ∧ ∃ n, w' = W.drewN n) := fun r m W h1 h2 => h2 ▸ fbits_any r h1 W
  have HL := Lib.hid fun W => lives8_any W
  have hs := same_beq x y
  generalize maxN x y = p at *
  generalize minN x y = q at *
  generalize cmpB x y = c at *
  generalize sameB x y = s at *
  generalize normB x = a at *
  generalize normB y = b at *
  go_enter Try.func4, Try.ntmps4
  go_wp2_with (first
    | (go_at_call 7; (with_reducible refine (HOx.out _).mono ?_); rintro e w1 ⟨rfl, rfl⟩)
    | (go_at_call 7; (with_reducible refine (HOy.out _).mono ?_); rintro e w1 ⟨rfl, rfl⟩)
    | (go_at_call 18; (with_reducible refine (HC.out _).mono ?_); rintro e w1 ⟨rfl, n1, rfl⟩)
    | (go_at_call 17; (with_reducible refine (HD.out _).mono ?_); rintro e w1 ⟨rfl, n2, rfl⟩)
    | (go_at_call 19; (with_reducible refine (HS.out _).mono ?_); rintro e w1 ⟨rfl, n3, rfl⟩)
    | (go_at_call 15; (with_reducible refine (HBx.out _).mono ?_); rintro e w1 ⟨rfl, n4, rfl⟩)
    | (go_at_call 15; (with_reducible refine (HBy.out _).mono ?_); rintro e w1 ⟨rfl, n5, rfl⟩)
    | (go_at_call 15; (with_reducible refine (HBP.out _).mono ?_); rintro e w1 ⟨rfl, n6, rfl⟩)
    | (go_at_call 15; (with_reducible refine (HBQ.out _).mono ?_); rintro e w1 ⟨rfl, n7, rfl⟩)
    | (go_at_call 20; (with_reducible refine (HM.out _).mono ?_); rintro e w1 ⟨r, rfl, hr, hn, n8, rfl⟩; have H1 := Lib.hid hr; have H2 := Lib.hid hn; clear hr hn)
    | (go_at_call 14; (with_reducible refine (HF.out r _ _ H1.out H2.out).mono ?_); rintro e w1 ⟨rfl, n9, rfl⟩)
    | (go_at_call 21; (with_reducible refine (HP.out _).mono ?_); rintro e w1 ⟨rfl, n10, rfl⟩)
    | (go_at_call 22; (with_reducible refine (HN.out _).mono ?_); rintro e w1 ⟨t, rfl, hr, hn, n11, rfl⟩; have H3 := Lib.hid hr; have H4 := Lib.hid hn; clear hr hn)
    | (go_at_call 14; (with_reducible refine (HF.out t _ _ H3.out H4.out).mono ?_); rintro e w1 ⟨rfl, n12, rfl⟩)
    | (go_at_call 23; (with_reducible refine (HQ.out _).mono ?_); rintro e w1 ⟨rfl, n13, rfl⟩)
    | (go_at_call 16; refine (HL.out _).mono ?_; rintro e w1 ⟨rfl, n14, rfl⟩))
  go_ret
  exact ⟨rfl, below_drewN _ _⟩

theorem cmp_turn (x y : Nat) : cmpB y x = -cmpB x y := by
  unfold cmpB
  by_cases h1 : placeB x < placeB y <;> by_cases h2 : placeB y < placeB x <;> simp [h1, h2]
  omega
theorem cmp_back (x y : Nat) : wrap64 (-cmpB y x) = cmpB x y := by
  rw [cmp_turn, Int.neg_neg]
  unfold cmpB
  split
  · kernel_rfl
  · split <;> kernel_rfl
theorem cmp_back' (x y : Nat) : IntKind.i64.wrap (-cmpB y x) = cmpB x y := by
  rw [cmp_turn, Int.neg_neg]
  unfold cmpB
  split
  · kernel_rfl
  · split <;> kernel_rfl
theorem cmp_le (x y : Nat) : cmpB x y ≤ 0 ↔ placeB x ≤ placeB y := by
  unfold cmpB
  split
  · simp; omega
  · split
    · simp; omega
    · simp; omega
theorem cmp_step {x y z : Nat} (h1 : cmpB x y ≤ 0) (h2 : cmpB y z ≤ 0) : ¬ 0 < cmpB x z := by
  rw [cmp_le] at h1 h2
  have := (cmp_le x z).2 (by omega)
  omega

set_option maxHeartbeats 2000000 in
theorem floatThree_any (x y z : Nat) (hx : x < 18446744073709551616) (hy : y < 18446744073709551616) (hz : z < 18446744073709551616) (w : World) :
    Calls Try.prog 5 #[.int .u64 x, .int .u64 y, .int .u64 z] w fun e w' => e = .returned (.bool true) ∧ Below w.heap.size w w' := by
  have HOx := Lib.hid fun W => of_any x W
  have HOy := Lib.hid fun W => of_any y W
  have HOz := Lib.hid fun W => of_any z W
  have HC := Lib.hid fun W => cmp_any x y hx hy W
  have HD := Lib.hid fun W => cmp_any y x hy hx W
  have HE := Lib.hid fun W => cmp_any y z hy hz W
  have HG := Lib.hid fun W => cmp_any x z hx hz W
  have HS : Hid (∀ W, Calls Try.prog 19 #[.float .f64 x, .float .f64 y] W fun e w' => e = .returned (.bool (cmpB x y == 0)) ∧ ∃ n, w' = W.drewN n) := fun W => cmp_same hx hy ▸ same_any x y hx hy W
  have HA := Lib.hid fun W => clamp_any x y z hx hy hz W
  have HP := Lib.hid fun W => rmax_any x y hx hy W
  have HQ := Lib.hid fun W => rmin_any (maxN x y) z (maxN_lt hx hy) hz W
  have HBQ := Lib.hid fun W => rbits_any (minN (maxN x y) z) (minN_lt (maxN_lt hx hy) hz) W
  have HF : Hid (∀ r m W, r < 18446744073709551616 → normB r = m → Calls Try.prog 14 #[.float .f64 r] W fun e w' => e = .returned (.int .u64 (m : Nat)) ∧ ∃ n, w' = W.drewN n) := fun r m W h1 h2 => h2 ▸ fbits_any r h1 W
  have HL := Lib.hid fun W => lives8_any W
  have hw := cmp_back x y
  have hw' := cmp_back' x y
  have hst := @cmp_step x y z
  generalize minN (maxN x y) z = q at *
  generalize maxN x y = p at *
  generalize cmpB x y = c at *
  generalize cmpB y x = c2 at *
  generalize cmpB y z = d at *
  generalize cmpB x z = e3 at *
  have hd : decide (c ≤ 0) = false ∨ decide (c ≤ 0) = true ∧ decide (d ≤ 0) = false ∨ decide (c ≤ 0) = true ∧ decide (d ≤ 0) = true ∧ decide (0 < e3) = false := by
    by_cases h1 : c ≤ 0
    · by_cases h2 : d ≤ 0
      · exact .inr (.inr ⟨by simpa using h1, by simpa using h2, by simpa using hst h1 h2⟩)
      · exact .inr (.inl ⟨by simpa using h1, by simpa using h2⟩)
    · exact .inl (by simpa using h1)
  clear hst
  rcases hd with d1 | ⟨d1, d2⟩ | ⟨d1, d2, d3⟩
  all_goals
    go_enter Try.func5, Try.ntmps5
    go_wp2_with (first
      | (go_at_call 7; (with_reducible refine (HOx.out _).mono ?_); rintro e w1 ⟨rfl, rfl⟩)
      | (go_at_call 7; (with_reducible refine (HOy.out _).mono ?_); rintro e w1 ⟨rfl, rfl⟩)
      | (go_at_call 7; (with_reducible refine (HOz.out _).mono ?_); rintro e w1 ⟨rfl, rfl⟩)
      | (go_at_call 18; (with_reducible refine (HC.out _).mono ?_); rintro e w1 ⟨rfl, n1, rfl⟩)
      | (go_at_call 18; (with_reducible refine (HD.out _).mono ?_); rintro e w1 ⟨rfl, n2, rfl⟩)
      | (go_at_call 18; (with_reducible refine (HE.out _).mono ?_); rintro e w1 ⟨rfl, n3, rfl⟩)
      | (go_at_call 18; (with_reducible refine (HG.out _).mono ?_); rintro e w1 ⟨rfl, n4, rfl⟩)
      | (go_at_call 19; (with_reducible refine (HS.out _).mono ?_); rintro e w1 ⟨rfl, n5, rfl⟩)
      | (go_at_call 24; (with_reducible refine (HA.out _).mono ?_); rintro e w1 ⟨r, rfl, hr, hn, n6, rfl⟩; have H1 := Lib.hid hr; have H2 := Lib.hid hn; clear hr hn)
      | (go_at_call 14; (with_reducible refine (HF.out r _ _ H1.out H2.out).mono ?_); rintro e w1 ⟨rfl, n7, rfl⟩)
      | (go_at_call 21; (with_reducible refine (HP.out _).mono ?_); rintro e w1 ⟨rfl, n8, rfl⟩)
      | (go_at_call 23; (with_reducible refine (HQ.out _).mono ?_); rintro e w1 ⟨rfl, n9, rfl⟩)
      | (go_at_call 15; (with_reducible refine (HBQ.out _).mono ?_); rintro e w1 ⟨rfl, n10, rfl⟩)
      | (go_at_call 16; refine (HL.out _).mono ?_; rintro e w1 ⟨rfl, n11, rfl⟩))
    go_ret
    exact ⟨rfl, below_drewN _ _⟩

end Go.Proofs.Ytjhebbeojgbaoaa
