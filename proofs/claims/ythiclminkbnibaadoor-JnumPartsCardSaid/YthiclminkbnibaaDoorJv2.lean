/-
  What package jnum's Value and Edge answer. Condition: a text of a million bytes at most.
-/
import Derived.Test.YthiclminkbnibaaDoorJv1
import Derived.Test.YthiclminkbnibaaDoorJe
namespace Go.Proofs.YthiclminkbnibaaDoor
open Go.RowKit

theorem or_sign {x : Nat} (h : x < 9223372036854775808) : bits .or .u64 (x : Int) 9223372036854775808 = ((x + 9223372036854775808 : Nat) : Int) := by
  have := u64_or_nat x 9223372036854775808 (by omega) (by decide)
  have h2 : 9223372036854775808 + x = 9223372036854775808 ||| x := Nat.two_pow_add_eq_or_of_lt (i := 63) (b := x) h 1
  have e : x ||| 9223372036854775808 = x + 9223372036854775808 := by
    rw [Nat.or_comm]
    omega
  rw [e] at this
  exact this
theorem and_sign : bits .and .u64 13830554455654793216 9223372036854775808 = 9223372036854775808 := by kernel_rfl

set_option maxHeartbeats 400000 in
theorem copysign_any (x : Nat) (hx : x < 9223372036854775808) (w : World) :
    Calls Tryd.prog 33 #[.float .f64 x, .float .f64 13830554455654793216] w fun e w' => e = .returned (.float .f64 (x + 9223372036854775808)) ∧ w = w' := by
  have h1 := mag_bits x (by omega)
  rw [Nat.mod_eq_of_lt hx] at h1
  have h2 := and_sign
  have h3 := or_sign hx
  have hb := bits_run
  have h4 := from_run (x + 9223372036854775808)
  generalize x + 9223372036854775808 = y at *
  go_enter Tryd.func33, Tryd.ntmps33
  go_wp2
  go_ret
  exact ⟨rfl, rfl⟩

theorem upto_is {k : Int} (h : k ≤ 22) : upto22 k = k.toNat := by
  unfold upto22
  split <;> omega

set_option maxHeartbeats 4000000 in
theorem size_any9 (d : List UInt8) (x : Int) (w : World) (hd : AllD d) (hl : d.length ≤ 1000000) (hx : -9999 ≤ x ∧ x ≤ 9999) :
    Calls Tryd.prog 32 #[.string (bs d), .int .i64 x] w fun e w' => e = .returned (.tuple #[.float .f64 (magB d x).1, .bool (magB d x).2]) ∧ Below w.heap.size w w' := by
  have hz := bs_size d
  obtain ⟨m, hm⟩ : ∃ m, m = magB d x := ⟨_, rfl⟩
  rw [← hm]
  unfold magB at hm
  by_cases h0 : d = []
  · rw [if_pos (.inl h0)] at hm
    subst h0
    subst hm
    have ez0 : bs [] = ⟨#[]⟩ := rfl
    rw [ez0]
    clear hz
    go_enter Tryd.func32, Tryd.ntmps32
    go_wp2
    go_ret2
    exact ⟨rfl, Below.refl _ _⟩
  have hk0 := List.length_pos_iff.2 h0
  have f0 : (((bs d).size : Int) == 0) = false := by rw [beq_eq_false_iff_ne]; omega
  by_cases h1 : (d.length : Int) + x < -330
  · rw [if_pos (.inr h1)] at hm
    have d1 : decide (((bs d).size : Int) + x < -330) = true := decide_eq_true (by omega)
    subst hm
    clear h0 h1 hk0 hd
    generalize bs d = D at *
    have hDl : D.size ≤ 1000000 := by omega
    clear hz
    go_enter Tryd.func32, Tryd.ntmps32
    go_wp2
    go_ret2
    exact ⟨rfl, Below.refl _ _⟩
  rw [if_neg (by simp [h0, h1])] at hm
  have d1 : decide (((bs d).size : Int) + x < -330) = false := decide_eq_false (by omega)
  by_cases h2 : 310 < (d.length : Int) + x
  · rw [if_pos h2] at hm
    have d2 : decide (310 < ((bs d).size : Int) + x) = true := decide_eq_true (by omega)
    have HI := Lib.hid fun W => inf_any 1 W
    have ei : infOf 1 = 9218868437227405312 := by unfold infOf; rw [if_pos (by omega)]
    rw [ei] at HI
    subst hm
    have hDl : (bs d).size ≤ 1000000 := by omega
    clear h0 h1 h2 hk0 hd ei hz
    generalize bs d = D at *
    go_enter Tryd.func32, Tryd.ntmps32
    go_wp2_with (go_at_call 54; refine (HI.out _).mono ?_; rintro e w1 ⟨rfl, rfl⟩)
    go_ret2
    exact ⟨rfl, Below.refl _ _⟩
  rw [if_neg h2] at hm
  have d2 : decide (310 < ((bs d).size : Int) + x) = false := decide_eq_false (by omega)
  have hDl : (bs d).size ≤ 1000000 := by omega
  by_cases h3 : 15 < d.length
  · rw [if_pos (.inl h3)] at hm
    have d3 : decide (15 < ((bs d).size : Int)) = true := decide_eq_true (by omega)
    subst hm
    clear h0 h1 h2 h3 hk0 hd hz
    generalize bs d = D at *
    go_enter Tryd.func32, Tryd.ntmps32
    go_wp2
    go_ret2
    exact ⟨rfl, Below.refl _ _⟩
  have d3 : decide (15 < ((bs d).size : Int)) = false := decide_eq_false (by omega)
  by_cases h4 : x < -22
  · rw [if_pos (.inr (.inl h4))] at hm
    have d4 : decide (x < -22) = true := decide_eq_true h4
    subst hm
    clear h0 h1 h2 h3 h4 hk0 hd hz
    generalize bs d = D at *
    go_enter Tryd.func32, Tryd.ntmps32
    go_wp2
    go_ret2
    exact ⟨rfl, Below.refl _ _⟩
  have d4 : decide (x < -22) = false := decide_eq_false h4
  by_cases h5 : 22 < x
  · rw [if_pos (.inr (.inr h5))] at hm
    have d5 : decide (22 < x) = true := decide_eq_true h5
    subst hm
    clear h0 h1 h2 h3 h4 h5 hk0 hd hz
    generalize bs d = D at *
    go_enter Tryd.func32, Tryd.ntmps32
    go_wp2
    go_ret2
    exact ⟨rfl, Below.refl _ _⟩
  have d5 : decide (22 < x) = false := decide_eq_false h5
  rw [if_neg (by omega)] at hm
  have HP := Lib.hid fun W => parse_any (bs d) W (by omega)
  rw [parV_digits hd h0 (by omega)] at HP
  have hn := numK_small hd (by omega)
  generalize numK (bs d) d.length = n at *
  by_cases h6 : x < 0
  · rw [if_pos h6] at hm
    have HT : Hid (∀ W, Calls Tryd.prog 56 #[.int .i64 (-x)] W fun e w' => e = .returned (.float .f64 (tensB (-x).toNat)) ∧ W = w') := fun W => by
      have := tens_any (-x) W
      rwa [upto_is (by omega)] at this
    have hq := (dvd_run n (k := (-x).toNat) (by omega)).2 33
    subst hm
    have d6 : decide (x < 0) = true := decide_eq_true h6
    clear h0 h1 h2 h3 h4 h5 hk0 hd hz
    generalize dvdB n (-x).toNat = r at *
    generalize tensB (-x).toNat = t at *
    generalize bs d = D at *
    go_enter Tryd.func32, Tryd.ntmps32
    go_wp2_with (first
      | (go_at_call 55; refine (HP.out _).mono ?_; rintro e w1 ⟨rfl, hb1⟩)
      | (go_at_call 56; refine (HT.out _).mono ?_; rintro e w' ⟨rfl, rfl⟩))
    go_ret2
    exact ⟨rfl, hb1⟩
  · rw [if_neg h6] at hm
    have HT : Hid (∀ W, Calls Tryd.prog 56 #[.int .i64 x] W fun e w' => e = .returned (.float .f64 (tensB x.toNat)) ∧ W = w') := fun W => by
      have := tens_any x W
      rwa [upto_is (by omega)] at this
    have hq := (tms_run n (k := x.toNat) (by omega)).2 33
    subst hm
    have d6 : decide (x < 0) = false := decide_eq_false h6
    clear h0 h1 h2 h3 h4 h5 hk0 hd hz
    generalize tmsB n x.toNat = r at *
    generalize tensB x.toNat = t at *
    generalize bs d = D at *
    go_enter Tryd.func32, Tryd.ntmps32
    go_wp2_with (first
      | (go_at_call 55; refine (HP.out _).mono ?_; rintro e w1 ⟨rfl, hb1⟩)
      | (go_at_call 56; refine (HT.out _).mono ?_; rintro e w' ⟨rfl, rfl⟩))
    go_ret2
    exact ⟨rfl, hb1⟩

/-- Parts, whatever a text is. -/
theorem parts_any (s : ByteArray) (w : World) (hs : s.size ≤ 1000000) :
    Calls Tryd.prog 12 #[.string s] w fun e w' => e = .returned (prtV s) ∧ Below w.heap.size w w' := by
  cases h : isB s
  · exact parts_no s w hs h
  · exact parts_yes s w hs h

set_option maxHeartbeats 4000000 in
theorem value_any (s : ByteArray) (w : World) (hs : s.size ≤ 1000000) :
    Calls Tryd.prog 15 #[.string s] w fun e w' => e = .returned (.tuple #[.float .f64 (valB s), .int .i64 (errB s)]) ∧ Below w.heap.size w w' := by
  have HP := Lib.hid fun W => parts_any s W hs
  cases h : isB s
  · rw [prtV_no h] at HP
    obtain ⟨e1, e2⟩ := val_no h
    rw [e1, e2]
    clear e1 e2 h
    go_enter Tryd.func15, Tryd.ntmps15
    go_wp2_with (go_at_call 12; refine (HP.out _).mono ?_; rintro e w1 ⟨rfl, hb1⟩)
    go_ret2
    exact ⟨rfl, hb1⟩
  · have hp : prtV s = .tuple #[.bool (negL s.data.toList), .string (bs (dL s.data.toList)), .int .i64 (expL s.data.toList), .bool true] := by unfold prtV; rw [if_pos h]
    rw [hp] at HP
    clear hp
    have hN := numT_of h
    have hd := dL_digits hN
    have hl : (dL s.data.toList).length ≤ 1000000 := by
      have h1 := dL_len s.data.toList
      have h2 := gL_len s.data.toList
      have h3 := ub_len (aL s.data.toList)
      have h4 := aL_len s.data.toList
      rw [← Lib.size_eq] at h4
      omega
    have HS := Lib.hid fun W => size_any9 (dL s.data.toList) (expL s.data.toList) W hd hl (expL_bd _)
    have hm := magB_le (dL s.data.toList) (expL s.data.toList)
    cases hk : (magB (dL s.data.toList) (expL s.data.toList)).2
    · obtain ⟨e1, e2⟩ := val_range h hk
      rw [e1, e2]
      rw [hk] at HS
      clear e1 e2 h hk hN hd hl
      generalize negL s.data.toList = ng at *
      generalize bs (dL s.data.toList) = D at *
      generalize expL s.data.toList = x at *
      generalize (magB (dL s.data.toList) x).1 = m at *
      go_enter Tryd.func15, Tryd.ntmps15
      go_wp2_with (first
        | (go_at_call 12; refine (HP.out _).mono ?_; rintro e w1 ⟨rfl, hb1⟩)
        | (go_at_call 32; refine (HS.out _).mono ?_; rintro e w2 ⟨rfl, hb2⟩))
      go_ret2
      exact ⟨rfl, hb1.trans (hb2.mono hb1.size)⟩
    · obtain ⟨e1, e2⟩ := val_some h hk
      rw [e1, e2]
      rw [hk] at HS
      clear e1 e2 h hk hN hd hl
      generalize bs (dL s.data.toList) = D at *
      generalize (magB (dL s.data.toList) (expL s.data.toList)).1 = m at *
      generalize expL s.data.toList = x at *
      have HC := Lib.hid fun W => copysign_any m (by omega) W
      cases hng : negL s.data.toList
      · rw [hng] at HP
        rw [if_neg (by decide)]
        clear hng HC
        go_enter Tryd.func15, Tryd.ntmps15
        go_wp2_with (first
          | (go_at_call 12; refine (HP.out _).mono ?_; rintro e w1 ⟨rfl, hb1⟩)
          | (go_at_call 32; refine (HS.out _).mono ?_; rintro e w2 ⟨rfl, hb2⟩))
        go_ret2
        exact ⟨rfl, hb1.trans (hb2.mono hb1.size)⟩
      · rw [hng] at HP
        rw [if_pos rfl]
        clear hng
        generalize m + 9223372036854775808 = mm at *
        go_enter Tryd.func15, Tryd.ntmps15
        go_wp2_with (first
          | (go_at_call 12; refine (HP.out _).mono ?_; rintro e w1 ⟨rfl, hb1⟩)
          | (go_at_call 32; refine (HS.out _).mono ?_; rintro e w2 ⟨rfl, hb2⟩)
          | (go_at_call 33; refine (HC.out _).mono ?_; rintro e w' ⟨rfl, rfl⟩))
        go_ret2
        exact ⟨rfl, hb1.trans (hb2.mono hb1.size)⟩

/-- What Edge tells. -/
def edgB (s : ByteArray) : Int := if errB s = 0 then kindB (valB s) else -1
set_option maxHeartbeats 1000000 in
theorem edge_any (s : ByteArray) (w : World) (hs : s.size ≤ 1000000) :
    Calls Tryd.prog 18 #[.string s] w fun e w' => e = .returned (.int .i64 (edgB s)) ∧ Below w.heap.size w w' := by
  have HV := Lib.hid fun W => value_any s W hs
  have HK := Lib.hid fun W => kind_any (valB s) (valB_lt s) W
  unfold edgB
  by_cases h : errB s = 0
  · rw [if_pos h]
    rw [h] at HV
    clear h
    generalize kindB (valB s) = k at *
    generalize valB s = v at *
    go_enter Tryd.func18, Tryd.ntmps18
    go_wp2_with (first
      | (go_at_call 15; refine (HV.out _).mono ?_; rintro e w1 ⟨rfl, hb1⟩)
      | (go_at_call 36; refine (HK.out _).mono ?_; rintro e w' ⟨rfl, n, rfl⟩))
    go_ret
    exact ⟨rfl, Below.drewN' hb1 _⟩
  · rw [if_neg h]
    have hz : (errB s != 0) = true := by simpa using h
    clear h HK
    generalize valB s = v at *
    generalize errB s = r at *
    go_enter Tryd.func18, Tryd.ntmps18
    go_wp2_with (go_at_call 15; refine (HV.out _).mono ?_; rintro e w1 ⟨rfl, hb1⟩)
    go_ret
    exact ⟨rfl, hb1⟩

end Go.Proofs.YthiclminkbnibaaDoor
