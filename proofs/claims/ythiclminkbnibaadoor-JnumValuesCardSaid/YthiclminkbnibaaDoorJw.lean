/-
  What the document's own Value of layer 9 answers. Condition: a text of a million bytes at most.
-/
import Derived.Test.YthiclminkbnibaaDoorJv2
import Derived.Test.YthiclminkbnibaaDoorJg
namespace Go.Proofs.YthiclminkbnibaaDoor
open Go.RowKit

set_option maxHeartbeats 8000000 in
set_option maxRecDepth 100000 in
theorem refValue_no (s : ByteArray) (w : World) (hs : s.size ≤ 1000000) (h : isB s = false) :
    Calls Tryd.prog 16 #[.string s] w fun e w' => e = .returned (.tuple #[.float .f64 (valB s), .int .i64 (errB s)]) ∧ Below w.heap.size w w' := by
  have HI := Lib.hid fun W => is_any s W (by omega)
  rw [h] at HI
  obtain ⟨e1, e2⟩ := val_no h
  rw [e1, e2]
  clear e1 e2 h
  go_enter Tryd.func16, Tryd.ntmps16
  go_wp2_with (go_at_call 13; refine (HI.out _).mono ?_; rintro e w' ⟨rfl, rfl⟩)
  go_ret2
  exact ⟨rfl, Below.refl _ _⟩

set_option maxHeartbeats 8000000 in
set_option maxRecDepth 100000 in
theorem refValue_yes (s : ByteArray) (w : World) (hs : s.size ≤ 1000000) (h : isB s = true) :
    Calls Tryd.prog 16 #[.string s] w fun e w' => e = .returned (.tuple #[.float .f64 (valB s), .int .i64 (errB s)]) ∧ Below w.heap.size w w' := by
  have HI := Lib.hid fun W => is_any s W (by omega)
  rw [h] at HI
  have HR := Lib.hid fun W => refParts_any s W hs h
  have hN := numT_of h
  have hd := dL_digits hN
  have hl : (dL s.data.toList).length ≤ 1000000 := by
    have h1 := dL_len s.data.toList
    have h2 := gL_len s.data.toList
    have h3 := ub_len (aL s.data.toList)
    have h4 := aL_len s.data.toList
    rw [← Lib.size_eq] at h4
    omega
  have hx := expL_bd s.data.toList
  have hm := magB_le (dL s.data.toList) (expL s.data.toList)
  have HVr := fun k => val_range (s := s) h k
  have HVs := fun k => val_some (s := s) h k
  clear h hN
  generalize valB s = v at *
  generalize errB s = r at *
  generalize negL s.data.toList = ng at *
  generalize dL s.data.toList = d at *
  generalize expL s.data.toList = x at *
  have hz := bs_size d
  have HK : Hid (∀ m : Nat, m ≤ 9218868437227405312 → ∀ W, Calls Tryd.prog 17 #[.float .f64 m] W fun e w' => e = .returned (.int .u64 (m : Nat)) ∧ ∃ n, w' = W.drewN n) := fun m hm W => by
    have := rbits_any m (by omega) W
    rwa [normB_num (by unfold nanB; rw [decide_eq_false]; omega)] at this
  have HO : Hid (∀ (m : Nat) W, Calls Tryd.prog 34 #[.int .u64 ((m : Int) + 9223372036854775808)] W fun e w' => e = .returned (.float .f64 (m + 9223372036854775808)) ∧ W = w') := fun m W => by
    have := of_any (m + 9223372036854775808) W
    rwa [show (((m + 9223372036854775808 : Nat)) : Int) = (m : Int) + 9223372036854775808 from by omega] at this
  have HOI := Lib.hid fun W => of_lit 9218868437227405312 9218868437227405312 rfl W
  obtain ⟨mg, hmg⟩ : ∃ mg, mg = magB d x := ⟨_, rfl⟩
  rw [← hmg] at hm HVr HVs
  unfold magB at hmg
  by_cases h0 : d = []
  · rw [if_pos (.inl h0)] at hmg
    subst h0
    have ez0 : bs [] = ⟨#[]⟩ := rfl
    rw [ez0] at HR
    clear hz ez0 hd hl HOI
    have hvr := HVs (by rw [hmg])
    rw [hmg] at hvr
    have HKM := Lib.hid (HK.out 0 (by omega))
    have HOM := Lib.hid fun W => of_lit 9223372036854775808 9223372036854775808 rfl W
    clear HVs HVr HK HO hm hmg
    obtain ⟨rfl, rfl⟩ := hvr
    cases ng
    · rw [if_neg (by decide)]
      clear HKM HOM
      go_enter Tryd.func16, Tryd.ntmps16
      go_wp2_with (first
          | (go_at_call 13; refine (HI.out _).mono ?_; rintro e w' ⟨rfl, rfl⟩)
          | (go_at_call 14; refine (HR.out _).mono ?_; rintro e w1 ⟨rfl, hb1⟩))
      go_ret2
      exact ⟨rfl, hb1.alloc hb1.size _⟩
    · rw [if_pos rfl]
      go_enter Tryd.func16, Tryd.ntmps16
      go_wp2_with (first
          | (go_at_call 13; refine (HI.out _).mono ?_; rintro e w' ⟨rfl, rfl⟩)
          | (go_at_call 14; refine (HR.out _).mono ?_; rintro e w1 ⟨rfl, hb1⟩)
          | (go_at_call 17; (with_reducible refine (HKM.out _).mono ?_); rintro e w' ⟨rfl, n1, rfl⟩)
          | (go_at_call 34; (with_reducible refine (HOM.out _).mono ?_); rintro e w' ⟨rfl, rfl⟩))
      go_ret2
      exact ⟨rfl, Below.drewN' (hb1.alloc hb1.size _) _⟩
  have hk0 := List.length_pos_iff.2 h0
  have d0 : decide ((0 : Int) < (d.length : Int)) = true := decide_eq_true (by omega)
  have d0n : decide (0 < d.length) = true := decide_eq_true hk0
  by_cases h1 : (d.length : Int) + x < -330
  · rw [if_pos (.inr h1)] at hmg
    have d1 : decide (310 < (d.length : Int) + x) = false := decide_eq_false (by omega)
    have d2 : decide (-330 ≤ (d.length : Int) + x) = false := decide_eq_false (by omega)
    clear h0 h1 hk0 hd HOI
    generalize bs d = D at *
    generalize d.length = k at *
    have hvr := HVs (by rw [hmg])
    rw [hmg] at hvr
    have HKM := Lib.hid (HK.out 0 (by omega))
    have HOM := Lib.hid fun W => of_lit 9223372036854775808 9223372036854775808 rfl W
    clear HVs HVr HK HO hm hmg
    obtain ⟨rfl, rfl⟩ := hvr
    cases ng
    · rw [if_neg (by decide)]
      clear HKM HOM
      go_enter Tryd.func16, Tryd.ntmps16
      go_wp2_with (first
          | (go_at_call 13; refine (HI.out _).mono ?_; rintro e w' ⟨rfl, rfl⟩)
          | (go_at_call 14; refine (HR.out _).mono ?_; rintro e w1 ⟨rfl, hb1⟩))
      go_ret2
      exact ⟨rfl, hb1.alloc hb1.size _⟩
    · rw [if_pos rfl]
      go_enter Tryd.func16, Tryd.ntmps16
      go_wp2_with (first
          | (go_at_call 13; refine (HI.out _).mono ?_; rintro e w' ⟨rfl, rfl⟩)
          | (go_at_call 14; refine (HR.out _).mono ?_; rintro e w1 ⟨rfl, hb1⟩)
          | (go_at_call 17; (with_reducible refine (HKM.out _).mono ?_); rintro e w' ⟨rfl, n1, rfl⟩)
          | (go_at_call 34; (with_reducible refine (HOM.out _).mono ?_); rintro e w' ⟨rfl, rfl⟩))
      go_ret2
      exact ⟨rfl, Below.drewN' (hb1.alloc hb1.size _) _⟩
  rw [if_neg (by simp [h0, h1])] at hmg
  by_cases h2 : 310 < (d.length : Int) + x
  · rw [if_pos h2] at hmg
    have d1 : decide (310 < (d.length : Int) + x) = true := decide_eq_true (by omega)
    clear h0 h1 h2 hk0 hd
    generalize bs d = D at *
    generalize d.length = k at *
    have hvr := HVs (by rw [hmg])
    rw [hmg] at hvr
    have HKM := Lib.hid (HK.out 9218868437227405312 (by omega))
    have HOM := Lib.hid fun W => of_lit 18442240474082181120 18442240474082181120 rfl W
    clear HVs HVr HK HO hm hmg
    obtain ⟨rfl, rfl⟩ := hvr
    cases ng
    · rw [if_neg (by decide)]
      clear HKM HOM
      go_enter Tryd.func16, Tryd.ntmps16
      go_wp2_with (first
          | (go_at_call 13; refine (HI.out _).mono ?_; rintro e w' ⟨rfl, rfl⟩)
          | (go_at_call 14; refine (HR.out _).mono ?_; rintro e w1 ⟨rfl, hb1⟩)
          | (go_at_call 34; (with_reducible refine (HOI.out _).mono ?_); rintro e w' ⟨rfl, rfl⟩))
      go_ret2
      exact ⟨rfl, hb1.alloc hb1.size _⟩
    · rw [if_pos rfl]
      go_enter Tryd.func16, Tryd.ntmps16
      go_wp2_with (first
          | (go_at_call 13; refine (HI.out _).mono ?_; rintro e w' ⟨rfl, rfl⟩)
          | (go_at_call 14; refine (HR.out _).mono ?_; rintro e w1 ⟨rfl, hb1⟩)
          | (go_at_call 34; (with_reducible refine (HOI.out _).mono ?_); rintro e w' ⟨rfl, rfl⟩)
          | (go_at_call 17; (with_reducible refine (HKM.out _).mono ?_); rintro e w' ⟨rfl, n1, rfl⟩)
          | (go_at_call 34; (with_reducible refine (HOM.out _).mono ?_); rintro e w' ⟨rfl, rfl⟩))
      go_ret2
      exact ⟨rfl, Below.drewN' (hb1.alloc hb1.size _) _⟩
  rw [if_neg h2] at hmg
  have d1 : decide (310 < (d.length : Int) + x) = false := decide_eq_false (by omega)
  have d2 : decide (-330 ≤ (d.length : Int) + x) = true := decide_eq_true (by omega)
  by_cases h3 : 15 < d.length ∨ x < -22 ∨ 22 < x
  · rw [if_pos h3] at hmg
    obtain ⟨rfl, rfl⟩ := HVr (by rw [hmg])
    have hg : decide (15 < (d.length : Int)) = true ∨ decide (15 < (d.length : Int)) = false ∧ decide (x < -22) = true ∨ decide (15 < (d.length : Int)) = false ∧ decide (x < -22) = false ∧ decide (22 < x) = true := by
      by_cases k1 : 15 < d.length
      · exact .inl (decide_eq_true (by omega))
      · by_cases k2 : x < -22
        · exact .inr (.inl ⟨decide_eq_false (by omega), decide_eq_true k2⟩)
        · exact .inr (.inr ⟨decide_eq_false (by omega), decide_eq_false k2, decide_eq_true (by omega)⟩)
    clear h0 h1 h2 h3 hk0 hd HOI HVs HVr HK HO hm hmg
    generalize bs d = D at *
    generalize d.length = k at *
    rcases hg with d3 | ⟨d3, d4⟩ | ⟨d3, d4, d5⟩
    all_goals
      go_enter Tryd.func16, Tryd.ntmps16
      go_wp2_with (first
          | (go_at_call 13; refine (HI.out _).mono ?_; rintro e w' ⟨rfl, rfl⟩)
          | (go_at_call 14; refine (HR.out _).mono ?_; rintro e w1 ⟨rfl, hb1⟩))
      go_ret2
      exact ⟨rfl, hb1.alloc hb1.size _⟩
  rw [if_neg h3] at hmg
  have d3 : decide (15 < (d.length : Int)) = false := decide_eq_false (by omega)
  have d4 : decide (x < -22) = false := decide_eq_false (by omega)
  have d5 : decide (22 < x) = false := decide_eq_false (by omega)
  have hnk := numK_small hd (by omega)
  have hx22 : -22 ≤ x ∧ x ≤ 22 := by omega
  have hA := fun k (hk : k < (bs d).size) => powL_at hd hk
  have HA := Lib.hid hA
  have hmono := fun j (hj : j ≤ d.length) => numK_mono (bs d) hj
  have HMO := Lib.hid hmono
  clear hA hmono h0 h1 h2 h3 hk0 hd HOI HVr
  by_cases h6 : x < 0
  · rw [if_pos h6] at hmg
    have hvr := HVs (by rw [hmg])
    rw [hmg] at hvr
    obtain ⟨hv0, rfl⟩ := hvr
    have HV0 := Lib.hid hv0
    clear hv0
    clear HVs hmg hm
    have d6 : decide (x < 0) = true := decide_eq_true h6
    obtain ⟨q, hq⟩ : ∃ q, q = (-x).toNat := ⟨_, rfl⟩
    have hq22 : q ≤ 22 := by omega
    have ht := (tms_run (numK (bs d) d.length) hq22).2 33
    have hv := (dvd_run (numK (bs d) d.length) hq22).2 33
    have hml : dvdB (numK (bs d) d.length) q ≤ 9218868437227405312 := (dvd_run _ hq22).1
    have HKM := Lib.hid (HK.out _ hml)
    have HOM := Lib.hid (HO.out (dvdB (numK (bs d) d.length) q))
    rw [← hq] at HV0
    have HQ := Lib.hid hq
    have hqx : (q : Int) = -x := by omega
    clear HK HO hq
    generalize bs d = D at *
    generalize d.length = k at *
    obtain ⟨n, hn⟩ : ∃ n, n = numK D k := ⟨_, rfl⟩
    rw [← hn] at ht hv hml HKM HOM HMO hnk
    rw [← hn] at HV0
    have HNK := Lib.hid hn
    clear hn
    generalize htm : tmsB n q = tm at *
    generalize hdv : dvdB n q = dv at *
    clear htm hdv
    go_enter Tryd.func16, Tryd.ntmps16
    go_wp2_with (first
        | (go_at_call 13; refine (HI.out _).mono ?_; rintro e w' ⟨rfl, rfl⟩)
        | (go_at_call 14; refine (HR.out _).mono ?_; rintro e w1 ⟨rfl, hb1⟩))
    go_loop [10, 8] (fun i v => ∃ j : Nat, j ≤ k ∧ i = .int .i64 j ∧ v = .int .i64 (numK D j : Nat)) (fun i _ => k - (intOf i).toNat)
    case atStart => exact ⟨0, Nat.zero_le _, rfl, rfl⟩
    case round =>
      obtain ⟨j, hj, rfl, rfl⟩ := hrel
      by_cases hlt : j < k
      · have hjs : j < D.size := by omega
        obtain ⟨g1, g2⟩ := HA.out j hjs
        have HN := Lib.hid (numK_succ hjs)
        have hnj := HMO.out j hj
        have e1 : decide ((j : Int) < (k : Int)) = true := decide_eq_true (by omega)
        have e2 : decide (j < k) = true := decide_eq_true hlt
        go_wp2
        go_round
        case rel => exact ⟨j + 1, by omega, by go_num, by rw [HN.out]; go_num⟩
        case measure => simp [intOf]; omega
      · obtain rfl : j = k := by omega
        have e1 : decide ((j : Int) < (j : Int)) = false := decide_eq_false (by omega)
        rw [← HNK.out]
        go_wp2
        go_loop [11, 9] (fun i v => ∃ m : Nat, m ≤ q ∧ i = .int .i64 m ∧ v = .float .f64 (tensB m)) (fun i _ => q - (intOf i).toNat)
        case atStart => exact ⟨0, Nat.zero_le _, rfl, rfl⟩
        case round =>
          obtain ⟨m, hmq, rfl, rfl⟩ := hrel
          by_cases hlt2 : m < q
          · have htm := tens_mul (k := m) (by omega)
            have e2 : decide ((m : Int) < x) = false := decide_eq_false (by omega)
            have e3 : decide ((m : Int) < -x) = true := decide_eq_true (by omega)
            go_wp2
            go_round
            case rel => exact ⟨m + 1, by omega, by go_num, rfl⟩
            case measure => simp [intOf]; omega
          · obtain rfl : m = q := by omega
            have e2 : decide ((m : Int) < x) = false := decide_eq_false (by omega)
            have e3 : decide ((m : Int) < -x) = false := decide_eq_false (by omega)
            clear hqx HQ
            generalize tensB m = tb at *
            cases ng
            · have HVF : Hid (v = dv) := by have := HV0.out; rw [if_neg (by decide)] at this; exact this
              clear HKM HOM
              go_wp2
              go_ret2
              exact ⟨by rw [HVF.out]; first | done | rfl, hb1.alloc hb1.size _⟩
            · have HVF : Hid (v = dv + 9223372036854775808) := by have := HV0.out; rw [if_pos rfl] at this; exact this
              go_wp2_with (first
                | (go_at_call 17; (with_reducible refine (HKM.out _).mono ?_); rintro e w' ⟨rfl, n1, rfl⟩)
                | (go_at_call 34; (with_reducible refine (HOM.out _).mono ?_); rintro e w' ⟨rfl, rfl⟩))
              go_ret2
              exact ⟨by rw [HVF.out]; first | done | rfl, Below.drewN' (hb1.alloc hb1.size _) _⟩
  · rw [if_neg h6] at hmg
    have hvr := HVs (by rw [hmg])
    rw [hmg] at hvr
    obtain ⟨hv0, rfl⟩ := hvr
    have HV0 := Lib.hid hv0
    clear hv0
    clear HVs hmg hm
    have d6 : decide (x < 0) = false := decide_eq_false h6
    obtain ⟨q, hq⟩ : ∃ q, q = x.toNat := ⟨_, rfl⟩
    have hq22 : q ≤ 22 := by omega
    have ht := (tms_run (numK (bs d) d.length) hq22).2 33
    have hv := (dvd_run (numK (bs d) d.length) hq22).2 33
    have hml : tmsB (numK (bs d) d.length) q ≤ 9218868437227405312 := (tms_run _ hq22).1
    have HKM := Lib.hid (HK.out _ hml)
    have HOM := Lib.hid (HO.out (tmsB (numK (bs d) d.length) q))
    rw [← hq] at HV0
    have HQ := Lib.hid hq
    have hqx : (q : Int) = x := by omega
    clear HK HO hq
    generalize bs d = D at *
    generalize d.length = k at *
    obtain ⟨n, hn⟩ : ∃ n, n = numK D k := ⟨_, rfl⟩
    rw [← hn] at ht hv hml HKM HOM HMO hnk
    rw [← hn] at HV0
    have HNK := Lib.hid hn
    clear hn
    generalize htm : tmsB n q = tm at *
    generalize hdv : dvdB n q = dv at *
    clear htm hdv
    go_enter Tryd.func16, Tryd.ntmps16
    go_wp2_with (first
        | (go_at_call 13; refine (HI.out _).mono ?_; rintro e w' ⟨rfl, rfl⟩)
        | (go_at_call 14; refine (HR.out _).mono ?_; rintro e w1 ⟨rfl, hb1⟩))
    go_loop [10, 8] (fun i v => ∃ j : Nat, j ≤ k ∧ i = .int .i64 j ∧ v = .int .i64 (numK D j : Nat)) (fun i _ => k - (intOf i).toNat)
    case atStart => exact ⟨0, Nat.zero_le _, rfl, rfl⟩
    case round =>
      obtain ⟨j, hj, rfl, rfl⟩ := hrel
      by_cases hlt : j < k
      · have hjs : j < D.size := by omega
        obtain ⟨g1, g2⟩ := HA.out j hjs
        have HN := Lib.hid (numK_succ hjs)
        have hnj := HMO.out j hj
        have e1 : decide ((j : Int) < (k : Int)) = true := decide_eq_true (by omega)
        have e2 : decide (j < k) = true := decide_eq_true hlt
        go_wp2
        go_round
        case rel => exact ⟨j + 1, by omega, by go_num, by rw [HN.out]; go_num⟩
        case measure => simp [intOf]; omega
      · obtain rfl : j = k := by omega
        have e1 : decide ((j : Int) < (j : Int)) = false := decide_eq_false (by omega)
        rw [← HNK.out]
        go_wp2
        go_loop [11, 9] (fun i v => ∃ m : Nat, m ≤ q ∧ i = .int .i64 m ∧ v = .float .f64 (tensB m)) (fun i _ => q - (intOf i).toNat)
        case atStart => exact ⟨0, Nat.zero_le _, rfl, rfl⟩
        case round =>
          obtain ⟨m, hmq, rfl, rfl⟩ := hrel
          by_cases hlt2 : m < q
          · have htm := tens_mul (k := m) (by omega)
            have e2 : decide ((m : Int) < x) = true := decide_eq_true (by omega)
            have e3 : decide ((m : Int) < -x) = false := decide_eq_false (by omega)
            go_wp2
            go_round
            case rel => exact ⟨m + 1, by omega, by go_num, rfl⟩
            case measure => simp [intOf]; omega
          · obtain rfl : m = q := by omega
            have e2 : decide ((m : Int) < x) = false := decide_eq_false (by omega)
            have e3 : decide ((m : Int) < -x) = false := decide_eq_false (by omega)
            clear hqx HQ
            generalize tensB m = tb at *
            cases ng
            · have HVF : Hid (v = tm) := by have := HV0.out; rw [if_neg (by decide)] at this; exact this
              clear HKM HOM
              go_wp2
              go_ret2
              exact ⟨by rw [HVF.out]; first | done | rfl, hb1.alloc hb1.size _⟩
            · have HVF : Hid (v = tm + 9223372036854775808) := by have := HV0.out; rw [if_pos rfl] at this; exact this
              go_wp2_with (first
                | (go_at_call 17; (with_reducible refine (HKM.out _).mono ?_); rintro e w' ⟨rfl, n1, rfl⟩)
                | (go_at_call 34; (with_reducible refine (HOM.out _).mono ?_); rintro e w' ⟨rfl, rfl⟩))
              go_ret2
              exact ⟨by rw [HVF.out]; first | done | rfl, Below.drewN' (hb1.alloc hb1.size _) _⟩

end Go.Proofs.YthiclminkbnibaaDoor
