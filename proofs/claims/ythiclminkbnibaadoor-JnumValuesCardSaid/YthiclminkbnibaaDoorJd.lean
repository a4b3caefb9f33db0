/-
  What the document's own power of layer 9 answers. Condition: a sign, or none, and digits, at least one byte, as long as a length can be.
-/
import Derived.Test.YthiclminkbnibaaDoorJc
namespace Go.Proofs.YthiclminkbnibaaDoor
open Go.RowKit

/-- One digit more, far from 0 no more. -/
theorem far_step {v k d : Nat} (h : min v 1099511627776 = min k 1099511627776) (hv : v < 1099511627776) : min (10 * v + d) 1099511627776 = min (10 * k + d) 1099511627776 := by
  have : v = k := by omega
  rw [this]
theorem far_stay {v k d : Nat} (h : min v 1099511627776 = min k 1099511627776) (hv : ¬ v < 1099511627776) : min v 1099511627776 = min (10 * k + d) 1099511627776 := by omega
theorem far_end {v k : Nat} (h : min v 1099511627776 = min k 1099511627776) : (if 1099511627776 < v then (1099511627776 : Nat) else v) = if k ≤ 1099511627776 then k else 1099511627776 := by
  split <;> split <;> omega

/-- Behind the sign: the digits' loop, and what is told. -/
theorem powL_at {ds : List UInt8} (h : AllD ds) {k : Nat} (hk : k < (bs ds).size) : 48 ≤ (bs ds)[k].toNat ∧ (bs ds)[k].toNat ≤ 57 := by
  refine digB_range (h _ ?_)
  have : (bs ds)[k] = ds[k]'(by rw [← bs_size]; exact hk) := by
    show (bs ds).data[k] = _
    simp [bs]
  rw [this]
  exact List.getElem_mem _

set_option maxHeartbeats 4000000 in
theorem refPower_plain (ds : List UInt8) (w : World) (hs : ds.length ≤ 9223372036854775807) (hd : AllD ds) (hn : ds ≠ []) :
    Calls Tryd.prog 31 #[.string (bs ds)] w fun e w' => e = .returned (.int .i64 (pwN 1099511627776 ds : Nat)) ∧ w = w' := by
  have hz := bs_size ds
  have h0 : 0 < (bs ds).size := by rw [hz]; exact List.length_pos_iff.2 hn
  have hA := fun k (hk : k < (bs ds).size) => powL_at hd hk
  have hb := dig_not (hd _ (List.getElem_mem (l := ds) (n := 0) (List.length_pos_iff.2 hn)))
  have e0 : (bs ds)[0] = ds[0]'(List.length_pos_iff.2 hn) := by
    show (bs ds).data[0] = _
    simp [bs]
  have f45 : (((bs ds)[0].toNat : Int) == 45) = false := by rw [e0]; exact beqF hb.2.2.2.1
  have f43 : (((bs ds)[0].toNat : Int) == 43) = false := by rw [e0]; exact beqF hb.2.2.2.2
  obtain ⟨r, hr⟩ : ∃ r, r = pwN 1099511627776 ds := ⟨_, rfl⟩
  rw [← hr]
  have HR : Hid (r = if numK (bs ds) (bs ds).size ≤ 1099511627776 then numK (bs ds) (bs ds).size else 1099511627776) := by rw [hz]; exact hr
  have HA := Lib.hid hA
  rw [← hz] at hs
  clear hA hb e0 hr hd hn hz
  generalize bs ds = X at *
  go_enter Tryd.func31, Tryd.ntmps31
  go_wp2
  go_loop [5, 4] (fun i n => ∃ k v : Nat, k ≤ X.size ∧ i = .int .i64 k ∧ n = .int .i64 v ∧ v ≤ 12094627905536 ∧ Hid (min v 1099511627776 = min (numK X k) 1099511627776)) (fun i _ => X.size - (intOf i).toNat)
  case atStart => exact ⟨0, 0, by omega, rfl, rfl, by omega, rfl⟩
  case round =>
    obtain ⟨k, v, hk, rfl, rfl, hv, HM⟩ := hrel
    by_cases hlt : k < X.size
    · obtain ⟨g1, g2⟩ := HA.out k hlt
      have HN := Lib.hid (numK_succ hlt)
      by_cases hf : v < 1099511627776
      · have hfI : decide ((v : Int) < 1099511627776) = true := decide_eq_true (by omega)
        have HE : Hid (min (10 * v + (X[k].toNat - 48)) 1099511627776 = min (numK X (k + 1)) 1099511627776) := by rw [HN.out]; exact far_step HM.out hf
        clear HN
        go_wp2
        go_round
        case rel => exact ⟨k + 1, 10 * v + (X[k].toNat - 48), by omega, by go_num, by go_num, by omega, HE⟩
        case measure => simp [intOf]; omega
      · have hfI : decide ((v : Int) < 1099511627776) = false := decide_eq_false (by omega)
        have HE : Hid (min v 1099511627776 = min (numK X (k + 1)) 1099511627776) := by rw [HN.out]; exact far_stay HM.out hf
        clear HN
        go_wp2
        go_round
        case rel => exact ⟨k + 1, v, by omega, by go_num, rfl, by omega, HE⟩
        case measure => simp [intOf]; omega
    · obtain rfl : k = X.size := by omega
      have HV : Hid (r = if 1099511627776 < v then (1099511627776 : Nat) else v) := HR.out.trans (far_end HM.out).symm
      clear HR HM HA
      by_cases hf : 1099511627776 < v
      · have hfI : decide ((1099511627776 : Int) < (v : Int)) = true := decide_eq_true (by omega)
        have HW : Hid (r = 1099511627776) := by rw [HV.out, if_pos hf]; exact rfl
        clear HV
        go_wp2
        go_ret
        exact ⟨by rw [HW.out]; rfl, rfl⟩
      · have hfI : decide ((1099511627776 : Int) < (v : Int)) = false := decide_eq_false (by omega)
        have HW : Hid (r = v) := by rw [HV.out, if_neg hf]; exact rfl
        clear HV
        go_wp2
        go_ret
        exact ⟨by rw [HW.out]; rfl, rfl⟩

set_option maxHeartbeats 4000000 in
theorem refPower_plus (ds : List UInt8) (w : World) (hs : ds.length < 9223372036854775807) (hd : AllD ds) (hn : ds ≠ []) :
    Calls Tryd.prog 31 #[.string (bs (43 :: ds))] w fun e w' => e = .returned (.int .i64 (pwN 1099511627776 ds : Nat)) ∧ w = w' := by
  have hz := bs_size ds
  have hzz := bs_size (43 :: ds)
  have h0 : 0 < (bs (43 :: ds)).size := by rw [hzz]; simp
  have hA := fun k (hk : k < (bs ds).size) => powL_at hd hk
  have e0 : (bs (43 :: ds))[0] = 43 := rfl
  have f45 : (((bs (43 :: ds))[0].toNat : Int) == 45) = false := by rw [e0]; rfl
  have f43 : (((bs (43 :: ds))[0].toNat : Int) == 43) = true := by rw [e0]; rfl
  have hx : (bs (43 :: ds)).extract 1 (bs (43 :: ds)).size = bs ds := bs_ext (by rw [Lib.extract_to_end, bs_list, bs_list]; rfl)
  obtain ⟨r, hr⟩ : ∃ r, r = pwN 1099511627776 ds := ⟨_, rfl⟩
  rw [← hr]
  have HR : Hid (r = if numK (bs ds) (bs ds).size ≤ 1099511627776 then numK (bs ds) (bs ds).size else 1099511627776) := by rw [hz]; exact hr
  have HA := Lib.hid hA
  have hs2 : (bs (43 :: ds)).size ≤ 9223372036854775807 := by rw [hzz, List.length_cons]; omega
  have h1 : (1 : Int) ≤ ((bs (43 :: ds)).size : Int) := by omega
  rw [← hz] at hs
  clear hA e0 hr hd hn hz hzz
  generalize bs (43 :: ds) = Z at *
  generalize bs ds = X at *
  go_enter Tryd.func31, Tryd.ntmps31
  go_wp2
  go_loop [5, 4] (fun i n => ∃ k v : Nat, k ≤ X.size ∧ i = .int .i64 k ∧ n = .int .i64 v ∧ v ≤ 12094627905536 ∧ Hid (min v 1099511627776 = min (numK X k) 1099511627776)) (fun i _ => X.size - (intOf i).toNat)
  case atStart => exact ⟨0, 0, by omega, rfl, rfl, by omega, rfl⟩
  case round =>
    obtain ⟨k, v, hk, rfl, rfl, hv, HM⟩ := hrel
    by_cases hlt : k < X.size
    · obtain ⟨g1, g2⟩ := HA.out k hlt
      have HN := Lib.hid (numK_succ hlt)
      by_cases hf : v < 1099511627776
      · have hfI : decide ((v : Int) < 1099511627776) = true := decide_eq_true (by omega)
        have HE : Hid (min (10 * v + (X[k].toNat - 48)) 1099511627776 = min (numK X (k + 1)) 1099511627776) := by rw [HN.out]; exact far_step HM.out hf
        clear HN
        go_wp2
        go_round
        case rel => exact ⟨k + 1, 10 * v + (X[k].toNat - 48), by omega, by go_num, by go_num, by omega, HE⟩
        case measure => simp [intOf]; omega
      · have hfI : decide ((v : Int) < 1099511627776) = false := decide_eq_false (by omega)
        have HE : Hid (min v 1099511627776 = min (numK X (k + 1)) 1099511627776) := by rw [HN.out]; exact far_stay HM.out hf
        clear HN
        go_wp2
        go_round
        case rel => exact ⟨k + 1, v, by omega, by go_num, rfl, by omega, HE⟩
        case measure => simp [intOf]; omega
    · obtain rfl : k = X.size := by omega
      have HV : Hid (r = if 1099511627776 < v then (1099511627776 : Nat) else v) := HR.out.trans (far_end HM.out).symm
      clear HR HM HA
      by_cases hf : 1099511627776 < v
      · have hfI : decide ((1099511627776 : Int) < (v : Int)) = true := decide_eq_true (by omega)
        have HW : Hid (r = 1099511627776) := by rw [HV.out, if_pos hf]; exact rfl
        clear HV
        go_wp2
        go_ret
        exact ⟨by rw [HW.out]; rfl, rfl⟩
      · have hfI : decide ((1099511627776 : Int) < (v : Int)) = false := decide_eq_false (by omega)
        have HW : Hid (r = v) := by rw [HV.out, if_neg hf]; exact rfl
        clear HV
        go_wp2
        go_ret
        exact ⟨by rw [HW.out]; rfl, rfl⟩

set_option maxHeartbeats 4000000 in
theorem refPower_minus (ds : List UInt8) (w : World) (hs : ds.length < 9223372036854775807) (hd : AllD ds) (hn : ds ≠ []) :
    Calls Tryd.prog 31 #[.string (bs (45 :: ds))] w fun e w' => e = .returned (.int .i64 (-(pwN 1099511627776 ds : Int))) ∧ w = w' := by
  have hz := bs_size ds
  have hzz := bs_size (45 :: ds)
  have h0 : 0 < (bs (45 :: ds)).size := by rw [hzz]; simp
  have hA := fun k (hk : k < (bs ds).size) => powL_at hd hk
  have e0 : (bs (45 :: ds))[0] = 45 := rfl
  have f45 : (((bs (45 :: ds))[0].toNat : Int) == 45) = true := by rw [e0]; rfl
  have f43 : (((bs (45 :: ds))[0].toNat : Int) == 43) = false := by rw [e0]; rfl
  have hx : (bs (45 :: ds)).extract 1 (bs (45 :: ds)).size = bs ds := bs_ext (by rw [Lib.extract_to_end, bs_list, bs_list]; rfl)
  obtain ⟨r, hr⟩ : ∃ r, r = pwN 1099511627776 ds := ⟨_, rfl⟩
  rw [← hr]
  have HR : Hid (r = if numK (bs ds) (bs ds).size ≤ 1099511627776 then numK (bs ds) (bs ds).size else 1099511627776) := by rw [hz]; exact hr
  have HA := Lib.hid hA
  have hs2 : (bs (45 :: ds)).size ≤ 9223372036854775807 := by rw [hzz, List.length_cons]; omega
  have h1 : (1 : Int) ≤ ((bs (45 :: ds)).size : Int) := by omega
  rw [← hz] at hs
  clear hA e0 hr hd hn hz hzz
  generalize bs (45 :: ds) = Z at *
  generalize bs ds = X at *
  go_enter Tryd.func31, Tryd.ntmps31
  go_wp2
  go_loop [5, 4] (fun i n => ∃ k v : Nat, k ≤ X.size ∧ i = .int .i64 k ∧ n = .int .i64 v ∧ v ≤ 12094627905536 ∧ Hid (min v 1099511627776 = min (numK X k) 1099511627776)) (fun i _ => X.size - (intOf i).toNat)
  case atStart => exact ⟨0, 0, by omega, rfl, rfl, by omega, rfl⟩
  case round =>
    obtain ⟨k, v, hk, rfl, rfl, hv, HM⟩ := hrel
    by_cases hlt : k < X.size
    · obtain ⟨g1, g2⟩ := HA.out k hlt
      have HN := Lib.hid (numK_succ hlt)
      by_cases hf : v < 1099511627776
      · have hfI : decide ((v : Int) < 1099511627776) = true := decide_eq_true (by omega)
        have HE : Hid (min (10 * v + (X[k].toNat - 48)) 1099511627776 = min (numK X (k + 1)) 1099511627776) := by rw [HN.out]; exact far_step HM.out hf
        clear HN
        go_wp2
        go_round
        case rel => exact ⟨k + 1, 10 * v + (X[k].toNat - 48), by omega, by go_num, by go_num, by omega, HE⟩
        case measure => simp [intOf]; omega
      · have hfI : decide ((v : Int) < 1099511627776) = false := decide_eq_false (by omega)
        have HE : Hid (min v 1099511627776 = min (numK X (k + 1)) 1099511627776) := by rw [HN.out]; exact far_stay HM.out hf
        clear HN
        go_wp2
        go_round
        case rel => exact ⟨k + 1, v, by omega, by go_num, rfl, by omega, HE⟩
        case measure => simp [intOf]; omega
    · obtain rfl : k = X.size := by omega
      have HV : Hid (r = if 1099511627776 < v then (1099511627776 : Nat) else v) := HR.out.trans (far_end HM.out).symm
      clear HR HM HA
      by_cases hf : 1099511627776 < v
      · have hfI : decide ((1099511627776 : Int) < (v : Int)) = true := decide_eq_true (by omega)
        have HW : Hid (r = 1099511627776) := by rw [HV.out, if_pos hf]; exact rfl
        clear HV
        go_wp2
        go_ret
        exact ⟨by rw [HW.out]; rfl, rfl⟩
      · have hfI : decide ((1099511627776 : Int) < (v : Int)) = false := decide_eq_false (by omega)
        have HW : Hid (r = v) := by rw [HV.out, if_neg hf]; exact rfl
        clear HV
        go_wp2
        go_ret
        exact ⟨by rw [HW.out]; rfl, rfl⟩

/-- The power of what stands behind an e. -/
theorem refPower_any {l : List UInt8} (h : NumT l) (hw : wL l ≠ []) (w : World) (hs : l.length ≤ 1000000) :
    Calls Tryd.prog 31 #[.string (bs (zL l))] w fun e w' => e = .returned (.int .i64 (pwZ 1099511627776 (zL l))) ∧ w = w' := by
  have hl := zL_len l
  rcases h.e with k | ⟨e, sg, ds, k, hsg, hn, hd⟩
  · exact absurd k hw
  · have ez : zL l = sg ++ ds := by unfold zL; rw [k]; rfl
    rw [ez] at hl ⊢
    rw [List.length_append] at hl
    rcases hsg with rfl | rfl | rfl
    · rw [List.nil_append]
      have hp := powT_of h
      rw [ez, List.nil_append] at hp
      have hng : negL ds = false := by
        cases ds with
        | nil => exact absurd rfl hn
        | cons b t =>
          have hb := dig_not (hd b (List.mem_cons_self ..))
          exact (neg_cons b t).trans (by simpa using fun e => by rw [e] at hb; exact hb.2.2.2.1 rfl)
      have := refPower_plain ds w (by omega) hd hn
      unfold pwZ
      rw [if_neg (by rw [hng]; decide), trimPlus_digits hd]
      exact this
    · have := refPower_plus ds w (by omega) hd hn
      unfold pwZ
      rw [if_neg (by rw [show negL ([43] ++ ds) = false from neg_cons 43 ds]; decide)]
      exact this
    · have := refPower_minus ds w (by omega) hd hn
      unfold pwZ
      rw [if_pos (show negL ([45] ++ ds) = true from neg_cons 45 ds)]
      rw [show mL ([45] ++ ds) = ds from mL_yes ds]
      exact this

end Go.Proofs.YthiclminkbnibaaDoor
