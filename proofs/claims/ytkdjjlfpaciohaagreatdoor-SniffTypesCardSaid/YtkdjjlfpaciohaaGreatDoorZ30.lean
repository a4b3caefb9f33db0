/-
  The document's own answer for layer 18: rates, frequencies, whether a frame is good, how many bytes it has. Condition: that a number is in a table.
  The document's own answer for layer 18: frequencies, whether a frame is good. No condition.
  The document's own answer for layer 18: how many bytes a frame has, its samples. No condition.
-/
import Derived.Test.YtkdjjlfpaciohaaGreatDoorZ29
import Derived.Deep.DeepCutAuto
import Derived.Outline
namespace Go.Proofs.YtkdjjlfpaciohaaGreatDoor
open Go.RowKit

theorem ratN_at {o : Bool} {n : Nat} (h : n < 15) : (tabL (ratL o))[n]? = some (.int .i64 (ratN o n : Nat)) := by
  have hl : n < (ratL o).length := by rw [ratL_len]; exact h
  rw [tabL_at _ n hl]
  unfold ratN
  rw [List.getD_eq_getElem?_getD, List.getElem?_eq_getElem hl]
  rfl

set_option maxHeartbeats 2000000 in
theorem rrate_any (v : Int) (n : Nat) (w : World) (h : 0 ≤ v ∧ v < 4) (hn : n < 15) :
    Calls Tryz.prog 125 #[.int .i64 v, .int .i64 n] w fun e w' => e = .returned (.int .i64 (ratN (oddB v) n : Nat)) ∧ Below w.heap.size w w' := by
  obtain ⟨d, hd⟩ : ∃ d : Nat, d = ratN (oddB v) n := ⟨_, rfl⟩
  rw [← hd]
  have hn1 : (n : Int) < 15 := by omega
  have hv2 : (v % 2 == 1) = oddB v := by unfold oddB; rw [Bool.eq_iff_iff, beq_iff_eq, decide_eq_true_eq]
  have HA := Lib.hid (ratN_at (o := true) hn)
  have HB := Lib.hid (ratN_at (o := false) hn)
  have HD := Lib.hid hd
  clear hd
  go_enter Tryz.func125, Tryz.ntmps125
  go_upto_region 3 with fail
  rw [show (#[.int .i64 0, .int .i64 32000, .int .i64 40000, .int .i64 48000, .int .i64 56000, .int .i64 64000, .int .i64 80000, .int .i64 96000, .int .i64 112000, .int .i64 128000, .int .i64 160000, .int .i64 192000, .int .i64 224000, .int .i64 256000, .int .i64 320000] : Array Value) = tabL (ratL true) from rfl, show (#[.int .i64 0, .int .i64 8000, .int .i64 16000, .int .i64 24000, .int .i64 32000, .int .i64 40000, .int .i64 48000, .int .i64 56000, .int .i64 64000, .int .i64 80000, .int .i64 96000, .int .i64 112000, .int .i64 128000, .int .i64 144000, .int .i64 160000] : Array Value) = tabL (ratL false) from rfl]
  have HK1 := Lib.hid ((Blk.new w 3 (tabL (ratL true))).alloc (.cells (tabL (ratL false)) 3))
  have HK2 := Lib.hid (Blk.new2 w (.cells (tabL (ratL true)) 3) 3 (tabL (ratL false)))
  have HW := Lib.hid (((Below.refl w.heap.size w).alloc (Nat.le_refl _) (.cells (tabL (ratL true)) 3)).alloc (by simp) (.cells (tabL (ratL false)) 3))
  generalize (w.alloc (.cells (tabL (ratL true)) 3)).alloc (.cells (tabL (ratL false)) 3) = W at *
  cases ho : oddB v
  all_goals
    rw [ho] at hv2 HD
    clear ho
  · have e0 := (HK2.out.cell n).trans HB.out
    go_wp2
    go_ret
    exact ⟨by rw [HD.out]; first | done | rfl, HW.out⟩
  · have e0 := (HK1.out.cell n).trans HA.out
    go_wp2
    go_ret
    exact ⟨by rw [HD.out]; first | done | rfl, HW.out⟩

end Go.Proofs.YtkdjjlfpaciohaaGreatDoor
namespace Go.Proofs.YtkdjjlfpaciohaaGreatDoor
open Go.RowKit

theorem rfreq_any (n : Nat) (w : World) (hn : n < 3) :
    Calls Tryz.prog 126 #[.int .i64 n] w fun e w' => e = .returned (.int .i64 (freN n : Nat)) ∧ w = w' := by
  have h : n = 0 ∨ n = 1 ∨ n = 2 := by omega
  rcases h with rfl | rfl | rfl
  all_goals
    go_enter Tryz.func126, Tryz.ntmps126
    go_wp2
    go_ret
    exact ⟨rfl, rfl⟩

theorem ratN_any (o : Bool) (r : Int) : (ratL o).any (fun n : Nat => decide ((n : Int) = r)) = true ↔ ∃ i, i < 15 ∧ ((ratN o i : Nat) : Int) = r := by
  rw [List.any_eq_true]
  constructor
  · rintro ⟨n, hn, e⟩
    obtain ⟨i, hi, rfl⟩ := List.mem_iff_getElem.1 hn
    refine ⟨i, by rw [ratL_len] at hi; exact hi, ?_⟩
    unfold ratN
    rw [List.getD_eq_getElem?_getD, List.getElem?_eq_getElem hi]
    exact of_decide_eq_true e
  · rintro ⟨i, hi, e⟩
    have hl : i < (ratL o).length := by rw [ratL_len]; exact hi
    refine ⟨(ratL o)[i], List.getElem_mem hl, decide_eq_true ?_⟩
    unfold ratN at e
    rw [List.getD_eq_getElem?_getD, List.getElem?_eq_getElem hl] at e
    exact e
theorem freN_any (q : Int) : freL.any (fun n : Nat => decide ((n : Int) = q)) = true ↔ ∃ i, i < 3 ∧ ((freN i : Nat) : Int) = q := by
  rw [List.any_eq_true]
  constructor
  · rintro ⟨n, hn, e⟩
    obtain ⟨i, hi, rfl⟩ := List.mem_iff_getElem.1 hn
    refine ⟨i, hi, ?_⟩
    unfold freN
    rw [List.getD_eq_getElem?_getD, List.getElem?_eq_getElem hi]
    exact of_decide_eq_true e
  · rintro ⟨i, hi, e⟩
    have hl : i < freL.length := hi
    refine ⟨freL[i], List.getElem_mem hl, decide_eq_true ?_⟩
    unfold freN at e
    rw [List.getD_eq_getElem?_getD, List.getElem?_eq_getElem hl] at e
    exact e
/-- Whether the frame with these numbers is this one. -/
def hitB (v r q : Int) (i k : Nat) : Bool := decide (r = (ratN (oddB v) i : Nat)) && decide (q = (freN k : Nat))
theorem gd_hit {v r q : Int} {p : Bool} {i k : Nat} (h : 0 ≤ v ∧ v < 4) (hi : i < 15) (hk : k < 3) (e : hitB v r q i k = true) : gdB ⟨v, 3, r, q, p⟩ = true := by
  unfold hitB at e
  simp only [Bool.and_eq_true, decide_eq_true_eq] at e
  rw [gdB_parts h rfl, Bool.and_eq_true, ratN_any, freN_any]
  exact ⟨⟨i, hi, e.1.symm⟩, ⟨k, hk, e.2.symm⟩⟩
theorem gd_none {v r q : Int} {p : Bool} (h : 0 ≤ v ∧ v < 4) (hn : ∀ i, i < 15 → ∀ k, k < 3 → hitB v r q i k = false) : gdB ⟨v, 3, r, q, p⟩ = false := by
  cases e : gdB ⟨v, 3, r, q, p⟩
  · rfl
  · rw [gdB_parts h rfl, Bool.and_eq_true, ratN_any, freN_any] at e
    obtain ⟨⟨i, hi, e1⟩, ⟨k, hk, e2⟩⟩ := e
    have := hn i hi k hk
    unfold hitB at this
    rw [decide_eq_true e1.symm, decide_eq_true e2.symm] at this
    cases this

set_option maxHeartbeats 4000000 in
set_option maxRecDepth 100000 in
theorem rgood_parts (v l r q : Int) (p : Bool) (w : World) :
    Calls Tryz.prog 143 #[frmV ⟨v, l, r, q, p⟩] w fun e w' => e = .returned (.bool (gdB ⟨v, l, r, q, p⟩)) ∧ Below w.heap.size w w' := by
  obtain ⟨d, hd⟩ : ∃ d : Bool, d = gdB ⟨v, l, r, q, p⟩ := ⟨_, rfl⟩
  rw [← hd]
  have HD := Lib.hid hd
  clear hd
  by_cases hok : 0 ≤ v ∧ v < 4 ∧ l = 3
  · obtain ⟨h0, h4, rfl⟩ := hok
    have HX := Lib.hid (FrmAt.new w ⟨v, 3, r, q, p⟩)
    have HT := Lib.hid (fun i k (hi : i < 15) (hk : k < 3) (e : hitB v r q i k = true) => HD.out.trans (gd_hit ⟨h0, h4⟩ hi hk e))
    have HN := Lib.hid (fun hn => HD.out.trans (gd_none (p := p) ⟨h0, h4⟩ hn))
    have HR := Lib.hid (fun i W hi => rrate_any v i W ⟨h0, h4⟩ hi)
    have f0 : ∀ y : Wld (FrmAt w w.heap.size ⟨v, 3, r, q, p⟩), y.val.cell? ⟨w.heap.size, 0, none⟩ = some (.int .i64 v) := fun y => y.ok.2.cell 0
    have f1 : ∀ y : Wld (FrmAt w w.heap.size ⟨v, 3, r, q, p⟩), y.val.cell? ⟨w.heap.size, 1, none⟩ = some (.int .i64 3) := fun y => y.ok.2.cell 1
    have f2 : ∀ y : Wld (FrmAt w w.heap.size ⟨v, 3, r, q, p⟩), y.val.cell? ⟨w.heap.size, 2, none⟩ = some (.int .i64 r) := fun y => y.ok.2.cell 2
    have f3 : ∀ y : Wld (FrmAt w w.heap.size ⟨v, 3, r, q, p⟩), y.val.cell? ⟨w.heap.size, 3, none⟩ = some (.int .i64 q) := fun y => y.ok.2.cell 3
    have inst : Nonempty (Wld (FrmAt w w.heap.size ⟨v, 3, r, q, p⟩)) := ⟨⟨_, HX.out⟩⟩
    clear HD
    go_enter Tryz.func143, Tryz.ntmps143
    go_wp2
    go_loopw [3, 4] (fun i _ wr => ∃ n : Nat, n ≤ 15 ∧ i = .int .i64 (n : Nat) ∧ (∀ i', i' < n → ∀ k, k < 3 → hitB v r q i' k = false) ∧ FrmAt w w.heap.size ⟨v, 3, r, q, p⟩ wr) (fun i _ _ => 15 - (intOf i).toNat)
    case atStart => exact ⟨0, by omega, rfl, fun i hi => absurd hi (by omega), HX.out⟩
    case round =>
      obtain ⟨n, hn, rfl, hno, hw⟩ := hrel
      have HNO := Lib.hid hno
      have HW := Lib.hid hw
      clear hno hw
      by_cases hlt : n < 15
      · go_wp2
        go_loopw [4] (fun k wr => ∃ m : Nat, m ≤ 3 ∧ k = .int .i64 (m : Nat) ∧ (∀ k', k' < m → hitB v r q n k' = false) ∧ FrmAt w w.heap.size ⟨v, 3, r, q, p⟩ wr) (fun k _ => 3 - (intOf k).toNat)
        case atStart => exact ⟨0, by omega, rfl, fun i hi => absurd hi (by omega), HW.out⟩
        case round =>
          obtain ⟨m, hm, rfl, hno, hw⟩ := hrel
          have HMO := Lib.hid hno
          have HW := Lib.hid hw
          clear hno hw
          by_cases hlt3 : m < 3
          · have HRN := Lib.hid (fun W => HR.out n W hlt)
            have HFN := Lib.hid (fun W => rfreq_any m W hlt3)
            have HH := Lib.hid (show hitB v r q n m = (decide (r = (ratN (oddB v) n : Nat)) && decide (q = (freN m : Nat))) from rfl)
            generalize ratN (oddB v) n = rt at *
            generalize freN m = fq at *
            have d1 : (r == (rt : Int)) = decide (r = (rt : Nat)) := by rw [Bool.eq_iff_iff, beq_iff_eq, decide_eq_true_eq]
            have d2 : (q == (fq : Int)) = decide (q = (fq : Nat)) := by rw [Bool.eq_iff_iff, beq_iff_eq, decide_eq_true_eq]
            generalize decide (r = (rt : Nat)) = b1 at *
            generalize decide (q = (fq : Nat)) = b2 at *
            have hcase : (b1 = false) ∨ (b1 = true ∧ b2 = false) ∨ (b1 = true ∧ b2 = true) := by cases b1 <;> cases b2 <;> simp
            rcases hcase with rfl | ⟨rfl, rfl⟩ | ⟨rfl, rfl⟩
            · go_wp2
              refine wp_region_class (FrmAt w w.heap.size ⟨v, 3, r, q, p⟩) (by kernel_rfl) (by kernel_rfl) HW.out.drew ?_
              repeat (go_big_quiet_step (first
                | (go_at_call 125; exact Calls.cls (HRN.out _) fun _ h => FrmAt.next h)))
              refine wpQuiet_nil ?_
              intro w2 h2
              have HW2 := Lib.hid h2
              clear h2
              go_wp2
              go_roundw
              case rel => exact ⟨m + 1, by omega, by go_num, fun k' hk' => if e : k' = m then by subst e; exact HH.out else HMO.out k' (by omega), HW2.out⟩
              case measure => simp [intOf]; omega
            · go_wp2
              refine wp_region_class (FrmAt w w.heap.size ⟨v, 3, r, q, p⟩) (by kernel_rfl) (by kernel_rfl) HW.out.drew ?_
              repeat (go_big_quiet_step (first
                | (go_at_call 125; exact Calls.cls (HRN.out _) fun _ h => FrmAt.next h)
                | (go_at_call 126; exact Calls.cls (HFN.out _) fun _ h => FrmAt.same h)))
              refine wpQuiet_nil ?_
              intro w2 h2
              have HW2 := Lib.hid h2
              clear h2
              go_wp2
              go_roundw
              case rel => exact ⟨m + 1, by omega, by go_num, fun k' hk' => if e : k' = m then by subst e; exact HH.out else HMO.out k' (by omega), HW2.out⟩
              case measure => simp [intOf]; omega
            · have HDT := Lib.hid (HT.out n m hlt hlt3 HH.out)
              clear HT HH
              go_wp2
              refine wp_region_class (FrmAt w w.heap.size ⟨v, 3, r, q, p⟩) (by kernel_rfl) (by kernel_rfl) HW.out.drew ?_
              repeat (go_big_quiet_step (first
                | (go_at_call 125; exact Calls.cls (HRN.out _) fun _ h => FrmAt.next h)
                | (go_at_call 126; exact Calls.cls (HFN.out _) fun _ h => FrmAt.same h)))
              refine wpQuiet_nil ?_
              intro w2 h2
              have HW2 := Lib.hid h2
              clear h2
              go_wp2
              go_ret
              exact ⟨by rw [HDT.out]; first | done | rfl, HW2.out.1⟩
          · obtain rfl : m = 3 := by omega
            have HNN := Lib.hid (show ∀ i', i' < n + 1 → ∀ k, k < 3 → hitB v r q i' k = false from fun i' hi' k hk => if e : i' = n then by subst e; exact HMO.out k hk else HNO.out i' (by omega) k hk)
            go_wp2
            go_roundw
            case rel => exact ⟨n + 1, by omega, by go_num, HNN.out, HW.out⟩
            case measure => simp [intOf]; omega
      · obtain rfl : n = 15 := by omega
        have HDF := Lib.hid (HN.out HNO.out)
        clear HN
        go_wp2
        go_ret
        exact ⟨by rw [HDF.out]; first | done | rfl, HW.out.1⟩
  · rw [gdB_out hok] at HD
    have hcase : v < 0 ∨ (¬ v < 0 ∧ 3 < v) ∨ (¬ v < 0 ∧ ¬ 3 < v ∧ l ≠ 3) := by omega
    clear hok
    rcases hcase with h0 | ⟨h0, h4⟩ | ⟨h0, h4, h3⟩
    all_goals
      go_enter Tryz.func143, Tryz.ntmps143
      go_wp2
      go_ret
      exact ⟨by rw [HD.out]; first | done | rfl, (Below.refl _ _).alloc (Nat.le_refl _) _⟩
theorem rfgood_any (f : Frm) (w : World) :
    Calls Tryz.prog 143 #[frmV f] w fun e w' => e = .returned (.bool (gdB f)) ∧ Below w.heap.size w w' := rgood_parts _ _ _ _ _ w

end Go.Proofs.YtkdjjlfpaciohaaGreatDoor
namespace Go.Proofs.YtkdjjlfpaciohaaGreatDoor
open Go.RowKit

theorem odd_beq (v : Int) : (v % 2 == 1) = oddB v := by unfold oddB; rw [Bool.eq_iff_iff, beq_iff_eq, decide_eq_true_eq]

set_option maxHeartbeats 2000000 in
theorem rsize_parts (v l r q : Int) (p : Bool) (w : World) :
    Calls Tryz.prog 124 #[frmV ⟨v, l, r, q, p⟩] w fun e w' => e = .returned (.int .i64 (szF ⟨v, l, r, q, p⟩ : Nat)) ∧ Below w.heap.size w w' := by
  obtain ⟨d, hd⟩ : ∃ d : Nat, d = szF ⟨v, l, r, q, p⟩ := ⟨_, rfl⟩
  rw [← hd]
  have HD := Lib.hid hd
  clear hd
  have HG := Lib.hid (rfgood_any ⟨v, l, r, q, p⟩)
  have HX := Lib.hid (FrmAt.new w ⟨v, l, r, q, p⟩)
  cases hg : gdB ⟨v, l, r, q, p⟩
  · rw [hg] at HG
    rw [szF_no hg] at HD
    clear hg
    go_enter Tryz.func124, Tryz.ntmps124
    go_wp2_with (go_at_call 143; (with_reducible refine (HG.out _).mono ?_); rintro e w1 ⟨rfl, hb⟩; have HX1 := Lib.hid (HX.out.step hb); clear hb)
    go_ret
    exact ⟨by rw [HD.out]; first | done | rfl, HX1.out.1⟩
  · obtain ⟨hr0, hr1, hq0, hq1, hv0, hv4⟩ := szF_parts hg
    rw [hg] at HG
    have HD2 := Lib.hid (HD.out.trans (szF_yes hg))
    clear hg HD
    obtain ⟨rn, rfl⟩ : ∃ n : Nat, r = n := ⟨r.toNat, by omega⟩
    obtain ⟨qn, rfl⟩ : ∃ n : Nat, q = n := ⟨q.toNat, by omega⟩
    simp only [Int.toNat_natCast] at HD2
    have hv2 := odd_beq v
    have hln : lenN v = match oddB v with | true => 1152 | false => 576 := rfl
    cases ho : oddB v
    all_goals
      rw [ho] at hv2 hln
      rw [hln] at HD2
      clear ho hln
      simp only [Nat.reduceDiv] at HD2
    · obtain ⟨k, hk⟩ : ∃ k, k = rn * 72 / qn := ⟨_, rfl⟩
      have hk1 : k ≤ 46080000 := by rw [hk]; exact Nat.le_trans (Nat.div_le_self _ _) (by omega)
      rw [← hk] at HD2
      have gd : ((rn : Int) * 72).tdiv qn = k := by rw [hk]; exact Int.ofNat_tdiv (rn * 72) qn
      clear hk
      cases p
      · have HD3 : Hid (d = k) := Lib.hid HD2.out
        go_enter Tryz.func124, Tryz.ntmps124
        go_wp2_with (go_at_call 143; (with_reducible refine (HG.out _).mono ?_); rintro e w1 ⟨rfl, hb⟩; have HX1 := Lib.hid (HX.out.step hb); have e0 := HX1.out.2.cell 0; have e2 := HX1.out.2.cell 2; have e3 := HX1.out.2.cell 3; have e4 := HX1.out.2.cell 4; clear hb)
        go_ret
        exact ⟨by rw [HD3.out]; first | done | rfl, HX1.out.1⟩
      · have HD3 : Hid (d = k + 1) := Lib.hid HD2.out
        go_enter Tryz.func124, Tryz.ntmps124
        go_wp2_with (go_at_call 143; (with_reducible refine (HG.out _).mono ?_); rintro e w1 ⟨rfl, hb⟩; have HX1 := Lib.hid (HX.out.step hb); have e0 := HX1.out.2.cell 0; have e2 := HX1.out.2.cell 2; have e3 := HX1.out.2.cell 3; have e4 := HX1.out.2.cell 4; clear hb)
        go_ret
        exact ⟨by rw [HD3.out]; first | done | rfl, HX1.out.1⟩
    · obtain ⟨k, hk⟩ : ∃ k, k = rn * 144 / qn := ⟨_, rfl⟩
      have hk1 : k ≤ 46080000 := by rw [hk]; exact Nat.le_trans (Nat.div_le_self _ _) (by omega)
      rw [← hk] at HD2
      have gd : ((rn : Int) * 144).tdiv qn = k := by rw [hk]; exact Int.ofNat_tdiv (rn * 144) qn
      clear hk
      cases p
      · have HD3 : Hid (d = k) := Lib.hid HD2.out
        go_enter Tryz.func124, Tryz.ntmps124
        go_wp2_with (go_at_call 143; (with_reducible refine (HG.out _).mono ?_); rintro e w1 ⟨rfl, hb⟩; have HX1 := Lib.hid (HX.out.step hb); have e0 := HX1.out.2.cell 0; have e2 := HX1.out.2.cell 2; have e3 := HX1.out.2.cell 3; have e4 := HX1.out.2.cell 4; clear hb)
        go_ret
        exact ⟨by rw [HD3.out]; first | done | rfl, HX1.out.1⟩
      · have HD3 : Hid (d = k + 1) := Lib.hid HD2.out
        go_enter Tryz.func124, Tryz.ntmps124
        go_wp2_with (go_at_call 143; (with_reducible refine (HG.out _).mono ?_); rintro e w1 ⟨rfl, hb⟩; have HX1 := Lib.hid (HX.out.step hb); have e0 := HX1.out.2.cell 0; have e2 := HX1.out.2.cell 2; have e3 := HX1.out.2.cell 3; have e4 := HX1.out.2.cell 4; clear hb)
        go_ret
        exact ⟨by rw [HD3.out]; first | done | rfl, HX1.out.1⟩
theorem rsize_any (f : Frm) (w : World) :
    Calls Tryz.prog 124 #[frmV f] w fun e w' => e = .returned (.int .i64 (szF f : Nat)) ∧ Below w.heap.size w w' := rsize_parts _ _ _ _ _ w

end Go.Proofs.YtkdjjlfpaciohaaGreatDoor
