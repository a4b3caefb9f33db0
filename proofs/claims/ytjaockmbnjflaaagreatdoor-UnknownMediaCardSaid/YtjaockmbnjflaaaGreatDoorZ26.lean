/-
  Whether a text is a sound, and how many frames lie in it: what package mp3 answers. Condition: the text is not longer than memory.
  The document's own answer for layer 18: rates, frequencies, whether a frame is good, how many bytes it has. Condition: that a number is in a table.
  The document's own answer for layer 18: frequencies, whether a frame is good. No condition.
-/
import Derived.Test.YtjaockmbnjflaaaGreatDoorZ25
import Derived.Deep.DeepCutAuto
import Derived.Outline
namespace Go.Proofs.YtjaockmbnjflaaaGreatDoor
open Go.RowKit

theorem frm_form (f : Frm) : ∃ v l r q p, f = ⟨v, l, r, q, p⟩ := ⟨_, _, _, _, _, rfl⟩

set_option maxHeartbeats 2000000 in
theorem mis_any (s : ByteArray) (w : World) (hs : s.size ≤ 9223372036854775807) :
    Calls Tryz.prog 44 #[.string s] w fun e w' => e = .returned (.bool (isO s)) ∧ Below w.heap.size w w' := by
  obtain ⟨d, hd⟩ : ∃ d, d = isO s := ⟨_, rfl⟩
  rw [← hd]
  have HD := Lib.hid hd
  clear hd
  have HF := Lib.hid (fun W => mfirst_any s W hs)
  have hn := nxN_le s
  obtain ⟨v, l, r, q, p, hf⟩ := frm_form (fsF s)
  rw [hf] at HF
  clear hf
  by_cases h0 : nxN s = 0
  · have HD2 : Hid (d = false) := Lib.hid (by rw [HD.out]; unfold isO; rw [decide_eq_false (fun h => h h0)]; rfl)
    rw [h0] at HF
    go_enter Tryz.func44, Tryz.ntmps44
    go_wp2_with (go_at_call 70; (with_reducible refine (HF.out _).mono ?_); rintro e w1 ⟨rfl, hb⟩; have HB1 := Lib.hid hb; clear hb)
    go_ret
    exact ⟨by rw [HD2.out]; first | done | rfl, HB1.out.alloc HB1.out.size _⟩
  · have HH := Lib.hid (fun W => mhead_any (s.extract (nxN s) s.size) W (by rw [ByteArray.size_extract]; omega))
    have HD2 : Hid (d = hdO (s.extract (nxN s) s.size)) := Lib.hid (by rw [HD.out]; unfold isO; rw [decide_eq_true h0, Bool.true_and])
    clear HD
    obtain ⟨x, hx⟩ : ∃ x, s.extract (nxN s) s.size = x := ⟨_, rfl⟩
    rw [hx] at HD2 HH
    obtain ⟨v', l', r', q', p', hf⟩ := frm_form (hdF x)
    rw [hf] at HH
    clear hf
    generalize hdO x = o at *
    generalize nxN s = n at *
    have hn0 : ((n : Int) == 0) = false := by rw [beq_eq_false_iff_ne]; omega
    have hn1 : (n : Int) ≤ (s.size : Int) := by omega
    go_enter Tryz.func44, Tryz.ntmps44
    go_wp2_with (first
      | (go_at_call 70; (with_reducible refine (HF.out _).mono ?_); rintro e w1 ⟨rfl, hb⟩; have HB1 := Lib.hid (hb.alloc hb.size (.cells #[.int .i64 v, .int .i64 l, .int .i64 r, .int .i64 q, .bool p] 57)); clear hb)
      | (go_at_call 71; (with_reducible refine (HH.out _).mono ?_); rintro e w2 ⟨rfl, hb⟩; have HB2 := Lib.hid (HB1.out.trans (hb.mono HB1.out.size)); clear hb))
    go_ret
    exact ⟨by rw [HD2.out]; first | done | rfl, HB2.out.alloc HB2.out.size _⟩

end Go.Proofs.YtjaockmbnjflaaaGreatDoor
namespace Go.Proofs.YtjaockmbnjflaaaGreatDoor
open Go.RowKit

theorem ratN_at {o : Bool} {n : Nat} (h : n < 15) : (tabL (ratL o))[n]? = some (.int .i64 (ratN o n : Nat)) := by
  have hl : n < (ratL o).length := by rw [ratL_len]; exact h
  rw [tabL_at _ n hl]
  unfold ratN
  rw [List.getD_eq_getElem?_getD, List.getElem?_eq_getElem hl]
  rfl

set_option maxHeartbeats 2000000 in
theorem rrate_any (v : Int) (n : Nat) (w : World) (h : 0 ≤ v ∧ v < 4) (hn : n < 15) :
    Calls Tryz.prog 98 #[.int .i64 v, .int .i64 n] w fun e w' => e = .returned (.int .i64 (ratN (oddB v) n : Nat)) ∧ Below w.heap.size w w' := by
  obtain ⟨d, hd⟩ : ∃ d : Nat, d = ratN (oddB v) n := ⟨_, rfl⟩
  rw [← hd]
  have hn1 : (n : Int) < 15 := by omega
  have hv2 : (v % 2 == 1) = oddB v := by unfold oddB; rw [Bool.eq_iff_iff, beq_iff_eq, decide_eq_true_eq]
  have HA := Lib.hid (ratN_at (o := true) hn)
  have HB := Lib.hid (ratN_at (o := false) hn)
  have HD := Lib.hid hd
  clear hd
  go_enter Tryz.func98, Tryz.ntmps98
  go_upto_region 3 with fail
  rw [show (#[.int .i64 0, .int .i64 32000, .int .i64 40000, .int .i64 48000, .int .i64 56000, .int .i64 64000, .int .i64 80000, .int .i64 96000, .int .i64 112000, .int .i64 128000, .int .i64 160000, .int .i64 192000, .int .i64 224000, .int .i64 256000, .int .i64 320000] : Array Value) = tabL (ratL true) from rfl, show (#[.int .i64 0, .int .i64 8000, .int .i64 16000, .int .i64 24000, .int .i64 32000, .int .i64 40000, .int .i64 48000, .int .i64 56000, .int .i64 64000, .int .i64 80000, .int .i64 96000, .int .i64 112000, .int .i64 128000, .int .i64 144000, .int .i64 160000] : Array Value) = tabL (ratL false) from rfl]
  have HK1 := Lib.hid ((Blk.new w 3 (tabL (ratL true))).alloc (.cells (tabL (ratL false)) 3))
  have HK2 := Lib.hid (Blk.new2 w (.cells (tabL (ratL true)) 3) 3 (tabL (ratL false)))
  have HW := Lib.hid (((Below.refl w.heap.size w).alloc (Nat.le_refl _) (.cells (tabL (ratL true)) 3)).alloc (by simp) (.cells (tabL (ratL false)) 3))
  generalize (w.alloc (.cells (tabL (ratL true)) 3)).alloc (.cells (tabL (ratL false)) 3) = W at *
  cases ho : oddB v
  all_goals
    rw [ho] at hv2 HD
    clear ho
  · have e0 := (HK2.out.cell n).trans HB.out
    go_wp2
    go_ret
    exact ⟨by rw [HD.out]; first | done | rfl, HW.out⟩
  · have e0 := (HK1.out.cell n).trans HA.out
    go_wp2
    go_ret
    exact ⟨by rw [HD.out]; first | done | rfl, HW.out⟩

end Go.Proofs.YtjaockmbnjflaaaGreatDoor
namespace Go.Proofs.YtjaockmbnjflaaaGreatDoor
open Go.RowKit

theorem rfreq_any (n : Nat) (w : World) (hn : n < 3) :
    Calls Tryz.prog 99 #[.int .i64 n] w fun e w' => e = .returned (.int .i64 (freN n : Nat)) ∧ w = w' := by
  have h : n = 0 ∨ n = 1 ∨ n = 2 := by omega
  rcases h with rfl | rfl | rfl
  all_goals
    go_enter Tryz.func99, Tryz.ntmps99
    go_wp2
    go_ret
    exact ⟨rfl, rfl⟩

theorem ratN_any (o : Bool) (r : Int) : (ratL o).any (fun n : Nat => decide ((n : Int) = r)) = true ↔ ∃ i, i < 15 ∧ ((ratN o i : Nat) : Int) = r := by
  rw [List.any_eq_true]
  constructor
  · rintro ⟨n, hn, e⟩
    obtain ⟨i, hi, rfl⟩ := List.mem_iff_getElem.1 hn
    refine ⟨i, by rw [ratL_len] at hi; exact hi, ?_⟩
    unfold ratN
    rw [List.getD_eq_getElem?_getD, List.getElem?_eq_getElem hi]
    exact of_decide_eq_true e
  · rintro ⟨i, hi, e⟩
    have hl : i < (ratL o).length := by rw [ratL_len]; exact hi
    refine ⟨(ratL o)[i], List.getElem_mem hl, decide_eq_true ?_⟩
    unfold ratN at e
    rw [List.getD_eq_getElem?_getD, List.getElem?_eq_getElem hl] at e
    exact e
theorem freN_any (q : Int) : freL.any (fun n : Nat => decide ((n : Int) = q)) = true ↔ ∃ i, i < 3 ∧ ((freN i : Nat) : Int) = q := by
  rw [List.any_eq_true]
  constructor
  · rintro ⟨n, hn, e⟩
    obtain ⟨i, hi, rfl⟩ := List.mem_iff_getElem.1 hn
    refine ⟨i, hi, ?_⟩
    unfold freN
    rw [List.getD_eq_getElem?_getD, List.getElem?_eq_getElem hi]
    exact of_decide_eq_true e
  · rintro ⟨i, hi, e⟩
    have hl : i < freL.length := hi
    refine ⟨freL[i], List.getElem_mem hl, decide_eq_true ?_⟩
    unfold freN at e
    rw [List.getD_eq_getElem?_getD, List.getElem?_eq_getElem hl] at e
    exact e
/-- Whether the frame with these numbers is this one. -/
def hitB (v r q : Int) (i k : Nat) : Bool := decide (r = (ratN (oddB v) i : Nat)) && decide (q = (freN k : Nat))
theorem gd_hit {v r q : Int} {p : Bool} {i k : Nat} (h : 0 ≤ v ∧ v < 4) (hi : i < 15) (hk : k < 3) (e : hitB v r q i k = true) : gdB ⟨v, 3, r, q, p⟩ = true := by
  unfold hitB at e
  simp only [Bool.and_eq_true, decide_eq_true_eq] at e
  rw [gdB_parts h rfl, Bool.and_eq_true, ratN_any, freN_any]
  exact ⟨⟨i, hi, e.1.symm⟩, ⟨k, hk, e.2.symm⟩⟩
theorem gd_none {v r q : Int} {p : Bool} (h : 0 ≤ v ∧ v < 4) (hn : ∀ i, i < 15 → ∀ k, k < 3 → hitB v r q i k = false) : gdB ⟨v, 3, r, q, p⟩ = false := by
  cases e : gdB ⟨v, 3, r, q, p⟩
  · rfl
  · rw [gdB_parts h rfl, Bool.and_eq_true, ratN_any, freN_any] at e
    obtain ⟨⟨i, hi, e1⟩, ⟨k, hk, e2⟩⟩ := e
    have := hn i hi k hk
    unfold hitB at this
    rw [decide_eq_true e1.symm, decide_eq_true e2.symm] at this
    cases this

set_option maxHeartbeats 4000000 in
set_option maxRecDepth 100000 in
theorem rgood_parts (v l r q : Int) (p : Bool) (w : World) :
    Calls Tryz.prog 120 #[frmV ⟨v, l, r, q, p⟩] w fun e w' => e = .returned (.bool (gdB ⟨v, l, r, q, p⟩)) ∧ Below w.heap.size w w' := by
  obtain ⟨d, hd⟩ : ∃ d : Bool, d = gdB ⟨v, l, r, q, p⟩ := ⟨_, rfl⟩
  rw [← hd]
  have HD := Lib.hid hd
  clear hd
  by_cases hok : 0 ≤ v ∧ v < 4 ∧ l = 3
  · obtain ⟨h0, h4, rfl⟩ := hok
    have HX := Lib.hid (FrmAt.new w ⟨v, 3, r, q, p⟩)
    have HT := Lib.hid (fun i k (hi : i < 15) (hk : k < 3) (e : hitB v r q i k = true) => HD.out.trans (gd_hit ⟨h0, h4⟩ hi hk e))
    have HN := Lib.hid (fun hn => HD.out.trans (gd_none (p := p) ⟨h0, h4⟩ hn))
    have HR := Lib.hid (fun i W hi => rrate_any v i W ⟨h0, h4⟩ hi)
    have f0 : ∀ y : Wld (FrmAt w w.heap.size ⟨v, 3, r, q, p⟩), y.val.cell? ⟨w.heap.size, 0, none⟩ = some (.int .i64 v) := fun y => y.ok.2.cell 0
    have f1 : ∀ y : Wld (FrmAt w w.heap.size ⟨v, 3, r, q, p⟩), y.val.cell? ⟨w.heap.size, 1, none⟩ = some (.int .i64 3) := fun y => y.ok.2.cell 1
    have f2 : ∀ y : Wld (FrmAt w w.heap.size ⟨v, 3, r, q, p⟩), y.val.cell? ⟨w.heap.size, 2, none⟩ = some (.int .i64 r) := fun y => y.ok.2.cell 2
    have f3 : ∀ y : Wld (FrmAt w w.heap.size ⟨v, 3, r, q, p⟩), y.val.cell? ⟨w.heap.size, 3, none⟩ = some (.int .i64 q) := fun y => y.ok.2.cell 3
    have inst : Nonempty (Wld (FrmAt w w.heap.size ⟨v, 3, r, q, p⟩)) := ⟨⟨_, HX.out⟩⟩
    clear HD
    go_enter Tryz.func120, Tryz.ntmps120
    go_wp2
    go_loopw [3, 4] (fun i _ wr => ∃ n : Nat, n ≤ 15 ∧ i = .int .i64 (n : Nat) ∧ (∀ i', i' < n → ∀ k, k < 3 → hitB v r q i' k = false) ∧ FrmAt w w.heap.size ⟨v, 3, r, q, p⟩ wr) (fun i _ _ => 15 - (intOf i).toNat)
    case atStart => exact ⟨0, by omega, rfl, fun i hi => absurd hi (by omega), HX.out⟩
    case round =>
      obtain ⟨n, hn, rfl, hno, hw⟩ := hrel
      have HNO := Lib.hid hno
      have HW := Lib.hid hw
      clear hno hw
      by_cases hlt : n < 15
      · go_wp2
        go_loopw [4] (fun k wr => ∃ m : Nat, m ≤ 3 ∧ k = .int .i64 (m : Nat) ∧ (∀ k', k' < m → hitB v r q n k' = false) ∧ FrmAt w w.heap.size ⟨v, 3, r, q, p⟩ wr) (fun k _ => 3 - (intOf k).toNat)
        case atStart => exact ⟨0, by omega, rfl, fun i hi => absurd hi (by omega), HW.out⟩
        case round =>
          obtain ⟨m, hm, rfl, hno, hw⟩ := hrel
          have HMO := Lib.hid hno
          have HW := Lib.hid hw
          clear hno hw
          by_cases hlt3 : m < 3
          · have HRN := Lib.hid (fun W => HR.out n W hlt)
            have HFN := Lib.hid (fun W => rfreq_any m W hlt3)
            have HH := Lib.hid (show hitB v r q n m = (decide (r = (ratN (oddB v) n : Nat)) && decide (q = (freN m : Nat))) from rfl)
            generalize ratN (oddB v) n = rt at *
            generalize freN m = fq at *
            have d1 : (r == (rt : Int)) = decide (r = (rt : Nat)) := by rw [Bool.eq_iff_iff, beq_iff_eq, decide_eq_true_eq]
            have d2 : (q == (fq : Int)) = decide (q = (fq : Nat)) := by rw [Bool.eq_iff_iff, beq_iff_eq, decide_eq_true_eq]
            generalize decide (r = (rt : Nat)) = b1 at *
            generalize decide (q = (fq : Nat)) = b2 at *
            have hcase : (b1 = false) ∨ (b1 = true ∧ b2 = false) ∨ (b1 = true ∧ b2 = true) := by cases b1 <;> cases b2 <;> simp
            rcases hcase with rfl | ⟨rfl, rfl⟩ | ⟨rfl, rfl⟩
            · go_wp2
              refine wp_region_class (FrmAt w w.heap.size ⟨v, 3, r, q, p⟩) (by kernel_rfl) (by kernel_rfl) HW.out.drew ?_
              repeat (go_big_quiet_step (first
                | (go_at_call 98; exact Calls.cls (HRN.out _) fun _ h => FrmAt.next h)))
              refine wpQuiet_nil ?_
              intro w2 h2
              have HW2 := Lib.hid h2
              clear h2
              go_wp2
              go_roundw
              case rel => exact ⟨m + 1, by omega, by go_num, fun k' hk' => if e : k' = m then by subst e; exact HH.out else HMO.out k' (by omega), HW2.out⟩
              case measure => simp [intOf]; omega
            · go_wp2
              refine wp_region_class (FrmAt w w.heap.size ⟨v, 3, r, q, p⟩) (by kernel_rfl) (by kernel_rfl) HW.out.drew ?_
              repeat (go_big_quiet_step (first
                | (go_at_call 98; exact Calls.cls (HRN.out _) fun _ h => FrmAt.next h)
                | (go_at_call 99; exact Calls.cls (HFN.out _) fun _ h => FrmAt.same h)))
              refine wpQuiet_nil ?_
              intro w2 h2
              have HW2 := Lib.hid h2
              clear h2
              go_wp2
              go_roundw
              case rel => exact ⟨m + 1, by omega, by go_num, fun k' hk' => if e : k' = m then by subst e; exact HH.out else HMO.out k' (by omega), HW2.out⟩
              case measure => simp [intOf]; omega
            · have HDT := Lib.hid (HT.out n m hlt hlt3 HH.out)
              clear HT HH
              go_wp2
              refine wp_region_class (FrmAt w w.heap.size ⟨v, 3, r, q, p⟩) (by kernel_rfl) (by kernel_rfl) HW.out.drew ?_
              repeat (go_big_quiet_step (first
                | (go_at_call 98; exact Calls.cls (HRN.out _) fun _ h => FrmAt.next h)
                | (go_at_call 99; exact Calls.cls (HFN.out _) fun _ h => FrmAt.same h)))
              refine wpQuiet_nil ?_
              intro w2 h2
              have HW2 := Lib.hid h2
              clear h2
              go_wp2
              go_ret
              exact ⟨by rw [HDT.out]; first | done | rfl, HW2.out.1⟩
          · obtain rfl : m = 3 := by omega
            have HNN := Lib.hid (show ∀ i', i' < n + 1 → ∀ k, k < 3 → hitB v r q i' k = false from fun i' hi' k hk => if e : i' = n then by subst e; exact HMO.out k hk else HNO.out i' (by omega) k hk)
            go_wp2
            go_roundw
            case rel => exact ⟨n + 1, by omega, by go_num, HNN.out, HW.out⟩
            case measure => simp [intOf]; omega
      · obtain rfl : n = 15 := by omega
        have HDF := Lib.hid (HN.out HNO.out)
        clear HN
        go_wp2
        go_ret
        exact ⟨by rw [HDF.out]; first | done | rfl, HW.out.1⟩
  · rw [gdB_out hok] at HD
    have hcase : v < 0 ∨ (¬ v < 0 ∧ 3 < v) ∨ (¬ v < 0 ∧ ¬ 3 < v ∧ l ≠ 3) := by omega
    clear hok
    rcases hcase with h0 | ⟨h0, h4⟩ | ⟨h0, h4, h3⟩
    all_goals
      go_enter Tryz.func120, Tryz.ntmps120
      go_wp2
      go_ret
      exact ⟨by rw [HD.out]; first | done | rfl, (Below.refl _ _).alloc (Nat.le_refl _) _⟩
theorem rfgood_any (f : Frm) (w : World) :
    Calls Tryz.prog 120 #[frmV f] w fun e w' => e = .returned (.bool (gdB f)) ∧ Below w.heap.size w w' := rgood_parts _ _ _ _ _ w

end Go.Proofs.YtjaockmbnjflaaaGreatDoor
