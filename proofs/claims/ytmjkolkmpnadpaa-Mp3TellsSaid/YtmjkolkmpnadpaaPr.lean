/-
  The law Mp3Tells. Condition: what an argument's reading gives.
-/
import Derived.Test.YtmjkolkmpnadpaaPq
import Derived.Test.YtmjkolkmpnadpaaPj
import Derived.Test.YtmjkolkmpnadpaaFn2
namespace Go.Proofs.Ytmjkolkmpnadpaa
open Go.RowKit

set_option maxHeartbeats 8000000 in
set_option maxRecDepth 100000 in
theorem mp3Tells_any (s : ByteArray) (w : World) (hs : s.size ≤ 9223372036854775807) :
    Calls Try.prog 5 #[.string s] w fun e w' => e = .returned (.bool true) ∧ Below w.heap.size w w' := by
  have HCS : Hid (∀ W, Calls Try.prog 7 #[.string s, .int .i64 3000] W fun e w' => e = .returned (.string (cutB s 3000)) ∧ W = w') := Lib.hid fun W => cut_any s 3000 W hs
  have hu := cutB_size s 3000
  generalize cutB s 3000 = u at *
  have HMI := Lib.hid (fun W => mis_any u W (by omega))
  have HRI := Lib.hid (fun W => ris18_any u W (by omega))
  have HFR := Lib.hid (fun W => frames_any u W (by omega))
  have HSC := Lib.hid (fun W => seconds_any u W (by omega))
  have HN0 := Lib.hid (fun W => rnext_any u W (by omega))
  have HLV := Lib.hid lives18_any
  have HIS := Lib.hid (isO_some (s := u))
  obtain ⟨C, hC⟩ : ∃ C, C = (frmG u).1 := ⟨_, rfl⟩
  obtain ⟨B, hB⟩ : ∃ B, B = (frmG u).2 := ⟨_, rfl⟩
  obtain ⟨D, hD⟩ : ∃ D, D = secG u 0 := ⟨_, rfl⟩
  have hle := frmG_le u.size u (Nat.le_refl _)
  rw [← hC, ← hB] at hle HFR
  rw [← hC] at HIS
  rw [← hD] at HSC
  have HC := Lib.hid hC
  have HBB := Lib.hid hB
  have HD := Lib.hid hD
  clear hC hB hD hs
  go_enter Try.func5, Try.ntmps5
  go_wp2_with (first
    | (go_at_call 7; (with_reducible refine (HCS.out _).mono ?_); rintro e w1 ⟨rfl, rfl⟩)
    | (go_at_call 15; (with_reducible refine (HN0.out _).mono ?_); rintro e w1 ⟨rfl, hb⟩; have HB1 := Lib.hid hb; clear hb))
  go_loopw [3, 4, 5, 6, 7] (fun i a t k _ wr => ∃ c p x : Nat, p ≤ u.size ∧ i = .int .i64 (c : Nat) ∧ a = .int .i64 (p : Nat) ∧ t = .float .f64 x ∧ k = .int .i64 (nxN (u.extract p u.size) : Nat) ∧ c + (frmG (u.extract p u.size)).1 = C ∧ p + (frmG (u.extract p u.size)).2 = B ∧ x < 18446744073709551616 ∧ nanB x = false ∧ secG (u.extract p u.size) x = D ∧ Below w.heap.size w wr) (fun _ a _ _ _ _ => u.size - (intOf a).toNat)
  case atStart => exact ⟨0, 0, 0, Nat.zero_le _, rfl, rfl, rfl, by rw [ByteArray.extract_zero_size], by rw [ByteArray.extract_zero_size, HC.out, Nat.zero_add], by rw [ByteArray.extract_zero_size, HBB.out, Nat.zero_add], by decide, by kernel_rfl, by rw [ByteArray.extract_zero_size, HD.out], HB1.out⟩
  case round =>
    obtain ⟨c, p, b, hp, rfl, rfl, rfl, rfl, hc, hb, hb1, hb2, hsec, hw⟩ := hrel
    have HW := Lib.hid hw
    clear hw HB1 HN0 HCS HC HBB HD
    by_cases h0 : nxN (u.extract p u.size) = 0
    · rw [frmG_stop h0] at hc hb
      rw [secG_stop b h0] at hsec
      have hc' : c = C := hc
      have hb' : p = B := hb
      subst hc' hb' hsec
      clear hc hb
      rw [h0]
      have HF : Hid (∀ W, Calls Try.prog 20 #[.float .f64 b] W fun e w' => e = .returned (.int .u64 (normB b : Nat)) ∧ ∃ n, w' = W.drewN n) := Lib.hid (fun W => rbits_any b hb1 W)
      generalize normB b = nb at *
      clear hb1 hb2 h0
      cases hi : isO u
      all_goals
        rw [hi] at HMI HRI HIS
        clear hi
      · clear HIS
        as_aux_lemma =>
        go_wp2_with (first
          | (go_at_call 17; (with_reducible refine (HFR.out _).mono ?_); rintro e w1 ⟨rfl, hb⟩; have HW1 := Lib.hid (HW.out.trans (hb.mono HW.out.size)); clear hb)
          | (go_at_call 18; (with_reducible refine (HMI.out _).mono ?_); rintro e w2 ⟨rfl, hb⟩; have HW2 := Lib.hid (HW1.out.trans (hb.mono HW1.out.size)); clear hb)
          | (go_at_call 19; (with_reducible refine (HRI.out _).mono ?_); rintro e w3 ⟨rfl, hb⟩; have HW3 := Lib.hid (HW2.out.trans (hb.mono HW2.out.size)); clear hb)
          | (go_at_call 21; (with_reducible refine (HSC.out _).mono ?_); rintro e w4 ⟨rfl, hb⟩; have HW4 := Lib.hid (HW3.out.trans (hb.mono HW3.out.size)); clear hb)
          | (go_at_call 20; (with_reducible refine (HF.out _).mono ?_); rintro e w5 ⟨rfl, n5, rfl⟩)
          | (go_at_call 13; (with_reducible refine (HLV.out _).mono ?_); rintro e w6 ⟨rfl, hb⟩; have HW6 := Lib.hid ((Below.drewN' HW4.out _).trans (hb.mono (by exact HW4.out.size))); clear hb))
        go_ret
        exact ⟨rfl, HW6.out⟩
      · have hcp : 0 < c := HIS.out rfl
        clear HIS
        as_aux_lemma =>
        go_wp2_with (first
          | (go_at_call 17; (with_reducible refine (HFR.out _).mono ?_); rintro e w1 ⟨rfl, hb⟩; have HW1 := Lib.hid (HW.out.trans (hb.mono HW.out.size)); clear hb)
          | (go_at_call 18; (with_reducible refine (HMI.out _).mono ?_); rintro e w2 ⟨rfl, hb⟩; have HW2 := Lib.hid (HW1.out.trans (hb.mono HW1.out.size)); clear hb)
          | (go_at_call 19; (with_reducible refine (HRI.out _).mono ?_); rintro e w3 ⟨rfl, hb⟩; have HW3 := Lib.hid (HW2.out.trans (hb.mono HW2.out.size)); clear hb)
          | (go_at_call 21; (with_reducible refine (HSC.out _).mono ?_); rintro e w4 ⟨rfl, hb⟩; have HW4 := Lib.hid (HW3.out.trans (hb.mono HW3.out.size)); clear hb)
          | (go_at_call 20; (with_reducible refine (HF.out _).mono ?_); rintro e w5 ⟨rfl, n5, rfl⟩)
          | (go_at_call 13; (with_reducible refine (HLV.out _).mono ?_); rintro e w6 ⟨rfl, hb⟩; have HW6 := Lib.hid ((Below.drewN' HW4.out _).trans (hb.mono (by exact HW4.out.size))); clear hb))
        go_ret
        exact ⟨rfl, HW6.out⟩
    · have h4 := nxN_ge h0
      have hn := nxN_le (u.extract p u.size)
      rw [ByteArray.size_extract] at hn
      have hh := nxN_head h0
      have hstep := frmG_step h0
      have hsstep := secG_step b h0
      rw [ext_ext u p _ (by omega)] at hstep hsstep
      rw [hstep] at hc hb
      rw [hsstep] at hsec
      have hpn : p + nxN (u.extract p u.size) ≤ u.size := by omega
      have HNX := Lib.hid (fun W => rnext_any (u.extract (p + nxN (u.extract p u.size)) u.size) W (by rw [ByteArray.size_extract]; omega))
      have HH := Lib.hid (fun W => rhead_any (u.extract p u.size) W (by rw [ByteArray.size_extract]; omega))
      obtain ⟨x, hx⟩ : ∃ x, u.extract p u.size = x := ⟨_, rfl⟩
      rw [hx] at HH h0 h4 hn hc hb hsec HNX hpn hh
      rw [hx]
      clear hstep hsstep
      have hgd := gdB_all ((hdF_good x).trans hh)
      obtain ⟨qn, hq1, hq2⟩ := hdF_freq hh
      have hsn : sndB x = qtB (lenN (hdF x).ver) qn := by unfold sndB; rw [hq1, Int.toNat_natCast]
      have hqt := qtB_is (v := (hdF x).ver) hq2
      rw [← hsn] at hqt
      have hadd := addB_is hb1 hb2 hqt.2.1 hqt.2.2
      have HL := Lib.hid (fun W => rlength_any (hdF x) W ⟨hgd.1, hgd.2.1⟩)
      generalize addB b (sndB x) = b2 at *
      generalize sndB x = qv at *
      generalize lenN (hdF x).ver = ln at *
      generalize hdF x = f at *
      obtain ⟨v, l, r, q, o⟩ := f
      have hq1 : q = (qn : Int) := hq1
      subst hq1
      clear hgd hsn hq2 hh
      have hop1 : ∀ W : World, (binOp .quo 32 (.float .f64 (floatOfInt .f64 (ln : Nat))) (.float .f64 (floatOfInt .f64 (qn : Nat)))).run Try.prog W = .ok (.float .f64 qv) W := fun W => run_float_arith W .quo 32 .f64 _ _ _ hqt.1
      have hop2 : ∀ W : World, (binOp .add 32 (.float .f64 b) (.float .f64 qv)).run Try.prog W = .ok (.float .f64 b2) W := fun W => run_float_arith W .add 32 .f64 _ _ _ hadd.1
      have HB2 := Lib.hid (And.intro hadd.2.1 hadd.2.2)
      clear hqt hadd hb1 hb2
      generalize nxN x = n at *
      have HK := Lib.hid (show c + 1 + (frmG (u.extract (p + n) u.size)).1 = C from by rw [← hc]; exact Nat.add_right_comm _ _ _)
      have HBN := Lib.hid (show p + n + (frmG (u.extract (p + n) u.size)).2 = B from by rw [← hb]; show _ = p + ((frmG (u.extract (p + n) u.size)).2 + n); omega)
      have HSEC := Lib.hid hsec
      have hk1 : c + 1 ≤ C := by have := HK.out; omega
      clear hc hb hsec
      have hn0 : (0 : Int) < n := by omega
      have hpi : (p : Int) ≤ (u.size : Int) := by omega
      have hpni : ((p : Int) + n) ≤ (u.size : Int) := by omega
      obtain ⟨x2, hx2⟩ : ∃ x2, u.extract (p + n) u.size = x2 := ⟨_, rfl⟩
      have HX2 := Lib.hid hx2
      rw [hx2] at HNX
      obtain ⟨k2, hk2⟩ : ∃ k2, k2 = nxN x2 := ⟨_, rfl⟩
      rw [← hk2] at HNX
      have HK2 := Lib.hid hk2
      clear hk2
      go_wp2_with (go_at_call 9; (with_reducible refine (HH.out _).mono ?_); rintro e w1 ⟨rfl, hb⟩; have HB1 := Lib.hid (HW.out.trans (hb.mono HW.out.size)); clear hb)
      have HX := Lib.hid (FrmAt.new w1 ⟨v, l, r, (qn : Int), o⟩)
      have f0 : ∀ y : Wld (FrmAt w1 w1.heap.size ⟨v, l, r, (qn : Int), o⟩), y.val.cell? ⟨w1.heap.size, 0, none⟩ = some (.int .i64 v) := fun y => y.ok.2.cell 0
      have f1 : ∀ y : Wld (FrmAt w1 w1.heap.size ⟨v, l, r, (qn : Int), o⟩), y.val.cell? ⟨w1.heap.size, 1, none⟩ = some (.int .i64 l) := fun y => y.ok.2.cell 1
      have f2 : ∀ y : Wld (FrmAt w1 w1.heap.size ⟨v, l, r, (qn : Int), o⟩), y.val.cell? ⟨w1.heap.size, 2, none⟩ = some (.int .i64 r) := fun y => y.ok.2.cell 2
      have f3 : ∀ y : Wld (FrmAt w1 w1.heap.size ⟨v, l, r, (qn : Int), o⟩), y.val.cell? ⟨w1.heap.size, 3, none⟩ = some (.int .i64 (qn : Nat)) := fun y => y.ok.2.cell 3
      have f4 : ∀ y : Wld (FrmAt w1 w1.heap.size ⟨v, l, r, (qn : Int), o⟩), y.val.cell? ⟨w1.heap.size, 4, none⟩ = some (.bool o) := fun y => y.ok.2.cell 4
      have inst : Nonempty (Wld (FrmAt w1 w1.heap.size ⟨v, l, r, (qn : Int), o⟩)) := ⟨⟨_, HX.out⟩⟩
      refine wp_region_class (FrmAt w1 w1.heap.size ⟨v, l, r, (qn : Int), o⟩) (by kernel_rfl) (by kernel_rfl) HX.out.drew ?_
      repeat (go_big_quiet_step ((go_at_call 16; exact Calls.cls (HL.out _) fun _ h => FrmAt.next h)))
      refine wpQuiet_nil ?_
      intro w2 h2
      have HW2 := Lib.hid (HB1.out.trans (h2.1.mono HB1.out.size))
      clear h2 f0 f1 f2 f3 f4 inst HX
      go_wp2_with (go_at_call 15; (with_reducible refine (HNX.out _).mono ?_); rintro e w3 ⟨rfl, hb⟩; have HW3 := Lib.hid (HW2.out.trans (hb.mono HW2.out.size)); clear hb)
      go_roundw
      case rel => exact ⟨c + 1, p + n, b2, hpn, by go_num, by go_num, rfl, by rw [HX2.out, HK2.out], HK.out, HBN.out, HB2.out.1, HB2.out.2, HSEC.out, HW3.out⟩
      case measure => simp [intOf]; omega

end Go.Proofs.Ytmjkolkmpnadpaa
