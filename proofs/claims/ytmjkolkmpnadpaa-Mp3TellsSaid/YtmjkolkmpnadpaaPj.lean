/-
  How long the frames of a text sound: what package mp3 answers. Condition: the text is not longer than memory.
-/
import Derived.Test.YtmjkolkmpnadpaaPh
import Derived.Test.YtmjkolkmpnadpaaPi
import Derived.Test.YtmjkolkmpnadpaaWd
namespace Go.Proofs.Ytmjkolkmpnadpaa
open Go.RowKit

set_option maxHeartbeats 4000000 in
set_option maxRecDepth 100000 in
theorem seconds_any (s : ByteArray) (w : World) (hs : s.size ≤ 9223372036854775807) :
    Calls Try.prog 21 #[.string s] w fun e w' => e = .returned (.float .f64 (secG s 0)) ∧ Below w.heap.size w w' := by
  obtain ⟨d, hd⟩ : ∃ d, d = secG s 0 := ⟨_, rfl⟩
  rw [← hd]
  have HD := Lib.hid hd
  clear hd
  go_enter Try.func21, Try.ntmps21
  go_wp2
  go_loopw [0, 3] (fun t a wr => ∃ (x : ByteArray) (b : Nat), x.size ≤ s.size ∧ t = .string x ∧ a = .float .f64 b ∧ b < 18446744073709551616 ∧ nanB b = false ∧ secG x b = d ∧ Below w.heap.size w wr) (fun t _ _ => sizeV t)
  case atStart => exact ⟨s, 0, Nat.le_refl _, rfl, rfl, by decide, by kernel_rfl, HD.out.symm, Below.refl _ _⟩
  case round =>
    obtain ⟨x, b, hx, rfl, rfl, hb1, hb2, hsec, hw⟩ := hrel
    have HW := Lib.hid hw
    clear hw
    have HF := Lib.hid (fun W => mfirst_any x W (by omega))
    have hn := nxN_le x
    by_cases h0 : nxN x = 0
    · obtain ⟨v, l, r, q, o, hf⟩ := frm_form (fsF x)
      rw [hf, h0] at HF
      rw [secG_stop b h0] at hsec
      subst hsec
      clear hf h0 HD hb1 hb2
      go_wp2_with (go_at_call 29; (with_reducible refine (HF.out _).mono ?_); rintro e w1 ⟨rfl, hb⟩; have HB1 := Lib.hid ((HW.out.trans (hb.mono HW.out.size)).alloc (Nat.le_trans HW.out.size hb.size) (.cells #[.int .i64 v, .int .i64 l, .int .i64 r, .int .i64 q, .bool o] 24)); clear hb)
      go_ret
      exact ⟨rfl, HB1.out⟩
    · have h4 := nxN_ge h0
      have hh := nxN_head h0
      have hgd := gdB_all ((hdF_good x).trans hh)
      obtain ⟨qn, hq1, hq2⟩ := hdF_freq hh
      have hsn : sndB x = qtB (lenN (hdF x).ver) qn := by unfold sndB; rw [hq1, Int.toNat_natCast]
      have hqt := qtB_is (v := (hdF x).ver) hq2
      rw [← hsn] at hqt
      have hadd := addB_is hb1 hb2 hqt.2.1 hqt.2.2
      have HSEC := Lib.hid ((secG_step b h0).symm.trans hsec)
      have hfs : fsF x = hdF x := if_neg h0
      rw [hfs] at HF
      clear hsec hfs HD hh
      have HL := Lib.hid (fun W => length_any (hdF x) W ⟨hgd.1, hgd.2.1⟩)
      generalize addB b (sndB x) = b2 at *
      generalize sndB x = qv at *
      generalize lenN (hdF x).ver = ln at *
      generalize hdF x = f at *
      obtain ⟨v, l, r, q, o⟩ := f
      have hq1 : q = (qn : Int) := hq1
      subst hq1
      clear hgd hsn hq2
      have hop1 : ∀ W : World, (binOp .quo 32 (.float .f64 (floatOfInt .f64 (ln : Nat))) (.float .f64 (floatOfInt .f64 (qn : Nat)))).run Try.prog W = .ok (.float .f64 qv) W := fun W => run_float_arith W .quo 32 .f64 _ _ _ hqt.1
      have hop2 : ∀ W : World, (binOp .add 32 (.float .f64 b) (.float .f64 qv)).run Try.prog W = .ok (.float .f64 b2) W := fun W => run_float_arith W .add 32 .f64 _ _ _ hadd.1
      have HB2 := Lib.hid (And.intro hadd.2.1 hadd.2.2)
      clear hqt hadd
      generalize nxN x = n at *
      have hn0 : ((n : Int) == 0) = false := by rw [beq_eq_false_iff_ne]; omega
      have hpi : (n : Int) ≤ (x.size : Int) := by omega
      go_wp2_with (go_at_call 29; (with_reducible refine (HF.out _).mono ?_); rintro e w1 ⟨rfl, hb⟩; have HB1 := Lib.hid (HW.out.trans (hb.mono HW.out.size)); clear hb)
      have HX := Lib.hid (FrmAt.new w1 ⟨v, l, r, (qn : Int), o⟩)
      have f0 : ∀ y : Wld (FrmAt w1 w1.heap.size ⟨v, l, r, (qn : Int), o⟩), y.val.cell? ⟨w1.heap.size, 0, none⟩ = some (.int .i64 v) := fun y => y.ok.2.cell 0
      have f1 : ∀ y : Wld (FrmAt w1 w1.heap.size ⟨v, l, r, (qn : Int), o⟩), y.val.cell? ⟨w1.heap.size, 1, none⟩ = some (.int .i64 l) := fun y => y.ok.2.cell 1
      have f2 : ∀ y : Wld (FrmAt w1 w1.heap.size ⟨v, l, r, (qn : Int), o⟩), y.val.cell? ⟨w1.heap.size, 2, none⟩ = some (.int .i64 r) := fun y => y.ok.2.cell 2
      have f3 : ∀ y : Wld (FrmAt w1 w1.heap.size ⟨v, l, r, (qn : Int), o⟩), y.val.cell? ⟨w1.heap.size, 3, none⟩ = some (.int .i64 (qn : Nat)) := fun y => y.ok.2.cell 3
      have f4 : ∀ y : Wld (FrmAt w1 w1.heap.size ⟨v, l, r, (qn : Int), o⟩), y.val.cell? ⟨w1.heap.size, 4, none⟩ = some (.bool o) := fun y => y.ok.2.cell 4
      have inst : Nonempty (Wld (FrmAt w1 w1.heap.size ⟨v, l, r, (qn : Int), o⟩)) := ⟨⟨_, HX.out⟩⟩
      refine wp_region_class (FrmAt w1 w1.heap.size ⟨v, l, r, (qn : Int), o⟩) (by kernel_rfl) (by kernel_rfl) HX.out.drew ?_
      repeat (go_big_quiet_step ((go_at_call 28; exact Calls.cls (HL.out _) fun _ h => FrmAt.next h)))
      refine wpQuiet_nil ?_
      intro w2 h2
      have HW2 := Lib.hid (HB1.out.trans (h2.1.mono HB1.out.size))
      clear h2 f0 f1 f2 f3 f4 inst HX
      go_wp2
      go_roundw
      case rel => exact ⟨_, b2, by rw [ByteArray.size_extract]; omega, rfl, rfl, HB2.out.1, HB2.out.2, HSEC.out, HW2.out⟩
      case measure => simp [sizeV]; omega

end Go.Proofs.Ytmjkolkmpnadpaa
