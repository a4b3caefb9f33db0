/-
  What Match and Open of package mask and the document's Match answer. Condition: texts are as long as a length can be.
-/
import Derived.Test.YtcoblepgehjamaaMk3
namespace Go.Proofs.Ytcoblepgehjamaa
open Go.RowKit

set_option maxHeartbeats 1000000 in
set_option maxRecDepth 100000 in
theorem match_any (s b m k t : ByteArray) (w : World) (hs : s.size ≤ 9223372036854775807) (hb : b.size ≤ 9223372036854775807) (hm : m.size ≤ 9223372036854775807) (hk : k.size ≤ 9223372036854775807) :
    Calls Try.prog 37 #[.string s, patV b m k t] w fun e w' => e = .returned (.bool (matB s b m k)) ∧ Below w.heap.size w w' := by
  obtain ⟨w0, hw0⟩ : ∃ w0, w0 = w.alloc (.cells #[.string b, .string m, .string k, .string t] 40) := ⟨_, rfl⟩
  have HB0 := Lib.hid (show Below w.heap.size w w0 from by rw [hw0]; exact (Below.refl w.heap.size w).alloc (Nat.le_refl _) _)
  have HP := Lib.hid (show Blk w0 w.heap.size 40 #[.string b, .string m, .string k, .string t] from by rw [hw0]; exact Blk.new _ _ _)
  have HZ := Lib.hid (show w.heap.size < w0.heap.size from HP.out.lt)
  have HG := Lib.hid (fun W => good_any b m k t W hb hm)
  have HV : Hid (matB s b m k = (goodP b m && (decide (b.size ≤ (restS s k).size) && fitB (restS s k) b m))) := rfl
  have c0 := HP.out.cell 0
  have c1 := HP.out.cell 1
  have c2 := HP.out.cell 2
  have c3 := HP.out.cell 3
  cases hg : goodP b m
  · rw [hg] at HG HV
    clear hg
    go_enter Try.func37, Try.ntmps37
    go_wp2_with fail
    rw [← hw0]
    clear hw0
    go_wp2_with (go_at_call 46; refine (HG.out _).mono ?_; rintro e w1 ⟨rfl, hb1⟩; have HB1 := Lib.hid hb1; clear hb1)
    go_ret
    exact ⟨by rw [HV.out]; rfl, HB0.out.trans (HB1.out.mono (Nat.le_of_lt HZ.out))⟩
  · rw [hg] at HG HV
    have hms : m.size = b.size := by unfold goodP at hg; simp only [Bool.and_eq_true, decide_eq_true_eq] at hg; omega
    have HR := Lib.hid (fun W => behind_any s b m k t W hs hk)
    obtain ⟨r, hr⟩ : ∃ r, r = restS s k := ⟨_, rfl⟩
    rw [← hr] at HR HV
    have hrs : r.size ≤ 9223372036854775807 := by rw [hr, restS_size]; omega
    have HF := Lib.hid (fun W => fits_any r b m k t W hrs hb hms)
    clear hg hms hr
    cases hd : decide (b.size ≤ r.size)
    all_goals
      rw [hd] at HV
      generalize fitB r b m = f at *
      go_enter Try.func37, Try.ntmps37
      go_wp2_with fail
      rw [← hw0]
      clear hw0
      go_wp2_with (first
        | (go_at_call 46; refine (HG.out _).mono ?_; rintro e w1 ⟨rfl, hb1⟩; have HB1 := Lib.hid (HB0.out.trans (hb1.mono (Nat.le_of_lt HZ.out))); have HP1 := Lib.hid (HP.out.below hb1 HZ.out); clear hb1 c0 c1 c2 c3 HB0 HP HZ; have c0 := HP1.out.cell 0; have c1 := HP1.out.cell 1; have c2 := HP1.out.cell 2; have c3 := HP1.out.cell 3)
        | (go_at_call 47; refine (HR.out _).mono ?_; rintro e w2 ⟨rfl, hb2⟩; have HB2 := Lib.hid (HB1.out.trans (hb2.mono HB1.out.size)); have HP2 := Lib.hid (HP1.out.below hb2 HP1.out.lt); clear hb2 c0 c1 c2 c3 HB1 HP1; have c0 := HP2.out.cell 0; have c1 := HP2.out.cell 1; have c2 := HP2.out.cell 2; have c3 := HP2.out.cell 3)
        | (go_at_call 48; refine (HF.out _).mono ?_; rintro e w3 ⟨rfl, hb3⟩; have HB3 := Lib.hid hb3; clear hb3))
      go_ret
    · exact ⟨by rw [HV.out]; rfl, HB2.out⟩
    · exact ⟨by rw [HV.out]; rfl, HB2.out.trans (HB3.out.mono HB2.out.size)⟩

set_option maxHeartbeats 1000000 in
set_option maxRecDepth 100000 in
theorem refMatch_any (s b m k t : ByteArray) (w : World) (hs : s.size ≤ 9223372036854775807) (hb : b.size ≤ 9223372036854775807) (hm : m.size ≤ 9223372036854775807) (hk : k.size ≤ 9223372036854775807) :
    Calls Try.prog 28 #[.string s, patV b m k t] w fun e w' => e = .returned (.bool (matB s b m k)) ∧ Below w.heap.size w w' := by
  obtain ⟨w0, hw0⟩ : ∃ w0, w0 = w.alloc (.cells #[.string b, .string m, .string k, .string t] 40) := ⟨_, rfl⟩
  have HB0 := Lib.hid (show Below w.heap.size w w0 from by rw [hw0]; exact (Below.refl w.heap.size w).alloc (Nat.le_refl _) _)
  have HP := Lib.hid (show Blk w0 w.heap.size 40 #[.string b, .string m, .string k, .string t] from by rw [hw0]; exact Blk.new _ _ _)
  have HZ := Lib.hid (show w.heap.size < w0.heap.size from HP.out.lt)
  have HG := Lib.hid (fun W => refGood_any b m k t W hb hm)
  have HV : Hid (matB s b m k = (goodP b m && (decide (b.size ≤ (restS s k).size) && fitB (restS s k) b m))) := rfl
  have c0 := HP.out.cell 0
  have c1 := HP.out.cell 1
  have c2 := HP.out.cell 2
  have c3 := HP.out.cell 3
  cases hg : goodP b m
  · rw [hg] at HG HV
    clear hg
    go_enter Try.func28, Try.ntmps28
    go_wp2_with fail
    rw [← hw0]
    clear hw0
    go_wp2_with (go_at_call 33; refine (HG.out _).mono ?_; rintro e w1 ⟨rfl, hb1⟩; have HB1 := Lib.hid hb1; clear hb1)
    go_ret
    exact ⟨by rw [HV.out]; rfl, HB0.out.trans (HB1.out.mono (Nat.le_of_lt HZ.out))⟩
  · rw [hg] at HG HV
    have hms : m.size = b.size := by unfold goodP at hg; simp only [Bool.and_eq_true, decide_eq_true_eq] at hg; omega
    cases hf : fitB (restS s k) b m <;> cases hd : decide (b.size ≤ (restS s k).size)
    all_goals
      have HI := Lib.hid (fun W => refIs_any s b m k t W hs hb hk hms _ _ hf hd)
      rw [hf, hd] at HV
      clear hf hd hms hg
      go_enter Try.func28, Try.ntmps28
      go_wp2_with fail
      rw [← hw0]
      clear hw0
      go_wp2_with (first
        | (go_at_call 33; refine (HG.out _).mono ?_; rintro e w1 ⟨rfl, hb1⟩; have HB1 := Lib.hid (HB0.out.trans (hb1.mono (Nat.le_of_lt HZ.out))); have HP1 := Lib.hid (HP.out.below hb1 HZ.out); clear hb1 c0 c1 c2 c3 HB0 HP HZ; have c0 := HP1.out.cell 0; have c1 := HP1.out.cell 1; have c2 := HP1.out.cell 2; have c3 := HP1.out.cell 3)
        | (go_at_call 34; refine (HI.out _).mono ?_; rintro e w2 ⟨rfl, hb2⟩; have HB2 := Lib.hid hb2; clear hb2))
      go_ret
      exact ⟨by rw [HV.out]; rfl, HB1.out.trans (HB2.out.mono HB1.out.size)⟩

end Go.Proofs.Ytcoblepgehjamaa

