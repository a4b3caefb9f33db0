/-
  What Few and lives of layer 6's statements answer. Condition: texts are as long as a length can be.
-/
import Derived.Test.YtjkafeoenghdeaaMk5
import Derived.Test.YtjkafeoenghdeaaMk7
import Derived.Test.YtjkafeoenghdeaaCut
import Derived.StillTailTactics
namespace Go.Proofs.Ytjkafeoenghdeaa
open Go.RowKit

/-- A pattern, somewhat cut. -/
def fewP (p : Pat) : Pat := ⟨cutB p.b 70, cutB p.m 70, cutB p.k 20, cutB p.t 40⟩

set_option maxHeartbeats 1000000 in
set_option maxRecDepth 100000 in
theorem few_any (p : Pat) (w : World) (hp : p.ok) (ht : p.t.size ≤ 9223372036854775807) :
    Calls Try.prog 7 #[patV p.b p.m p.k p.t] w fun e w' => e = .returned (patV (fewP p).b (fewP p).m (fewP p).k (fewP p).t) ∧ Below w.heap.size w w' := by
  obtain ⟨h0, h1, h2⟩ := hp
  obtain ⟨w0, hw0⟩ : ∃ w0, w0 = (w.alloc (.cells #[.string p.b, .string p.m, .string p.k, .string p.t] 23)).alloc (.cells #[.string ⟨#[]⟩, .string ⟨#[]⟩, .string ⟨#[]⟩, .string ⟨#[]⟩] 23) := ⟨_, rfl⟩
  have HB0 := Lib.hid (show Below w.heap.size w w0 from by rw [hw0]; exact ((Below.refl w.heap.size w).alloc (Nat.le_refl _) _).alloc (by simp) _)
  have HP := Lib.hid (show Blk w0 w.heap.size 23 #[.string p.b, .string p.m, .string p.k, .string p.t] from by rw [hw0]; exact (Blk.new _ _ _).alloc _)
  have HQ := Lib.hid (show Blk w0 (w.heap.size + 1) 23 #[.string ⟨#[]⟩, .string ⟨#[]⟩, .string ⟨#[]⟩, .string ⟨#[]⟩] from by
    have := Blk.new (w.alloc (.cells #[.string p.b, .string p.m, .string p.k, .string p.t] 23)) 23 #[.string ⟨#[]⟩, .string ⟨#[]⟩, .string ⟨#[]⟩, .string ⟨#[]⟩]
    rw [hw0]
    simpa using this)
  have c0 := HP.out.cell 0
  have c1 := HP.out.cell 1
  have c2 := HP.out.cell 2
  have c3 := HP.out.cell 3
  have q0 := HQ.out.cell 0
  have q1 := HQ.out.cell 1
  have q2 := HQ.out.cell 2
  have q3 := HQ.out.cell 3
  have z0 := HQ.out.frozen 0
  have z1 := HQ.out.frozen 1
  have z2 := HQ.out.frozen 2
  have z3 := HQ.out.frozen 3
  have k0 : ∀ W, Calls Try.prog 6 #[.string p.b, .int .i64 70] W fun e w' => e = .returned (.string (cutB p.b 70)) ∧ w' = W := fun W => (cut_any p.b 70 W h0).mono fun _ _ h => ⟨h.1, h.2.symm⟩
  have k1 : ∀ W, Calls Try.prog 6 #[.string p.m, .int .i64 70] W fun e w' => e = .returned (.string (cutB p.m 70)) ∧ w' = W := fun W => (cut_any p.m 70 W h1).mono fun _ _ h => ⟨h.1, h.2.symm⟩
  have k2 : ∀ W, Calls Try.prog 6 #[.string p.k, .int .i64 20] W fun e w' => e = .returned (.string (cutB p.k 20)) ∧ w' = W := fun W => (cut_any p.k 20 W h2).mono fun _ _ h => ⟨h.1, h.2.symm⟩
  have k3 : ∀ W, Calls Try.prog 6 #[.string p.t, .int .i64 40] W fun e w' => e = .returned (.string (cutB p.t 40)) ∧ w' = W := fun W => (cut_any p.t 40 W ht).mono fun _ _ h => ⟨h.1, h.2.symm⟩
  have K0 := Lib.hid k0
  have K1 := Lib.hid k1
  have K2 := Lib.hid k2
  have K3 := Lib.hid k3
  clear k0 k1 k2 k3
  unfold fewP
  go_enter Try.func7, Try.ntmps7
  go_wp2_with fail
  rw [← hw0]
  clear hw0
  refine wp_region_still_tail 13 (by kernel_rfl) (by kernel_rfl) ?_
  simp only [List.take_succ_cons, List.take_zero, List.drop_succ_cons, List.drop_zero]
  repeat still_step
  still_call (K0.out _)
  repeat still_step
  still_call (K1.out _)
  repeat still_step
  still_call (K2.out _)
  repeat still_step
  still_call (K3.out _)
  repeat still_step
  refine wpStill_nil ?_
  change wpList _ _ _ _ _ (World.drew _)
  go_wp2_with fail
  refine bodyPost_ret (v := patV (cutB p.b 70) (cutB p.m 70) (cutB p.k 20) (cutB p.t 40)) (by simp [results, Try.results7, go_sem, q0, q1, q2, q3]; done) rfl ⟨rfl, ?_⟩
  exact ((((HB0.out.setCell (by simp) _).setCell (by simp) _).setCell (by simp) _).setCell (by simp) _).drew

theorem tag_m1 : matB ⟨#[32, 32, 60, 112, 62]⟩ (upS ⟨#[60, 80]⟩) (mskS ⟨#[60, 80]⟩) blk5 = true := by kernel_rfl
theorem tag_m2 : matB ⟨#[60, 113]⟩ (upS ⟨#[60, 80]⟩) (mskS ⟨#[60, 80]⟩) blk5 = false := by kernel_rfl
theorem tag_m3 : matB ⟨#[60, 80]⟩ (upS ⟨#[60, 80]⟩) (mskS ⟨#[60, 80]⟩) blk5 = true := by kernel_rfl

theorem PatsIn.one (w : World) (p : Pat) : PatsIn (w.alloc (.cells #[.string p.b, .string p.m, .string p.k, .string p.t] 23)) w.heap.size (fun _ => p) 1 := by
  have h := Blk.new w 23 #[.string p.b, .string p.m, .string p.k, .string p.t]
  refine ⟨by simp, fun i hi => ?_⟩
  obtain rfl : i = 0 := by omega
  exact ⟨h.cell 0, h.cell 1, h.cell 2, h.cell 3⟩

abbrev html : ByteArray := ⟨#[116, 101, 120, 116, 47, 104, 116, 109, 108]⟩

set_option maxHeartbeats 1000000 in
theorem mlives_any (w : World) :
    Calls Try.prog 15 #[] w fun e w' => e = .returned (.bool true) ∧ Below w.heap.size w w' := by
  obtain ⟨x, hx⟩ : ∃ x : ByteArray, x = html := ⟨_, rfl⟩
  have hxx : (x.toList == [116, 101, 120, 116, 47, 104, 116, 109, 108]) = true := by rw [hx]; kernel_rfl
  have HT := Lib.hid (fun W => tag_any ⟨#[60, 80]⟩ html W (of_decide_eq_true rfl) (of_decide_eq_true rfl))
  obtain ⟨b, hb⟩ : ∃ b, b = upS ⟨#[60, 80]⟩ := ⟨_, rfl⟩
  obtain ⟨m, hm⟩ : ∃ m, m = mskS ⟨#[60, 80]⟩ := ⟨_, rfl⟩
  obtain ⟨k, hk⟩ : ∃ k, k = blk5 := ⟨_, rfl⟩
  have hbs : b.size ≤ 9223372036854775807 := by rw [hb, upS_size]; exact of_decide_eq_true rfl
  have hms : m.size ≤ 9223372036854775807 := by rw [hm, mskS_size]; exact of_decide_eq_true rfl
  have hks : k.size ≤ 9223372036854775807 := by rw [hk]; exact of_decide_eq_true rfl
  have H1 := Lib.hid (fun W => match_any ⟨#[32, 32, 60, 112, 62]⟩ b m k html W (of_decide_eq_true rfl) hbs hms hks)
  have H2 := Lib.hid (fun W => match_any ⟨#[60, 113]⟩ b m k html W (of_decide_eq_true rfl) hbs hms hks)
  have H3 := Lib.hid (fun W g c (h : PatsIn W g (fun _ => ⟨b, m, k, html⟩) 1) => show Calls Try.prog 19 #[.string ⟨#[60, 80]⟩, .slice (some ⟨g, 0, none⟩) 1 c] W fun e w' => e = .returned (.string x) ∧ Below W.heap.size W w' from
    hx.symm ▸ type_any g 1 c ⟨#[60, 80]⟩ (fun _ => ⟨b, m, k, html⟩) 0 W h (fun _ _ => ⟨hbs, hms, hks⟩) (of_decide_eq_true rfl) (by omega)
    (.inr ⟨0, by omega, rfl, by unfold matP; rw [hb, hm, hk]; exact tag_m3, fun j h => absurd h (by omega)⟩))
  rw [← hb, ← hm, ← hk] at HT
  rw [hb, hm, hk, tag_m1, ← hb, ← hm, ← hk] at H1
  rw [hb, hm, hk, tag_m2, ← hb, ← hm, ← hk] at H2
  clear hb hm hk hx
  go_enter Try.func15, Try.ntmps15
  go_wp2_with (go_at_call 20; refine (HT.out _).mono ?_; rintro e w1 ⟨rfl, hb1⟩; have HB1 := Lib.hid hb1; clear hb1)
  obtain ⟨w2, hw2⟩ : ∃ w2, w2 = w1.alloc (.cells #[.string b, .string m, .string k, .string html] 23) := ⟨_, rfl⟩
  have HB2 := Lib.hid (show Below w.heap.size w w2 from by rw [hw2]; exact HB1.out.alloc HB1.out.size _)
  have HP2 := Lib.hid (show Blk w2 w1.heap.size 23 #[.string b, .string m, .string k, .string html] from by rw [hw2]; exact Blk.new _ _ _)
  rw [← hw2]
  clear hw2
  generalize w1.heap.size = pb at *
  refine (H1.out _).mono ?_
  rintro e w3 ⟨rfl, hb3⟩
  have HB3 := Lib.hid (HB2.out.trans (hb3.mono HB2.out.size))
  have HP3 := Lib.hid (HP2.out.below hb3 HP2.out.lt)
  clear hb3 HB2 HP2 HB1
  have c0 := HP3.out.cell 0
  have c1 := HP3.out.cell 1
  have c2 := HP3.out.cell 2
  have c3 := HP3.out.cell 3
  go_wp2_with fail
  refine (H2.out _).mono ?_
  rintro e w4 ⟨rfl, hb4⟩
  have HB4 := Lib.hid (HB3.out.trans (hb4.mono HB3.out.size))
  have HP4 := Lib.hid (HP3.out.below hb4 HP3.out.lt)
  clear hb4 HB3 HP3 c0 c1 c2 c3
  have c0 := HP4.out.cell 0
  have c1 := HP4.out.cell 1
  have c2 := HP4.out.cell 2
  have c3 := HP4.out.cell 3
  go_wp2_with fail
  refine (H3.out _ _ _ (PatsIn.one w4 ⟨b, m, k, html⟩)).mono ?_
  rintro e w5 ⟨rfl, hb5⟩
  have HB5 := Lib.hid ((HB4.out.alloc HB4.out.size (.cells #[.string b, .string m, .string k, .string html] 23)).trans (hb5.mono (Nat.le_trans HB4.out.size (by simp))))
  clear hb5
  go_wp2
  go_ret
  exact ⟨rfl, HB5.out⟩

end Go.Proofs.Ytjkafeoenghdeaa
