/-
  What package ranges' coming does. Condition: the text is no longer than a length can be.
  What package ranges' coming (by positions) and Content answer. Condition: the text is no longer than a length can be.
  What package ranges' Content answers. Condition: the text is no longer than a length can be.
-/
import Derived.Test.YtaolclpjlkdkjaaDoorZ11
import Derived.Test.YtaolclpjlkdkjaaDoorZ6
namespace Go.Proofs.YtaolclpjlkdkjaaDoor
open Go.RowKit

/-- How a method ends that reads a part. -/
def PartEnd (o : Except (Nat × Int) (Int × Int × Int)) (e : Ending) : Prop := (∃ x y z, o = .ok (x, y, z) ∧ e = .returned (partV x y z)) ∨ (∃ (a : Nat) (c : Int), o = .error (a, c) ∧ e = pnc a c)
theorem PartEnd.bad {o : Except (Nat × Int) (Int × Int × Int)} {a : Nat} {c : Int} (h : o = .error (a, c)) : PartEnd o (pnc a c) := .inr ⟨a, c, h, rfl⟩
theorem contN_x {x y z : Option Int} {n : Nat} (h : x = none) : contN x y z n = .error (0, 9) := by subst h; rfl
theorem contN_y {x y z : Option Int} {n : Nat} (h : y = none) : contN x y z n = .error (0, 9) := by subst h; cases x <;> rfl
theorem contN_z {x y z : Option Int} {n : Nat} (h : z = none) : contN x y z n = .error (0, 9) := by subst h; cases x <;> cases y <;> rfl
theorem skip_any (cb k : Nat) (s : ByteArray) (c : UInt8) (W : World) (hW : Cur W cb s k) (hk : k ≤ s.size) (hs : s.size ≤ 9223372036854775807) :
    Calls Tryd.prog 42 #[cptr cb, .string ⟨#[c]⟩] W fun r w' => r = .returned (.bool (atB s k c)) ∧ Mv W.heap.size [cb] W w' ∧ Cur w' cb s (if atB s k c = true then k + 1 else k) := by
  have hp := pref_one c hk
  cases hc : atB s k c
  · rw [hc] at hp
    refine (skip_no cb k s ⟨#[c]⟩ W hW hk hs (by show 1 ≤ _; omega) hp).mono ?_
    rintro e w1 ⟨rfl, m, rfl⟩
    exact ⟨rfl, (Mv.refl _ _ _).drewN m, hW.drewN m⟩
  · rw [hc] at hp
    have hlt := atB_in hc
    refine (skip_yes cb k s ⟨#[c]⟩ W hW hk hs (by show 1 ≤ _; omega) hp (by show k + 1 ≤ _; omega)).mono ?_
    rintro e w1 ⟨rfl, i1⟩
    obtain ⟨m1, c1⟩ := Mv.put hW i1
    exact ⟨rfl, m1, c1⟩

set_option maxRecDepth 100000 in
set_option maxHeartbeats 8000000 in
theorem comingA_walk (cb a u c k k2 n : Nat) (z1 zs : Bool) (q1 q2 xz : ByteArray) (nf nt nz : Option Int) (O : Except (Nat × Int) (Int × Int × Int)) (s : ByteArray) (w : World) (hC : Cur w cb s 0)
    (HB1 : Hid (∀ W, Cur W cb s 0 → Calls Tryd.prog 29 #[rdV cb] W fun r w' => r = .returned (.string q1) ∧ Mv W.heap.size [cb] W w' ∧ Cur w' cb s a))
    (HU : Hid (∀ W, Cur W cb s a → Calls Tryd.prog 30 #[rdV cb] W fun r w' => ((z1 = true ∧ r = unitV ∧ Cur w' cb s u) ∨ (z1 = false ∧ r = pnc u 2)) ∧ Mv W.heap.size [cb] W w'))
    (O1 : Hid (z1 = false → O = .error (u, 2)))
    (HB2 : Hid (∀ W, Cur W cb s u → Calls Tryd.prog 29 #[rdV cb] W fun r w' => r = .returned (.string q2) ∧ Mv W.heap.size [cb] W w' ∧ Cur w' cb s c))
    (HX : Hid ((q2.toList == []) = decide (c = u)))
    (O2 : Hid (z1 = true → c = u → O = .error (c, 2)))
    (HS1 : Hid (∀ W, Cur W cb s c → Calls Tryd.prog 42 #[cptr cb, .string ⟨#[42]⟩] W fun r w' => r = .returned (.bool true) ∧ Mv W.heap.size [cb] W w' ∧ Cur w' cb s k))
    (HM2 : Hid (∀ W, Cur W cb s k → Calls Tryd.prog 31 #[rdV cb, .string ⟨#[47]⟩] W fun r w' => ((zs = true ∧ r = unitV ∧ Cur w' cb s (k + 1)) ∨ (zs = false ∧ r = pnc k 2)) ∧ Mv W.heap.size [cb] W w'))
    (O6 : Hid (z1 = true → c ≠ u → zs = false → O = .error (k, 2)))
    (HD3 : Hid (zs = true → ∀ W, Cur W cb s (k + 1) → Calls Tryd.prog 43 #[rdV cb] W fun r w' => ((k2 ≠ k + 1 ∧ r = .returned (.string xz) ∧ Cur w' cb s k2) ∨ (k2 = k + 1 ∧ r = pnc (k + 1 : Nat) 2)) ∧ Mv W.heap.size [cb] W w'))
    (O7 : Hid (z1 = true → c ≠ u → zs = true → k2 = k + 1 → O = .error (k + 1, 2)))
    (HEN : Hid (zs = true → ∀ W, Cur W cb s k2 → Calls Tryd.prog 35 #[rdV cb] W fun r w' => ((n = s.size ∧ r = unitV ∧ Cur w' cb s n) ∨ (n ≠ s.size ∧ r = pnc n 2)) ∧ Mv W.heap.size [cb] W w'))
    (O8 : Hid (z1 = true → c ≠ u → zs = true → k2 ≠ k + 1 → n ≠ s.size → O = .error (n, 2)))
    (O9 : Hid (z1 = true → c ≠ u → zs = true → k2 ≠ k + 1 → n = s.size → O = contN nf nt nz n))
    (HN1 : Hid (zs = true → ∀ W, Calls Tryd.prog 36 #[rdV cb, .string ⟨#[]⟩] W fun r w' => ((∃ v, nf = some v ∧ r = .returned (.int .i64 v)) ∨ (nf = none ∧ r = pnc 0 9)) ∧ Below W.heap.size W w'))
    (HN2 : Hid (zs = true → ∀ W, Calls Tryd.prog 36 #[rdV cb, .string ⟨#[]⟩] W fun r w' => ((∃ v, nt = some v ∧ r = .returned (.int .i64 v)) ∨ (nt = none ∧ r = pnc 0 9)) ∧ Below W.heap.size W w'))
    (HN3 : Hid (zs = true → ∀ W, Calls Tryd.prog 36 #[rdV cb, .string xz] W fun r w' => ((∃ v, nz = some v ∧ r = .returned (.int .i64 v)) ∨ (nz = none ∧ r = pnc 0 9)) ∧ Below W.heap.size W w')) :
    Calls Tryd.prog 24 #[rdV cb] w fun r w' => PartEnd O r ∧ Mv w.heap.size [cb] w w' := by
  have HCK := Lib.hid (fun bl W (hW : Cur W cb s c) => rcheck_any cb c s bl W hW)
  have HAT := Lib.hid (fun W (hW : Cur W cb s n) => at_any cb n s W hW)
  have HGO := Lib.hid pgood_any
  have HPC := Lib.hid (fun bl W => pcheck_any n 9 (by decide) bl W)
  obtain ⟨w0, hw0⟩ : ∃ w0, w0 = (w.alloc (.cells #[cptr cb] 47)).alloc (partC 0 0 0) := ⟨_, rfl⟩
  have HR := Lib.hid (show Rdt 25 #[.int .i64 0, .int .i64 0, .int .i64 0] w w0 cb s 0 from by rw [hw0]; exact Rdt.new _ _ hC)
  have k0 := HR.out.keep
  clear hC
  go_enter Tryd.func24, Tryd.ntmps24
  go_wp2_with fail
  rw [← hw0]
  clear hw0
  refine (HB1.out _ HR.out.cur).mono ?_
  rintro r w1 ⟨rfl, m1, c1⟩
  replace HR := Lib.hid (HR.out.step m1 c1)
  have k1 := HR.out.keep
  clear m1 c1 k0
  go_wp2_with fail
  refine (HU.out _ HR.out.cur).mono ?_
  rintro r w2 ⟨⟨h1, rfl, c1⟩ | ⟨h1, rfl⟩, m1⟩
  rotate_left
  · exact ⟨rfl, .bad (O1.out h1), HR.out.gone m1⟩
  replace HR := Lib.hid (HR.out.step m1 c1)
  have k2 := HR.out.keep
  have Z2 := Lib.hid h1
  clear m1 c1 k1 h1
  go_wp2_with fail
  go_region_held2 (fun w' => w'.cell? ⟨w.heap.size, 0, none⟩ = some (cptr cb))
    (first | with_reducible exact HR.out.keep | with_reducible exact HR.out.drew.keep | go_keep)
    (first
      | (go_at_call 29; (refine (HB2.out _ (by first | exact HR.out.cur | exact HR.out.drew.cur)).mono ?_); rintro r w3 ⟨rfl, m1, c1⟩
         have HR := Lib.hid (show Rdt 25 #[.int .i64 0, .int .i64 0, .int .i64 0] w w3 cb s c from by first | exact HR.out.step m1 c1 | exact HR.out.drew.step m1 c1)
         clear m1 c1)
      | (go_at_call 34; (refine (HCK.out _ _ HR.out.cur).mono ?_); rintro r w4 ⟨hq, b1⟩; rcases hq.symm with ⟨h1, rfl⟩ | ⟨h1, rfl⟩
         focus (exact ⟨rfl, .bad (O2.out Z2.out (by have hx := HX.out; by_cases hcu : c = u <;> simp [hcu] at hx ⊢ <;> simp [hx] at h1)), HR.out.left b1⟩)
         have HR := Lib.hid (HR.out.below b1)
         clear b1))
  all_goals
  have Z4 := Lib.hid (show c ≠ u from by have hx := HX.out; by_cases hcu : c = u <;> simp [hcu] at hx ⊢ <;> simp [hx] at h1)
  have k4 := HR.out.keep
  clear h1
  go_wp2_with fail
  refine (HS1.out _ HR.out.cur).mono ?_
  rintro r w5 ⟨rfl, m1, c1⟩
  replace HR := Lib.hid (HR.out.step m1 c1)
  have k5 := HR.out.keep
  clear m1 c1 k4
  go_wp2_with fail
  refine (HM2.out _ HR.out.cur).mono ?_
  rintro r w6 ⟨⟨h1, rfl, c1⟩ | ⟨h1, rfl⟩, m1⟩
  rotate_left
  · exact ⟨rfl, .bad (O6.out Z2.out Z4.out h1), HR.out.gone m1⟩
  replace HR := Lib.hid (HR.out.step m1 c1)
  have k6 := HR.out.keep
  have Z6 := Lib.hid h1
  clear m1 c1 k5 h1
  go_wp2_with fail
  refine (HD3.out Z6.out _ HR.out.cur).mono ?_
  rintro r w7 ⟨⟨h1, rfl, c1⟩ | ⟨h1, rfl⟩, m1⟩
  rotate_left
  · exact ⟨rfl, .bad (O7.out Z2.out Z4.out Z6.out h1), HR.out.gone m1⟩
  replace HR := Lib.hid (HR.out.step m1 c1)
  have k7 := HR.out.keep
  have Z7 := Lib.hid h1
  clear m1 c1 k6 h1
  go_wp2_with fail
  refine (HEN.out Z6.out _ HR.out.cur).mono ?_
  rintro r w8 ⟨⟨h1, rfl, c1⟩ | ⟨h1, rfl⟩, m1⟩
  rotate_left
  · exact ⟨rfl, .bad (O8.out Z2.out Z4.out Z6.out Z7.out h1), HR.out.gone m1⟩
  replace HR := Lib.hid (HR.out.step m1 c1)
  have k8 := HR.out.keep
  have Z8 := Lib.hid h1
  clear m1 c1 k7 h1
  go_wp2_with fail
  have HO := Lib.hid (O9.out Z2.out Z4.out Z6.out Z7.out Z8.out)
  have HN1' := Lib.hid (HN1.out Z6.out)
  have HN2' := Lib.hid (HN2.out Z6.out)
  have HN3' := Lib.hid (HN3.out Z6.out)
  clear HB1 HU O1 HB2 HX O2 HS1 HM2 O6 HD3 O7 HEN O8 O9 HN1 HN2 HN3 HCK Z2 Z4 Z6 Z7 Z8
  go_region_held2 (fun w' => w'.cell? ⟨w.heap.size, 0, none⟩ = some (cptr cb))
      (first | with_reducible exact HR.out.keep | with_reducible exact HR.out.drew.keep | with_reducible exact (HR.out.alloc _).keep | with_reducible exact (HR.out.drew.alloc _).keep | with_reducible exact ((((HR.out.put (Rdt.room HR0.out) _ _).put (Rdt.room HR0.out) _ _).put (Rdt.room HR0.out) _ _).keep) | with_reducible exact ((((HR.out.put (Rdt.room HR1.out) _ _).put (Rdt.room HR1.out) _ _).put (Rdt.room HR1.out) _ _).keep) | with_reducible exact ((((HR.out.put (Rdt.room HR2.out) _ _).put (Rdt.room HR2.out) _ _).put (Rdt.room HR2.out) _ _).keep) | go_keep)
      (first
        | (go_at_call 36; (with_reducible refine (HN1'.out _).mono ?_); rintro r wd ⟨hq, b1⟩; rcases hq.symm with ⟨hx1, rfl⟩ | ⟨x, hx1, rfl⟩
           focus (exact ⟨rfl, .bad (by rw [HO.out]; exact contN_x hx1), by first | exact HR.out.drew.left b1 | exact (HR.out.drew.alloc _).left b1⟩)
           (first
             | (have HZ := Lib.hid (show Blk wd w8.heap.size 25 #[.int .i64 0, .int .i64 0, .int .i64 0] from (Blk.new w8.drew 25 #[.int .i64 0, .int .i64 0, .int .i64 0]).below b1 (by simp)); have z0 := HZ.out.cell 0; have z1 := HZ.out.cell 1; have z2 := HZ.out.cell 2; have f0 := HZ.out.frozen 0; have f1 := HZ.out.frozen 1; have f2 := HZ.out.frozen 2)
             | skip)
           have HR0 := HR
           have HR := Lib.hid (show Rdt 25 #[.int .i64 0, .int .i64 0, .int .i64 0] w wd cb s n from by first | exact HR.out.drew.below b1 | exact (HR.out.drew.alloc _).below b1)
           clear b1)
        | (go_at_call 36; (with_reducible refine (HN2'.out _).mono ?_); rintro r we ⟨hq, b1⟩; rcases hq.symm with ⟨hy1, rfl⟩ | ⟨y, hy1, rfl⟩
           focus (exact ⟨rfl, .bad (by rw [HO.out]; exact contN_y hy1), by first | exact HR.out.left b1 | exact (HR.out.alloc _).left b1⟩)
           (first
             | (have HZ := Lib.hid (show Blk we w8.heap.size 25 #[.int .i64 0, .int .i64 0, .int .i64 0] from HZ.out.below b1 HZ.out.lt); have z0 := HZ.out.cell 0; have z1 := HZ.out.cell 1; have z2 := HZ.out.cell 2; have f0 := HZ.out.frozen 0; have f1 := HZ.out.frozen 1; have f2 := HZ.out.frozen 2)
             | (have HZ := Lib.hid (show Blk we wd.heap.size 25 #[.int .i64 0, .int .i64 0, .int .i64 0] from (Blk.new wd 25 #[.int .i64 0, .int .i64 0, .int .i64 0]).below b1 (by simp)); have z0 := HZ.out.cell 0; have z1 := HZ.out.cell 1; have z2 := HZ.out.cell 2; have f0 := HZ.out.frozen 0; have f1 := HZ.out.frozen 1; have f2 := HZ.out.frozen 2)
             | skip)
           have HR1 := HR
           have HR := Lib.hid (show Rdt 25 #[.int .i64 0, .int .i64 0, .int .i64 0] w we cb s n from by first | exact HR.out.below b1 | exact (HR.out.alloc _).below b1)
           clear b1)
        | (go_at_call 36; (with_reducible refine (HN3'.out _).mono ?_); rintro r wf ⟨hq, b1⟩; rcases hq.symm with ⟨hz1, rfl⟩ | ⟨z, hz1, rfl⟩
           focus (exact ⟨rfl, .bad (by rw [HO.out]; exact contN_z hz1), by first | exact HR.out.left b1 | exact (HR.out.alloc _).left b1⟩)
           (first
             | (have HZ := Lib.hid (show Blk wf w8.heap.size 25 #[.int .i64 0, .int .i64 0, .int .i64 0] from HZ.out.below b1 HZ.out.lt); have z0 := HZ.out.cell 0; have z1 := HZ.out.cell 1; have z2 := HZ.out.cell 2; have f0 := HZ.out.frozen 0; have f1 := HZ.out.frozen 1; have f2 := HZ.out.frozen 2)
             | (have HZ := Lib.hid (show Blk wf wd.heap.size 25 #[.int .i64 0, .int .i64 0, .int .i64 0] from HZ.out.below b1 HZ.out.lt); have z0 := HZ.out.cell 0; have z1 := HZ.out.cell 1; have z2 := HZ.out.cell 2; have f0 := HZ.out.frozen 0; have f1 := HZ.out.frozen 1; have f2 := HZ.out.frozen 2)
             | (have HZ := Lib.hid (show Blk wf we.heap.size 25 #[.int .i64 0, .int .i64 0, .int .i64 0] from (Blk.new we 25 #[.int .i64 0, .int .i64 0, .int .i64 0]).below b1 (by simp)); have z0 := HZ.out.cell 0; have z1 := HZ.out.cell 1; have z2 := HZ.out.cell 2; have f0 := HZ.out.frozen 0; have f1 := HZ.out.frozen 1; have f2 := HZ.out.frozen 2)
             | skip)
           have HR2 := HR
           have HR := Lib.hid (show Rdt 25 #[.int .i64 0, .int .i64 0, .int .i64 0] w wf cb s n from by first | exact HR.out.below b1 | exact (HR.out.alloc _).below b1)
           clear b1))
  all_goals
    (first
      | (obtain ⟨w5, hw5⟩ : ∃ w5, w5 = wf.alloc (partC x y z) := ⟨_, rfl⟩
         rw [← hw5]
         obtain ⟨nb, hnb⟩ : ∃ nb, nb = wf.heap.size := ⟨_, rfl⟩
         rw [← hnb]
         have HR5 := Lib.hid (show Rdu 25 #[.int .i64 0, .int .i64 0, .int .i64 0] #[.int .i64 x, .int .i64 y, .int .i64 z] nb w w5 cb s n from by rw [hw5, hnb]; exact ⟨HR.out.alloc _, Blk.new wf _ _, HR.out.room⟩))
      | (obtain ⟨w5, hw5⟩ : ∃ w5, w5 = ((wf.setCell ⟨we.heap.size, 0, none⟩ (.int .i64 x)).setCell ⟨we.heap.size, 1, none⟩ (.int .i64 y)).setCell ⟨we.heap.size, 2, none⟩ (.int .i64 z) := ⟨_, rfl⟩
         rw [← hw5]
         obtain ⟨nb, hnb⟩ : ∃ nb, nb = we.heap.size := ⟨_, rfl⟩
         rw [← hnb]
         have HR5 := Lib.hid (show Rdu 25 #[.int .i64 0, .int .i64 0, .int .i64 0] #[.int .i64 x, .int .i64 y, .int .i64 z] nb w w5 cb s n from by rw [hw5, hnb]; exact ⟨((HR.out.put HR2.out.room _ _).put HR2.out.room _ _).put HR2.out.room _ _, ((HZ.out.set_ 0 _).set_ 1 _).set_ 2 _, HR2.out.room⟩))
      | (obtain ⟨w5, hw5⟩ : ∃ w5, w5 = ((wf.setCell ⟨wd.heap.size, 0, none⟩ (.int .i64 x)).setCell ⟨wd.heap.size, 1, none⟩ (.int .i64 y)).setCell ⟨wd.heap.size, 2, none⟩ (.int .i64 z) := ⟨_, rfl⟩
         rw [← hw5]
         obtain ⟨nb, hnb⟩ : ∃ nb, nb = wd.heap.size := ⟨_, rfl⟩
         rw [← hnb]
         have HR5 := Lib.hid (show Rdu 25 #[.int .i64 0, .int .i64 0, .int .i64 0] #[.int .i64 x, .int .i64 y, .int .i64 z] nb w w5 cb s n from by rw [hw5, hnb]; exact ⟨((HR.out.put HR1.out.room _ _).put HR1.out.room _ _).put HR1.out.room _ _, ((HZ.out.set_ 0 _).set_ 1 _).set_ 2 _, HR1.out.room⟩))
      | (obtain ⟨w5, hw5⟩ : ∃ w5, w5 = ((wf.setCell ⟨w8.heap.size, 0, none⟩ (.int .i64 x)).setCell ⟨w8.heap.size, 1, none⟩ (.int .i64 y)).setCell ⟨w8.heap.size, 2, none⟩ (.int .i64 z) := ⟨_, rfl⟩
         rw [← hw5]
         obtain ⟨nb, hnb⟩ : ∃ nb, nb = w8.heap.size := ⟨_, rfl⟩
         rw [← hnb]
         have HR5 := Lib.hid (show Rdu 25 #[.int .i64 0, .int .i64 0, .int .i64 0] #[.int .i64 x, .int .i64 y, .int .i64 z] nb w w5 cb s n from by rw [hw5, hnb]; exact ⟨((HR.out.put HR0.out.room _ _).put HR0.out.room _ _).put HR0.out.room _ _, ((HZ.out.set_ 0 _).set_ 1 _).set_ 2 _, HR0.out.room⟩)))
    have ho := Lib.hid (show O = if goodQ x y z = true then .ok (x, y, z) else .error (n, 9) from by rw [HO.out, hx1, hy1, hz1]; rfl)
    clear hw5 hnb HO HN1' HN2' HN3' hx1 hy1 hz1
    obtain ⟨k5, v0, v1, v2⟩ := HR5.out.keep3
    go_wp2_with fail
    go_region_held2 (fun w' => w'.cell? ⟨w.heap.size, 0, none⟩ = some (cptr cb) ∧ w'.cell? ⟨nb, 0, none⟩ = some (.int .i64 x) ∧ w'.cell? ⟨nb, 1, none⟩ = some (.int .i64 y) ∧ w'.cell? ⟨nb, 2, none⟩ = some (.int .i64 z))
      (first | with_reducible exact HR5.out.keep3 | with_reducible exact HR5.out.drew.keep3 | go_keep)
      (first
        | (go_at_call 8; (with_reducible refine (HGO.out _ _ _ _).mono ?_); rintro r wg ⟨rfl, b1⟩
           have HR5 := Lib.hid (show Rdu 25 #[.int .i64 0, .int .i64 0, .int .i64 0] #[.int .i64 x, .int .i64 y, .int .i64 z] nb w wg cb s n from by first | exact HR5.out.below b1 | exact HR5.out.drew.below b1)
           clear b1)
        | (go_at_call 38; (refine (HAT.out _ (by first | exact HR5.out.t.cur | exact HR5.out.drew.t.cur)).mono ?_); rintro r wh ⟨rfl, rfl⟩)
        | (go_at_call 37; (refine (HPC.out _ _).mono ?_); rintro r wi ⟨hq, rfl⟩; rcases hq.symm with ⟨h1, rfl⟩ | ⟨h1, rfl⟩
           focus (exact ⟨rfl, .bad (by rw [ho.out, if_neg (by rw [h1]; decide)]), by first | exact HR5.out.left | exact HR5.out.drew.left⟩)))
    obtain ⟨k6, v3, v4, v5⟩ := HR5.out.keep3
    have r0 := HR5.out.t.res.cell 0
    have r1 := HR5.out.t.res.cell 1
    have r2 := HR5.out.t.res.cell 2
    have f0 := HR5.out.t.res.frozen 0
    have f1 := HR5.out.t.res.frozen 1
    have f2 := HR5.out.t.res.frozen 2
    have ho2 := Lib.hid (show O = .ok (x, y, z) from by rw [ho.out, if_pos h1])
    clear h1 ho
    go_wp2
    have hk := ((HR5.out.t.res.set_ 0 (.int .i64 x)).set_ 1 (.int .i64 y)).set_ 2 (.int .i64 z)
    have j0 : _ = some (.int .i64 x : Value) := hk.cell 0
    have j1 : _ = some (.int .i64 y : Value) := hk.cell 1
    have j2 : _ = some (.int .i64 z : Value) := hk.cell 2
    refine bodyPost_ret (v := partV x y z) (by simp [results, Tryd.results24, go_sem, j0, j1, j2]) rfl ⟨.inl ⟨x, y, z, ho2.out, rfl⟩, ((HR5.out.left.setCell (.inr (by simp)) _).setCell (.inr (by simp)) _).setCell (.inr (by simp)) _⟩

set_option maxRecDepth 100000 in
set_option maxHeartbeats 8000000 in
theorem comingB_walk (cb a u c d1 k k2 n : Nat) (z1 zm zs : Bool) (q1 q2 xf xt xz : ByteArray) (nf nt nz : Option Int) (O : Except (Nat × Int) (Int × Int × Int)) (s : ByteArray) (w : World) (hC : Cur w cb s 0)
    (HB1 : Hid (∀ W, Cur W cb s 0 → Calls Tryd.prog 29 #[rdV cb] W fun r w' => r = .returned (.string q1) ∧ Mv W.heap.size [cb] W w' ∧ Cur w' cb s a))
    (HU : Hid (∀ W, Cur W cb s a → Calls Tryd.prog 30 #[rdV cb] W fun r w' => ((z1 = true ∧ r = unitV ∧ Cur w' cb s u) ∨ (z1 = false ∧ r = pnc u 2)) ∧ Mv W.heap.size [cb] W w'))
    (O1 : Hid (z1 = false → O = .error (u, 2)))
    (HB2 : Hid (∀ W, Cur W cb s u → Calls Tryd.prog 29 #[rdV cb] W fun r w' => r = .returned (.string q2) ∧ Mv W.heap.size [cb] W w' ∧ Cur w' cb s c))
    (HX : Hid ((q2.toList == []) = decide (c = u)))
    (O2 : Hid (z1 = true → c = u → O = .error (c, 2)))
    (HS1 : Hid (∀ W, Cur W cb s c → Calls Tryd.prog 42 #[cptr cb, .string ⟨#[42]⟩] W fun r w' => r = .returned (.bool false) ∧ Mv W.heap.size [cb] W w' ∧ Cur w' cb s c))
    (HD1 : Hid (∀ W, Cur W cb s c → Calls Tryd.prog 43 #[rdV cb] W fun r w' => ((d1 ≠ c ∧ r = .returned (.string xf) ∧ Cur w' cb s d1) ∨ (d1 = c ∧ r = pnc c 2)) ∧ Mv W.heap.size [cb] W w'))
    (O3 : Hid (z1 = true → c ≠ u → d1 = c → O = .error (c, 2)))
    (HM1 : Hid (∀ W, Cur W cb s d1 → Calls Tryd.prog 31 #[rdV cb, .string ⟨#[45]⟩] W fun r w' => ((zm = true ∧ r = unitV ∧ Cur w' cb s (d1 + 1)) ∨ (zm = false ∧ r = pnc d1 2)) ∧ Mv W.heap.size [cb] W w'))
    (O4 : Hid (z1 = true → c ≠ u → d1 ≠ c → zm = false → O = .error (d1, 2)))
    (HD2 : Hid (zm = true → ∀ W, Cur W cb s (d1 + 1) → Calls Tryd.prog 43 #[rdV cb] W fun r w' => ((k ≠ d1 + 1 ∧ r = .returned (.string xt) ∧ Cur w' cb s k) ∨ (k = d1 + 1 ∧ r = pnc (d1 + 1 : Nat) 2)) ∧ Mv W.heap.size [cb] W w'))
    (O5 : Hid (z1 = true → c ≠ u → d1 ≠ c → zm = true → k = d1 + 1 → O = .error (d1 + 1, 2)))
    (HM2 : Hid (zm = true → ∀ W, Cur W cb s k → Calls Tryd.prog 31 #[rdV cb, .string ⟨#[47]⟩] W fun r w' => ((zs = true ∧ r = unitV ∧ Cur w' cb s (k + 1)) ∨ (zs = false ∧ r = pnc k 2)) ∧ Mv W.heap.size [cb] W w'))
    (O6 : Hid (z1 = true → c ≠ u → d1 ≠ c → zm = true → k ≠ d1 + 1 → zs = false → O = .error (k, 2)))
    (HS2 : Hid (zm = true → zs = true → ∀ W, Cur W cb s (k + 1) → Calls Tryd.prog 42 #[cptr cb, .string ⟨#[42]⟩] W fun r w' => r = .returned (.bool false) ∧ Mv W.heap.size [cb] W w' ∧ Cur w' cb s (k + 1)))
    (HD3 : Hid (zm = true → zs = true → ∀ W, Cur W cb s (k + 1) → Calls Tryd.prog 43 #[rdV cb] W fun r w' => ((k2 ≠ k + 1 ∧ r = .returned (.string xz) ∧ Cur w' cb s k2) ∨ (k2 = k + 1 ∧ r = pnc (k + 1 : Nat) 2)) ∧ Mv W.heap.size [cb] W w'))
    (O7 : Hid (z1 = true → c ≠ u → d1 ≠ c → zm = true → k ≠ d1 + 1 → zs = true → k2 = k + 1 → O = .error (k + 1, 2)))
    (HEN : Hid (zm = true → zs = true → ∀ W, Cur W cb s k2 → Calls Tryd.prog 35 #[rdV cb] W fun r w' => ((n = s.size ∧ r = unitV ∧ Cur w' cb s n) ∨ (n ≠ s.size ∧ r = pnc n 2)) ∧ Mv W.heap.size [cb] W w'))
    (O8 : Hid (z1 = true → c ≠ u → d1 ≠ c → zm = true → k ≠ d1 + 1 → zs = true → k2 ≠ k + 1 → n ≠ s.size → O = .error (n, 2)))
    (O9 : Hid (z1 = true → c ≠ u → d1 ≠ c → zm = true → k ≠ d1 + 1 → zs = true → k2 ≠ k + 1 → n = s.size → O = contN nf nt nz n))
    (HN1 : Hid (zm = true → zs = true → ∀ W, Calls Tryd.prog 36 #[rdV cb, .string xf] W fun r w' => ((∃ v, nf = some v ∧ r = .returned (.int .i64 v)) ∨ (nf = none ∧ r = pnc 0 9)) ∧ Below W.heap.size W w'))
    (HN2 : Hid (zm = true → zs = true → ∀ W, Calls Tryd.prog 36 #[rdV cb, .string xt] W fun r w' => ((∃ v, nt = some v ∧ r = .returned (.int .i64 v)) ∨ (nt = none ∧ r = pnc 0 9)) ∧ Below W.heap.size W w'))
    (HN3 : Hid (zm = true → zs = true → ∀ W, Calls Tryd.prog 36 #[rdV cb, .string xz] W fun r w' => ((∃ v, nz = some v ∧ r = .returned (.int .i64 v)) ∨ (nz = none ∧ r = pnc 0 9)) ∧ Below W.heap.size W w')) :
    Calls Tryd.prog 24 #[rdV cb] w fun r w' => PartEnd O r ∧ Mv w.heap.size [cb] w w' := by
  have HCK := Lib.hid (fun bl W (hW : Cur W cb s c) => rcheck_any cb c s bl W hW)
  have HAT := Lib.hid (fun W (hW : Cur W cb s n) => at_any cb n s W hW)
  have HGO := Lib.hid pgood_any
  have HPC := Lib.hid (fun bl W => pcheck_any n 9 (by decide) bl W)
  obtain ⟨w0, hw0⟩ : ∃ w0, w0 = (w.alloc (.cells #[cptr cb] 47)).alloc (partC 0 0 0) := ⟨_, rfl⟩
  have HR := Lib.hid (show Rdt 25 #[.int .i64 0, .int .i64 0, .int .i64 0] w w0 cb s 0 from by rw [hw0]; exact Rdt.new _ _ hC)
  have k0 := HR.out.keep
  clear hC
  go_enter Tryd.func24, Tryd.ntmps24
  go_wp2_with fail
  rw [← hw0]
  clear hw0
  refine (HB1.out _ HR.out.cur).mono ?_
  rintro r w1 ⟨rfl, m1, c1⟩
  replace HR := Lib.hid (HR.out.step m1 c1)
  have k1 := HR.out.keep
  clear m1 c1 k0
  go_wp2_with fail
  refine (HU.out _ HR.out.cur).mono ?_
  rintro r w2 ⟨⟨h1, rfl, c1⟩ | ⟨h1, rfl⟩, m1⟩
  rotate_left
  · exact ⟨rfl, .bad (O1.out h1), HR.out.gone m1⟩
  replace HR := Lib.hid (HR.out.step m1 c1)
  have k2 := HR.out.keep
  have Z2 := Lib.hid h1
  clear m1 c1 k1 h1
  go_wp2_with fail
  go_region_held2 (fun w' => w'.cell? ⟨w.heap.size, 0, none⟩ = some (cptr cb))
    (first | with_reducible exact HR.out.keep | with_reducible exact HR.out.drew.keep | go_keep)
    (first
      | (go_at_call 29; (refine (HB2.out _ (by first | exact HR.out.cur | exact HR.out.drew.cur)).mono ?_); rintro r w3 ⟨rfl, m1, c1⟩
         have HR := Lib.hid (show Rdt 25 #[.int .i64 0, .int .i64 0, .int .i64 0] w w3 cb s c from by first | exact HR.out.step m1 c1 | exact HR.out.drew.step m1 c1)
         clear m1 c1)
      | (go_at_call 34; (refine (HCK.out _ _ HR.out.cur).mono ?_); rintro r w4 ⟨hq, b1⟩; rcases hq.symm with ⟨h1, rfl⟩ | ⟨h1, rfl⟩
         focus (exact ⟨rfl, .bad (O2.out Z2.out (by have hx := HX.out; by_cases hcu : c = u <;> simp [hcu] at hx ⊢ <;> simp [hx] at h1)), HR.out.left b1⟩)
         have HR := Lib.hid (HR.out.below b1)
         clear b1))
  all_goals
  have Z4 := Lib.hid (show c ≠ u from by have hx := HX.out; by_cases hcu : c = u <;> simp [hcu] at hx ⊢ <;> simp [hx] at h1)
  have k4 := HR.out.keep
  clear h1
  go_wp2_with fail
  refine (HS1.out _ HR.out.cur).mono ?_
  rintro r w5 ⟨rfl, m1, c1⟩
  replace HR := Lib.hid (HR.out.step m1 c1)
  have k5 := HR.out.keep
  clear m1 c1 k4
  go_wp2_with fail
  refine (HD1.out _ HR.out.cur).mono ?_
  rintro r w6 ⟨⟨h1, rfl, c1⟩ | ⟨h1, rfl⟩, m1⟩
  rotate_left
  · exact ⟨rfl, .bad (O3.out Z2.out Z4.out h1), HR.out.gone m1⟩
  replace HR := Lib.hid (HR.out.step m1 c1)
  have k6 := HR.out.keep
  have Z6 := Lib.hid h1
  clear m1 c1 k5 h1
  go_wp2_with fail
  refine (HM1.out _ HR.out.cur).mono ?_
  rintro r w7 ⟨⟨h1, rfl, c1⟩ | ⟨h1, rfl⟩, m1⟩
  rotate_left
  · exact ⟨rfl, .bad (O4.out Z2.out Z4.out Z6.out h1), HR.out.gone m1⟩
  replace HR := Lib.hid (HR.out.step m1 c1)
  have k7 := HR.out.keep
  have Z7 := Lib.hid h1
  clear m1 c1 k6 h1
  go_wp2_with fail
  refine (HD2.out Z7.out _ HR.out.cur).mono ?_
  rintro r w8 ⟨⟨h1, rfl, c1⟩ | ⟨h1, rfl⟩, m1⟩
  rotate_left
  · exact ⟨rfl, .bad (O5.out Z2.out Z4.out Z6.out Z7.out h1), HR.out.gone m1⟩
  replace HR := Lib.hid (HR.out.step m1 c1)
  have k8 := HR.out.keep
  have Z8 := Lib.hid h1
  clear m1 c1 k7 h1
  go_wp2_with fail
  refine (HM2.out Z7.out _ HR.out.cur).mono ?_
  rintro r w9 ⟨⟨h1, rfl, c1⟩ | ⟨h1, rfl⟩, m1⟩
  rotate_left
  · exact ⟨rfl, .bad (O6.out Z2.out Z4.out Z6.out Z7.out Z8.out h1), HR.out.gone m1⟩
  replace HR := Lib.hid (HR.out.step m1 c1)
  have k9 := HR.out.keep
  have Z9 := Lib.hid h1
  clear m1 c1 k8 h1
  go_wp2_with fail
  refine (HS2.out Z7.out Z9.out _ HR.out.cur).mono ?_
  rintro r w10 ⟨rfl, m1, c1⟩
  replace HR := Lib.hid (HR.out.step m1 c1)
  have k10 := HR.out.keep
  clear m1 c1 k9
  go_wp2_with fail
  refine (HD3.out Z7.out Z9.out _ HR.out.cur).mono ?_
  rintro r w11 ⟨⟨h1, rfl, c1⟩ | ⟨h1, rfl⟩, m1⟩
  rotate_left
  · exact ⟨rfl, .bad (O7.out Z2.out Z4.out Z6.out Z7.out Z8.out Z9.out h1), HR.out.gone m1⟩
  replace HR := Lib.hid (HR.out.step m1 c1)
  have k11 := HR.out.keep
  have Z11 := Lib.hid h1
  clear m1 c1 k10 h1
  go_wp2_with fail
  refine (HEN.out Z7.out Z9.out _ HR.out.cur).mono ?_
  rintro r w12 ⟨⟨h1, rfl, c1⟩ | ⟨h1, rfl⟩, m1⟩
  rotate_left
  · exact ⟨rfl, .bad (O8.out Z2.out Z4.out Z6.out Z7.out Z8.out Z9.out Z11.out h1), HR.out.gone m1⟩
  replace HR := Lib.hid (HR.out.step m1 c1)
  have k12 := HR.out.keep
  have Z12 := Lib.hid h1
  clear m1 c1 k11 h1
  go_wp2_with fail
  have HO := Lib.hid (O9.out Z2.out Z4.out Z6.out Z7.out Z8.out Z9.out Z11.out Z12.out)
  have HN1' := Lib.hid (HN1.out Z7.out Z9.out)
  have HN2' := Lib.hid (HN2.out Z7.out Z9.out)
  have HN3' := Lib.hid (HN3.out Z7.out Z9.out)
  clear HB1 HU O1 HB2 HX O2 HS1 HD1 O3 HM1 O4 HD2 O5 HM2 O6 HS2 HD3 O7 HEN O8 O9 HN1 HN2 HN3 HCK Z2 Z4 Z6 Z7 Z8 Z9 Z11 Z12
  go_region_held2 (fun w' => w'.cell? ⟨w.heap.size, 0, none⟩ = some (cptr cb))
      (first | with_reducible exact HR.out.keep | with_reducible exact HR.out.drew.keep | with_reducible exact (HR.out.alloc _).keep | with_reducible exact (HR.out.drew.alloc _).keep | with_reducible exact ((((HR.out.put (Rdt.room HR0.out) _ _).put (Rdt.room HR0.out) _ _).put (Rdt.room HR0.out) _ _).keep) | with_reducible exact ((((HR.out.put (Rdt.room HR1.out) _ _).put (Rdt.room HR1.out) _ _).put (Rdt.room HR1.out) _ _).keep) | with_reducible exact ((((HR.out.put (Rdt.room HR2.out) _ _).put (Rdt.room HR2.out) _ _).put (Rdt.room HR2.out) _ _).keep) | go_keep)
      (first
        | (go_at_call 36; (with_reducible refine (HN1'.out _).mono ?_); rintro r wd ⟨hq, b1⟩; rcases hq.symm with ⟨hx1, rfl⟩ | ⟨x, hx1, rfl⟩
           focus (exact ⟨rfl, .bad (by rw [HO.out]; exact contN_x hx1), by first | exact HR.out.drew.left b1 | exact (HR.out.drew.alloc _).left b1⟩)
           (first
             | (have HZ := Lib.hid (show Blk wd w12.heap.size 25 #[.int .i64 0, .int .i64 0, .int .i64 0] from (Blk.new w12.drew 25 #[.int .i64 0, .int .i64 0, .int .i64 0]).below b1 (by simp)); have z0 := HZ.out.cell 0; have z1 := HZ.out.cell 1; have z2 := HZ.out.cell 2; have f0 := HZ.out.frozen 0; have f1 := HZ.out.frozen 1; have f2 := HZ.out.frozen 2)
             | skip)
           have HR0 := HR
           have HR := Lib.hid (show Rdt 25 #[.int .i64 0, .int .i64 0, .int .i64 0] w wd cb s n from by first | exact HR.out.drew.below b1 | exact (HR.out.drew.alloc _).below b1)
           clear b1)
        | (go_at_call 36; (with_reducible refine (HN2'.out _).mono ?_); rintro r we ⟨hq, b1⟩; rcases hq.symm with ⟨hy1, rfl⟩ | ⟨y, hy1, rfl⟩
           focus (exact ⟨rfl, .bad (by rw [HO.out]; exact contN_y hy1), by first | exact HR.out.left b1 | exact (HR.out.alloc _).left b1⟩)
           (first
             | (have HZ := Lib.hid (show Blk we w12.heap.size 25 #[.int .i64 0, .int .i64 0, .int .i64 0] from HZ.out.below b1 HZ.out.lt); have z0 := HZ.out.cell 0; have z1 := HZ.out.cell 1; have z2 := HZ.out.cell 2; have f0 := HZ.out.frozen 0; have f1 := HZ.out.frozen 1; have f2 := HZ.out.frozen 2)
             | (have HZ := Lib.hid (show Blk we wd.heap.size 25 #[.int .i64 0, .int .i64 0, .int .i64 0] from (Blk.new wd 25 #[.int .i64 0, .int .i64 0, .int .i64 0]).below b1 (by simp)); have z0 := HZ.out.cell 0; have z1 := HZ.out.cell 1; have z2 := HZ.out.cell 2; have f0 := HZ.out.frozen 0; have f1 := HZ.out.frozen 1; have f2 := HZ.out.frozen 2)
             | skip)
           have HR1 := HR
           have HR := Lib.hid (show Rdt 25 #[.int .i64 0, .int .i64 0, .int .i64 0] w we cb s n from by first | exact HR.out.below b1 | exact (HR.out.alloc _).below b1)
           clear b1)
        | (go_at_call 36; (with_reducible refine (HN3'.out _).mono ?_); rintro r wf ⟨hq, b1⟩; rcases hq.symm with ⟨hz1, rfl⟩ | ⟨z, hz1, rfl⟩
           focus (exact ⟨rfl, .bad (by rw [HO.out]; exact contN_z hz1), by first | exact HR.out.left b1 | exact (HR.out.alloc _).left b1⟩)
           (first
             | (have HZ := Lib.hid (show Blk wf w12.heap.size 25 #[.int .i64 0, .int .i64 0, .int .i64 0] from HZ.out.below b1 HZ.out.lt); have z0 := HZ.out.cell 0; have z1 := HZ.out.cell 1; have z2 := HZ.out.cell 2; have f0 := HZ.out.frozen 0; have f1 := HZ.out.frozen 1; have f2 := HZ.out.frozen 2)
             | (have HZ := Lib.hid (show Blk wf wd.heap.size 25 #[.int .i64 0, .int .i64 0, .int .i64 0] from HZ.out.below b1 HZ.out.lt); have z0 := HZ.out.cell 0; have z1 := HZ.out.cell 1; have z2 := HZ.out.cell 2; have f0 := HZ.out.frozen 0; have f1 := HZ.out.frozen 1; have f2 := HZ.out.frozen 2)
             | (have HZ := Lib.hid (show Blk wf we.heap.size 25 #[.int .i64 0, .int .i64 0, .int .i64 0] from (Blk.new we 25 #[.int .i64 0, .int .i64 0, .int .i64 0]).below b1 (by simp)); have z0 := HZ.out.cell 0; have z1 := HZ.out.cell 1; have z2 := HZ.out.cell 2; have f0 := HZ.out.frozen 0; have f1 := HZ.out.frozen 1; have f2 := HZ.out.frozen 2)
             | skip)
           have HR2 := HR
           have HR := Lib.hid (show Rdt 25 #[.int .i64 0, .int .i64 0, .int .i64 0] w wf cb s n from by first | exact HR.out.below b1 | exact (HR.out.alloc _).below b1)
           clear b1))
  all_goals
    (first
      | (obtain ⟨w5, hw5⟩ : ∃ w5, w5 = wf.alloc (partC x y z) := ⟨_, rfl⟩
         rw [← hw5]
         obtain ⟨nb, hnb⟩ : ∃ nb, nb = wf.heap.size := ⟨_, rfl⟩
         rw [← hnb]
         have HR5 := Lib.hid (show Rdu 25 #[.int .i64 0, .int .i64 0, .int .i64 0] #[.int .i64 x, .int .i64 y, .int .i64 z] nb w w5 cb s n from by rw [hw5, hnb]; exact ⟨HR.out.alloc _, Blk.new wf _ _, HR.out.room⟩))
      | (obtain ⟨w5, hw5⟩ : ∃ w5, w5 = ((wf.setCell ⟨we.heap.size, 0, none⟩ (.int .i64 x)).setCell ⟨we.heap.size, 1, none⟩ (.int .i64 y)).setCell ⟨we.heap.size, 2, none⟩ (.int .i64 z) := ⟨_, rfl⟩
         rw [← hw5]
         obtain ⟨nb, hnb⟩ : ∃ nb, nb = we.heap.size := ⟨_, rfl⟩
         rw [← hnb]
         have HR5 := Lib.hid (show Rdu 25 #[.int .i64 0, .int .i64 0, .int .i64 0] #[.int .i64 x, .int .i64 y, .int .i64 z] nb w w5 cb s n from by rw [hw5, hnb]; exact ⟨((HR.out.put HR2.out.room _ _).put HR2.out.room _ _).put HR2.out.room _ _, ((HZ.out.set_ 0 _).set_ 1 _).set_ 2 _, HR2.out.room⟩))
      | (obtain ⟨w5, hw5⟩ : ∃ w5, w5 = ((wf.setCell ⟨wd.heap.size, 0, none⟩ (.int .i64 x)).setCell ⟨wd.heap.size, 1, none⟩ (.int .i64 y)).setCell ⟨wd.heap.size, 2, none⟩ (.int .i64 z) := ⟨_, rfl⟩
         rw [← hw5]
         obtain ⟨nb, hnb⟩ : ∃ nb, nb = wd.heap.size := ⟨_, rfl⟩
         rw [← hnb]
         have HR5 := Lib.hid (show Rdu 25 #[.int .i64 0, .int .i64 0, .int .i64 0] #[.int .i64 x, .int .i64 y, .int .i64 z] nb w w5 cb s n from by rw [hw5, hnb]; exact ⟨((HR.out.put HR1.out.room _ _).put HR1.out.room _ _).put HR1.out.room _ _, ((HZ.out.set_ 0 _).set_ 1 _).set_ 2 _, HR1.out.room⟩))
      | (obtain ⟨w5, hw5⟩ : ∃ w5, w5 = ((wf.setCell ⟨w12.heap.size, 0, none⟩ (.int .i64 x)).setCell ⟨w12.heap.size, 1, none⟩ (.int .i64 y)).setCell ⟨w12.heap.size, 2, none⟩ (.int .i64 z) := ⟨_, rfl⟩
         rw [← hw5]
         obtain ⟨nb, hnb⟩ : ∃ nb, nb = w12.heap.size := ⟨_, rfl⟩
         rw [← hnb]
         have HR5 := Lib.hid (show Rdu 25 #[.int .i64 0, .int .i64 0, .int .i64 0] #[.int .i64 x, .int .i64 y, .int .i64 z] nb w w5 cb s n from by rw [hw5, hnb]; exact ⟨((HR.out.put HR0.out.room _ _).put HR0.out.room _ _).put HR0.out.room _ _, ((HZ.out.set_ 0 _).set_ 1 _).set_ 2 _, HR0.out.room⟩)))
    have ho := Lib.hid (show O = if goodQ x y z = true then .ok (x, y, z) else .error (n, 9) from by rw [HO.out, hx1, hy1, hz1]; rfl)
    clear hw5 hnb HO HN1' HN2' HN3' hx1 hy1 hz1
    obtain ⟨k5, v0, v1, v2⟩ := HR5.out.keep3
    go_wp2_with fail
    go_region_held2 (fun w' => w'.cell? ⟨w.heap.size, 0, none⟩ = some (cptr cb) ∧ w'.cell? ⟨nb, 0, none⟩ = some (.int .i64 x) ∧ w'.cell? ⟨nb, 1, none⟩ = some (.int .i64 y) ∧ w'.cell? ⟨nb, 2, none⟩ = some (.int .i64 z))
      (first | with_reducible exact HR5.out.keep3 | with_reducible exact HR5.out.drew.keep3 | go_keep)
      (first
        | (go_at_call 8; (with_reducible refine (HGO.out _ _ _ _).mono ?_); rintro r wg ⟨rfl, b1⟩
           have HR5 := Lib.hid (show Rdu 25 #[.int .i64 0, .int .i64 0, .int .i64 0] #[.int .i64 x, .int .i64 y, .int .i64 z] nb w wg cb s n from by first | exact HR5.out.below b1 | exact HR5.out.drew.below b1)
           clear b1)
        | (go_at_call 38; (refine (HAT.out _ (by first | exact HR5.out.t.cur | exact HR5.out.drew.t.cur)).mono ?_); rintro r wh ⟨rfl, rfl⟩)
        | (go_at_call 37; (refine (HPC.out _ _).mono ?_); rintro r wi ⟨hq, rfl⟩; rcases hq.symm with ⟨h1, rfl⟩ | ⟨h1, rfl⟩
           focus (exact ⟨rfl, .bad (by rw [ho.out, if_neg (by rw [h1]; decide)]), by first | exact HR5.out.left | exact HR5.out.drew.left⟩)))
    obtain ⟨k6, v3, v4, v5⟩ := HR5.out.keep3
    have r0 := HR5.out.t.res.cell 0
    have r1 := HR5.out.t.res.cell 1
    have r2 := HR5.out.t.res.cell 2
    have f0 := HR5.out.t.res.frozen 0
    have f1 := HR5.out.t.res.frozen 1
    have f2 := HR5.out.t.res.frozen 2
    have ho2 := Lib.hid (show O = .ok (x, y, z) from by rw [ho.out, if_pos h1])
    clear h1 ho
    go_wp2
    have hk := ((HR5.out.t.res.set_ 0 (.int .i64 x)).set_ 1 (.int .i64 y)).set_ 2 (.int .i64 z)
    have j0 : _ = some (.int .i64 x : Value) := hk.cell 0
    have j1 : _ = some (.int .i64 y : Value) := hk.cell 1
    have j2 : _ = some (.int .i64 z : Value) := hk.cell 2
    refine bodyPost_ret (v := partV x y z) (by simp [results, Tryd.results24, go_sem, j0, j1, j2]) rfl ⟨.inl ⟨x, y, z, ho2.out, rfl⟩, ((HR5.out.left.setCell (.inr (by simp)) _).setCell (.inr (by simp)) _).setCell (.inr (by simp)) _⟩

set_option maxRecDepth 100000 in
set_option maxHeartbeats 8000000 in
theorem comingC_walk (cb a u c d1 k k2 n : Nat) (z1 zm zs : Bool) (q1 q2 xf xt : ByteArray) (nf nt nz : Option Int) (O : Except (Nat × Int) (Int × Int × Int)) (s : ByteArray) (w : World) (hC : Cur w cb s 0)
    (HB1 : Hid (∀ W, Cur W cb s 0 → Calls Tryd.prog 29 #[rdV cb] W fun r w' => r = .returned (.string q1) ∧ Mv W.heap.size [cb] W w' ∧ Cur w' cb s a))
    (HU : Hid (∀ W, Cur W cb s a → Calls Tryd.prog 30 #[rdV cb] W fun r w' => ((z1 = true ∧ r = unitV ∧ Cur w' cb s u) ∨ (z1 = false ∧ r = pnc u 2)) ∧ Mv W.heap.size [cb] W w'))
    (O1 : Hid (z1 = false → O = .error (u, 2)))
    (HB2 : Hid (∀ W, Cur W cb s u → Calls Tryd.prog 29 #[rdV cb] W fun r w' => r = .returned (.string q2) ∧ Mv W.heap.size [cb] W w' ∧ Cur w' cb s c))
    (HX : Hid ((q2.toList == []) = decide (c = u)))
    (O2 : Hid (z1 = true → c = u → O = .error (c, 2)))
    (HS1 : Hid (∀ W, Cur W cb s c → Calls Tryd.prog 42 #[cptr cb, .string ⟨#[42]⟩] W fun r w' => r = .returned (.bool false) ∧ Mv W.heap.size [cb] W w' ∧ Cur w' cb s c))
    (HD1 : Hid (∀ W, Cur W cb s c → Calls Tryd.prog 43 #[rdV cb] W fun r w' => ((d1 ≠ c ∧ r = .returned (.string xf) ∧ Cur w' cb s d1) ∨ (d1 = c ∧ r = pnc c 2)) ∧ Mv W.heap.size [cb] W w'))
    (O3 : Hid (z1 = true → c ≠ u → d1 = c → O = .error (c, 2)))
    (HM1 : Hid (∀ W, Cur W cb s d1 → Calls Tryd.prog 31 #[rdV cb, .string ⟨#[45]⟩] W fun r w' => ((zm = true ∧ r = unitV ∧ Cur w' cb s (d1 + 1)) ∨ (zm = false ∧ r = pnc d1 2)) ∧ Mv W.heap.size [cb] W w'))
    (O4 : Hid (z1 = true → c ≠ u → d1 ≠ c → zm = false → O = .error (d1, 2)))
    (HD2 : Hid (zm = true → ∀ W, Cur W cb s (d1 + 1) → Calls Tryd.prog 43 #[rdV cb] W fun r w' => ((k ≠ d1 + 1 ∧ r = .returned (.string xt) ∧ Cur w' cb s k) ∨ (k = d1 + 1 ∧ r = pnc (d1 + 1 : Nat) 2)) ∧ Mv W.heap.size [cb] W w'))
    (O5 : Hid (z1 = true → c ≠ u → d1 ≠ c → zm = true → k = d1 + 1 → O = .error (d1 + 1, 2)))
    (HM2 : Hid (zm = true → ∀ W, Cur W cb s k → Calls Tryd.prog 31 #[rdV cb, .string ⟨#[47]⟩] W fun r w' => ((zs = true ∧ r = unitV ∧ Cur w' cb s (k + 1)) ∨ (zs = false ∧ r = pnc k 2)) ∧ Mv W.heap.size [cb] W w'))
    (O6 : Hid (z1 = true → c ≠ u → d1 ≠ c → zm = true → k ≠ d1 + 1 → zs = false → O = .error (k, 2)))
    (HS2 : Hid (zm = true → zs = true → ∀ W, Cur W cb s (k + 1) → Calls Tryd.prog 42 #[cptr cb, .string ⟨#[42]⟩] W fun r w' => r = .returned (.bool true) ∧ Mv W.heap.size [cb] W w' ∧ Cur w' cb s k2))
    (HEN : Hid (zm = true → zs = true → ∀ W, Cur W cb s k2 → Calls Tryd.prog 35 #[rdV cb] W fun r w' => ((n = s.size ∧ r = unitV ∧ Cur w' cb s n) ∨ (n ≠ s.size ∧ r = pnc n 2)) ∧ Mv W.heap.size [cb] W w'))
    (O8 : Hid (z1 = true → c ≠ u → d1 ≠ c → zm = true → k ≠ d1 + 1 → zs = true → n ≠ s.size → O = .error (n, 2)))
    (O9 : Hid (z1 = true → c ≠ u → d1 ≠ c → zm = true → k ≠ d1 + 1 → zs = true → n = s.size → O = contN nf nt nz n))
    (HN1 : Hid (zm = true → zs = true → ∀ W, Calls Tryd.prog 36 #[rdV cb, .string xf] W fun r w' => ((∃ v, nf = some v ∧ r = .returned (.int .i64 v)) ∨ (nf = none ∧ r = pnc 0 9)) ∧ Below W.heap.size W w'))
    (HN2 : Hid (zm = true → zs = true → ∀ W, Calls Tryd.prog 36 #[rdV cb, .string xt] W fun r w' => ((∃ v, nt = some v ∧ r = .returned (.int .i64 v)) ∨ (nt = none ∧ r = pnc 0 9)) ∧ Below W.heap.size W w'))
    (HN3 : Hid (zm = true → zs = true → ∀ W, Calls Tryd.prog 36 #[rdV cb, .string ⟨#[]⟩] W fun r w' => ((∃ v, nz = some v ∧ r = .returned (.int .i64 v)) ∨ (nz = none ∧ r = pnc 0 9)) ∧ Below W.heap.size W w')) :
    Calls Tryd.prog 24 #[rdV cb] w fun r w' => PartEnd O r ∧ Mv w.heap.size [cb] w w' := by
  have HCK := Lib.hid (fun bl W (hW : Cur W cb s c) => rcheck_any cb c s bl W hW)
  have HAT := Lib.hid (fun W (hW : Cur W cb s n) => at_any cb n s W hW)
  have HGO := Lib.hid pgood_any
  have HPC := Lib.hid (fun bl W => pcheck_any n 9 (by decide) bl W)
  obtain ⟨w0, hw0⟩ : ∃ w0, w0 = (w.alloc (.cells #[cptr cb] 47)).alloc (partC 0 0 0) := ⟨_, rfl⟩
  have HR := Lib.hid (show Rdt 25 #[.int .i64 0, .int .i64 0, .int .i64 0] w w0 cb s 0 from by rw [hw0]; exact Rdt.new _ _ hC)
  have k0 := HR.out.keep
  clear hC
  go_enter Tryd.func24, Tryd.ntmps24
  go_wp2_with fail
  rw [← hw0]
  clear hw0
  refine (HB1.out _ HR.out.cur).mono ?_
  rintro r w1 ⟨rfl, m1, c1⟩
  replace HR := Lib.hid (HR.out.step m1 c1)
  have k1 := HR.out.keep
  clear m1 c1 k0
  go_wp2_with fail
  refine (HU.out _ HR.out.cur).mono ?_
  rintro r w2 ⟨⟨h1, rfl, c1⟩ | ⟨h1, rfl⟩, m1⟩
  rotate_left
  · exact ⟨rfl, .bad (O1.out h1), HR.out.gone m1⟩
  replace HR := Lib.hid (HR.out.step m1 c1)
  have k2 := HR.out.keep
  have Z2 := Lib.hid h1
  clear m1 c1 k1 h1
  go_wp2_with fail
  go_region_held2 (fun w' => w'.cell? ⟨w.heap.size, 0, none⟩ = some (cptr cb))
    (first | with_reducible exact HR.out.keep | with_reducible exact HR.out.drew.keep | go_keep)
    (first
      | (go_at_call 29; (refine (HB2.out _ (by first | exact HR.out.cur | exact HR.out.drew.cur)).mono ?_); rintro r w3 ⟨rfl, m1, c1⟩
         have HR := Lib.hid (show Rdt 25 #[.int .i64 0, .int .i64 0, .int .i64 0] w w3 cb s c from by first | exact HR.out.step m1 c1 | exact HR.out.drew.step m1 c1)
         clear m1 c1)
      | (go_at_call 34; (refine (HCK.out _ _ HR.out.cur).mono ?_); rintro r w4 ⟨hq, b1⟩; rcases hq.symm with ⟨h1, rfl⟩ | ⟨h1, rfl⟩
         focus (exact ⟨rfl, .bad (O2.out Z2.out (by have hx := HX.out; by_cases hcu : c = u <;> simp [hcu] at hx ⊢ <;> simp [hx] at h1)), HR.out.left b1⟩)
         have HR := Lib.hid (HR.out.below b1)
         clear b1))
  all_goals
  have Z4 := Lib.hid (show c ≠ u from by have hx := HX.out; by_cases hcu : c = u <;> simp [hcu] at hx ⊢ <;> simp [hx] at h1)
  have k4 := HR.out.keep
  clear h1
  go_wp2_with fail
  refine (HS1.out _ HR.out.cur).mono ?_
  rintro r w5 ⟨rfl, m1, c1⟩
  replace HR := Lib.hid (HR.out.step m1 c1)
  have k5 := HR.out.keep
  clear m1 c1 k4
  go_wp2_with fail
  refine (HD1.out _ HR.out.cur).mono ?_
  rintro r w6 ⟨⟨h1, rfl, c1⟩ | ⟨h1, rfl⟩, m1⟩
  rotate_left
  · exact ⟨rfl, .bad (O3.out Z2.out Z4.out h1), HR.out.gone m1⟩
  replace HR := Lib.hid (HR.out.step m1 c1)
  have k6 := HR.out.keep
  have Z6 := Lib.hid h1
  clear m1 c1 k5 h1
  go_wp2_with fail
  refine (HM1.out _ HR.out.cur).mono ?_
  rintro r w7 ⟨⟨h1, rfl, c1⟩ | ⟨h1, rfl⟩, m1⟩
  rotate_left
  · exact ⟨rfl, .bad (O4.out Z2.out Z4.out Z6.out h1), HR.out.gone m1⟩
  replace HR := Lib.hid (HR.out.step m1 c1)
  have k7 := HR.out.keep
  have Z7 := Lib.hid h1
  clear m1 c1 k6 h1
  go_wp2_with fail
  refine (HD2.out Z7.out _ HR.out.cur).mono ?_
  rintro r w8 ⟨⟨h1, rfl, c1⟩ | ⟨h1, rfl⟩, m1⟩
  rotate_left
  · exact ⟨rfl, .bad (O5.out Z2.out Z4.out Z6.out Z7.out h1), HR.out.gone m1⟩
  replace HR := Lib.hid (HR.out.step m1 c1)
  have k8 := HR.out.keep
  have Z8 := Lib.hid h1
  clear m1 c1 k7 h1
  go_wp2_with fail
  refine (HM2.out Z7.out _ HR.out.cur).mono ?_
  rintro r w9 ⟨⟨h1, rfl, c1⟩ | ⟨h1, rfl⟩, m1⟩
  rotate_left
  · exact ⟨rfl, .bad (O6.out Z2.out Z4.out Z6.out Z7.out Z8.out h1), HR.out.gone m1⟩
  replace HR := Lib.hid (HR.out.step m1 c1)
  have k9 := HR.out.keep
  have Z9 := Lib.hid h1
  clear m1 c1 k8 h1
  go_wp2_with fail
  refine (HS2.out Z7.out Z9.out _ HR.out.cur).mono ?_
  rintro r w10 ⟨rfl, m1, c1⟩
  replace HR := Lib.hid (HR.out.step m1 c1)
  have k10 := HR.out.keep
  clear m1 c1 k9
  go_wp2_with fail
  refine (HEN.out Z7.out Z9.out _ HR.out.cur).mono ?_
  rintro r w11 ⟨⟨h1, rfl, c1⟩ | ⟨h1, rfl⟩, m1⟩
  rotate_left
  · exact ⟨rfl, .bad (O8.out Z2.out Z4.out Z6.out Z7.out Z8.out Z9.out h1), HR.out.gone m1⟩
  replace HR := Lib.hid (HR.out.step m1 c1)
  have k11 := HR.out.keep
  have Z11 := Lib.hid h1
  clear m1 c1 k10 h1
  go_wp2_with fail
  have HO := Lib.hid (O9.out Z2.out Z4.out Z6.out Z7.out Z8.out Z9.out Z11.out)
  have HN1' := Lib.hid (HN1.out Z7.out Z9.out)
  have HN2' := Lib.hid (HN2.out Z7.out Z9.out)
  have HN3' := Lib.hid (HN3.out Z7.out Z9.out)
  clear HB1 HU O1 HB2 HX O2 HS1 HD1 O3 HM1 O4 HD2 O5 HM2 O6 HS2 HEN O8 O9 HN1 HN2 HN3 HCK Z2 Z4 Z6 Z7 Z8 Z9 Z11
  go_region_held2 (fun w' => w'.cell? ⟨w.heap.size, 0, none⟩ = some (cptr cb))
      (first | with_reducible exact HR.out.keep | with_reducible exact HR.out.drew.keep | with_reducible exact (HR.out.alloc _).keep | with_reducible exact (HR.out.drew.alloc _).keep | with_reducible exact ((((HR.out.put (Rdt.room HR0.out) _ _).put (Rdt.room HR0.out) _ _).put (Rdt.room HR0.out) _ _).keep) | with_reducible exact ((((HR.out.put (Rdt.room HR1.out) _ _).put (Rdt.room HR1.out) _ _).put (Rdt.room HR1.out) _ _).keep) | with_reducible exact ((((HR.out.put (Rdt.room HR2.out) _ _).put (Rdt.room HR2.out) _ _).put (Rdt.room HR2.out) _ _).keep) | go_keep)
      (first
        | (go_at_call 36; (with_reducible refine (HN1'.out _).mono ?_); rintro r wd ⟨hq, b1⟩; rcases hq.symm with ⟨hx1, rfl⟩ | ⟨x, hx1, rfl⟩
           focus (exact ⟨rfl, .bad (by rw [HO.out]; exact contN_x hx1), by first | exact HR.out.drew.left b1 | exact (HR.out.drew.alloc _).left b1⟩)
           (first
             | (have HZ := Lib.hid (show Blk wd w11.heap.size 25 #[.int .i64 0, .int .i64 0, .int .i64 0] from (Blk.new w11.drew 25 #[.int .i64 0, .int .i64 0, .int .i64 0]).below b1 (by simp)); have z0 := HZ.out.cell 0; have z1 := HZ.out.cell 1; have z2 := HZ.out.cell 2; have f0 := HZ.out.frozen 0; have f1 := HZ.out.frozen 1; have f2 := HZ.out.frozen 2)
             | skip)
           have HR0 := HR
           have HR := Lib.hid (show Rdt 25 #[.int .i64 0, .int .i64 0, .int .i64 0] w wd cb s n from by first | exact HR.out.drew.below b1 | exact (HR.out.drew.alloc _).below b1)
           clear b1)
        | (go_at_call 36; (with_reducible refine (HN2'.out _).mono ?_); rintro r we ⟨hq, b1⟩; rcases hq.symm with ⟨hy1, rfl⟩ | ⟨y, hy1, rfl⟩
           focus (exact ⟨rfl, .bad (by rw [HO.out]; exact contN_y hy1), by first | exact HR.out.left b1 | exact (HR.out.alloc _).left b1⟩)
           (first
             | (have HZ := Lib.hid (show Blk we w11.heap.size 25 #[.int .i64 0, .int .i64 0, .int .i64 0] from HZ.out.below b1 HZ.out.lt); have z0 := HZ.out.cell 0; have z1 := HZ.out.cell 1; have z2 := HZ.out.cell 2; have f0 := HZ.out.frozen 0; have f1 := HZ.out.frozen 1; have f2 := HZ.out.frozen 2)
             | (have HZ := Lib.hid (show Blk we wd.heap.size 25 #[.int .i64 0, .int .i64 0, .int .i64 0] from (Blk.new wd 25 #[.int .i64 0, .int .i64 0, .int .i64 0]).below b1 (by simp)); have z0 := HZ.out.cell 0; have z1 := HZ.out.cell 1; have z2 := HZ.out.cell 2; have f0 := HZ.out.frozen 0; have f1 := HZ.out.frozen 1; have f2 := HZ.out.frozen 2)
             | skip)
           have HR1 := HR
           have HR := Lib.hid (show Rdt 25 #[.int .i64 0, .int .i64 0, .int .i64 0] w we cb s n from by first | exact HR.out.below b1 | exact (HR.out.alloc _).below b1)
           clear b1)
        | (go_at_call 36; (with_reducible refine (HN3'.out _).mono ?_); rintro r wf ⟨hq, b1⟩; rcases hq.symm with ⟨hz1, rfl⟩ | ⟨z, hz1, rfl⟩
           focus (exact ⟨rfl, .bad (by rw [HO.out]; exact contN_z hz1), by first | exact HR.out.left b1 | exact (HR.out.alloc _).left b1⟩)
           (first
             | (have HZ := Lib.hid (show Blk wf w11.heap.size 25 #[.int .i64 0, .int .i64 0, .int .i64 0] from HZ.out.below b1 HZ.out.lt); have z0 := HZ.out.cell 0; have z1 := HZ.out.cell 1; have z2 := HZ.out.cell 2; have f0 := HZ.out.frozen 0; have f1 := HZ.out.frozen 1; have f2 := HZ.out.frozen 2)
             | (have HZ := Lib.hid (show Blk wf wd.heap.size 25 #[.int .i64 0, .int .i64 0, .int .i64 0] from HZ.out.below b1 HZ.out.lt); have z0 := HZ.out.cell 0; have z1 := HZ.out.cell 1; have z2 := HZ.out.cell 2; have f0 := HZ.out.frozen 0; have f1 := HZ.out.frozen 1; have f2 := HZ.out.frozen 2)
             | (have HZ := Lib.hid (show Blk wf we.heap.size 25 #[.int .i64 0, .int .i64 0, .int .i64 0] from (Blk.new we 25 #[.int .i64 0, .int .i64 0, .int .i64 0]).below b1 (by simp)); have z0 := HZ.out.cell 0; have z1 := HZ.out.cell 1; have z2 := HZ.out.cell 2; have f0 := HZ.out.frozen 0; have f1 := HZ.out.frozen 1; have f2 := HZ.out.frozen 2)
             | skip)
           have HR2 := HR
           have HR := Lib.hid (show Rdt 25 #[.int .i64 0, .int .i64 0, .int .i64 0] w wf cb s n from by first | exact HR.out.below b1 | exact (HR.out.alloc _).below b1)
           clear b1))
  all_goals
    (first
      | (obtain ⟨w5, hw5⟩ : ∃ w5, w5 = wf.alloc (partC x y z) := ⟨_, rfl⟩
         rw [← hw5]
         obtain ⟨nb, hnb⟩ : ∃ nb, nb = wf.heap.size := ⟨_, rfl⟩
         rw [← hnb]
         have HR5 := Lib.hid (show Rdu 25 #[.int .i64 0, .int .i64 0, .int .i64 0] #[.int .i64 x, .int .i64 y, .int .i64 z] nb w w5 cb s n from by rw [hw5, hnb]; exact ⟨HR.out.alloc _, Blk.new wf _ _, HR.out.room⟩))
      | (obtain ⟨w5, hw5⟩ : ∃ w5, w5 = ((wf.setCell ⟨we.heap.size, 0, none⟩ (.int .i64 x)).setCell ⟨we.heap.size, 1, none⟩ (.int .i64 y)).setCell ⟨we.heap.size, 2, none⟩ (.int .i64 z) := ⟨_, rfl⟩
         rw [← hw5]
         obtain ⟨nb, hnb⟩ : ∃ nb, nb = we.heap.size := ⟨_, rfl⟩
         rw [← hnb]
         have HR5 := Lib.hid (show Rdu 25 #[.int .i64 0, .int .i64 0, .int .i64 0] #[.int .i64 x, .int .i64 y, .int .i64 z] nb w w5 cb s n from by rw [hw5, hnb]; exact ⟨((HR.out.put HR2.out.room _ _).put HR2.out.room _ _).put HR2.out.room _ _, ((HZ.out.set_ 0 _).set_ 1 _).set_ 2 _, HR2.out.room⟩))
      | (obtain ⟨w5, hw5⟩ : ∃ w5, w5 = ((wf.setCell ⟨wd.heap.size, 0, none⟩ (.int .i64 x)).setCell ⟨wd.heap.size, 1, none⟩ (.int .i64 y)).setCell ⟨wd.heap.size, 2, none⟩ (.int .i64 z) := ⟨_, rfl⟩
         rw [← hw5]
         obtain ⟨nb, hnb⟩ : ∃ nb, nb = wd.heap.size := ⟨_, rfl⟩
         rw [← hnb]
         have HR5 := Lib.hid (show Rdu 25 #[.int .i64 0, .int .i64 0, .int .i64 0] #[.int .i64 x, .int .i64 y, .int .i64 z] nb w w5 cb s n from by rw [hw5, hnb]; exact ⟨((HR.out.put HR1.out.room _ _).put HR1.out.room _ _).put HR1.out.room _ _, ((HZ.out.set_ 0 _).set_ 1 _).set_ 2 _, HR1.out.room⟩))
      | (obtain ⟨w5, hw5⟩ : ∃ w5, w5 = ((wf.setCell ⟨w11.heap.size, 0, none⟩ (.int .i64 x)).setCell ⟨w11.heap.size, 1, none⟩ (.int .i64 y)).setCell ⟨w11.heap.size, 2, none⟩ (.int .i64 z) := ⟨_, rfl⟩
         rw [← hw5]
         obtain ⟨nb, hnb⟩ : ∃ nb, nb = w11.heap.size := ⟨_, rfl⟩
         rw [← hnb]
         have HR5 := Lib.hid (show Rdu 25 #[.int .i64 0, .int .i64 0, .int .i64 0] #[.int .i64 x, .int .i64 y, .int .i64 z] nb w w5 cb s n from by rw [hw5, hnb]; exact ⟨((HR.out.put HR0.out.room _ _).put HR0.out.room _ _).put HR0.out.room _ _, ((HZ.out.set_ 0 _).set_ 1 _).set_ 2 _, HR0.out.room⟩)))
    have ho := Lib.hid (show O = if goodQ x y z = true then .ok (x, y, z) else .error (n, 9) from by rw [HO.out, hx1, hy1, hz1]; rfl)
    clear hw5 hnb HO HN1' HN2' HN3' hx1 hy1 hz1
    obtain ⟨k5, v0, v1, v2⟩ := HR5.out.keep3
    go_wp2_with fail
    go_region_held2 (fun w' => w'.cell? ⟨w.heap.size, 0, none⟩ = some (cptr cb) ∧ w'.cell? ⟨nb, 0, none⟩ = some (.int .i64 x) ∧ w'.cell? ⟨nb, 1, none⟩ = some (.int .i64 y) ∧ w'.cell? ⟨nb, 2, none⟩ = some (.int .i64 z))
      (first | with_reducible exact HR5.out.keep3 | with_reducible exact HR5.out.drew.keep3 | go_keep)
      (first
        | (go_at_call 8; (with_reducible refine (HGO.out _ _ _ _).mono ?_); rintro r wg ⟨rfl, b1⟩
           have HR5 := Lib.hid (show Rdu 25 #[.int .i64 0, .int .i64 0, .int .i64 0] #[.int .i64 x, .int .i64 y, .int .i64 z] nb w wg cb s n from by first | exact HR5.out.below b1 | exact HR5.out.drew.below b1)
           clear b1)
        | (go_at_call 38; (refine (HAT.out _ (by first | exact HR5.out.t.cur | exact HR5.out.drew.t.cur)).mono ?_); rintro r wh ⟨rfl, rfl⟩)
        | (go_at_call 37; (refine (HPC.out _ _).mono ?_); rintro r wi ⟨hq, rfl⟩; rcases hq.symm with ⟨h1, rfl⟩ | ⟨h1, rfl⟩
           focus (exact ⟨rfl, .bad (by rw [ho.out, if_neg (by rw [h1]; decide)]), by first | exact HR5.out.left | exact HR5.out.drew.left⟩)))
    obtain ⟨k6, v3, v4, v5⟩ := HR5.out.keep3
    have r0 := HR5.out.t.res.cell 0
    have r1 := HR5.out.t.res.cell 1
    have r2 := HR5.out.t.res.cell 2
    have f0 := HR5.out.t.res.frozen 0
    have f1 := HR5.out.t.res.frozen 1
    have f2 := HR5.out.t.res.frozen 2
    have ho2 := Lib.hid (show O = .ok (x, y, z) from by rw [ho.out, if_pos h1])
    clear h1 ho
    go_wp2
    have hk := ((HR5.out.t.res.set_ 0 (.int .i64 x)).set_ 1 (.int .i64 y)).set_ 2 (.int .i64 z)
    have j0 : _ = some (.int .i64 x : Value) := hk.cell 0
    have j1 : _ = some (.int .i64 y : Value) := hk.cell 1
    have j2 : _ = some (.int .i64 z : Value) := hk.cell 2
    refine bodyPost_ret (v := partV x y z) (by simp [results, Tryd.results24, go_sem, j0, j1, j2]) rfl ⟨.inl ⟨x, y, z, ho2.out, rfl⟩, ((HR5.out.left.setCell (.inr (by simp)) _).setCell (.inr (by simp)) _).setCell (.inr (by simp)) _⟩

end Go.Proofs.YtaolclpjlkdkjaaDoor
namespace Go.Proofs.YtaolclpjlkdkjaaDoor
open Go.RowKit

theorem coming_any (cb : Nat) (s : ByteArray) (w : World) (hC : Cur w cb s 0) (hs : s.size ≤ 9223372036854775807) :
    Calls Tryd.prog 24 #[rdV cb] w fun r w' => PartEnd (contO s) r ∧ Mv w.heap.size [cb] w w' := by
  have la := aA_le s
  have lu := aU_le s
  have lb := aB_le s
  have gb : aU s ≤ aB s := scan_ge _ _ _
  have hq : ((s.extract (aU s) (scan tabB s (aU s))).toList == []) = decide (aB s = aU s) := by
    have e : (s.extract (aU s) (scan tabB s (aU s))).size = aB s - aU s := run_size lu
    rw [size_bool, e]
    exact decide_eq_decide.2 ⟨fun h => by omega, fun h => by omega⟩
  obtain ⟨c, hc⟩ : ∃ c, c = aB s := ⟨_, rfl⟩
  have lc : c ≤ s.size := by omega
  cases hn : atB s c 42
  · obtain ⟨d, hd⟩ : ∃ d, d = scan digB s c := ⟨_, rfl⟩
    have ld : d ≤ s.size := by rw [hd]; exact scan_le _ _ _ lc
    obtain ⟨k, hk⟩ : ∃ k, k = scan digB s (d + 1) := ⟨_, rfl⟩
    have lk : atB s d 45 = true → k ≤ s.size := fun h => by rw [hk]; exact scan_le _ _ _ (atB_in h)
    have f1 := numb_any cb (s.extract c d) (hd := by rw [hd]; exact run_digits lc) (hs := by simp; omega)
    have f2 := fun (h : atB s d 45 = true) => numb_any cb (s.extract (d + 1) k) (hd := by rw [hk]; exact run_digits (atB_in h)) (hs := by simp; omega)
    have HS1 : ∀ W, Cur W cb s c → Calls Tryd.prog 42 #[cptr cb, .string ⟨#[42]⟩] W fun r w' => r = .returned (.bool false) ∧ Mv W.heap.size [cb] W w' ∧ Cur w' cb s c := fun W hW => by
      have := skip_any cb c s 42 W hW lc hs
      rw [hn] at this
      exact this
    have O2 : isUnit s (aA s) = true → c = aU s → contO s = .error (c, 2) := fun h e => by rw [hc]; exact contO_blank h (by rw [← hc]; exact e)
    have OM : isUnit s (aA s) = true → c ≠ aU s → contO s = contM s c := fun h e => by rw [hc]; exact contO_more h (by rw [← hc]; exact e)
    cases hs2 : atB s (k + 1) 42
    · have HS2 : atB s d 45 = true → atB s k 47 = true → ∀ W, Cur W cb s (k + 1) → Calls Tryd.prog 42 #[cptr cb, .string ⟨#[42]⟩] W fun r w' => r = .returned (.bool false) ∧ Mv W.heap.size [cb] W w' ∧ Cur w' cb s (k + 1) := fun _ h W hW => by
        have := skip_any cb (k + 1) s 42 W hW (atB_in h) hs
        rw [hs2] at this
        exact this
      have lz : atB s k 47 = true → scan digB s (k + 1) ≤ s.size := fun h => scan_le _ _ _ (atB_in h)
      have no : ¬(false = false ∧ atB s (k + 1) 42 = true) := fun h => by rw [hs2] at h; cases h.2
      exact comingB_walk cb (aA s) (aU s) c d k (scan digB s (k + 1)) (scan tabB s (scan digB s (k + 1))) (isUnit s (aA s)) (atB s d 45) (atB s k 47) _ _ (s.extract c d) (s.extract (d + 1) k) (s.extract (k + 1) (scan digB s (k + 1)))
        (numP (s.extract c d)) (numP (s.extract (d + 1) k)) (numP (s.extract (k + 1) (scan digB s (k + 1)))) (contO s) s w hC
        (Lib.hid fun W hW => blanks_any cb 0 s W hW (Nat.zero_le _) hs)
        (Lib.hid fun W hW => unit_any cb (aA s) s W hW la hs)
        (Lib.hid fun h => contO_unit h)
        (Lib.hid fun W hW => by rw [hc]; exact blanks_any cb (aU s) s W hW lu hs)
        (Lib.hid (by rw [hc]; exact hq))
        (Lib.hid O2) (Lib.hid HS1)
        (Lib.hid fun W hW => by have := digits_any cb c s W hW lc hs; rw [← hd] at this; exact this)
        (Lib.hid fun h e h1 => (OM h e).trans (contM_none hn (by rw [← hd]; exact h1)))
        (Lib.hid fun W hW => rsgn_any cb d s 45 W hW ld hs)
        (Lib.hid fun h e h1 h2 => (OM h e).trans (by have := contM_minus (s := s) hn (by rw [← hd]; exact h1) (by rw [← hd]; exact h2); rw [← hd] at this; exact this))
        (Lib.hid fun h W hW => by have := digits_any cb (d + 1) s W hW (atB_in h) hs; rw [← hk] at this; exact this)
        (Lib.hid fun h e h1 h2 h3 => (OM h e).trans (by have := contM_to (s := s) hn (by rw [← hd]; exact h1) (by rw [← hd]; exact h2) (by rw [← hd, ← hk]; exact h3); rw [← hd] at this; exact this))
        (Lib.hid fun h W hW => rsgn_any cb k s 47 W hW (lk h) hs)
        (Lib.hid fun h e h1 h2 h3 h4 => (OM h e).trans ((contM_all (s := s) hn (by rw [← hd]; exact h1) (by rw [← hd]; exact h2) (by rw [← hd, ← hk]; exact h3)).trans (by rw [← hd, ← hk]; exact contS_no h4)))
        (Lib.hid HS2)
        (Lib.hid fun _ h W hW => digits_any cb (k + 1) s W hW (atB_in h) hs)
        (Lib.hid fun h e h1 h2 h3 h4 h5 => (OM h e).trans ((contM_all (s := s) hn (by rw [← hd]; exact h1) (by rw [← hd]; exact h2) (by rw [← hd, ← hk]; exact h3)).trans (by rw [← hd, ← hk]; exact contS_none h4 no h5)))
        (Lib.hid fun _ h W hW => end0_any cb (scan digB s (k + 1)) s W hW (lz h) hs)
        (Lib.hid fun h e h1 h2 h3 h4 h5 h6 => (OM h e).trans ((contM_all (s := s) hn (by rw [← hd]; exact h1) (by rw [← hd]; exact h2) (by rw [← hd, ← hk]; exact h3)).trans (by rw [← hd, ← hk]; exact (contS_size h4 no h5).trans (contE_no h6))))
        (Lib.hid fun h e h1 h2 h3 h4 h5 h6 => (OM h e).trans ((contM_all (s := s) hn (by rw [← hd]; exact h1) (by rw [← hd]; exact h2) (by rw [← hd, ← hk]; exact h3)).trans (by rw [← hd, ← hk]; exact (contS_size h4 no h5).trans (contE_all h6))))
        (Lib.hid fun _ _ W => f1 W) (Lib.hid fun h _ W => f2 h W)
        (Lib.hid fun _ h W => numb_any cb _ W (run_digits (atB_in h)) (by simp; omega))
    · have l2 := atB_in hs2
      have HS2 : atB s d 45 = true → atB s k 47 = true → ∀ W, Cur W cb s (k + 1) → Calls Tryd.prog 42 #[cptr cb, .string ⟨#[42]⟩] W fun r w' => r = .returned (.bool true) ∧ Mv W.heap.size [cb] W w' ∧ Cur w' cb s (k + 2) := fun _ h W hW => by
        have := skip_any cb (k + 1) s 42 W hW (atB_in h) hs
        rw [hs2] at this
        exact this
      exact comingC_walk cb (aA s) (aU s) c d k (k + 2) (scan tabB s (k + 2)) (isUnit s (aA s)) (atB s d 45) (atB s k 47) _ _ (s.extract c d) (s.extract (d + 1) k)
        (numP (s.extract c d)) (numP (s.extract (d + 1) k)) (numP ⟨#[]⟩) (contO s) s w hC
        (Lib.hid fun W hW => blanks_any cb 0 s W hW (Nat.zero_le _) hs)
        (Lib.hid fun W hW => unit_any cb (aA s) s W hW la hs)
        (Lib.hid fun h => contO_unit h)
        (Lib.hid fun W hW => by rw [hc]; exact blanks_any cb (aU s) s W hW lu hs)
        (Lib.hid (by rw [hc]; exact hq))
        (Lib.hid O2) (Lib.hid HS1)
        (Lib.hid fun W hW => by have := digits_any cb c s W hW lc hs; rw [← hd] at this; exact this)
        (Lib.hid fun h e h1 => (OM h e).trans (contM_none hn (by rw [← hd]; exact h1)))
        (Lib.hid fun W hW => rsgn_any cb d s 45 W hW ld hs)
        (Lib.hid fun h e h1 h2 => (OM h e).trans (by have := contM_minus (s := s) hn (by rw [← hd]; exact h1) (by rw [← hd]; exact h2); rw [← hd] at this; exact this))
        (Lib.hid fun h W hW => by have := digits_any cb (d + 1) s W hW (atB_in h) hs; rw [← hk] at this; exact this)
        (Lib.hid fun h e h1 h2 h3 => (OM h e).trans (by have := contM_to (s := s) hn (by rw [← hd]; exact h1) (by rw [← hd]; exact h2) (by rw [← hd, ← hk]; exact h3); rw [← hd] at this; exact this))
        (Lib.hid fun h W hW => rsgn_any cb k s 47 W hW (lk h) hs)
        (Lib.hid fun h e h1 h2 h3 h4 => (OM h e).trans ((contM_all (s := s) hn (by rw [← hd]; exact h1) (by rw [← hd]; exact h2) (by rw [← hd, ← hk]; exact h3)).trans (by rw [← hd, ← hk]; exact contS_no h4)))
        (Lib.hid HS2)
        (Lib.hid fun _ h W hW => end0_any cb (k + 2) s W hW (by omega) hs)
        (Lib.hid fun h e h1 h2 h3 h4 h6 => (OM h e).trans ((contM_all (s := s) hn (by rw [← hd]; exact h1) (by rw [← hd]; exact h2) (by rw [← hd, ← hk]; exact h3)).trans (by rw [← hd, ← hk]; exact (contS_star h4 hs2).trans (contE_no h6))))
        (Lib.hid fun h e h1 h2 h3 h4 h6 => (OM h e).trans ((contM_all (s := s) hn (by rw [← hd]; exact h1) (by rw [← hd]; exact h2) (by rw [← hd, ← hk]; exact h3)).trans (by rw [← hd, ← hk]; exact (contS_star h4 hs2).trans (contE_all h6))))
        (Lib.hid fun _ _ W => f1 W) (Lib.hid fun h _ W => f2 h W)
        (Lib.hid fun _ _ W => numb_any cb ⟨#[]⟩ W (by kernel_rfl) (by decide))
  · have l1 := atB_in hn
    have HS1 : ∀ W, Cur W cb s c → Calls Tryd.prog 42 #[cptr cb, .string ⟨#[42]⟩] W fun r w' => r = .returned (.bool true) ∧ Mv W.heap.size [cb] W w' ∧ Cur w' cb s (c + 1) := fun W hW => by
      have := skip_any cb c s 42 W hW lc hs
      rw [hn] at this
      exact this
    have O2 : isUnit s (aA s) = true → c = aU s → contO s = .error (c, 2) := fun h e => by rw [hc]; exact contO_blank h (by rw [← hc]; exact e)
    have OM : isUnit s (aA s) = true → c ≠ aU s → contO s = contS s (c + 1) true ⟨#[]⟩ ⟨#[]⟩ := fun h e => by rw [← contM_star hn, hc]; exact contO_more h (by rw [← hc]; exact e)
    have no : ¬(true = false ∧ atB s (c + 1 + 1) 42 = true) := fun h => by cases h.1
    have lz : atB s (c + 1) 47 = true → scan digB s (c + 1 + 1) ≤ s.size := fun h => scan_le _ _ _ (atB_in h)
    exact comingA_walk cb (aA s) (aU s) c (c + 1) (scan digB s (c + 1 + 1)) (scan tabB s (scan digB s (c + 1 + 1))) (isUnit s (aA s)) (atB s (c + 1) 47) _ _ (s.extract (c + 1 + 1) (scan digB s (c + 1 + 1)))
      (numP ⟨#[]⟩) (numP ⟨#[]⟩) (numP (s.extract (c + 1 + 1) (scan digB s (c + 1 + 1)))) (contO s) s w hC
      (Lib.hid fun W hW => blanks_any cb 0 s W hW (Nat.zero_le _) hs)
      (Lib.hid fun W hW => unit_any cb (aA s) s W hW la hs)
      (Lib.hid fun h => contO_unit h)
      (Lib.hid fun W hW => by rw [hc]; exact blanks_any cb (aU s) s W hW lu hs)
      (Lib.hid (by rw [hc]; exact hq))
      (Lib.hid O2) (Lib.hid HS1)
      (Lib.hid fun W hW => rsgn_any cb (c + 1) s 47 W hW l1 hs)
      (Lib.hid fun h e h4 => (OM h e).trans (contS_no h4))
      (Lib.hid fun h W hW => digits_any cb (c + 1 + 1) s W hW (atB_in h) hs)
      (Lib.hid fun h e h4 h5 => (OM h e).trans (contS_none h4 no h5))
      (Lib.hid fun h W hW => end0_any cb (scan digB s (c + 1 + 1)) s W hW (lz h) hs)
      (Lib.hid fun h e h4 h5 h6 => (OM h e).trans ((contS_size h4 no h5).trans (contE_no h6)))
      (Lib.hid fun h e h4 h5 h6 => (OM h e).trans ((contS_size h4 no h5).trans (contE_all h6)))
      (Lib.hid fun _ W => numb_any cb ⟨#[]⟩ W (by kernel_rfl) (by decide)) (Lib.hid fun _ W => numb_any cb ⟨#[]⟩ W (by kernel_rfl) (by decide))
      (Lib.hid fun h W => numb_any cb _ W (run_digits (atB_in h)) (by simp; omega))

end Go.Proofs.YtaolclpjlkdkjaaDoor
namespace Go.Proofs.YtaolclpjlkdkjaaDoor
open Go.RowKit

abbrev fnComing : Value := .func (.func 24) #[] #[]

set_option maxRecDepth 100000 in
set_option maxHeartbeats 4000000 in
theorem contc_any (pf ps : Addr) (s : ByteArray) (w : World) (hf : w.cell? pf = some fnComing) (hp : w.cell? ps = some (.string s)) (hs : s.size ≤ 9223372036854775807) :
    Calls Tryd.prog 41 #[.pointer (some pf), .pointer (some ps)] w fun r w' => PartEnd (contO s) r ∧ Below w.heap.size w w' := by
  have lf := World.block_lt_of_cell? w _ hf
  have lp := World.block_lt_of_cell? w _ hp
  obtain ⟨w0, hw0⟩ : ∃ w0, w0 = w.alloc (partC 0 0 0) := ⟨_, rfl⟩
  have HB := Lib.hid (show Below w.heap.size w w0 from by rw [hw0]; exact (Below.refl _ _).alloc (Nat.le_refl _) _)
  have HZ := Lib.hid (show Blk w0 w.heap.size 25 #[.int .i64 0, .int .i64 0, .int .i64 0] from by rw [hw0]; exact Blk.new w _ _)
  have HF := Lib.hid (fun W (hW : Below w.heap.size w W) => (hW.cell lf).trans hf)
  have HP := Lib.hid (fun W (hW : Below w.heap.size w W) => (hW.cell lp).trans hp)
  have HS := Lib.hid (fun W (hW : Below w.heap.size w W) => And.intro (HF.out W hW) (HP.out W hW))
  have c0 := HF.out _ HB.out
  have c1 := HP.out _ HB.out
  have HA := Lib.hid (fun cb W (hW : Cur W cb s 0) => coming_any cb s W hW hs)
  clear hf hp lf lp
  go_enter Tryd.func41, Tryd.ntmps41
  go_wp2_with fail
  rw [← hw0]
  clear hw0
  go_region_held2 (fun w' => w'.cell? pf = some fnComing ∧ w'.cell? ps = some (.string s))
    (first | with_reducible exact HS.out _ HB.out | with_reducible exact HS.out _ HB.out.drew | with_reducible exact HS.out _ HB1.out | with_reducible exact HS.out _ HB2.out | with_reducible exact HS.out _ (((HB2.out.setCell (by exact Nat.le_refl _) _).setCell (by exact Nat.le_refl _) _).setCell (by exact Nat.le_refl _) _) | go_keep)
    (first
      | (go_at_call 28; (with_reducible refine (new_any _ _).mono ?_); rintro r w1 ⟨rfl, hw1⟩
         have HB1 := Lib.hid (show Below w.heap.size w w1 from by rw [hw1]; exact HB.out.drew.alloc (by simpa using HB.out.size) _)
         have HC1 := Lib.hid (show Cur w1 w0.heap.size s 0 from by rw [hw1]; exact Blk.new w0.drew _ _)
         have HZ1 := Lib.hid (show Blk w1 w.heap.size 25 #[.int .i64 0, .int .i64 0, .int .i64 0] from by rw [hw1]; exact HZ.out.drew.alloc _)
         clear hw1)
      | (go_at_call 24; (refine (HA.out _ _ HC1.out).mono ?_); rintro r w2 ⟨hq, m1⟩; rcases Or.symm hq with ⟨a, c, ho, rfl⟩ | ⟨x, y, z, ho, rfl⟩
         focus (exact ⟨rfl, Or.inr ⟨a, c, ho, rfl⟩, HB1.out.trans (m1.below (by have := HB1.out.size; omega) (by simp; exact HB.out.size))⟩)
         have HB2 := Lib.hid (HB1.out.trans (m1.below (B' := w.heap.size) (by have := HB1.out.size; omega) (by simp; exact HB.out.size)))
         have HZ2 := Lib.hid (HZ1.out.mv m1 HZ1.out.lt (by have := HZ.out.lt; simp; omega))
         have z0 := HZ2.out.cell 0
         have z1 := HZ2.out.cell 1
         have z2 := HZ2.out.cell 2
         have f0 := HZ2.out.frozen 0
         have f1 := HZ2.out.frozen 1
         have f2 := HZ2.out.frozen 2
         clear m1))
  all_goals
    go_wp2
    have hk := ((HZ2.out.set_ 0 (.int .i64 x)).set_ 1 (.int .i64 y)).set_ 2 (.int .i64 z)
    have j0 : _ = some (.int .i64 x : Value) := hk.cell 0
    have j1 : _ = some (.int .i64 y : Value) := hk.cell 1
    have j2 : _ = some (.int .i64 z : Value) := hk.cell 2
    refine bodyPost_ret (v := partV x y z) (by simp [results, Tryd.results41, go_sem, j0, j1, j2]) rfl ⟨Or.inl ⟨x, y, z, ho, rfl⟩, ((HB2.out.setCell (by exact Nat.le_refl _) _).setCell (by exact Nat.le_refl _) _).setCell (by exact Nat.le_refl _) _⟩

theorem enter_contc (a b : Value) (w : World) : (callFunc 41 (#[] ++ #[a, b])).run Tryd.prog w = .ok (.enter 41 (#[] ++ #[a, b])) w := by simp [go_sem]

theorem contval_any (pf ps : Addr) (s : ByteArray) (w : World) (hf : w.cell? pf = some fnComing) (hp : w.cell? ps = some (.string s)) (hs : s.size ≤ 9223372036854775807) :
    ∃ x y z a c, contV (contO s) = .returned (.tuple #[partV x y z, .int .i64 c]) ∧ Calls Tryd.prog 40 #[.func (.func 41) #[] #[.pointer (some pf), .pointer (some ps)]] w fun r w' => r = .returned (.tuple #[partV x y z, flt a c]) ∧ Below w.heap.size w w' := by
  have lf := World.block_lt_of_cell? w _ hf
  have lp := World.block_lt_of_cell? w _ hp
  have H := fun W (hW : Below w.heap.size w W) => contc_any pf ps s W ((hW.cell lf).trans hf) ((hW.cell lp).trans hp) hs
  cases ho : contO s with
  | ok v =>
    obtain ⟨x, y, z⟩ := v
    refine ⟨x, y, z, 0, 0, rfl, (valuebPart_returns 41 #[] #[.pointer (some pf), .pointer (some ps)] x y z w [] (fun _ => True) (by simp) (fun _ _ _ _ => trivial) (enter_contc _ _) fun W hW => (H W hW).mono fun r w' ⟨h, b⟩ => ?_).mono fun r w' ⟨h1, h2, _⟩ => ⟨h1, h2.below (Nat.le_refl _) (by simp)⟩⟩
    rw [ho] at h
    rcases h with ⟨x', y', z', h, rfl⟩ | ⟨a, c, h, rfl⟩
    · cases h
      exact ⟨rfl, Mv.of_below b _, trivial⟩
    · cases h
  | error v =>
    obtain ⟨a, c⟩ := v
    refine ⟨0, 0, 0, a, c, rfl, (valuebPart_throws 41 #[] #[.pointer (some pf), .pointer (some ps)] a c w [] (fun _ => True) (by simp) (fun _ _ _ _ => trivial) (enter_contc _ _) fun W hW => (H W hW).mono fun r w' ⟨h, b⟩ => ?_).mono fun r w' ⟨h1, h2, _⟩ => ⟨h1, h2.below (Nat.le_refl _) (by simp)⟩⟩
    rw [ho] at h
    rcases h with ⟨x', y', z', h, rfl⟩ | ⟨a', c', h, rfl⟩
    · cases h
    · cases h
      exact ⟨rfl, Mv.of_below b _, trivial⟩

set_option maxRecDepth 100000 in
set_option maxHeartbeats 4000000 in
theorem contread_any (s : ByteArray) (w : World) (hs : s.size ≤ 9223372036854775807) :
    Calls Tryd.prog 23 #[.string s, fnComing] w fun r w' => r = contV (contO s) ∧ Below w.heap.size w w' := by
  obtain ⟨w0, hw0⟩ : ∃ w0, w0 = ((w.alloc (.cells #[.string s] 9)).alloc (.cells #[fnComing] 50)).alloc (partC 0 0 0) := ⟨_, rfl⟩
  have HB := Lib.hid (show Below w.heap.size w w0 from by rw [hw0]; exact (((Below.refl _ _).alloc (Nat.le_refl _) _).alloc (by simp) _).alloc (by simp; omega) _)
  have c0 : w0.cell? ⟨w.heap.size, 0, none⟩ = some (.string s) := by rw [hw0]; exact (((Blk.new w 9 #[.string s]).alloc _).alloc _).cell 0
  have c1 : w0.cell? ⟨w.heap.size + 1, 0, none⟩ = some fnComing := by
    have := ((Blk.new (w.alloc (.cells #[.string s] 9)) 50 #[fnComing]).alloc (partC 0 0 0)).cell 0
    rw [hw0]
    simpa using this
  have HZ := Lib.hid (show Blk w0 (w.heap.size + 1 + 1) 25 #[.int .i64 0, .int .i64 0, .int .i64 0] from by
    have := Blk.new ((w.alloc (.cells #[.string s] 9)).alloc (.cells #[fnComing] 50)) 25 #[.int .i64 0, .int .i64 0, .int .i64 0]
    rw [hw0]
    simpa using this)
  have hmf := make_func
  obtain ⟨x, y, z, a, c, ho, hv⟩ := contval_any ⟨w.heap.size + 1, 0, none⟩ ⟨w.heap.size, 0, none⟩ s w0 c1 c0 hs
  have HV := Lib.hid hv
  have HO := Lib.hid ho
  rw [HO.out]
  clear hv ho c0 c1 HO
  go_enter Tryd.func23, Tryd.ntmps23
  go_wp2_with fail
  rw [← hw0]
  clear hw0
  refine HV.out.mono ?_
  rintro r w1 ⟨rfl, b1⟩
  have HB1 := Lib.hid (HB.out.trans (b1.mono HB.out.size))
  have HZ1 := Lib.hid (HZ.out.below b1 HZ.out.lt)
  clear b1 HV HZ HB
  obtain ⟨w2, hw2⟩ : ∃ w2, w2 = (w1.alloc (partC x y z)).alloc (flc a c) := ⟨_, rfl⟩
  have HB2 := Lib.hid (show Below w.heap.size w w2 from by rw [hw2]; exact (HB1.out.alloc HB1.out.size _).alloc (by simp; have := HB1.out.size; omega) _)
  have HZ2 := Lib.hid (show Blk w2 (w.heap.size + 1 + 1) 25 #[.int .i64 0, .int .i64 0, .int .i64 0] from by rw [hw2]; exact (HZ1.out.alloc _).alloc _)
  have HV2 := Lib.hid (show Blk w2 w1.heap.size 25 #[.int .i64 x, .int .i64 y, .int .i64 z] from by rw [hw2]; exact (Blk.new w1 _ _).alloc _)
  have HF2 := Lib.hid (show Blk w2 (w1.heap.size + 1) 53 #[.int .i64 a, .int .i64 c] from by
    have := Blk.new (w1.alloc (partC x y z)) 53 #[.int .i64 a, .int .i64 c]
    rw [hw2]
    simpa using this)
  have hlt := HZ1.out.lt
  have dd : (((w2.setCell ⟨w.heap.size + 1 + 1, 0, none⟩ (.int .i64 x)).setCell ⟨w.heap.size + 1 + 1, 1, none⟩ (.int .i64 y)).setCell ⟨w.heap.size + 1 + 1, 2, none⟩ (.int .i64 z)).cell? ⟨w1.heap.size + 1, 1, none⟩ = some (.int .i64 c) := (((HF2.out.far (by simp; omega) _).far (by simp; omega) _).far (by simp; omega) _).cell 1
  clear HB1 HZ1 hlt
  go_wp2_with fail
  rw [← hw2]
  clear hw2
  have e0 : w2.cell? ⟨w.heap.size + 1 + 1, 0, none⟩ = some (.int .i64 0) := HZ2.out.cell 0
  have e1 : w2.cell? ⟨w.heap.size + 1 + 1, 1, none⟩ = some (.int .i64 0) := HZ2.out.cell 1
  have e2 : w2.cell? ⟨w.heap.size + 1 + 1, 2, none⟩ = some (.int .i64 0) := HZ2.out.cell 2
  have f0 := HZ2.out.frozen 0
  have f1 := HZ2.out.frozen 1
  have f2 := HZ2.out.frozen 2
  have d0 : w2.cell? ⟨w1.heap.size, 0, none⟩ = some (.int .i64 x) := HV2.out.cell 0
  have d1 : w2.cell? ⟨w1.heap.size, 1, none⟩ = some (.int .i64 y) := HV2.out.cell 1
  have d1b : w2.cell? ⟨w1.heap.size, 2, none⟩ = some (.int .i64 z) := HV2.out.cell 2
  have d2 : w2.cell? ⟨w1.heap.size + 1, 0, none⟩ = some (.int .i64 a) := HF2.out.cell 0
  have d3 : w2.cell? ⟨w1.heap.size + 1, 1, none⟩ = some (.int .i64 c) := HF2.out.cell 1
  have hn : w1.heap.size + 1 < w2.heap.size := HF2.out.lt
  clear HF2 HV2
  generalize w1.heap.size = m1 at *
  go_region
  all_goals go_wp2
  have hk := ((HZ2.out.set_ 0 (.int .i64 x)).set_ 1 (.int .i64 y)).set_ 2 (.int .i64 z)
  have j0 : _ = some (.int .i64 x : Value) := hk.cell 0
  have j1 : _ = some (.int .i64 y : Value) := hk.cell 1
  have j2 : _ = some (.int .i64 z : Value) := hk.cell 2
  refine bodyPost_ret (v := .tuple #[partV x y z, .int .i64 c]) (by simp [results, Tryd.results23, go_sem, j0, j1, j2]) rfl ⟨rfl, ?_⟩
  exact Below.drewN' (((HB2.out.setCell (by simp; omega) _).setCell (by simp; omega) _).setCell (by simp; omega) _) 1

set_option maxHeartbeats 1000000 in
theorem content24_any (s : ByteArray) (w : World) (hs : s.size ≤ 9223372036854775807) :
    Calls Tryd.prog 11 #[.string s] w fun r w' => r = contV (contO s) ∧ Below w.heap.size w w' := by
  obtain ⟨w0, hw0⟩ : ∃ w0, w0 = w.alloc (partC 0 0 0) := ⟨_, rfl⟩
  have HB := Lib.hid (show Below w.heap.size w w0 from by rw [hw0]; exact (Below.refl _ _).alloc (Nat.le_refl _) _)
  have HZ := Lib.hid (show Blk w0 w.heap.size 25 #[.int .i64 0, .int .i64 0, .int .i64 0] from by rw [hw0]; exact Blk.new w _ _)
  have HA := Lib.hid (contread_any s w0 hs)
  obtain ⟨x, y, z, c, hv⟩ : ∃ x y z c, contV (contO s) = .returned (.tuple #[partV x y z, .int .i64 c]) := by
    cases contO s with
    | ok v => exact ⟨_, _, _, _, rfl⟩
    | error v => exact ⟨_, _, _, _, rfl⟩
  rw [hv] at HA ⊢
  clear hv
  go_enter Tryd.func11, Tryd.ntmps11
  go_wp2_with fail
  rw [← hw0]
  clear hw0
  refine HA.out.mono ?_
  rintro r w1 ⟨rfl, b1⟩
  have HB1 := Lib.hid (HB.out.trans (b1.mono HB.out.size))
  have HZ1 := Lib.hid (HZ.out.below b1 HZ.out.lt)
  have z0 := HZ1.out.cell 0
  have z1 := HZ1.out.cell 1
  have z2 := HZ1.out.cell 2
  have f0 := HZ1.out.frozen 0
  have f1 := HZ1.out.frozen 1
  have f2 := HZ1.out.frozen 2
  clear b1 HA HZ HB
  go_wp2
  have hk := ((HZ1.out.set_ 0 (.int .i64 x)).set_ 1 (.int .i64 y)).set_ 2 (.int .i64 z)
  have j0 : _ = some (.int .i64 x : Value) := hk.cell 0
  have j1 : _ = some (.int .i64 y : Value) := hk.cell 1
  have j2 : _ = some (.int .i64 z : Value) := hk.cell 2
  exact bodyPost_ret (v := .tuple #[partV x y z, .int .i64 c]) (by simp [results, Tryd.results11, go_sem, j0, j1, j2]) rfl ⟨rfl, ((HB1.out.setCell (by exact Nat.le_refl _) _).setCell (by exact Nat.le_refl _) _).setCell (by exact Nat.le_refl _) _⟩

end Go.Proofs.YtaolclpjlkdkjaaDoor
