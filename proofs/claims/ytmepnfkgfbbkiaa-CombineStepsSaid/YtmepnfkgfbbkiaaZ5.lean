/-
  The law CombineSteps returns true of any two types and any charset. Condition: texts are as long as a length can be; what an argument's reading gives.
-/
import Derived.Test.YtmepnfkgfbbkiaaMwr
import Derived.Test.YtmepnfkgfbbkiaaZ4
import Derived.Test.YtmepnfkgfbbkiaaMt
namespace Go.Proofs.Ytmepnfkgfbbkiaa
open Go.RowKit

/-- A box that was made, which lies from W0's end on. -/
theorem box_new {W0 W W' : World} {T : TypeId} {cs : Array Value} (h : W0.heap.size ≤ W.heap.size) (b : Below (W.alloc (.cells cs T)).heap.size (W.alloc (.cells cs T)) W') : W0.heap.size ≤ W.heap.size ∧ Blk W' W.heap.size T cs := ⟨h, (Blk.new W T cs).below b (by simp)⟩
theorem box_new_drew {W0 W W' : World} {T : TypeId} {cs : Array Value} (h : W0.heap.size ≤ W.heap.size) (b : Below (W.alloc (.cells cs T)).drew.heap.size (W.alloc (.cells cs T)).drew W') : W0.heap.size ≤ W.heap.size ∧ Blk W' W.heap.size T cs :=
  ⟨h, Blk.below (w := (W.alloc (.cells cs T)).drew) (by exact Blk.new W T cs) b (by simp [World.drew])⟩
theorem box_step {W0 W W' : World} {T : TypeId} {cs : Array Value} {n : Nat} (h : W0.heap.size ≤ n ∧ Blk W n T cs) (b : Below W.heap.size W W') : W0.heap.size ≤ n ∧ Blk W' n T cs := ⟨h.1, h.2.below b h.2.lt⟩

set_option maxHeartbeats 4000000 in
set_option maxRecDepth 100000 in
theorem steps_few (mt mu ot ou tm um tq uq set xs : ByteArray) (psm pso : List Prm) (A0 B0 : Option Addr) (n c k d : Nat) (w : World) (hm : FewIs tm um psm) (ho : FewIs tq uq pso) (hxs : xs.size ≤ 20)
    (HF : Hid (∀ W, Below w.heap.size w W → Calls Try.prog 4 #[mimV mt mu A0 n c] W fun e w' => ∃ A' c', e = .returned (mimV tm um A' psm.length c') ∧ w'.ownsRow W.heap.size 33 2 (.slice A' psm.length c') psm.length (prmL psm) ∧ Below W.heap.size W w'))
    (HG : Hid (∀ W, Below w.heap.size w W → Calls Try.prog 4 #[mimV ot ou B0 k d] W fun e w' => ∃ A' c', e = .returned (mimV tq uq A' pso.length c') ∧ w'.ownsRow W.heap.size 33 2 (.slice A' pso.length c') pso.length (prmL pso) ∧ Below W.heap.size W w'))
    (HC : Hid (∀ W, Calls Try.prog 5 #[.string set, .int .i64 20] W fun e w' => e = .returned (.string xs) ∧ W = w')) :
    Calls Try.prog 3 #[mimV mt mu A0 n c, mimV ot ou B0 k d, .string set] w fun e w' => e = .returned (.bool true) ∧ Below w.heap.size w w' := by
  obtain ⟨w0, hw0⟩ : ∃ w0, w0 = (w.alloc (.cells #[.string mt, .string mu, .slice A0 n c] 24)).alloc (.cells #[.string ot, .string ou, .slice B0 k d] 24) := ⟨_, rfl⟩
  have HB0 := Lib.hid (show Below w.heap.size w w0 from by rw [hw0]; exact ((Below.refl w.heap.size w).alloc (Nat.le_refl _) _).alloc (by simp) _)
  have HM0 := Lib.hid (show Blk w0 w.heap.size 24 #[.string mt, .string mu, .slice A0 n c] from by rw [hw0]; exact (Blk.new _ _ _).alloc _)
  have HO0 := Lib.hid (show Blk w0 (w.heap.size + 1) 24 #[.string ot, .string ou, .slice B0 k d] from by
    have := Blk.new (w.alloc (.cells #[.string mt, .string mu, .slice A0 n c] 24)) 24 #[.string ot, .string ou, .slice B0 k d]
    rw [hw0]
    simpa using this)
  have hsz0 : w0.heap.size = w.heap.size + 1 + 1 := by rw [hw0]; simp
  have hs02 : w.heap.size + 1 + 1 ≤ w0.heap.size := Nat.le_of_eq hsz0.symm
  have c0 := HM0.out.cell 0
  have c1 := HM0.out.cell 1
  have c2 := HM0.out.cell 2
  have d0 := HO0.out.cell 0
  have d1 := HO0.out.cell 1
  have d2 := HO0.out.cell 2
  go_enter Try.func3, Try.ntmps3
  go_wp2_with fail
  rw [← hw0]
  clear hw0
  go_cut [2, 6] from 11 to 16 (fun s2 s6 wx => s2 = .string xs ∧ s6 = .bool false ∧ ∃ A ca B cb, Blk wx w.heap.size 24 #[.string tm, .string um, .slice A psm.length ca] ∧ Blk wx (w.heap.size + 1) 24 #[.string tq, .string uq, .slice B pso.length cb] ∧ OwnPs wx (w.heap.size + 1 + 1) A ca psm ∧ OwnPs wx (w.heap.size + 1 + 1) B cb pso ∧ Below w.heap.size w wx)
  case first =>
    go_region_with (first
      | (go_at_call 4; (with_reducible refine (HF.out _ (by first | exact HB0.out | exact HB0.out.drew)).mono ?_); rintro e w1 ⟨A, ca, rfl, hp, b1⟩
         have HPA := Lib.hid (own_base (b := w.heap.size + 1 + 1) hp (by exact hs02))
         have hs12 : w.heap.size + 1 + 1 ≤ w1.heap.size := Nat.le_trans hs02 b1.size
         have HB1 := Lib.hid (below_on (w := _) (by first | exact HB0.out | exact HB0.out.drew) b1)
         have HM1 := Lib.hid (Blk.below (w := _) (by exact HM0.out) b1 (by exact HM0.out.lt))
         have HO1 := Lib.hid (Blk.below (w := _) (by exact HO0.out) b1 (by exact HO0.out.lt))
         clear hp b1 c0 c1 c2 d0 d1 d2
         have d0 := HO1.out.cell 0
         have d1 := HO1.out.cell 1
         have d2 := HO1.out.cell 2)
      | (go_at_call 4; (with_reducible refine (HG.out _ (by exact HB1.out)).mono ?_); rintro e w2 ⟨B, cb, rfl, hp, b2⟩
         have HPB := Lib.hid (own_base (b := w.heap.size + 1 + 1) hp (by exact hs12))
         have HPA2 := Lib.hid (own_keep HPA.out (Mv.of_below b2 []) (by simp))
         have HB2 := Lib.hid (below_on (w := _) (by exact HB1.out) b2)
         have HM2 := Lib.hid (Blk.below (w := _) (by exact HM1.out) b2 (by exact HM1.out.lt))
         have HO2 := Lib.hid (Blk.below (w := _) (by exact HO1.out) b2 (by exact HO1.out.lt))
         clear hp b2 d0 d1 d2
         have c0 := HM2.out.cell 0
         have c1 := HM2.out.cell 1
         have c2 := HM2.out.cell 2
         have y0 := HM2.out.frozen 0
         have y1 := HM2.out.frozen 1
         have y2 := HM2.out.frozen 2
         have d0 := HO2.out.cell 0
         have d1 := HO2.out.cell 1
         have d2 := HO2.out.cell 2
         have z0 := HO2.out.frozen 0
         have z1 := HO2.out.frozen 1
         have z2 := HO2.out.frozen 2)
      | (go_at_call 5; (with_reducible refine (HC.out _).mono ?_); rintro e wx ⟨rfl, rfl⟩))
    all_goals
      go_wp2_with fail
      go_meet
      have hm : Mv w2.heap.size [w.heap.size, w.heap.size + 1] w2 ((((((w2.setCell ⟨w.heap.size, 0, none⟩ (.string tm)).setCell ⟨w.heap.size, 1, none⟩ (.string um)).setCell ⟨w.heap.size, 2, none⟩ (.slice A psm.length ca)).setCell ⟨w.heap.size + 1, 0, none⟩ (.string tq)).setCell ⟨w.heap.size + 1, 1, none⟩ (.string uq)).setCell ⟨w.heap.size + 1, 2, none⟩ (.slice B pso.length cb)) :=
        ((((((Mv.refl _ _ _).setCell (.inl (by simp)) _).setCell (.inl (by simp)) _).setCell (.inl (by simp)) _).setCell (.inl (by simp)) _).setCell (.inl (by simp)) _).setCell (.inl (by simp)) _
      have p2 := own_keep HPA2.out hm (fun x hx => by simp at hx; omega)
      have p3 := own_keep HPB.out hm (fun x hx => by simp at hx; omega)
      refine ⟨rfl, rfl, A, ca, B, cb, ?_, ?_, p2, p3, ?_⟩
      · exact (((((HM2.out.set_ 0 _).set_ 1 _).set_ 2 _).far (by show w.heap.size ≠ w.heap.size + 1; omega) _).far (by show w.heap.size ≠ w.heap.size + 1; omega) _).far (by show w.heap.size ≠ w.heap.size + 1; omega) _
      · exact ((((((HO2.out.far (by show w.heap.size + 1 ≠ w.heap.size; omega) _).far (by show w.heap.size + 1 ≠ w.heap.size; omega) _).far (by show w.heap.size + 1 ≠ w.heap.size; omega) _).set_ 0 _).set_ 1 _).set_ 2 _)
      · exact (((((HB2.out.setCell (by exact Nat.le_refl _) _).setCell (by exact Nat.le_refl _) _).setCell (by exact Nat.le_refl _) _).setCell (by exact Nat.le_succ _) _).setCell (by exact Nat.le_succ _) _).setCell (by exact Nat.le_succ _) _
  case rest =>
    obtain ⟨rfl, rfl, A, ca, B, cb, hM, hO, hpA, hpB, hB⟩ := hcut
    have HM := Lib.hid hM
    have HO := Lib.hid hO
    have HPA := Lib.hid (OwnPs.ps hpA)
    have HPB := Lib.hid (OwnPs.ps hpB)
    have HOB := Lib.hid hpB
    have HBW := Lib.hid hB
    have hbm : w.heap.size < wc.heap.size := hM.lt
    have hbo : w.heap.size + 1 < wc.heap.size := hO.lt
    clear hM hO hpA hpB hB HB0 HM0 HO0 HF HG HC c0 c1 c2 d0 d1 d2 hs02 hsz0
    have hsm : (⟨tq, uq, pso⟩ : Mty).small := ⟨by have := ho.u; have := ho.t; show tq.size ≤ _; omega, by have := ho.u; show uq.size ≤ _; omega, fun p hp => by have := ho.all p hp; omega, by have := ho.n; show pso.length + 1 ≤ _; omega⟩
    have HSM := Lib.hid hsm
    have hst := (stepT_ok (t := tm) (u := um) (set := xs) hsm (by omega)).1
    have htm : tm.size ≤ 1048576 := by have := hm.t; omega
    have hum : um.size ≤ 1048576 := by have := hm.u; omega
    have hx2 : xs.size ≤ 1048576 := by omega
    have HFM := Lib.hid (fun W A c (hp : PsIn W A psm) => few_again hm c W hp)
    have HFO := Lib.hid (fun W A c (hp : PsIn W A pso) => few_again ho c W hp)
    have HST := Lib.hid (fun W A A' n' c c' (hp : PsIn W A pso) => step_any tm um A' n' c' xs ⟨tq, uq, pso⟩ A c W hp hsm htm hum hx2)
    have HRS := Lib.hid (fun W A A' n' c c' base (hp : OwnPs W base A c pso) (hb : base ≤ W.heap.size) => rstep_any tm um A' n' c' xs ⟨tq, uq, pso⟩ A c base W hp hb hsm htm hum hx2)
    generalize stepT tm um xs ⟨tq, uq, pso⟩ = r at *
    obtain ⟨⟨rt, ru, rp⟩, rs⟩ := r
    have hrl : rp.length ≤ 1048576 := hst.2.2.2
    have HSU : Hid (∀ W A A' n' c c', PsIn W A pso → Calls Try.prog 6 #[mimV tm um A' n' c', .string xs, mimV tq uq A pso.length c] W fun e w' => ∃ A4 c4, e = .returned (.tuple #[mimV rt ru A4 rp.length c4, .string rs]) ∧ OwnPs w' W.heap.size A4 c4 rp ∧ Below W.heap.size W w') := HST.out
    have HRU : Hid (∀ W A A' n' c c' base, OwnPs W base A c pso → base ≤ W.heap.size → Calls Try.prog 7 #[mimV tm um A' n' c', .string xs, mimV tq uq A pso.length c] W fun e w' => ∃ A4 c4, e = .returned (.tuple #[mimV rt ru A4 rp.length c4, .string rs]) ∧ OwnPs w' base A4 c4 rp ∧ Below W.heap.size W w') := HRS.out
    have HSA := Lib.hid (fun W A B c d (hp : PsIn W A rp) (hq : PsIn W B rp) => show Calls Try.prog 8 #[mimV rt ru A rp.length c, mimV rt ru B rp.length d] W fun e w' => e = .returned (.bool true) ∧ Below W.heap.size W w' from by
      have := rsame_any rt ru rt ru A B rp rp c d W hp hq hrl hrl
      rw [sameM_self] at this
      exact this)
    have HLV := Lib.hid lives11_any
    clear hst hsm HST HRS
    have c0 := HM.out.cell 0
    have c1 := HM.out.cell 1
    have c2 := HM.out.cell 2
    have d0 := HO.out.cell 0
    have d1 := HO.out.cell 1
    have d2 := HO.out.cell 2
    have HB := Lib.hid (Below.refl wc.heap.size wc)
    have hsz := Nat.le_refl wc.heap.size
    go_upto_region 2 with fail
    go_cut [7, 8] from 17 to 25 (fun s7 s8 wx => s8 = .string rs ∧ ∃ b A4 c4, s7 = .pointer (some ⟨b, 0, none⟩) ∧ Blk wx b 24 #[.string rt, .string ru, .slice A4 rp.length c4] ∧ PsIn wx A4 rp ∧ Below wc.heap.size wc wx)
    case first =>
      go_region_held3 (fun w' => w'.cell? ⟨w.heap.size, 0, none⟩ = some (.string tm) ∧ w'.cell? ⟨w.heap.size, 1, none⟩ = some (.string um) ∧ w'.cell? ⟨w.heap.size, 2, none⟩ = some (.slice A psm.length ca) ∧
          w'.cell? ⟨w.heap.size + 1, 0, none⟩ = some (.string tq) ∧ w'.cell? ⟨w.heap.size + 1, 1, none⟩ = some (.string uq) ∧ w'.cell? ⟨w.heap.size + 1, 2, none⟩ = some (.slice B pso.length cb))
        (first | go_keep | exact writes_keep HM.out HO.out HB.out | exact writes_keep HM.out HO.out (HB.out.alloc HB.out.size _) | exact writes_keep HM.out HO.out (((HB.out.setCell (p := ⟨_, 0, none⟩) HX.out.1 _).setCell (p := ⟨_, 1, none⟩) HX.out.1 _).setCell (p := ⟨_, 2, none⟩) HX.out.1 _))
        (first
          | (go_at_call 4; (with_reducible refine (HFM.out _ A ca (HPA.out.below (by first | exact HB.out | exact HB.out.drew | exact (HB.out.alloc (Nat.le_refl _) _).drew))).mono ?_); rintro e w3 ⟨A3, c3, rfl, hp3, b3⟩
             have HB := Lib.hid (below_on (w := _) (by first | exact HB.out | exact HB.out.drew | exact (HB.out.alloc (Nat.le_refl _) _).drew) b3)
             have hs3 : wc.heap.size ≤ w3.heap.size := HB.out.size
             first
               | have HX := Lib.hid (box_new_drew (W0 := wc) hsz b3)
               | skip
             clear hp3 b3)
          | (go_at_call 4; (with_reducible refine (HFO.out _ B cb (HPB.out.below (by first | exact HB.out | exact HB.out.alloc HB.out.size _))).mono ?_); rintro e w4 ⟨A5, c5, rfl, hp4, b4⟩
             have HPO := Lib.hid hp4
             have HB := Lib.hid (below_on (w := _) (by first | exact HB.out | exact HB.out.alloc HB.out.size _) b4)
             have hs4 : wc.heap.size ≤ w4.heap.size := HB.out.size
             first
               | have HX := Lib.hid (box_step HX.out b4)
               | have HX := Lib.hid (box_new (W0 := wc) hs3 b4)
               | skip
             clear hp4 b4)
          | (go_at_call 6; (with_reducible refine (HSU.out _ _ _ _ _ _ (by first | exact HPO.out | exact HPO.out.below ((Below.refl _ _).alloc (Nat.le_refl _) _))).mono ?_); rintro e w5 ⟨A6, c6, rfl, hp5, b5⟩
             have HP6 := Lib.hid hp5
             have HB := Lib.hid (below_on (w := _) (by first | exact HB.out | exact HB.out.alloc HB.out.size _) b5)
             have hs5 : wc.heap.size ≤ w5.heap.size := HB.out.size
             first
               | have HX := Lib.hid (box_step HX.out b5)
               | have HX := Lib.hid (box_new (W0 := wc) hs4 b5)
               | skip
             try (have x0 := HX.out.2.cell 0; have x1 := HX.out.2.cell 1; have x2 := HX.out.2.cell 2; have y0 := HX.out.2.frozen 0; have y1 := HX.out.2.frozen 1; have y2 := HX.out.2.frozen 2)
             clear hp5 b5))
      · go_wp2_with fail
        go_meet
        exact ⟨rfl, _, A6, c6, rfl, Blk.new _ _ _, (OwnPs.ps HP6.out).below ((Below.refl _ _).alloc (Nat.le_refl _) _), HB.out.alloc HB.out.size _⟩
      all_goals
        go_wp2_with fail
        go_meet
        exact ⟨rfl, _, A6, c6, rfl, ((HX.out.2.set_ 0 _).set_ 1 _).set_ 2 _, OwnPs.ps (OwnPs.set3 HP6.out HX.out.2 _ _ _), ((HB.out.setCell (p := ⟨_, 0, none⟩) HX.out.1 _).setCell (p := ⟨_, 1, none⟩) HX.out.1 _).setCell (p := ⟨_, 2, none⟩) HX.out.1 _⟩
    case rest =>
      obtain ⟨rfl, b, A4, c4, rfl, hX, hP, hb⟩ := hcut
      have HX := Lib.hid hX
      have HP := Lib.hid hP
      have HM2 := Lib.hid (HM.out.below hb hbm)
      have HO2 := Lib.hid (HO.out.below hb hbo)
      have HOB2 := Lib.hid (own_mv HOB.out (Mv.of_below hb []) (by simp))
      have HBW2 := Lib.hid (below_on HBW.out hb)
      have hbs := hb.size
      have hw2 : w.heap.size + 1 + 1 ≤ wc.heap.size := by omega
      clear hX hP hb HB c0 c1 c2 d0 d1 d2 HM HO HOB HBW HPA HPB HFM HFO HSU hsz
      have c0 := HM2.out.cell 0
      have c1 := HM2.out.cell 1
      have c2 := HM2.out.cell 2
      have d0 := HO2.out.cell 0
      have d1 := HO2.out.cell 1
      have d2 := HO2.out.cell 2
      go_wp2_with fail
      refine (HRU.out wc B A _ cb ca _ HOB2.out hw2).mono ?_
      rintro e w6 ⟨A7, c7, rfl, ho7, b7⟩
      have HX6 := Lib.hid (HX.out.below b7 HX.out.lt)
      have HP6 := Lib.hid (HP.out.below b7)
      have HQ6 := Lib.hid (OwnPs.ps ho7)
      have HBW6 := Lib.hid (below_on HBW2.out b7)
      clear ho7 b7 HX HP HM2 HO2 HOB2 HBW2 HRU c0 c1 c2 d0 d1 d2
      obtain ⟨w7, hw7⟩ : ∃ w7, w7 = w6.alloc (.cells #[.string rt, .string ru, .slice A7 rp.length c7] 24) := ⟨_, rfl⟩
      have b8 : Below w6.heap.size w6 w7 := by rw [hw7]; exact (Below.refl _ _).alloc (Nat.le_refl _) _
      have HY7 := Lib.hid (show Blk w7 w6.heap.size 24 #[.string rt, .string ru, .slice A7 rp.length c7] from by rw [hw7]; exact Blk.new _ _ _)
      have HX7 := Lib.hid (HX6.out.below b8 HX6.out.lt)
      have HP7 := Lib.hid (HP6.out.below b8)
      have HQ7 := Lib.hid (HQ6.out.below b8)
      have HBW7 := Lib.hid (below_on HBW6.out b8)
      have e0 := HX6.out.cell 0
      have e1 := HX6.out.cell 1
      have e2 := HX6.out.cell 2
      have hbl := HX6.out.lt
      clear b8 HX6 HP6 HQ6 HBW6
      go_wp2_with fail
      rw [← hw7]
      clear hw7 e0 e1 e2
      refine (HSA.out w7 A4 A7 c4 c7 HP7.out HQ7.out).mono ?_
      rintro e w8 ⟨rfl, b9⟩
      have HBW8 := Lib.hid (below_on HBW7.out b9)
      clear b9
      go_wp2_with fail
      refine (HLV.out _).mono ?_
      rintro e w9 ⟨rfl, b10⟩
      have HBW9 := Lib.hid (below_on HBW8.out b10)
      clear b10
      go_wp2
      go_ret
      exact ⟨rfl, HBW9.out⟩

theorem combineSteps_any (mt mu ot ou set : ByteArray) (A0 B0 : Option Addr) (n c k d : Nat) (l0 l1 : Nat → Prm) (w : World) (h0 : Came w A0 n l0) (h1 : Came w B0 k l1) (ht0 : mt.size ≤ 9223372036854775807) (hu0 : mu.size ≤ 9223372036854775807) (hn0 : n ≤ 9223372036854775807)
    (ht1 : ot.size ≤ 9223372036854775807) (hu1 : ou.size ≤ 9223372036854775807) (hn1 : k ≤ 9223372036854775807) (hs : set.size ≤ 9223372036854775807) :
    Calls Try.prog 3 #[mimV mt mu A0 n c, mimV ot ou B0 k d, .string set] w fun e w' => e = .returned (.bool true) ∧ Below w.heap.size w w' :=
  steps_few mt mu ot ou _ _ _ _ set _ _ _ A0 B0 n c k d w (fewIs mt mu l0 n) (fewIs ot ou l1 k) (cutB_size set 20) (fun W hb => few_first mt mu A0 n c l0 W (h0.below hb) ht0 hu0 hn0) (fun W hb => few_first ot ou B0 k d l1 W (h1.below hb) ht1 hu1 hn1) (fun W => cut_any set 20 W hs)

end Go.Proofs.Ytmepnfkgfbbkiaa
