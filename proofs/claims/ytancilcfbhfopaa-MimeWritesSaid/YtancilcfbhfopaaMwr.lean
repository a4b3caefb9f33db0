/-
  The law MimeWrites returns true of any two types. Condition: texts are as long as a length can be; what an argument's reading gives.
-/
import Derived.Test.YtancilcfbhfopaaMl
import Derived.Test.YtancilcfbhfopaaMx
namespace Go.Proofs.Ytancilcfbhfopaa
open Go.RowKit

/-- What Few leaves of a type. -/
structure FewIs (t u : ByteArray) (ps : List Prm) : Prop where
  t : t.size ≤ 30
  u : u.size ≤ 30
  n : ps.length ≤ 6
  all : ∀ p ∈ ps, p.n.size ≤ 20 ∧ p.v.size ≤ 30
theorem FewIs.mim {t u : ByteArray} {ps : List Prm} (h : FewIs t u ps) {W : World} {A : Option Addr} (hp : PsIn W A ps) : MimIn W t u A ps :=
  ⟨hp, fun p hp => by have := h.all p hp; omega, by have := h.t; omega, by have := h.u; omega, by have := h.n; omega⟩
theorem fewIs (t u : ByteArray) (lp : Nat → Prm) (n : Nat) : FewIs (cutB t 30) (cutB u 30) (fewK lp (min n 6)) :=
  ⟨cutB_size _ _, cutB_size _ _, by rw [fewK_len]; omega, fewK_all lp _⟩
/-- Few of what it left. -/
theorem few_again {t u : ByteArray} {ps : List Prm} (h : FewIs t u ps) {A : Option Addr} (c : Nat) (W : World) (hp : PsIn W A ps) :
    Calls Try.prog 13 #[mimV t u A ps.length c] W fun e w' => ∃ A' c', e = .returned (mimV t u A' ps.length c') ∧ PsIn w' A' ps ∧ Below W.heap.size W w' := by
  have h1 := few_any t u A ps.length c (fun i => ps.getD i ⟨⟨#[]⟩, ⟨#[]⟩⟩) W (Came.of_ps hp (h.mim hp).all _) (by have := h.t; omega) (by have := h.u; omega) (by have := h.n; omega)
  rw [cutB_id h.t, cutB_id h.u, show min ps.length 6 = ps.length from by have := h.n; omega, fewK_id h.all] at h1
  refine h1.mono fun e w' ⟨A', c', he, ho, hb⟩ => ?_
  obtain ⟨A2, c2, hv, hp⟩ := PsIn.of_own ho
  cases hv
  exact ⟨A', c', he, hp, hb⟩
theorem few_first (t u : ByteArray) (A : Option Addr) (n c : Nat) (lp : Nat → Prm) (W : World) (h : Came W A n lp) (ht : t.size ≤ 9223372036854775807) (hu : u.size ≤ 9223372036854775807) (hn : n ≤ 9223372036854775807) :
    Calls Try.prog 13 #[mimV t u A n c] W fun e w' => ∃ A' c', e = .returned (mimV (cutB t 30) (cutB u 30) A' (fewK lp (min n 6)).length c') ∧ w'.ownsRow W.heap.size 39 2 (.slice A' (fewK lp (min n 6)).length c') (fewK lp (min n 6)).length (prmL (fewK lp (min n 6))) ∧ Below W.heap.size W w' := by
  have h1 := few_any t u A n c lp W h ht hu hn
  rw [fewK_len]
  exact h1

/-- What a good type that Few left is written as. -/
theorem write_text {t u : ByteArray} {ps : List Prm} (hm : FewIs t u ps) (h : goodM t u ps = true) :
    ∃ P, serM t u ps = P ∧ P.size ≤ 1048576 ∧ trimP whiB P = P ∧ saysB P = true ∧ lowS (tyOf P) = t ∧ lowS (suOf P) = u ∧ prOf P = ps := by
  obtain ⟨q1, q2, q3, q4, q5⟩ := text_says h ⟨(textL t u ps).toArray⟩ rfl
  refine ⟨⟨(textL t u ps).toArray⟩, by unfold serM; rw [h]; rfl, ?_, q1, q2, q3, q4, q5⟩
  have hall : AllIn 30 ps := fun p hp => by have := hm.all p hp; omega
  have h1 := serPs_le hall
  have h2 := hm.n
  have h3 : ps.length * (3 * 30 + 4) ≤ 6 * (3 * 30 + 4) := Nat.mul_le_mul_right _ h2
  have h4 := hm.t
  have h5 := hm.u
  have h6 : (t.data.toList ++ 47 :: u.data.toList).length = t.size + (u.size + 1) := by simp
  rw [arr_size]
  unfold textL essL
  rw [List.length_append]
  omega
theorem writes_keep {w2 W : World} {bm bo : Nat} {t1 t2 : TypeId} {a0 a1 a2 b0 b1 b2 : Value} (hm : Blk w2 bm t1 #[a0, a1, a2]) (ho : Blk w2 bo t2 #[b0, b1, b2]) (hb : Below w2.heap.size w2 W) :
    W.cell? ⟨bm, 0, none⟩ = some a0 ∧ W.cell? ⟨bm, 1, none⟩ = some a1 ∧ W.cell? ⟨bm, 2, none⟩ = some a2 ∧ W.cell? ⟨bo, 0, none⟩ = some b0 ∧ W.cell? ⟨bo, 1, none⟩ = some b1 ∧ W.cell? ⟨bo, 2, none⟩ = some b2 :=
  ⟨(hm.below hb hm.lt).cell 0, (hm.below hb hm.lt).cell 1, (hm.below hb hm.lt).cell 2, (ho.below hb ho.lt).cell 0, (ho.below hb ho.lt).cell 1, (ho.below hb ho.lt).cell 2⟩

set_option maxHeartbeats 4000000 in
set_option maxRecDepth 100000 in
theorem writes_few (mt mu ot ou tm um tq uq : ByteArray) (psm pso : List Prm) (A0 B0 : Option Addr) (n c k d : Nat) (w : World) (hm : FewIs tm um psm) (ho : FewIs tq uq pso)
    (HF : Hid (∀ W, Below w.heap.size w W → Calls Try.prog 13 #[mimV mt mu A0 n c] W fun e w' => ∃ A' c', e = .returned (mimV tm um A' psm.length c') ∧ w'.ownsRow W.heap.size 39 2 (.slice A' psm.length c') psm.length (prmL psm) ∧ Below W.heap.size W w'))
    (HG : Hid (∀ W, Below w.heap.size w W → Calls Try.prog 13 #[mimV ot ou B0 k d] W fun e w' => ∃ A' c', e = .returned (mimV tq uq A' pso.length c') ∧ w'.ownsRow W.heap.size 39 2 (.slice A' pso.length c') pso.length (prmL pso) ∧ Below W.heap.size W w')) :
    Calls Try.prog 4 #[mimV mt mu A0 n c, mimV ot ou B0 k d] w fun e w' => e = .returned (.bool true) ∧ Below w.heap.size w w' := by
  obtain ⟨w0, hw0⟩ : ∃ w0, w0 = (w.alloc (.cells #[.string mt, .string mu, .slice A0 n c] 25)).alloc (.cells #[.string ot, .string ou, .slice B0 k d] 25) := ⟨_, rfl⟩
  have HB0 := Lib.hid (show Below w.heap.size w w0 from by rw [hw0]; exact ((Below.refl w.heap.size w).alloc (Nat.le_refl _) _).alloc (by simp) _)
  have HM0 := Lib.hid (show Blk w0 w.heap.size 25 #[.string mt, .string mu, .slice A0 n c] from by rw [hw0]; exact (Blk.new _ _ _).alloc _)
  have HO0 := Lib.hid (show Blk w0 (w.heap.size + 1) 25 #[.string ot, .string ou, .slice B0 k d] from by
    have := Blk.new (w.alloc (.cells #[.string mt, .string mu, .slice A0 n c] 25)) 25 #[.string ot, .string ou, .slice B0 k d]
    rw [hw0]
    simpa using this)
  have hsz0 : w0.heap.size = w.heap.size + 1 + 1 := by rw [hw0]; simp
  have hs02 : w.heap.size + 1 + 1 ≤ w0.heap.size := Nat.le_of_eq hsz0.symm
  have c0 := HM0.out.cell 0
  have c1 := HM0.out.cell 1
  have c2 := HM0.out.cell 2
  have d0 := HO0.out.cell 0
  have d1 := HO0.out.cell 1
  have d2 := HO0.out.cell 2
  go_enter Try.func4, Try.ntmps4
  go_wp2_with fail
  rw [← hw0]
  clear hw0
  go_cut [4] from 8 to 11 (fun s4 wx => s4 = .bool false ∧ ∃ A ca B cb, Blk wx w.heap.size 25 #[.string tm, .string um, .slice A psm.length ca] ∧ Blk wx (w.heap.size + 1) 25 #[.string tq, .string uq, .slice B pso.length cb] ∧ PsIn wx A psm ∧ PsIn wx B pso ∧ Below w.heap.size w wx)
  case first =>
    go_region_with (first
      | (go_at_call 13; (with_reducible refine (HF.out _ (by first | exact HB0.out | exact HB0.out.drew)).mono ?_); rintro e w1 ⟨A, ca, rfl, hp, b1⟩
         have HPA := Lib.hid (own_base (b := w.heap.size + 1 + 1) hp (by exact hs02))
         have hs12 : w.heap.size + 1 + 1 ≤ w1.heap.size := Nat.le_trans hs02 b1.size
         have HB1 := Lib.hid (below_on (w := _) (by first | exact HB0.out | exact HB0.out.drew) b1)
         have HM1 := Lib.hid (Blk.below (w := _) (by exact HM0.out) b1 (by exact HM0.out.lt))
         have HO1 := Lib.hid (Blk.below (w := _) (by exact HO0.out) b1 (by exact HO0.out.lt))
         clear hp b1 c0 c1 c2 d0 d1 d2
         have d0 := HO1.out.cell 0
         have d1 := HO1.out.cell 1
         have d2 := HO1.out.cell 2)
      | (go_at_call 13; (with_reducible refine (HG.out _ (by exact HB1.out)).mono ?_); rintro e w2 ⟨B, cb, rfl, hp, b2⟩
         have HPB := Lib.hid (own_base (b := w.heap.size + 1 + 1) hp (by exact hs12))
         have HPA2 := Lib.hid (own_keep HPA.out (Mv.of_below b2 []) (by simp))
         have HB2 := Lib.hid (below_on (w := _) (by exact HB1.out) b2)
         have HM2 := Lib.hid (Blk.below (w := _) (by exact HM1.out) b2 (by exact HM1.out.lt))
         have HO2 := Lib.hid (Blk.below (w := _) (by exact HO1.out) b2 (by exact HO1.out.lt))
         clear hp b2 d0 d1 d2
         have c0 := HM2.out.cell 0
         have c1 := HM2.out.cell 1
         have c2 := HM2.out.cell 2
         have y0 := HM2.out.frozen 0
         have y1 := HM2.out.frozen 1
         have y2 := HM2.out.frozen 2
         have d0 := HO2.out.cell 0
         have d1 := HO2.out.cell 1
         have d2 := HO2.out.cell 2
         have z0 := HO2.out.frozen 0
         have z1 := HO2.out.frozen 1
         have z2 := HO2.out.frozen 2))
    all_goals
      go_wp2_with fail
      go_meet
      have hm : Mv w2.heap.size [w.heap.size, w.heap.size + 1] w2 ((((((w2.setCell ⟨w.heap.size, 0, none⟩ (.string tm)).setCell ⟨w.heap.size, 1, none⟩ (.string um)).setCell ⟨w.heap.size, 2, none⟩ (.slice A psm.length ca)).setCell ⟨w.heap.size + 1, 0, none⟩ (.string tq)).setCell ⟨w.heap.size + 1, 1, none⟩ (.string uq)).setCell ⟨w.heap.size + 1, 2, none⟩ (.slice B pso.length cb)) :=
        ((((((Mv.refl _ _ _).setCell (.inl (by simp)) _).setCell (.inl (by simp)) _).setCell (.inl (by simp)) _).setCell (.inl (by simp)) _).setCell (.inl (by simp)) _).setCell (.inl (by simp)) _
      obtain ⟨A2, c2, e2, p2⟩ := PsIn.of_own (own_keep HPA2.out hm (fun x hx => by simp at hx; omega))
      obtain ⟨A3, c3, e3, p3⟩ := PsIn.of_own (own_keep HPB.out hm (fun x hx => by simp at hx; omega))
      cases e2
      cases e3
      refine ⟨rfl, A, ca, B, cb, ?_, ?_, p2, p3, ?_⟩
      · exact (((((HM2.out.set_ 0 _).set_ 1 _).set_ 2 _).far (by show w.heap.size ≠ w.heap.size + 1; omega) _).far (by show w.heap.size ≠ w.heap.size + 1; omega) _).far (by show w.heap.size ≠ w.heap.size + 1; omega) _
      · exact ((((((HO2.out.far (by show w.heap.size + 1 ≠ w.heap.size; omega) _).far (by show w.heap.size + 1 ≠ w.heap.size; omega) _).far (by show w.heap.size + 1 ≠ w.heap.size; omega) _).set_ 0 _).set_ 1 _).set_ 2 _)
      · exact (((((HB2.out.setCell (by exact Nat.le_refl _) _).setCell (by exact Nat.le_refl _) _).setCell (by exact Nat.le_refl _) _).setCell (by exact Nat.le_succ _) _).setCell (by exact Nat.le_succ _) _).setCell (by exact Nat.le_succ _) _
  case rest =>
    obtain ⟨rfl, A, ca, B, cb, hM, hO, hpA, hpB, hB⟩ := hcut
    have HM1 := Lib.hid hM
    have HO1 := Lib.hid hO
    have HPA1 := Lib.hid hpA
    have HPB1 := Lib.hid hpB
    have HB1 := Lib.hid hB
    have hbo : w.heap.size + 1 < wc.heap.size := hO.lt
    clear hM hO hpA hpB hB HB0 HM0 HO0 HF HG c0 c1 c2 d0 d1 d2 hs02 hsz0
    obtain ⟨S, hS⟩ : ∃ S, S = serM tm um psm := ⟨_, rfl⟩
    have HSR := Lib.hid (fun W A c (hp : PsIn W A psm) => rserial_any tm um A psm c W (hm.mim hp))
    have HSE := Lib.hid (fun W A c (hp : PsIn W A psm) => mserial_any tm um A psm c W (hm.mim hp))
    rw [← hS] at HSR HSE
    have HGM := Lib.hid (fun W A c (hp : PsIn W A psm) => mgood_any tm um A psm c W (hm.mim hp))
    have HGR := Lib.hid (fun W A c (hp : PsIn W A psm) => rgood_any tm um A psm c W (hm.mim hp))
    have HES := Lib.hid (fun W A c => essence_any tm um A psm.length c W (by have := hm.t; omega) (by have := hm.u; omega))
    have HFM := Lib.hid (fun W A c (hp : PsIn W A psm) => few_again hm c W hp)
    have HFO := Lib.hid (fun W A c (hp : PsIn W A pso) => few_again ho c W hp)
    have HSM := Lib.hid (fun W A B c d (hp : PsIn W A psm) (hq : PsIn W B pso) => msame_any tm um tq uq A B psm pso c d W hp hq (by have := hm.n; omega) (by have := ho.n; omega))
    have HRS := Lib.hid (fun W A B c d (hp : PsIn W A psm) (hq : PsIn W B pso) => rsame_any tm um tq uq A B psm pso c d W hp hq (by have := hm.n; omega) (by have := ho.n; omega))
    have hts := hm.t
    have hus := hm.u
    generalize hGG : goodM tm um psm = G at *
    generalize sameM tm um psm tq uq pso = K at *
    have HEE : Hid (∀ W A c, Calls Try.prog 16 #[mimV tm um A psm.length c] W fun e w' => e = .returned (.string ((tm ++ ⟨#[47]⟩) ++ um)) ∧ Below W.heap.size W w') := fun W A c => by
      have := HES.out W A c
      rw [← essL_eq] at this
      exact this
    clear HES
    have HLV := Lib.hid lives10_any
    have HTX := Lib.hid (fun (h : goodM tm um psm = true) => write_text hm h)
    rw [hGG] at HTX
    have HS := Lib.hid hS
    clear hS
    have HRT := Lib.hid (fun W A B c d (hp : PsIn W A psm) (hq : PsIn W B psm) => rsame_any tm um tm um A B psm psm c d W hp hq (by have := hm.n; omega) (by have := hm.n; omega))
    rw [sameM_self] at HRT
    have c0 := HM1.out.cell 0
    have c1 := HM1.out.cell 1
    have c2 := HM1.out.cell 2
    go_wp2_with fail
    refine (HSR.out _ A ca HPA1.out).mono ?_
    rintro e w2 ⟨rfl, b2⟩
    have HM2 := Lib.hid (HM1.out.below b2 HM1.out.lt)
    have HO2 := Lib.hid (HO1.out.below b2 HO1.out.lt)
    have HPA := Lib.hid (HPA1.out.below b2)
    have HPB := Lib.hid (HPB1.out.below b2)
    have HB2 := Lib.hid (below_on HB1.out b2)
    clear b2 HM1 HO1 HPA1 HPB1 HB1 c0 c1 c2 HSR
    have c0 := HM2.out.cell 0
    have c1 := HM2.out.cell 1
    have c2 := HM2.out.cell 2
    have d0 := HO2.out.cell 0
    have d1 := HO2.out.cell 1
    have d2 := HO2.out.cell 2
    have HB := Lib.hid (Below.refl w2.heap.size w2)
    have hk1 : ¬ 9223372036854775807 < tm.size + 1 := by omega
    have hk2 : ¬ 9223372036854775807 < tm.size + 1 + um.size := by omega
    go_wp2_with fail
    go_region_held3 (fun w' => w'.cell? ⟨w.heap.size, 0, none⟩ = some (.string tm) ∧ w'.cell? ⟨w.heap.size, 1, none⟩ = some (.string um) ∧ w'.cell? ⟨w.heap.size, 2, none⟩ = some (.slice A psm.length ca) ∧
        w'.cell? ⟨w.heap.size + 1, 0, none⟩ = some (.string tq) ∧ w'.cell? ⟨w.heap.size + 1, 1, none⟩ = some (.string uq) ∧ w'.cell? ⟨w.heap.size + 1, 2, none⟩ = some (.slice B pso.length cb))
      (first | go_keep | exact writes_keep HM2.out HO2.out HB.out)
      (first
        | (go_at_call 13; (with_reducible refine (HFM.out _ A ca (HPA.out.below (by first | exact HB.out | exact HB.out.drew))).mono ?_); rintro e w3 ⟨A3, c3, rfl, hp3, b3⟩
           have HPM := Lib.hid hp3
           have HB := Lib.hid (below_on (w := _) (by first | exact HB.out | exact HB.out.drew) b3)
           clear hp3 b3)
        | (go_at_call 12; (with_reducible refine (HGM.out _ _ _ HPM.out).mono ?_); rintro e w3 ⟨rfl, b3⟩
           have HB := Lib.hid (below_on HB.out b3)
           clear b3)
        | (go_at_call 15; (with_reducible refine (HGR.out _ A ca (HPA.out.below HB.out)).mono ?_); rintro e w3 ⟨rfl, b3⟩
           have HB := Lib.hid (below_on HB.out b3)
           clear b3)
        | (go_at_call 11; (with_reducible refine (HSE.out _ _ _ HPM.out).mono ?_); rintro e w3 ⟨rfl, b3⟩
           have HB := Lib.hid (below_on HB.out b3)
           clear b3)
        | (go_at_call 16; (with_reducible refine (HEE.out _ _ _).mono ?_); rintro e w3 ⟨rfl, b3⟩
           have HB := Lib.hid (below_on HB.out b3)
           clear b3)
        | (go_at_call 13; (with_reducible refine (HFO.out _ B cb (HPB.out.below HB.out)).mono ?_); rintro e w3 ⟨B3, d3, rfl, hp3, b3⟩
           have HPO := Lib.hid hp3
           have HPM := Lib.hid (HPM.out.below b3)
           have HB := Lib.hid (below_on HB.out b3)
           clear hp3 b3)
        | (go_at_call 17; (with_reducible refine (HSM.out _ _ _ _ _ HPM.out HPO.out).mono ?_); rintro e w3 ⟨rfl, b3⟩
           have HB := Lib.hid (below_on HB.out b3)
           clear b3)
        | (go_at_call 9; (with_reducible refine (HRS.out _ A B ca cb (HPA.out.below HB.out) (HPB.out.below HB.out)).mono ?_); rintro e w3 ⟨rfl, b3⟩
           have HB := Lib.hid (below_on HB.out b3)
           clear b3))
    all_goals
      have HM3 := Lib.hid (HM2.out.below HB.out HM2.out.lt)
      have HPA3 := Lib.hid (HPA.out.below HB.out)
      have HB3 := Lib.hid (below_on HB2.out HB.out)
      clear HM2 HPA HPB HB2 HO2 c0 c1 c2 d0 d1 d2 HB HSM HRS HFM HFO HEE
      have e0 := HM3.out.cell 0
      have e1 := HM3.out.cell 1
      have e2 := HM3.out.cell 2
      cases G
      · go_wp2_with fail
        refine (HGR.out _ A ca HPA3.out).mono ?_
        rintro e w4 ⟨rfl, b4⟩
        have HB4 := Lib.hid (below_on HB3.out b4)
        clear b4
        go_wp2_with fail
        refine (HLV.out _).mono ?_
        rintro e w5 ⟨rfl, b5⟩
        have HB5 := Lib.hid (below_on HB4.out b5)
        clear b5
        go_wp2
        go_ret
        exact ⟨rfl, HB5.out⟩
      · obtain ⟨P, hP, hPs, hPT, hPY, hP1, hP2, hP3⟩ := HTX.out rfl
        have HPP := Lib.hid (fun W => parse_says (s := P) W hPs hPT hPY)
        rw [hP1, hP2, hP3] at HPP
        have hSP : serM tm um psm = P := hP
        go_wp2_with fail
        refine (HGR.out _ A ca HPA3.out).mono ?_
        rintro e w4 ⟨rfl, b4⟩
        have HB4 := Lib.hid (below_on HB3.out b4)
        have HM4 := Lib.hid (HM3.out.below b4 HM3.out.lt)
        have HPA4 := Lib.hid (HPA3.out.below b4)
        clear b4 HB3 HM3 HPA3 e0 e1 e2
        go_wp2_with fail
        try rw [HS.out]
        rw [hSP]
        refine (HPP.out _).mono ?_
        rintro e w5 ⟨D, cd, rfl, hpd, b5⟩
        have HB5 := Lib.hid (below_on HB4.out b5)
        have HM5 := Lib.hid (HM4.out.below b5 HM4.out.lt)
        have HPA5 := Lib.hid (HPA4.out.below b5)
        have HD5 := Lib.hid hpd
        clear b5 hpd HB4 HM4 HPA4
        obtain ⟨w6, hw6⟩ : ∃ w6, w6 = w5.alloc (.cells #[.string tm, .string um, .slice D psm.length cd] 25) := ⟨_, rfl⟩
        have b6 : Below w5.heap.size w5 w6 := by rw [hw6]; exact (Below.refl _ _).alloc (Nat.le_refl _) _
        have HX6 := Lib.hid (show Blk w6 w5.heap.size 25 #[.string tm, .string um, .slice D psm.length cd] from by rw [hw6]; exact Blk.new _ _ _)
        have HB6 := Lib.hid (below_on HB5.out b6)
        have HM6 := Lib.hid (HM5.out.below b6 HM5.out.lt)
        have HPA6 := Lib.hid (HPA5.out.below b6)
        have HD6 := Lib.hid (HD5.out.below b6)
        have hml := HM5.out.lt
        have e0 := HM5.out.cell 0
        have e1 := HM5.out.cell 1
        have e2 := HM5.out.cell 2
        have hne : w5.heap.size ≠ w.heap.size := by omega
        have hne2 : w.heap.size ≠ w5.heap.size := by omega
        clear b6 HB5 HM5 HPA5 HD5
        go_wp2_with fail
        rw [← hw6]
        clear hw6
        refine (HRT.out _ D A cd ca HD6.out HPA6.out).mono ?_
        rintro e w7 ⟨rfl, b7⟩
        have HB7 := Lib.hid (below_on HB6.out b7)
        clear b7
        go_wp2_with fail
        refine (HLV.out _).mono ?_
        rintro e w8 ⟨rfl, b8⟩
        have HB8 := Lib.hid (below_on HB7.out b8)
        clear b8
        go_wp2
        go_ret
        exact ⟨rfl, HB8.out⟩

end Go.Proofs.Ytancilcfbhfopaa
