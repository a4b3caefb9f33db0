/-
  The law MimeParams returns true of any type and two texts. Condition: texts are as long as a length can be; what an argument's reading gives.
-/
import Derived.Test.YtancilcfbhfopaaMwr
namespace Go.Proofs.Ytancilcfbhfopaa
open Go.RowKit

theorem few_again_own {t u : ByteArray} {ps : List Prm} (h : FewIs t u ps) {A : Option Addr} (c : Nat) (W : World) (hp : PsIn W A ps) :
    Calls Try.prog 13 #[mimV t u A ps.length c] W fun e w' => ∃ A' c', e = .returned (mimV t u A' ps.length c') ∧ w'.ownsRow W.heap.size 39 2 (.slice A' ps.length c') ps.length (prmL ps) ∧ Below W.heap.size W w' := by
  have h1 := few_any t u A ps.length c (fun i => ps.getD i ⟨⟨#[]⟩, ⟨#[]⟩⟩) W (Came.of_ps hp (h.mim hp).all _) (by have := h.t; omega) (by have := h.u; omega) (by have := h.n; omega)
  rw [cutB_id h.t, cutB_id h.u, show min ps.length 6 = ps.length from by have := h.n; omega, fewK_id h.all] at h1
  exact h1
theorem good_snoc (t u : ByteArray) (ps : List Prm) (p : Prm) : goodM t u (ps ++ [p]) = (withOk t u ps p && !seenB ps p.n) := by
  unfold withOk goodM
  rw [goodL_append]
  simp only [goodL, List.nil_append, Bool.and_true]
  cases nameB t <;> cases nameB u <;> cases goodL [] ps <;> simp
/-- A name that stands in a good list is a good one. -/
theorem seen_name : ∀ (ps b : List Prm) (x : ByteArray), goodL b ps = true → seenB ps x = true → nameB x = true
  | [], _, _, _, h => by cases h
  | p :: r, b, x, hg, h => by
    rw [goodL, Bool.and_eq_true, Bool.and_eq_true] at hg
    have h2 : (eqS p.n x || seenB r x) = true := h
    rw [Bool.or_eq_true] at h2
    rcases h2 with h3 | h3
    · have h4 := hg.1.1
      unfold prmB at h4
      rw [Bool.and_eq_true] at h4
      rw [← eqS_eq h3]
      exact h4.1
    · exact seen_name r _ x hg.2 h3
theorem news_two' (w : World) (n v : ByteArray) : ∀ j u, ([.string n, .string v] : List Value)[j]? = some u → (w.alloc (.cells #[.string n, .string v] 39)).cell? ((⟨w.heap.size, 0, none⟩ : Addr).add j) = some u := fun j u hj => by
  have e : (⟨w.heap.size, 0, none⟩ : Addr).add j = ⟨w.heap.size, j, none⟩ := by cases j <;> simp [Addr.add]
  rw [e, (Blk.new w 39 #[.string n, .string v]).cell]
  simpa using hj
theorem own_far {W W' : World} {base : Nat} {e : TypeId} {size : Nat} {g n cap : Nat} {xs : List Value} {r : List Nat} (h : W.ownsRow base e size (.slice (some ⟨g, 0, none⟩) n cap) n xs) (hm : Mv W.heap.size r W W') (hr : g ∉ r) : W'.ownsRow base e size (.slice (some ⟨g, 0, none⟩) n cap) n xs := by
  refine ⟨h.1, ?_⟩
  rcases h.2 with ⟨hn, _⟩ | ⟨g', cap', cur, e1, hb, hg, rest⟩
  · cases hn
  · cases e1
    exact .inr ⟨g, cap, cur, rfl, hb, (hm.block g (Array.getElem?_eq_some_iff.1 hg).1 hr).trans hg, rest⟩
theorem FewIs.more {t u : ByteArray} {ps : List Prm} (h : FewIs t u ps) {p : Prm} (h1 : p.n.size ≤ 20) (h2 : p.v.size ≤ 30) {W : World} {A : Option Addr} (hp : PsIn W A (ps ++ [p])) : MimIn W t u A (ps ++ [p]) :=
  ⟨hp, AllIn.snoc (fun q hq => by have := h.all q hq; omega) (by omega) (by omega), by have := h.t; omega, by have := h.u; omega, by have := h.n; simp; omega⟩

set_option maxHeartbeats 4000000 in
set_option maxRecDepth 100000 in
theorem params_true (mt mu nm vl tm um xn xv : ByteArray) (psm : List Prm) (A0 : Option Addr) (n c : Nat) (w : World) (hm : FewIs tm um psm) (hxn : xn.size ≤ 20) (hxv : xv.size ≤ 30) (hs : seenB psm xn = true)
    (HF : Hid (∀ W, Below w.heap.size w W → Calls Try.prog 13 #[mimV mt mu A0 n c] W fun e w' => ∃ A' c', e = .returned (mimV tm um A' psm.length c') ∧ w'.ownsRow W.heap.size 39 2 (.slice A' psm.length c') psm.length (prmL psm) ∧ Below W.heap.size W w'))
    (HC1 : Hid (∀ W, Calls Try.prog 6 #[.string nm, .int .i64 20] W fun e w' => e = .returned (.string xn) ∧ W = w'))
    (HC2 : Hid (∀ W, Calls Try.prog 6 #[.string vl, .int .i64 30] W fun e w' => e = .returned (.string xv) ∧ W = w')) :
    Calls Try.prog 5 #[mimV mt mu A0 n c, .string nm, .string vl] w fun e w' => e = .returned (.bool true) ∧ Below w.heap.size w w' := by
  obtain ⟨i0, hi, hz0, hz1, hz2⟩ := info_parts Try.infoPrm

  obtain ⟨w0, hw0⟩ : ∃ w0, w0 = w.alloc (.cells #[.string mt, .string mu, .slice A0 n c] 25) := ⟨_, rfl⟩
  have HB0 := Lib.hid (show Below w.heap.size w w0 from by rw [hw0]; exact (Below.refl w.heap.size w).alloc (Nat.le_refl _) _)
  have HM0 := Lib.hid (show Blk w0 w.heap.size 25 #[.string mt, .string mu, .slice A0 n c] from by rw [hw0]; exact Blk.new _ _ _)
  have hs0 : w.heap.size < w0.heap.size := HM0.out.lt
  have c0 := HM0.out.cell 0
  have c1 := HM0.out.cell 1
  have c2 := HM0.out.cell 2
  have hln : psm.length ≤ 6 := hm.n
  have HFM := Lib.hid (fun W A c (hp : PsIn W A psm) => few_again hm c W hp)
  have HFO := Lib.hid (fun W A c (hp : PsIn W A psm) => few_again_own hm c W hp)
  have HPM := Lib.hid (fun W A c (hp : PsIn W A psm) => param_any tm um A psm c xn W hp (by omega))
  have HAT := Lib.hid (fun W A c (hp : PsIn W A psm) => rAt_any tm um A psm c xn W hp (by omega))
  have HWI := Lib.hid (fun W A c (hp : PsIn W A psm) => with_any tm um A psm c ⟨xn, xv⟩ W (hm.mim hp) (by simp only; omega) (by simp only; omega))
  have HGM := Lib.hid (fun W A c (hp : PsIn W A psm) => rgood_any tm um A psm c W (hm.mim hp))
  have HGY := Lib.hid (fun W A c (hp : PsIn W A (psm ++ [⟨xn, xv⟩])) => rgood_any tm um A (psm ++ [⟨xn, xv⟩]) c W (hm.more hxn hxv hp))
  rw [good_snoc] at HGY
  simp only at HWI HGY
  have HQV := Lib.hid (fun W => rQuoted_any xv W (by omega))
  have HLV := Lib.hid lives10_any
  have HZZ := Lib.hid (fun W => show Calls Try.prog 9 #[mimV ⟨#[]⟩ ⟨#[]⟩ none 0 0, mimV ⟨#[]⟩ ⟨#[]⟩ none 0 0] W fun e w' => e = .returned (.bool true) ∧ Below W.heap.size W w' from by
    have := rsame_any ⟨#[]⟩ ⟨#[]⟩ ⟨#[]⟩ ⟨#[]⟩ none none [] [] 0 0 W (PsIn.nil _ _) (PsIn.nil _ _) (Nat.zero_le _) (Nat.zero_le _)
    rw [sameM_self] at this
    exact this)
  have HRT := Lib.hid (fun W A B c d (hp : PsIn W A (psm ++ [⟨xn, xv⟩])) (hq : PsIn W B (psm ++ [⟨xn, xv⟩])) => rsame_any tm um tm um A B (psm ++ [⟨xn, xv⟩]) (psm ++ [⟨xn, xv⟩]) c d W hp hq (by simp; omega) (by simp; omega))
  rw [sameM_self] at HRT
  have hl1 : (psm ++ [(⟨xn, xv⟩ : Prm)]).length = psm.length + 1 := by simp
  rw [hl1] at HGY HRT HWI
  clear hl1
  have hge := atI_ge psm xn
  rw [hs] at hge
  rw [hs] at HPM HWI HGY
  obtain ⟨k, hk⟩ : ∃ k, k = atN psm xn := ⟨_, rfl⟩
  have hkl : k < psm.length := by
    have := atN_seen psm xn
    rw [hs] at this
    rw [hk]
    exact of_decide_eq_true this
  have hatk : atI psm xn = (k : Int) := by unfold atI; rw [← hk, if_pos hkl]
  have hpv : parV psm xn = psm[k].v := by unfold parV; simp only [← hk]; rw [dif_pos hkl]
  rw [hatk] at HAT hge
  rw [hpv] at HPM
  clear hge hk hatk hpv
  go_enter Try.func5, Try.ntmps5
  go_wp2_with fail
  rw [← hw0]
  clear hw0
  refine (HF.out _ HB0.out).mono ?_
  rintro e w1 ⟨A, ca, rfl, ho1, b1⟩
  have HO1 := Lib.hid (own_base (b := w.heap.size + 1) ho1 (by omega))
  have HB1 := Lib.hid (below_on HB0.out b1)
  have HM1 := Lib.hid (HM0.out.below b1 HM0.out.lt)
  clear ho1 b1 HB0 HM0 c0 c1 c2 HF
  have c0 := HM1.out.cell 0
  have c1 := HM1.out.cell 1
  have c2 := HM1.out.cell 2
  have z0 := HM1.out.frozen 0
  have z1 := HM1.out.frozen 1
  have z2 := HM1.out.frozen 2
  go_wp2_with fail
  refine (HC1.out _).mono ?_
  rintro e wx ⟨rfl, rfl⟩
  go_wp2_with fail
  refine (HC2.out _).mono ?_
  rintro e wx ⟨rfl, rfl⟩
  obtain ⟨w2, hw2⟩ : ∃ w2, w2 = ((w1.setCell ⟨w.heap.size, 0, none⟩ (.string tm)).setCell ⟨w.heap.size, 1, none⟩ (.string um)).setCell ⟨w.heap.size, 2, none⟩ (.slice A psm.length ca) := ⟨_, rfl⟩
  have hmv : Mv w1.heap.size [w.heap.size] w1 w2 := by rw [hw2]; exact (((Mv.refl _ _ _).setCell (.inl (by simp)) _).setCell (.inl (by simp)) _).setCell (.inl (by simp)) _
  have HA2 := Lib.hid (show PsIn w2 A psm from by
    obtain ⟨A2, c2, e2, p2⟩ := PsIn.of_own (own_keep HO1.out hmv (fun x hx => by simp at hx; omega))
    cases e2
    exact p2)
  have HM2 := Lib.hid (show Blk w2 w.heap.size 25 #[.string tm, .string um, .slice A psm.length ca] from by rw [hw2]; exact ((HM1.out.set_ 0 _).set_ 1 _).set_ 2 _)
  have HB2 := Lib.hid (show Below w.heap.size w w2 from by rw [hw2]; exact ((HB1.out.setCell (by exact Nat.le_refl _) _).setCell (by exact Nat.le_refl _) _).setCell (by exact Nat.le_refl _) _)
  have e0 := HM2.out.cell 0
  have e1 := HM2.out.cell 1
  have e2 := HM2.out.cell 2
  rw [hw2] at e0 e1 e2
  go_wp2_with fail
  rw [← hw2]
  clear hw2 hmv HO1 HM1 HB1 c0 c1 c2 z0 z1 z2 e0 e1 e2
  refine (HFM.out _ A ca HA2.out).mono ?_
  rintro e w3 ⟨A3, c3, rfl, hp3, b3⟩
  have HP3 := Lib.hid hp3
  have HA3 := Lib.hid (HA2.out.below b3)
  have HM3 := Lib.hid (HM2.out.below b3 HM2.out.lt)
  have HB3 := Lib.hid (below_on HB2.out b3)
  clear b3 HA2 HM2 HB2
  clear hp3
  go_wp2_with fail
  refine (HPM.out _ A3 c3 HP3.out).mono ?_
  rintro e w4 ⟨rfl, b4⟩
  have HA4 := Lib.hid (HA3.out.below b4)
  have HM4 := Lib.hid (HM3.out.below b4 HM3.out.lt)
  have HB4 := Lib.hid (below_on HB3.out b4)
  clear b4 HA3 HM3 HB3
  clear HP3
  have e0 := HM4.out.cell 0
  have e1 := HM4.out.cell 1
  have e2 := HM4.out.cell 2
  go_wp2_with fail
  refine (HAT.out _ A ca HA4.out).mono ?_
  rintro e w5 ⟨rfl, b5⟩
  have HA5 := Lib.hid (HA4.out.below b5)
  have HM5 := Lib.hid (HM4.out.below b5 HM4.out.lt)
  have HB5 := Lib.hid (below_on HB4.out b5)
  clear b5 HA4 HM4 HB4
  clear e0 e1 e2
  have e0 := HM5.out.cell 0
  have e1 := HM5.out.cell 1
  have e2 := HM5.out.cell 2
  obtain ⟨g, rfl, hg1, hq0, hq1⟩ := HA5.out k hkl
  have hkl2 : (k : Int) < (psm.length : Int) := by omega
  go_wp2_with fail
  refine (HFM.out _ _ ca HA5.out).mono ?_
  rintro e w6 ⟨A6, c6, rfl, hp6, b6⟩
  have HP6 := Lib.hid hp6
  have HA6 := Lib.hid (HA5.out.below b6)
  have HM6 := Lib.hid (HM5.out.below b6 HM5.out.lt)
  have HB6 := Lib.hid (below_on HB5.out b6)
  clear b6 HA5 HM5 HB5
  clear hp6 e0 e1 e2
  go_wp2_with fail
  refine (HWI.out _ A6 c6 HP6.out).mono ?_
  rintro e w7 ⟨hw1, hw2, hw3, b7⟩
  have HA7 := Lib.hid (HA6.out.below b7)
  have HM7 := Lib.hid (HM6.out.below b7 HM6.out.lt)
  have HB7 := Lib.hid (below_on HB6.out b7)
  clear b7 HA6 HM6 HB6
  clear HP6
  cases hwo : withOk tm um psm ⟨xn, xv⟩
  · skip
    obtain rfl := hw1 hwo
    have hgy2 : (withOk tm um psm ⟨xn, xv⟩ && !true) = false := by rw [hwo]; rfl
    rw [hgy2] at HGY
    clear hgy2
    clear hw1 hw2 hw3

    obtain ⟨w8, hw8⟩ : ∃ w8, w8 = w7.alloc (.cells #[.string ⟨#[]⟩, .string ⟨#[]⟩, .slice none 0 0] 25) := ⟨_, rfl⟩
    have b8 : Below w7.heap.size w7 w8 := by rw [hw8]; exact (Below.refl _ _).alloc (Nat.le_refl _) _
    have HX8 := Lib.hid (show Blk w8 w7.heap.size 25 #[.string ⟨#[]⟩, .string ⟨#[]⟩, .slice none 0 0] from by rw [hw8]; exact Blk.new _ _ _)
    have hm7 := HM7.out.lt
    have HA8 := Lib.hid (HA7.out.below b8)
    have HM8 := Lib.hid (HM7.out.below b8 HM7.out.lt)
    have HB8 := Lib.hid (below_on HB7.out b8)
    clear b8 HA7 HM7 HB7
    have e0 := HM8.out.cell 0
    have e1 := HM8.out.cell 1
    have e2 := HM8.out.cell 2
    rw [hw8] at e0 e1 e2
    go_wp2_with fail
    rw [← hw8]
    clear hw8 e0 e1 e2
    have hx8 := HX8.out.lt
    generalize w7.heap.size = xb at *
    refine (HFO.out _ _ ca HA8.out).mono ?_
    rintro e w9 ⟨D, d, rfl, ho9, b9⟩
    have HO9 := Lib.hid ho9
    have h89 := b9.size
    have HL9 := Lib.hid b9
    have HK8 := Lib.hid HA8.out
    have HA9 := Lib.hid (HA8.out.below b9)
    have HM9 := Lib.hid (HM8.out.below b9 HM8.out.lt)
    have HB9 := Lib.hid (below_on HB8.out b9)
    have HX9 := Lib.hid (HX8.out.below b9 HX8.out.lt)
    clear b9 HA8 HM8 HB8 HX8
    clear ho9
    obtain ⟨w10, hw10⟩ : ∃ w10, w10 = w9.alloc (.cells #[.string tm, .string um, .slice D psm.length d] 25) := ⟨_, rfl⟩
    have b10 : Below w9.heap.size w9 w10 := by rw [hw10]; exact (Below.refl _ _).alloc (Nat.le_refl _) _
    have HY10 := Lib.hid (show Blk w10 w9.heap.size 25 #[.string tm, .string um, .slice D psm.length d] from by rw [hw10]; exact Blk.new _ _ _)
    have HO10 := Lib.hid (own_keep HO9.out (Mv.of_below b10 []) (by simp))
    have h910 := HY10.out.lt
    have HL10 := Lib.hid (below_on HL9.out b10)
    have hob := HO9.out.lt
    have HA10 := Lib.hid (HA9.out.below b10)
    have HM10 := Lib.hid (HM9.out.below b10 HM9.out.lt)
    have HB10 := Lib.hid (below_on HB9.out b10)
    have HX10 := Lib.hid (HX9.out.below b10 HX9.out.lt)
    clear b10 HA9 HM9 HB9 HX9
    have y2 := HY10.out.cell 2
    go_upto_region 8 with fail
    rw [← hw10]
    clear hw10
    go_wp2_with (at_builtin; refine wpList_append_lies _ rfl _ _ 23 rfl w8.heap.size 39 i0 _ 2 32 Try.underlying23 hi hz0 hz1 hz2 rfl (by decide) _ psm.length (prmL psm) rfl (HO10.out.alloc _) ⟨w10.heap.size, 0, none⟩ 1 1 [.string xn, .string xv] rfl rfl (news_two' w10 xn xv) two_one (by decide) (by unfold maxLen; omega) (by omega) (by simp; omega) _ rfl ?_)
    intro g2 cap2 w11 hown11 hgrow11 hat11 hlt11
    clear y2
    generalize w9.heap.size = yb at *
    have hown11' : w11.ownsRow w8.heap.size 39 2 (.slice (some ⟨g2, 0, none⟩) (psm ++ [(⟨xn, xv⟩ : Prm)]).length cap2) (psm ++ [(⟨xn, xv⟩ : Prm)]).length (prmL (psm ++ [⟨xn, xv⟩])) := by
      rw [prmL_snoc, List.length_append]
      exact hown11
    have hb11 : Below w8.heap.size w10 w11 := ((Below.refl w8.heap.size w10).alloc (by omega) _).grown hgrow11 (by simp; omega) (fun g hg => (hob g hg).1)
    have hyb : Blk w11 yb 25 #[.string tm, .string um, .slice D psm.length d] := (hgrow11.block yb (by simp; omega) (fun e => by have := (hob yb e.symm).2; omega)).trans (HY10.out.alloc _)
    have hgy : g2 ≠ yb := by
      rcases hat11 with h1 | h1
      · have := (hob g2 h1).2; omega
      · rw [h1]; simp; omega
    have HL11 := Lib.hid (HL10.out.trans hb11)
    have HM11 := Lib.hid (HM10.out.below hb11 (by omega))
    have HX11 := Lib.hid (HX10.out.below hb11 (by omega))
    have HB11 := Lib.hid (HB10.out.trans (hb11.mono (by omega)))
    have f0 := hyb.cell 0
    have f1 := hyb.cell 1
    have f2 := hyb.cell 2
    have q2 := hyb.frozen 2
    have hy11 := hyb.lt
    obtain ⟨w12, hw12⟩ : ∃ w12, w12 = w11.setCell ⟨yb, 2, none⟩ (.slice (some ⟨g2, 0, none⟩) (psm.length + 1) cap2) := ⟨_, rfl⟩
    have HY12 := Lib.hid (show Blk w12 yb 25 #[.string tm, .string um, .slice (some ⟨g2, 0, none⟩) (psm.length + 1) cap2] from by rw [hw12]; exact hyb.set_ 2 _)
    have HPY12 := Lib.hid (show PsIn w12 (some ⟨g2, 0, none⟩) (psm ++ [⟨xn, xv⟩]) from by
      obtain ⟨A9, c9, e9, p9⟩ := PsIn.of_own (own_far (W' := w12) (r := [yb]) hown11' (by rw [hw12]; exact (Mv.refl _ _ _).setCell (.inl (by simp)) _) (by simpa using hgy))
      cases e9
      exact p9)
    have HL12 := Lib.hid (show Below w8.heap.size w8 w12 from by rw [hw12]; exact HL11.out.setCell (by show w8.heap.size ≤ yb; omega) _)
    have HA12 := Lib.hid (HK8.out.below HL12.out)
    have HM12 := Lib.hid (show Blk w12 w.heap.size 25 _ from by rw [hw12]; exact HM11.out.far (by show w.heap.size ≠ yb; omega) _)
    have HX12 := Lib.hid (show Blk w12 xb 25 _ from by rw [hw12]; exact HX11.out.far (by show xb ≠ yb; omega) _)
    have HB12 := Lib.hid (show Below w.heap.size w w12 from by rw [hw12]; exact HB11.out.setCell (by show w.heap.size ≤ yb; omega) _)
    clear hown11 hown11' hgrow11 hat11 hlt11 hb11 hyb hgy HL11 HM11 HX11 HB11 HA10 HM10 HB10 HX10 HY10 HO10 HO9 HL9 HL10 HL12 HK8 hob
    have k0 := HY12.out.cell 0
    have k1 := HY12.out.cell 1
    have k2 := HY12.out.cell 2
    rw [hw12] at k0 k1 k2
    go_wp2_with fail
    rw [← hw12]
    clear hw12 f0 f1 f2 q2 k0 k1 k2
    refine (HGY.out _ _ cap2 HPY12.out).mono ?_
    rintro e w13 ⟨rfl, b13⟩
    have HA13 := Lib.hid (HA12.out.below b13)
    have HM13 := Lib.hid (HM12.out.below b13 HM12.out.lt)
    have HB13 := Lib.hid (below_on HB12.out b13)
    have HX13 := Lib.hid (HX12.out.below b13 HX12.out.lt)
    clear b13 HA12 HM12 HB12 HX12
    clear HY12 HPY12
    have m0 := HM13.out.cell 0
    have m1 := HM13.out.cell 1
    have m2 := HM13.out.cell 2
    cases hgm : goodM tm um psm
    · skip
      rw [hgm] at HGM
      clear hgm hwo
      go_wp2_with fail
      refine (HGM.out _ _ ca HA13.out).mono ?_
      rintro e w14 ⟨rfl, b14⟩
      have HM14 := Lib.hid (HM13.out.below b14 HM13.out.lt)
      have HB14 := Lib.hid (below_on HB13.out b14)
      have HX14 := Lib.hid (HX13.out.below b14 HX13.out.lt)
      clear b14 HM13 HB13 HX13
      clear HA13
      have j0 := HX14.out.cell 0
      have j1 := HX14.out.cell 1
      have j2 := HX14.out.cell 2
      go_wp2_with fail
      refine (HZZ.out _).mono ?_
      rintro e w15 ⟨rfl, b15⟩
      have HB15 := Lib.hid (below_on HB14.out b15)
      clear b15
      go_wp2_with fail
      refine (HLV.out _).mono ?_
      rintro e w16 ⟨rfl, b16⟩
      have HB16 := Lib.hid (below_on HB15.out b16)
      clear b16
      go_wp2
      go_ret
      exact ⟨rfl, HB16.out⟩
    · skip
      have hqv : allB quoB xv = false := by
        unfold withOk prmB at hwo
        rw [hgm] at hwo
        have hgl : goodL [] psm = true := by unfold goodM at hgm; rw [Bool.and_eq_true] at hgm; exact hgm.2
        rw [seen_name psm [] xn hgl hs] at hwo
        simpa using hwo
      rw [hgm] at HGM
      rw [hqv] at HQV
      have hk0 : decide (0 ≤ (k : Int)) = true := by simp
      clear hgm hqv hwo
      go_wp2_with fail
      refine (HGM.out _ _ ca HA13.out).mono ?_
      rintro e w14 ⟨rfl, b14⟩
      have HM14 := Lib.hid (HM13.out.below b14 HM13.out.lt)
      have HB14 := Lib.hid (below_on HB13.out b14)
      have HX14 := Lib.hid (HX13.out.below b14 HX13.out.lt)
      clear b14 HM13 HB13 HX13
      clear HA13
      go_wp2_with fail
      refine (HQV.out _).mono ?_
      rintro e wq ⟨rfl, rfl⟩
      have j0 := HX14.out.cell 0
      have j1 := HX14.out.cell 1
      have j2 := HX14.out.cell 2
      go_wp2_with fail
      refine (HZZ.out _).mono ?_
      rintro e w15 ⟨rfl, b15⟩
      have HB15 := Lib.hid (below_on HB14.out b15)
      clear b15
      go_wp2_with fail
      refine (HLV.out _).mono ?_
      rintro e w16 ⟨rfl, b16⟩
      have HB16 := Lib.hid (below_on HB15.out b16)
      clear b16
      go_wp2
      go_ret
      exact ⟨rfl, HB16.out⟩
  · skip
    obtain rfl := hw2 hwo (by first | rfl | trivial)
    have hgy2 : (withOk tm um psm ⟨xn, xv⟩ && !true) = false := by rw [hwo]; rfl
    rw [hgy2] at HGY
    clear hgy2 hw1 hw2 hw3

    obtain ⟨w8, hw8⟩ : ∃ w8, w8 = w7.alloc (.cells #[.string ⟨#[]⟩, .string ⟨#[]⟩, .slice none 0 0] 25) := ⟨_, rfl⟩
    have b8 : Below w7.heap.size w7 w8 := by rw [hw8]; exact (Below.refl _ _).alloc (Nat.le_refl _) _
    have HX8 := Lib.hid (show Blk w8 w7.heap.size 25 #[.string ⟨#[]⟩, .string ⟨#[]⟩, .slice none 0 0] from by rw [hw8]; exact Blk.new _ _ _)
    have hm7 := HM7.out.lt
    have HA8 := Lib.hid (HA7.out.below b8)
    have HM8 := Lib.hid (HM7.out.below b8 HM7.out.lt)
    have HB8 := Lib.hid (below_on HB7.out b8)
    clear b8 HA7 HM7 HB7
    have e0 := HM8.out.cell 0
    have e1 := HM8.out.cell 1
    have e2 := HM8.out.cell 2
    rw [hw8] at e0 e1 e2
    go_wp2_with fail
    rw [← hw8]
    clear hw8 e0 e1 e2
    have hx8 := HX8.out.lt
    generalize w7.heap.size = xb at *
    refine (HFO.out _ _ ca HA8.out).mono ?_
    rintro e w9 ⟨D, d, rfl, ho9, b9⟩
    have HO9 := Lib.hid ho9
    have h89 := b9.size
    have HL9 := Lib.hid b9
    have HK8 := Lib.hid HA8.out
    have HA9 := Lib.hid (HA8.out.below b9)
    have HM9 := Lib.hid (HM8.out.below b9 HM8.out.lt)
    have HB9 := Lib.hid (below_on HB8.out b9)
    have HX9 := Lib.hid (HX8.out.below b9 HX8.out.lt)
    clear b9 HA8 HM8 HB8 HX8
    clear ho9
    obtain ⟨w10, hw10⟩ : ∃ w10, w10 = w9.alloc (.cells #[.string tm, .string um, .slice D psm.length d] 25) := ⟨_, rfl⟩
    have b10 : Below w9.heap.size w9 w10 := by rw [hw10]; exact (Below.refl _ _).alloc (Nat.le_refl _) _
    have HY10 := Lib.hid (show Blk w10 w9.heap.size 25 #[.string tm, .string um, .slice D psm.length d] from by rw [hw10]; exact Blk.new _ _ _)
    have HO10 := Lib.hid (own_keep HO9.out (Mv.of_below b10 []) (by simp))
    have h910 := HY10.out.lt
    have HL10 := Lib.hid (below_on HL9.out b10)
    have hob := HO9.out.lt
    have HA10 := Lib.hid (HA9.out.below b10)
    have HM10 := Lib.hid (HM9.out.below b10 HM9.out.lt)
    have HB10 := Lib.hid (below_on HB9.out b10)
    have HX10 := Lib.hid (HX9.out.below b10 HX9.out.lt)
    clear b10 HA9 HM9 HB9 HX9
    have y2 := HY10.out.cell 2
    go_upto_region 8 with fail
    rw [← hw10]
    clear hw10
    go_wp2_with (at_builtin; refine wpList_append_lies _ rfl _ _ 23 rfl w8.heap.size 39 i0 _ 2 32 Try.underlying23 hi hz0 hz1 hz2 rfl (by decide) _ psm.length (prmL psm) rfl (HO10.out.alloc _) ⟨w10.heap.size, 0, none⟩ 1 1 [.string xn, .string xv] rfl rfl (news_two' w10 xn xv) two_one (by decide) (by unfold maxLen; omega) (by omega) (by simp; omega) _ rfl ?_)
    intro g2 cap2 w11 hown11 hgrow11 hat11 hlt11
    clear y2
    generalize w9.heap.size = yb at *
    have hown11' : w11.ownsRow w8.heap.size 39 2 (.slice (some ⟨g2, 0, none⟩) (psm ++ [(⟨xn, xv⟩ : Prm)]).length cap2) (psm ++ [(⟨xn, xv⟩ : Prm)]).length (prmL (psm ++ [⟨xn, xv⟩])) := by
      rw [prmL_snoc, List.length_append]
      exact hown11
    have hb11 : Below w8.heap.size w10 w11 := ((Below.refl w8.heap.size w10).alloc (by omega) _).grown hgrow11 (by simp; omega) (fun g hg => (hob g hg).1)
    have hyb : Blk w11 yb 25 #[.string tm, .string um, .slice D psm.length d] := (hgrow11.block yb (by simp; omega) (fun e => by have := (hob yb e.symm).2; omega)).trans (HY10.out.alloc _)
    have hgy : g2 ≠ yb := by
      rcases hat11 with h1 | h1
      · have := (hob g2 h1).2; omega
      · rw [h1]; simp; omega
    have HL11 := Lib.hid (HL10.out.trans hb11)
    have HM11 := Lib.hid (HM10.out.below hb11 (by omega))
    have HX11 := Lib.hid (HX10.out.below hb11 (by omega))
    have HB11 := Lib.hid (HB10.out.trans (hb11.mono (by omega)))
    have f0 := hyb.cell 0
    have f1 := hyb.cell 1
    have f2 := hyb.cell 2
    have q2 := hyb.frozen 2
    have hy11 := hyb.lt
    obtain ⟨w12, hw12⟩ : ∃ w12, w12 = w11.setCell ⟨yb, 2, none⟩ (.slice (some ⟨g2, 0, none⟩) (psm.length + 1) cap2) := ⟨_, rfl⟩
    have HY12 := Lib.hid (show Blk w12 yb 25 #[.string tm, .string um, .slice (some ⟨g2, 0, none⟩) (psm.length + 1) cap2] from by rw [hw12]; exact hyb.set_ 2 _)
    have HPY12 := Lib.hid (show PsIn w12 (some ⟨g2, 0, none⟩) (psm ++ [⟨xn, xv⟩]) from by
      obtain ⟨A9, c9, e9, p9⟩ := PsIn.of_own (own_far (W' := w12) (r := [yb]) hown11' (by rw [hw12]; exact (Mv.refl _ _ _).setCell (.inl (by simp)) _) (by simpa using hgy))
      cases e9
      exact p9)
    have HL12 := Lib.hid (show Below w8.heap.size w8 w12 from by rw [hw12]; exact HL11.out.setCell (by show w8.heap.size ≤ yb; omega) _)
    have HA12 := Lib.hid (HK8.out.below HL12.out)
    have HM12 := Lib.hid (show Blk w12 w.heap.size 25 _ from by rw [hw12]; exact HM11.out.far (by show w.heap.size ≠ yb; omega) _)
    have HX12 := Lib.hid (show Blk w12 xb 25 _ from by rw [hw12]; exact HX11.out.far (by show xb ≠ yb; omega) _)
    have HB12 := Lib.hid (show Below w.heap.size w w12 from by rw [hw12]; exact HB11.out.setCell (by show w.heap.size ≤ yb; omega) _)
    clear hown11 hown11' hgrow11 hat11 hlt11 hb11 hyb hgy HL11 HM11 HX11 HB11 HA10 HM10 HB10 HX10 HY10 HO10 HO9 HL9 HL10 HL12 HK8 hob
    have k0 := HY12.out.cell 0
    have k1 := HY12.out.cell 1
    have k2 := HY12.out.cell 2
    rw [hw12] at k0 k1 k2
    go_wp2_with fail
    rw [← hw12]
    clear hw12 f0 f1 f2 q2 k0 k1 k2
    refine (HGY.out _ _ cap2 HPY12.out).mono ?_
    rintro e w13 ⟨rfl, b13⟩
    have HA13 := Lib.hid (HA12.out.below b13)
    have HM13 := Lib.hid (HM12.out.below b13 HM12.out.lt)
    have HB13 := Lib.hid (below_on HB12.out b13)
    have HX13 := Lib.hid (HX12.out.below b13 HX12.out.lt)
    clear b13 HA12 HM12 HB12 HX12
    clear HY12 HPY12
    have m0 := HM13.out.cell 0
    have m1 := HM13.out.cell 1
    have m2 := HM13.out.cell 2
    have hgm : goodM tm um psm = true := by unfold withOk at hwo; rw [Bool.and_eq_true] at hwo; exact hwo.1
    have hqv : allB quoB xv = true := by unfold withOk prmB at hwo; rw [Bool.and_eq_true, Bool.and_eq_true] at hwo; exact hwo.2.2
    rw [hgm] at HGM
    rw [hqv] at HQV
    have hk0 : decide (0 ≤ (k : Int)) = true := by simp
    clear hgm hqv hwo
    go_wp2_with fail
    refine (HGM.out _ _ ca HA13.out).mono ?_
    rintro e w14 ⟨rfl, b14⟩
    have HM14 := Lib.hid (HM13.out.below b14 HM13.out.lt)
    have HB14 := Lib.hid (below_on HB13.out b14)
    have HX14 := Lib.hid (HX13.out.below b14 HX13.out.lt)
    clear b14 HM13 HB13 HX13
    clear HA13
    go_wp2_with fail
    refine (HQV.out _).mono ?_
    rintro e wq ⟨rfl, rfl⟩
    have j0 := HX14.out.cell 0
    have j1 := HX14.out.cell 1
    have j2 := HX14.out.cell 2
    go_wp2_with fail
    refine (HZZ.out _).mono ?_
    rintro e w15 ⟨rfl, b15⟩
    have HB15 := Lib.hid (below_on HB14.out b15)
    clear b15
    go_wp2_with fail
    refine (HLV.out _).mono ?_
    rintro e w16 ⟨rfl, b16⟩
    have HB16 := Lib.hid (below_on HB15.out b16)
    clear b16
    go_wp2
    go_ret
    exact ⟨rfl, HB16.out⟩

set_option maxHeartbeats 4000000 in
set_option maxRecDepth 100000 in
theorem params_false (mt mu nm vl tm um xn xv : ByteArray) (psm : List Prm) (A0 : Option Addr) (n c : Nat) (w : World) (hm : FewIs tm um psm) (hxn : xn.size ≤ 20) (hxv : xv.size ≤ 30) (hs : seenB psm xn = false)
    (HF : Hid (∀ W, Below w.heap.size w W → Calls Try.prog 13 #[mimV mt mu A0 n c] W fun e w' => ∃ A' c', e = .returned (mimV tm um A' psm.length c') ∧ w'.ownsRow W.heap.size 39 2 (.slice A' psm.length c') psm.length (prmL psm) ∧ Below W.heap.size W w'))
    (HC1 : Hid (∀ W, Calls Try.prog 6 #[.string nm, .int .i64 20] W fun e w' => e = .returned (.string xn) ∧ W = w'))
    (HC2 : Hid (∀ W, Calls Try.prog 6 #[.string vl, .int .i64 30] W fun e w' => e = .returned (.string xv) ∧ W = w')) :
    Calls Try.prog 5 #[mimV mt mu A0 n c, .string nm, .string vl] w fun e w' => e = .returned (.bool true) ∧ Below w.heap.size w w' := by
  obtain ⟨i0, hi, hz0, hz1, hz2⟩ := info_parts Try.infoPrm

  obtain ⟨w0, hw0⟩ : ∃ w0, w0 = w.alloc (.cells #[.string mt, .string mu, .slice A0 n c] 25) := ⟨_, rfl⟩
  have HB0 := Lib.hid (show Below w.heap.size w w0 from by rw [hw0]; exact (Below.refl w.heap.size w).alloc (Nat.le_refl _) _)
  have HM0 := Lib.hid (show Blk w0 w.heap.size 25 #[.string mt, .string mu, .slice A0 n c] from by rw [hw0]; exact Blk.new _ _ _)
  have hs0 : w.heap.size < w0.heap.size := HM0.out.lt
  have c0 := HM0.out.cell 0
  have c1 := HM0.out.cell 1
  have c2 := HM0.out.cell 2
  have hln : psm.length ≤ 6 := hm.n
  have HFM := Lib.hid (fun W A c (hp : PsIn W A psm) => few_again hm c W hp)
  have HFO := Lib.hid (fun W A c (hp : PsIn W A psm) => few_again_own hm c W hp)
  have HPM := Lib.hid (fun W A c (hp : PsIn W A psm) => param_any tm um A psm c xn W hp (by omega))
  have HAT := Lib.hid (fun W A c (hp : PsIn W A psm) => rAt_any tm um A psm c xn W hp (by omega))
  have HWI := Lib.hid (fun W A c (hp : PsIn W A psm) => with_any tm um A psm c ⟨xn, xv⟩ W (hm.mim hp) (by simp only; omega) (by simp only; omega))
  have HGM := Lib.hid (fun W A c (hp : PsIn W A psm) => rgood_any tm um A psm c W (hm.mim hp))
  have HGY := Lib.hid (fun W A c (hp : PsIn W A (psm ++ [⟨xn, xv⟩])) => rgood_any tm um A (psm ++ [⟨xn, xv⟩]) c W (hm.more hxn hxv hp))
  rw [good_snoc] at HGY
  simp only at HWI HGY
  have HQV := Lib.hid (fun W => rQuoted_any xv W (by omega))
  have HLV := Lib.hid lives10_any
  have HZZ := Lib.hid (fun W => show Calls Try.prog 9 #[mimV ⟨#[]⟩ ⟨#[]⟩ none 0 0, mimV ⟨#[]⟩ ⟨#[]⟩ none 0 0] W fun e w' => e = .returned (.bool true) ∧ Below W.heap.size W w' from by
    have := rsame_any ⟨#[]⟩ ⟨#[]⟩ ⟨#[]⟩ ⟨#[]⟩ none none [] [] 0 0 W (PsIn.nil _ _) (PsIn.nil _ _) (Nat.zero_le _) (Nat.zero_le _)
    rw [sameM_self] at this
    exact this)
  have HRT := Lib.hid (fun W A B c d (hp : PsIn W A (psm ++ [⟨xn, xv⟩])) (hq : PsIn W B (psm ++ [⟨xn, xv⟩])) => rsame_any tm um tm um A B (psm ++ [⟨xn, xv⟩]) (psm ++ [⟨xn, xv⟩]) c d W hp hq (by simp; omega) (by simp; omega))
  rw [sameM_self] at HRT
  have hl1 : (psm ++ [(⟨xn, xv⟩ : Prm)]).length = psm.length + 1 := by simp
  rw [hl1] at HGY HRT HWI
  clear hl1
  have hge := atI_ge psm xn
  rw [hs] at hge
  rw [hs] at HPM HWI HGY
  have hpv : parV psm xn = ⟨#[]⟩ := by
    unfold parV
    rw [dif_neg]
    have := atN_seen psm xn
    rw [hs] at this
    exact of_decide_eq_false this
  rw [hpv] at HPM
  have hlt0 : decide (0 ≤ atI psm xn) = false := hge
  clear hge
  generalize atI psm xn = ati at *
  go_enter Try.func5, Try.ntmps5
  go_wp2_with fail
  rw [← hw0]
  clear hw0
  refine (HF.out _ HB0.out).mono ?_
  rintro e w1 ⟨A, ca, rfl, ho1, b1⟩
  have HO1 := Lib.hid (own_base (b := w.heap.size + 1) ho1 (by omega))
  have HB1 := Lib.hid (below_on HB0.out b1)
  have HM1 := Lib.hid (HM0.out.below b1 HM0.out.lt)
  clear ho1 b1 HB0 HM0 c0 c1 c2 HF
  have c0 := HM1.out.cell 0
  have c1 := HM1.out.cell 1
  have c2 := HM1.out.cell 2
  have z0 := HM1.out.frozen 0
  have z1 := HM1.out.frozen 1
  have z2 := HM1.out.frozen 2
  go_wp2_with fail
  refine (HC1.out _).mono ?_
  rintro e wx ⟨rfl, rfl⟩
  go_wp2_with fail
  refine (HC2.out _).mono ?_
  rintro e wx ⟨rfl, rfl⟩
  obtain ⟨w2, hw2⟩ : ∃ w2, w2 = ((w1.setCell ⟨w.heap.size, 0, none⟩ (.string tm)).setCell ⟨w.heap.size, 1, none⟩ (.string um)).setCell ⟨w.heap.size, 2, none⟩ (.slice A psm.length ca) := ⟨_, rfl⟩
  have hmv : Mv w1.heap.size [w.heap.size] w1 w2 := by rw [hw2]; exact (((Mv.refl _ _ _).setCell (.inl (by simp)) _).setCell (.inl (by simp)) _).setCell (.inl (by simp)) _
  have HA2 := Lib.hid (show PsIn w2 A psm from by
    obtain ⟨A2, c2, e2, p2⟩ := PsIn.of_own (own_keep HO1.out hmv (fun x hx => by simp at hx; omega))
    cases e2
    exact p2)
  have HM2 := Lib.hid (show Blk w2 w.heap.size 25 #[.string tm, .string um, .slice A psm.length ca] from by rw [hw2]; exact ((HM1.out.set_ 0 _).set_ 1 _).set_ 2 _)
  have HB2 := Lib.hid (show Below w.heap.size w w2 from by rw [hw2]; exact ((HB1.out.setCell (by exact Nat.le_refl _) _).setCell (by exact Nat.le_refl _) _).setCell (by exact Nat.le_refl _) _)
  have e0 := HM2.out.cell 0
  have e1 := HM2.out.cell 1
  have e2 := HM2.out.cell 2
  rw [hw2] at e0 e1 e2
  go_wp2_with fail
  rw [← hw2]
  clear hw2 hmv HO1 HM1 HB1 c0 c1 c2 z0 z1 z2 e0 e1 e2
  refine (HFM.out _ A ca HA2.out).mono ?_
  rintro e w3 ⟨A3, c3, rfl, hp3, b3⟩
  have HP3 := Lib.hid hp3
  have HA3 := Lib.hid (HA2.out.below b3)
  have HM3 := Lib.hid (HM2.out.below b3 HM2.out.lt)
  have HB3 := Lib.hid (below_on HB2.out b3)
  clear b3 HA2 HM2 HB2
  clear hp3
  go_wp2_with fail
  refine (HPM.out _ A3 c3 HP3.out).mono ?_
  rintro e w4 ⟨rfl, b4⟩
  have HA4 := Lib.hid (HA3.out.below b4)
  have HM4 := Lib.hid (HM3.out.below b4 HM3.out.lt)
  have HB4 := Lib.hid (below_on HB3.out b4)
  clear b4 HA3 HM3 HB3
  clear HP3
  have e0 := HM4.out.cell 0
  have e1 := HM4.out.cell 1
  have e2 := HM4.out.cell 2
  go_wp2_with fail
  refine (HAT.out _ A ca HA4.out).mono ?_
  rintro e w5 ⟨rfl, b5⟩
  have HA5 := Lib.hid (HA4.out.below b5)
  have HM5 := Lib.hid (HM4.out.below b5 HM4.out.lt)
  have HB5 := Lib.hid (below_on HB4.out b5)
  clear b5 HA4 HM4 HB4
  clear e0 e1 e2
  have e0 := HM5.out.cell 0
  have e1 := HM5.out.cell 1
  have e2 := HM5.out.cell 2

  go_wp2_with fail
  refine (HFM.out _ _ ca HA5.out).mono ?_
  rintro e w6 ⟨A6, c6, rfl, hp6, b6⟩
  have HP6 := Lib.hid hp6
  have HA6 := Lib.hid (HA5.out.below b6)
  have HM6 := Lib.hid (HM5.out.below b6 HM5.out.lt)
  have HB6 := Lib.hid (below_on HB5.out b6)
  clear b6 HA5 HM5 HB5
  clear hp6 e0 e1 e2
  go_wp2_with fail
  refine (HWI.out _ A6 c6 HP6.out).mono ?_
  rintro e w7 ⟨hw1, hw2, hw3, b7⟩
  have HA7 := Lib.hid (HA6.out.below b7)
  have HM7 := Lib.hid (HM6.out.below b7 HM6.out.lt)
  have HB7 := Lib.hid (below_on HB6.out b7)
  clear b7 HA6 HM6 HB6
  clear HP6
  cases hwo : withOk tm um psm ⟨xn, xv⟩
  · skip
    obtain rfl := hw1 hwo
    have hgy2 : (withOk tm um psm ⟨xn, xv⟩ && !false) = false := by rw [hwo]; rfl
    rw [hgy2] at HGY
    clear hgy2
    clear hw1 hw2 hw3

    obtain ⟨w8, hw8⟩ : ∃ w8, w8 = w7.alloc (.cells #[.string ⟨#[]⟩, .string ⟨#[]⟩, .slice none 0 0] 25) := ⟨_, rfl⟩
    have b8 : Below w7.heap.size w7 w8 := by rw [hw8]; exact (Below.refl _ _).alloc (Nat.le_refl _) _
    have HX8 := Lib.hid (show Blk w8 w7.heap.size 25 #[.string ⟨#[]⟩, .string ⟨#[]⟩, .slice none 0 0] from by rw [hw8]; exact Blk.new _ _ _)
    have hm7 := HM7.out.lt
    have HA8 := Lib.hid (HA7.out.below b8)
    have HM8 := Lib.hid (HM7.out.below b8 HM7.out.lt)
    have HB8 := Lib.hid (below_on HB7.out b8)
    clear b8 HA7 HM7 HB7
    have e0 := HM8.out.cell 0
    have e1 := HM8.out.cell 1
    have e2 := HM8.out.cell 2
    rw [hw8] at e0 e1 e2
    go_wp2_with fail
    rw [← hw8]
    clear hw8 e0 e1 e2
    have hx8 := HX8.out.lt
    generalize w7.heap.size = xb at *
    refine (HFO.out _ _ ca HA8.out).mono ?_
    rintro e w9 ⟨D, d, rfl, ho9, b9⟩
    have HO9 := Lib.hid ho9
    have h89 := b9.size
    have HL9 := Lib.hid b9
    have HK8 := Lib.hid HA8.out
    have HA9 := Lib.hid (HA8.out.below b9)
    have HM9 := Lib.hid (HM8.out.below b9 HM8.out.lt)
    have HB9 := Lib.hid (below_on HB8.out b9)
    have HX9 := Lib.hid (HX8.out.below b9 HX8.out.lt)
    clear b9 HA8 HM8 HB8 HX8
    clear ho9
    obtain ⟨w10, hw10⟩ : ∃ w10, w10 = w9.alloc (.cells #[.string tm, .string um, .slice D psm.length d] 25) := ⟨_, rfl⟩
    have b10 : Below w9.heap.size w9 w10 := by rw [hw10]; exact (Below.refl _ _).alloc (Nat.le_refl _) _
    have HY10 := Lib.hid (show Blk w10 w9.heap.size 25 #[.string tm, .string um, .slice D psm.length d] from by rw [hw10]; exact Blk.new _ _ _)
    have HO10 := Lib.hid (own_keep HO9.out (Mv.of_below b10 []) (by simp))
    have h910 := HY10.out.lt
    have HL10 := Lib.hid (below_on HL9.out b10)
    have hob := HO9.out.lt
    have HA10 := Lib.hid (HA9.out.below b10)
    have HM10 := Lib.hid (HM9.out.below b10 HM9.out.lt)
    have HB10 := Lib.hid (below_on HB9.out b10)
    have HX10 := Lib.hid (HX9.out.below b10 HX9.out.lt)
    clear b10 HA9 HM9 HB9 HX9
    have y2 := HY10.out.cell 2
    go_upto_region 8 with fail
    rw [← hw10]
    clear hw10
    go_wp2_with (at_builtin; refine wpList_append_lies _ rfl _ _ 23 rfl w8.heap.size 39 i0 _ 2 32 Try.underlying23 hi hz0 hz1 hz2 rfl (by decide) _ psm.length (prmL psm) rfl (HO10.out.alloc _) ⟨w10.heap.size, 0, none⟩ 1 1 [.string xn, .string xv] rfl rfl (news_two' w10 xn xv) two_one (by decide) (by unfold maxLen; omega) (by omega) (by simp; omega) _ rfl ?_)
    intro g2 cap2 w11 hown11 hgrow11 hat11 hlt11
    clear y2
    generalize w9.heap.size = yb at *
    have hown11' : w11.ownsRow w8.heap.size 39 2 (.slice (some ⟨g2, 0, none⟩) (psm ++ [(⟨xn, xv⟩ : Prm)]).length cap2) (psm ++ [(⟨xn, xv⟩ : Prm)]).length (prmL (psm ++ [⟨xn, xv⟩])) := by
      rw [prmL_snoc, List.length_append]
      exact hown11
    have hb11 : Below w8.heap.size w10 w11 := ((Below.refl w8.heap.size w10).alloc (by omega) _).grown hgrow11 (by simp; omega) (fun g hg => (hob g hg).1)
    have hyb : Blk w11 yb 25 #[.string tm, .string um, .slice D psm.length d] := (hgrow11.block yb (by simp; omega) (fun e => by have := (hob yb e.symm).2; omega)).trans (HY10.out.alloc _)
    have hgy : g2 ≠ yb := by
      rcases hat11 with h1 | h1
      · have := (hob g2 h1).2; omega
      · rw [h1]; simp; omega
    have HL11 := Lib.hid (HL10.out.trans hb11)
    have HM11 := Lib.hid (HM10.out.below hb11 (by omega))
    have HX11 := Lib.hid (HX10.out.below hb11 (by omega))
    have HB11 := Lib.hid (HB10.out.trans (hb11.mono (by omega)))
    have f0 := hyb.cell 0
    have f1 := hyb.cell 1
    have f2 := hyb.cell 2
    have q2 := hyb.frozen 2
    have hy11 := hyb.lt
    obtain ⟨w12, hw12⟩ : ∃ w12, w12 = w11.setCell ⟨yb, 2, none⟩ (.slice (some ⟨g2, 0, none⟩) (psm.length + 1) cap2) := ⟨_, rfl⟩
    have HY12 := Lib.hid (show Blk w12 yb 25 #[.string tm, .string um, .slice (some ⟨g2, 0, none⟩) (psm.length + 1) cap2] from by rw [hw12]; exact hyb.set_ 2 _)
    have HPY12 := Lib.hid (show PsIn w12 (some ⟨g2, 0, none⟩) (psm ++ [⟨xn, xv⟩]) from by
      obtain ⟨A9, c9, e9, p9⟩ := PsIn.of_own (own_far (W' := w12) (r := [yb]) hown11' (by rw [hw12]; exact (Mv.refl _ _ _).setCell (.inl (by simp)) _) (by simpa using hgy))
      cases e9
      exact p9)
    have HL12 := Lib.hid (show Below w8.heap.size w8 w12 from by rw [hw12]; exact HL11.out.setCell (by show w8.heap.size ≤ yb; omega) _)
    have HA12 := Lib.hid (HK8.out.below HL12.out)
    have HM12 := Lib.hid (show Blk w12 w.heap.size 25 _ from by rw [hw12]; exact HM11.out.far (by show w.heap.size ≠ yb; omega) _)
    have HX12 := Lib.hid (show Blk w12 xb 25 _ from by rw [hw12]; exact HX11.out.far (by show xb ≠ yb; omega) _)
    have HB12 := Lib.hid (show Below w.heap.size w w12 from by rw [hw12]; exact HB11.out.setCell (by show w.heap.size ≤ yb; omega) _)
    clear hown11 hown11' hgrow11 hat11 hlt11 hb11 hyb hgy HL11 HM11 HX11 HB11 HA10 HM10 HB10 HX10 HY10 HO10 HO9 HL9 HL10 HL12 HK8 hob
    have k0 := HY12.out.cell 0
    have k1 := HY12.out.cell 1
    have k2 := HY12.out.cell 2
    rw [hw12] at k0 k1 k2
    go_wp2_with fail
    rw [← hw12]
    clear hw12 f0 f1 f2 q2 k0 k1 k2
    refine (HGY.out _ _ cap2 HPY12.out).mono ?_
    rintro e w13 ⟨rfl, b13⟩
    have HA13 := Lib.hid (HA12.out.below b13)
    have HM13 := Lib.hid (HM12.out.below b13 HM12.out.lt)
    have HB13 := Lib.hid (below_on HB12.out b13)
    have HX13 := Lib.hid (HX12.out.below b13 HX12.out.lt)
    clear b13 HA12 HM12 HB12 HX12
    clear HY12 HPY12
    have m0 := HM13.out.cell 0
    have m1 := HM13.out.cell 1
    have m2 := HM13.out.cell 2
    cases hgm : goodM tm um psm
    · skip
      rw [hgm] at HGM
      clear hgm hwo
      go_wp2_with fail
      refine (HGM.out _ _ ca HA13.out).mono ?_
      rintro e w14 ⟨rfl, b14⟩
      have HM14 := Lib.hid (HM13.out.below b14 HM13.out.lt)
      have HB14 := Lib.hid (below_on HB13.out b14)
      have HX14 := Lib.hid (HX13.out.below b14 HX13.out.lt)
      clear b14 HM13 HB13 HX13
      clear HA13
      have j0 := HX14.out.cell 0
      have j1 := HX14.out.cell 1
      have j2 := HX14.out.cell 2
      go_wp2_with fail
      refine (HZZ.out _).mono ?_
      rintro e w15 ⟨rfl, b15⟩
      have HB15 := Lib.hid (below_on HB14.out b15)
      clear b15
      go_wp2_with fail
      refine (HLV.out _).mono ?_
      rintro e w16 ⟨rfl, b16⟩
      have HB16 := Lib.hid (below_on HB15.out b16)
      clear b16
      go_wp2
      go_ret
      exact ⟨rfl, HB16.out⟩
    · skip
      rw [hgm] at HGM
      clear hgm hwo
      go_wp2_with fail
      refine (HGM.out _ _ ca HA13.out).mono ?_
      rintro e w14 ⟨rfl, b14⟩
      have HM14 := Lib.hid (HM13.out.below b14 HM13.out.lt)
      have HB14 := Lib.hid (below_on HB13.out b14)
      have HX14 := Lib.hid (HX13.out.below b14 HX13.out.lt)
      clear b14 HM13 HB13 HX13
      clear HA13
      have j0 := HX14.out.cell 0
      have j1 := HX14.out.cell 1
      have j2 := HX14.out.cell 2
      go_wp2_with fail
      refine (HZZ.out _).mono ?_
      rintro e w15 ⟨rfl, b15⟩
      have HB15 := Lib.hid (below_on HB14.out b15)
      clear b15
      go_wp2_with fail
      refine (HLV.out _).mono ?_
      rintro e w16 ⟨rfl, b16⟩
      have HB16 := Lib.hid (below_on HB15.out b16)
      clear b16
      go_wp2
      go_ret
      exact ⟨rfl, HB16.out⟩
  · skip
    obtain ⟨A7, c7, rfl, hp7⟩ := hw3 hwo (by first | rfl | trivial)
    have HP7 := Lib.hid hp7
    have hgy2 : (withOk tm um psm ⟨xn, xv⟩ && !false) = true := by rw [hwo]; rfl
    rw [hgy2] at HGY
    clear hgy2 hw1 hw2 hw3 hp7 hwo

    obtain ⟨w8, hw8⟩ : ∃ w8, w8 = w7.alloc (.cells #[.string tm, .string um, .slice A7 (psm.length + 1) c7] 25) := ⟨_, rfl⟩
    have b8 : Below w7.heap.size w7 w8 := by rw [hw8]; exact (Below.refl _ _).alloc (Nat.le_refl _) _
    have HX8 := Lib.hid (show Blk w8 w7.heap.size 25 #[.string tm, .string um, .slice A7 (psm.length + 1) c7] from by rw [hw8]; exact Blk.new _ _ _)
    have hm7 := HM7.out.lt
    have HA8 := Lib.hid (HA7.out.below b8)
    have HM8 := Lib.hid (HM7.out.below b8 HM7.out.lt)
    have HB8 := Lib.hid (below_on HB7.out b8)
    have HP8 := Lib.hid (HP7.out.below b8)
    clear b8 HA7 HM7 HB7 HP7
    have e0 := HM8.out.cell 0
    have e1 := HM8.out.cell 1
    have e2 := HM8.out.cell 2
    rw [hw8] at e0 e1 e2
    go_wp2_with fail
    rw [← hw8]
    clear hw8 e0 e1 e2
    have hx8 := HX8.out.lt
    generalize w7.heap.size = xb at *
    refine (HFO.out _ _ ca HA8.out).mono ?_
    rintro e w9 ⟨D, d, rfl, ho9, b9⟩
    have HO9 := Lib.hid ho9
    have h89 := b9.size
    have HL9 := Lib.hid b9
    have HK8 := Lib.hid HA8.out
    have HQ8 := Lib.hid HP8.out
    have HA9 := Lib.hid (HA8.out.below b9)
    have HM9 := Lib.hid (HM8.out.below b9 HM8.out.lt)
    have HB9 := Lib.hid (below_on HB8.out b9)
    have HP9 := Lib.hid (HP8.out.below b9)
    have HX9 := Lib.hid (HX8.out.below b9 HX8.out.lt)
    clear b9 HA8 HM8 HB8 HP8 HX8
    clear ho9
    obtain ⟨w10, hw10⟩ : ∃ w10, w10 = w9.alloc (.cells #[.string tm, .string um, .slice D psm.length d] 25) := ⟨_, rfl⟩
    have b10 : Below w9.heap.size w9 w10 := by rw [hw10]; exact (Below.refl _ _).alloc (Nat.le_refl _) _
    have HY10 := Lib.hid (show Blk w10 w9.heap.size 25 #[.string tm, .string um, .slice D psm.length d] from by rw [hw10]; exact Blk.new _ _ _)
    have HO10 := Lib.hid (own_keep HO9.out (Mv.of_below b10 []) (by simp))
    have h910 := HY10.out.lt
    have HL10 := Lib.hid (below_on HL9.out b10)
    have hob := HO9.out.lt
    have HA10 := Lib.hid (HA9.out.below b10)
    have HM10 := Lib.hid (HM9.out.below b10 HM9.out.lt)
    have HB10 := Lib.hid (below_on HB9.out b10)
    have HP10 := Lib.hid (HP9.out.below b10)
    have HX10 := Lib.hid (HX9.out.below b10 HX9.out.lt)
    clear b10 HA9 HM9 HB9 HP9 HX9
    have y2 := HY10.out.cell 2
    go_upto_region 8 with fail
    rw [← hw10]
    clear hw10
    go_wp2_with (at_builtin; refine wpList_append_lies _ rfl _ _ 23 rfl w8.heap.size 39 i0 _ 2 32 Try.underlying23 hi hz0 hz1 hz2 rfl (by decide) _ psm.length (prmL psm) rfl (HO10.out.alloc _) ⟨w10.heap.size, 0, none⟩ 1 1 [.string xn, .string xv] rfl rfl (news_two' w10 xn xv) two_one (by decide) (by unfold maxLen; omega) (by omega) (by simp; omega) _ rfl ?_)
    intro g2 cap2 w11 hown11 hgrow11 hat11 hlt11
    clear y2
    generalize w9.heap.size = yb at *
    have hown11' : w11.ownsRow w8.heap.size 39 2 (.slice (some ⟨g2, 0, none⟩) (psm ++ [(⟨xn, xv⟩ : Prm)]).length cap2) (psm ++ [(⟨xn, xv⟩ : Prm)]).length (prmL (psm ++ [⟨xn, xv⟩])) := by
      rw [prmL_snoc, List.length_append]
      exact hown11
    have hb11 : Below w8.heap.size w10 w11 := ((Below.refl w8.heap.size w10).alloc (by omega) _).grown hgrow11 (by simp; omega) (fun g hg => (hob g hg).1)
    have hyb : Blk w11 yb 25 #[.string tm, .string um, .slice D psm.length d] := (hgrow11.block yb (by simp; omega) (fun e => by have := (hob yb e.symm).2; omega)).trans (HY10.out.alloc _)
    have hgy : g2 ≠ yb := by
      rcases hat11 with h1 | h1
      · have := (hob g2 h1).2; omega
      · rw [h1]; simp; omega
    have HL11 := Lib.hid (HL10.out.trans hb11)
    have HM11 := Lib.hid (HM10.out.below hb11 (by omega))
    have HX11 := Lib.hid (HX10.out.below hb11 (by omega))
    have HB11 := Lib.hid (HB10.out.trans (hb11.mono (by omega)))
    have f0 := hyb.cell 0
    have f1 := hyb.cell 1
    have f2 := hyb.cell 2
    have q2 := hyb.frozen 2
    have hy11 := hyb.lt
    obtain ⟨w12, hw12⟩ : ∃ w12, w12 = w11.setCell ⟨yb, 2, none⟩ (.slice (some ⟨g2, 0, none⟩) (psm.length + 1) cap2) := ⟨_, rfl⟩
    have HY12 := Lib.hid (show Blk w12 yb 25 #[.string tm, .string um, .slice (some ⟨g2, 0, none⟩) (psm.length + 1) cap2] from by rw [hw12]; exact hyb.set_ 2 _)
    have HPY12 := Lib.hid (show PsIn w12 (some ⟨g2, 0, none⟩) (psm ++ [⟨xn, xv⟩]) from by
      obtain ⟨A9, c9, e9, p9⟩ := PsIn.of_own (own_far (W' := w12) (r := [yb]) hown11' (by rw [hw12]; exact (Mv.refl _ _ _).setCell (.inl (by simp)) _) (by simpa using hgy))
      cases e9
      exact p9)
    have HL12 := Lib.hid (show Below w8.heap.size w8 w12 from by rw [hw12]; exact HL11.out.setCell (by show w8.heap.size ≤ yb; omega) _)
    have HA12 := Lib.hid (HK8.out.below HL12.out)
    have HP12 := Lib.hid (HQ8.out.below HL12.out)
    have HM12 := Lib.hid (show Blk w12 w.heap.size 25 _ from by rw [hw12]; exact HM11.out.far (by show w.heap.size ≠ yb; omega) _)
    have HX12 := Lib.hid (show Blk w12 xb 25 _ from by rw [hw12]; exact HX11.out.far (by show xb ≠ yb; omega) _)
    have HB12 := Lib.hid (show Below w.heap.size w w12 from by rw [hw12]; exact HB11.out.setCell (by show w.heap.size ≤ yb; omega) _)
    clear hown11 hown11' hgrow11 hat11 hlt11 hb11 hyb hgy HL11 HM11 HX11 HB11 HA10 HM10 HB10 HX10 HY10 HO10 HO9 HL9 HL10 HL12 HK8 hob
    have k0 := HY12.out.cell 0
    have k1 := HY12.out.cell 1
    have k2 := HY12.out.cell 2
    rw [hw12] at k0 k1 k2
    go_wp2_with fail
    rw [← hw12]
    clear hw12 f0 f1 f2 q2 k0 k1 k2
    refine (HGY.out _ _ cap2 HPY12.out).mono ?_
    rintro e w13 ⟨rfl, b13⟩
    have HY13 := Lib.hid (HY12.out.below b13 HY12.out.lt)
    have HPY13 := Lib.hid (HPY12.out.below b13)
    have HA13 := Lib.hid (HA12.out.below b13)
    have HM13 := Lib.hid (HM12.out.below b13 HM12.out.lt)
    have HB13 := Lib.hid (below_on HB12.out b13)
    have HX13 := Lib.hid (HX12.out.below b13 HX12.out.lt)
    have HP13 := Lib.hid (HP12.out.below b13)
    clear b13 HA12 HM12 HB12 HX12 HP12
    clear HY12 HPY12
    have j0 := HX13.out.cell 0
    have j1 := HX13.out.cell 1
    have j2 := HX13.out.cell 2
    have l0 := HY13.out.cell 0
    have l1 := HY13.out.cell 1
    have l2 := HY13.out.cell 2
    go_wp2_with fail
    refine (HRT.out _ A7 _ c7 cap2 HP13.out HPY13.out).mono ?_
    rintro e w14 ⟨rfl, b14⟩
    have HB14 := Lib.hid (below_on HB13.out b14)
    clear b14
    go_wp2_with fail
    refine (HLV.out _).mono ?_
    rintro e w15 ⟨rfl, b15⟩
    have HB15 := Lib.hid (below_on HB14.out b15)
    clear b15
    go_wp2
    go_ret
    exact ⟨rfl, HB15.out⟩

end Go.Proofs.Ytancilcfbhfopaa
