/-
  What the document's Step of layer 11 answers. Condition: texts are as long as a mebibyte, and parameters as many.
  What Extract and Charset of package combine answer. Condition: seven hundred values of a thousand bytes.
  What lives and Few of layer 11's statements answer. Condition: texts are as long as a length can be.
-/
import Derived.Test.YtmepnfkgfbbkiaaZ3
import Derived.Test.YtmepnfkgfbbkiaaMs
import Derived.Test.YtmepnfkgfbbkiaaCut
namespace Go.Proofs.Ytmepnfkgfbbkiaa
open Go.RowKit

/-- What a call of the document's Step gives: parameters lie in rows from base on. -/
def StepOf (r : Mty × ByteArray) (base : Nat) (w : World) (e : Ending) (w' : World) : Prop := ∃ A' c', e = .returned (.tuple #[mimV r.1.t r.1.u A' r.1.ps.length c', .string r.2]) ∧ OwnPs w' base A' c' r.1.ps ∧ Below w.heap.size w w'
theorem eqS_flip (a b : ByteArray) : eqS a b = eqS b a := by
  unfold eqS
  exact BEq.comm
theorem parV_none {ps : List Prm} {x : ByteArray} (h : seenB ps x = false) : parV ps x = ⟨#[]⟩ := by
  have h1 := atN_seen ps x
  rw [h] at h1
  unfold parV
  rw [dif_neg (of_decide_eq_false h1)]
theorem StB.set {w W : World} {tm um : ByteArray} {A0 : Option Addr} {n0 c0 : Nat} {tn un : ByteArray} {A : Option Addr} {n c xb : Nat} (h : StB w tm um A0 n0 c0 tn un A n c W) (hx : w.heap.size + 1 + 1 < xb) (i : Nat) (v : Value) : StB w tm um A0 n0 c0 tn un A n c (W.setCell ⟨xb, i, none⟩ v) :=
  ⟨h.b.setCell (by show w.heap.size ≤ xb; omega) _, h.m.far (by show w.heap.size ≠ xb; omega) _, h.x.far (by show w.heap.size + 1 ≠ xb; omega) _, h.r.far (by show w.heap.size + 1 + 1 ≠ xb; omega) _⟩
/-- An append of nothing, which stops there. -/
theorem append_onto_none {w : World} {ops : Array Oper} {rest : List Oper} {o : Oper} {a : Act} {Q : Exit → Act → World → Prop} (hgd : o.guard = none) (s x : Operand)
    (ho : o.op = .call { callee := .builtin .append, args := #[s, x], argTypes := #[22, 22] }) (b c : Nat) (hs : a.eval s = .slice (some ⟨b, 0, none⟩) 0 0) (hx : a.eval x = .slice none 0 c)
    (h : Hid (wpList Try.prog ops Q rest (a.put o.dst (.slice (some ⟨b, 0, none⟩) 0 0)) w)) : wpList Try.prog ops Q (o :: rest) a w :=
  Lib.wpList_append_run w hgd s x _ _ ho _ _ hs hx _ _ (append_none b 0 c _ _) h.out
theorem essS_is (t u : ByteArray) : (t ++ ⟨#[47]⟩) ++ u = essS t u := essL_eq t u

set_option maxHeartbeats 4000000 in
set_option maxRecDepth 100000 in
theorem rstep_far0 (tm um : ByteArray) (A0 : Option Addr) (n0 c0 : Nat) (set : ByteArray) (nx : Mty) (A : Option Addr) (c base : Nat) (w : World) (h : OwnPs w base A c nx.ps) (_hb : base ≤ w.heap.size) (hs : nx.small) (htm : tm.size ≤ 1048576) (hum : um.size ≤ 1048576)
    (hd : eqS (essS nx.t nx.u) (essS tm um) = false) (hv : seenB nx.ps chrS = false) :
    Calls Try.prog 7 #[mimV tm um A0 n0 c0, .string set, mimV nx.t nx.u A nx.ps.length c] w (StepOf (stepT tm um set nx) base w) := by
  rw [stepT_far hd, parV_none hv]
  obtain ⟨tn, un, ps⟩ := nx
  obtain ⟨h1, h2, h3, h4⟩ := hs
  simp only at h h1 h2 h3 h4 hd hv ⊢
  have HO := Lib.hid h
  have HP := Lib.hid h.ps
  obtain ⟨w0, hw0⟩ : ∃ w0, w0 = (((w.alloc (.cells #[.string tm, .string um, .slice A0 n0 c0] 24)).alloc (.cells #[.string tn, .string un, .slice A ps.length c] 24)).alloc (.cells #[.string ⟨#[]⟩, .string ⟨#[]⟩, .slice none 0 0] 24)) := ⟨_, rfl⟩
  have HS0 := Lib.hid (show StB w tm um A0 n0 c0 tn un A ps.length c w0 from by rw [hw0]; exact StB.first _ _ _ _ _ _ _ _ _ _ _)
  have HAT := Lib.hid (fun W (hW : PsIn W A ps) => rAt_any tn un A ps c chrS W hW (by omega))
  have hge := atI_ge ps chrS
  rw [hv] at hge
  obtain ⟨ai, hai⟩ : ∃ ai, ai = atI ps chrS := ⟨_, rfl⟩
  rw [← hai] at HAT hge
  have g0 : ai < 0 := by have := of_decide_eq_false hge; omega
  clear hai hge
  have hdl : (((tm ++ ⟨#[47]⟩) ++ um).toList == ((tn ++ ⟨#[47]⟩) ++ un).toList) = false := by
    rw [essS_is, essS_is]
    exact (eqS_flip _ _).trans hd
  have k1 : ¬ 9223372036854775807 < tm.size + 1 := by omega
  have k2 : ¬ 9223372036854775807 < tm.size + 1 + um.size := by omega
  have k3 : ¬ 9223372036854775807 < tn.size + 1 := by omega
  have k4 : ¬ 9223372036854775807 < tn.size + 1 + un.size := by omega
  clear h hd
  obtain ⟨c0', c1', c2', d0, d1, d2⟩ := HS0.out.cells
  rw [hw0] at c0' c1' c2' d0 d1 d2
  go_enter Try.func7, Try.ntmps7
  go_wp2_with fail
  rw [← hw0]
  clear hw0 c0' c1' c2' d0 d1 d2
  refine (HAT.out _ (HP.out.below HS0.out.b)).mono ?_
  rintro e w1 ⟨rfl, b1⟩
  have HS1 := Lib.hid (HS0.out.step b1)
  clear b1 HS0
  obtain ⟨c0', c1', c2', d0, d1, d2⟩ := HS1.out.cells
  have hl1 := HS1.out.r.lt
  have r0 := HS1.out.r.cell 0
  have r1 := HS1.out.r.cell 1
  have r2 := HS1.out.r.cell 2
  have z0 := HS1.out.r.frozen 0
  have z1 := HS1.out.r.frozen 1
  have z2 := HS1.out.r.frozen 2
  go_wp2
  refine bodyPost_ret (v := .tuple #[mimV tn un A ps.length c, .string ⟨#[]⟩]) (by simp [results, Try.results7, go_sem, r0, r1, r2]; done) rfl ?_
  exact ⟨A, c, rfl, OwnPs.set3 (own_mv HO.out (Mv.of_below HS1.out.b []) (by simp)) HS1.out.r _ _ _, ((HS1.out.b.setCell (by show w.heap.size ≤ w.heap.size + 1 + 1; omega) _).setCell (by show w.heap.size ≤ w.heap.size + 1 + 1; omega) _).setCell (by show w.heap.size ≤ w.heap.size + 1 + 1; omega) _⟩

set_option maxHeartbeats 4000000 in
set_option maxRecDepth 100000 in
theorem rstep_far1 (tm um : ByteArray) (A0 : Option Addr) (n0 c0 : Nat) (set : ByteArray) (nx : Mty) (A : Option Addr) (c base : Nat) (w : World) (h : OwnPs w base A c nx.ps) (_hb : base ≤ w.heap.size) (hs : nx.small) (htm : tm.size ≤ 1048576) (hum : um.size ≤ 1048576)
    (hd : eqS (essS nx.t nx.u) (essS tm um) = false) (hv : seenB nx.ps chrS = true) :
    Calls Try.prog 7 #[mimV tm um A0 n0 c0, .string set, mimV nx.t nx.u A nx.ps.length c] w (StepOf (stepT tm um set nx) base w) := by
  rw [stepT_far hd]
  obtain ⟨tn, un, ps⟩ := nx
  obtain ⟨h1, h2, h3, h4⟩ := hs
  simp only at h h1 h2 h3 h4 hd hv ⊢
  have HO := Lib.hid h
  have HP := Lib.hid h.ps
  obtain ⟨w0, hw0⟩ : ∃ w0, w0 = (((w.alloc (.cells #[.string tm, .string um, .slice A0 n0 c0] 24)).alloc (.cells #[.string tn, .string un, .slice A ps.length c] 24)).alloc (.cells #[.string ⟨#[]⟩, .string ⟨#[]⟩, .slice none 0 0] 24)) := ⟨_, rfl⟩
  have HS0 := Lib.hid (show StB w tm um A0 n0 c0 tn un A ps.length c w0 from by rw [hw0]; exact StB.first _ _ _ _ _ _ _ _ _ _ _)
  have HAT := Lib.hid (fun W (hW : PsIn W A ps) => rAt_any tn un A ps c chrS W hW (by omega))
  have hge := atI_ge ps chrS
  rw [hv] at hge
  obtain ⟨k, hk⟩ : ∃ k, k = atN ps chrS := ⟨_, rfl⟩
  have hkl : k < ps.length := by
    have := atN_seen ps chrS
    rw [hv] at this
    rw [hk]
    exact of_decide_eq_true this
  have hatk : atI ps chrS = (k : Int) := by unfold atI; rw [← hk, if_pos hkl]
  have hpv : parV ps chrS = ps[k].v := by unfold parV; simp only [← hk]; rw [dif_pos hkl]
  rw [hatk] at HAT
  have g0 : ¬ (k : Int) < 0 := by omega
  clear hge hk hatk
  rw [hpv]
  obtain ⟨qv, hqv⟩ : ∃ qv, qv = ps[k].v := ⟨_, rfl⟩
  rw [← hqv]
  have HQV := Lib.hid hqv
  clear hpv hqv
  have hdl : (((tm ++ ⟨#[47]⟩) ++ um).toList == ((tn ++ ⟨#[47]⟩) ++ un).toList) = false := by
    rw [essS_is, essS_is]
    exact (eqS_flip _ _).trans hd
  have k1 : ¬ 9223372036854775807 < tm.size + 1 := by omega
  have k2 : ¬ 9223372036854775807 < tm.size + 1 + um.size := by omega
  have k3 : ¬ 9223372036854775807 < tn.size + 1 := by omega
  have k4 : ¬ 9223372036854775807 < tn.size + 1 + un.size := by omega
  clear h hd
  obtain ⟨c0', c1', c2', d0, d1, d2⟩ := HS0.out.cells
  rw [hw0] at c0' c1' c2' d0 d1 d2
  go_enter Try.func7, Try.ntmps7
  go_wp2_with fail
  rw [← hw0]
  clear hw0 c0' c1' c2' d0 d1 d2
  refine (HAT.out _ (HP.out.below HS0.out.b)).mono ?_
  rintro e w1 ⟨rfl, b1⟩
  have HS1 := Lib.hid (HS0.out.step b1)
  clear b1 HS0
  obtain ⟨c0', c1', c2', d0, d1, d2⟩ := HS1.out.cells
  have hl1 := HS1.out.r.lt
  obtain ⟨g, rfl, hgl, _, hq1⟩ := HP.out k hkl
  have q1 := (HS1.out.b.cell (p := ⟨g, k * 2 + 1, none⟩) hgl).trans hq1
  have HOM := Lib.hid (own_mv HO.out (Mv.of_below HS1.out.b []) (by simp))
  rw [← HQV.out] at q1
  clear hq1
  have r0 := HS1.out.r.cell 0
  have r1 := HS1.out.r.cell 1
  have r2 := HS1.out.r.cell 2
  have z0 := HS1.out.r.frozen 0
  have z1 := HS1.out.r.frozen 1
  have z2 := HS1.out.r.frozen 2
  go_wp2_with fail
  go_region
  all_goals go_wp2
  all_goals (
    refine bodyPost_ret (v := .tuple #[mimV tn un (some ⟨g, 0, none⟩) ps.length c, .string qv]) (by simp [results, Try.results7, go_sem, r0, r1, r2]; done) rfl ?_
    exact ⟨(some ⟨g, 0, none⟩), c, rfl, OwnPs.set3 HOM.out HS1.out.r _ _ _, (((HS1.out.b.setCell (by show w.heap.size ≤ w.heap.size + 1 + 1; omega) _).setCell (by show w.heap.size ≤ w.heap.size + 1 + 1; omega) _).setCell (by show w.heap.size ≤ w.heap.size + 1 + 1; omega) _).drew⟩)

set_option maxHeartbeats 4000000 in
set_option maxRecDepth 100000 in
theorem rstep_seen (tm um : ByteArray) (A0 : Option Addr) (n0 c0 : Nat) (set : ByteArray) (nx : Mty) (A : Option Addr) (c base : Nat) (w : World) (h : OwnPs w base A c nx.ps) (hb : base ≤ w.heap.size) (hs : nx.small) (htm : tm.size ≤ 1048576) (hum : um.size ≤ 1048576)
    (_hset : set.size ≤ 1048576) (hd : eqS (essS nx.t nx.u) (essS tm um) = true) (hv : seenB nx.ps chrS = true) :
    Calls Try.prog 7 #[mimV tm um A0 n0 c0, .string set, mimV nx.t nx.u A nx.ps.length c] w (StepOf (stepT tm um set nx) base w) := by
  rw [stepT_not hd (moreB_seen hv)]
  obtain ⟨tn, un, ps⟩ := nx
  obtain ⟨h1, h2, h3, h4⟩ := hs
  simp only at h h1 h2 h3 h4 hd hv ⊢
  have HO := Lib.hid h
  have HP := Lib.hid h.ps
  obtain ⟨w0, hw0⟩ : ∃ w0, w0 = (((w.alloc (.cells #[.string tm, .string um, .slice A0 n0 c0] 24)).alloc (.cells #[.string tn, .string un, .slice A ps.length c] 24)).alloc (.cells #[.string ⟨#[]⟩, .string ⟨#[]⟩, .slice none 0 0] 24)) := ⟨_, rfl⟩
  have HS0 := Lib.hid (show StB w tm um A0 n0 c0 tn un A ps.length c w0 from by rw [hw0]; exact StB.first _ _ _ _ _ _ _ _ _ _ _)
  have HAT := Lib.hid (fun W (hW : PsIn W A ps) => rAt_any tn un A ps c chrS W hW (by omega))
  have hge := atI_ge ps chrS
  rw [hv] at hge
  obtain ⟨k, hk⟩ : ∃ k, k = atN ps chrS := ⟨_, rfl⟩
  have hkl : k < ps.length := by
    have := atN_seen ps chrS
    rw [hv] at this
    rw [hk]
    exact of_decide_eq_true this
  have hatk : atI ps chrS = (k : Int) := by unfold atI; rw [← hk, if_pos hkl]
  have hpv : parV ps chrS = ps[k].v := by unfold parV; simp only [← hk]; rw [dif_pos hkl]
  rw [hatk] at HAT
  have g0 : ¬ (k : Int) < 0 := by omega
  clear hge hk hatk
  clear hpv
  have hdl : (((tm ++ ⟨#[47]⟩) ++ um).toList == ((tn ++ ⟨#[47]⟩) ++ un).toList) = true := by
    rw [essS_is, essS_is]
    exact (eqS_flip _ _).trans hd
  have k1 : ¬ 9223372036854775807 < tm.size + 1 := by omega
  have k2 : ¬ 9223372036854775807 < tm.size + 1 + um.size := by omega
  have k3 : ¬ 9223372036854775807 < tn.size + 1 := by omega
  have k4 : ¬ 9223372036854775807 < tn.size + 1 + un.size := by omega
  clear h hd
  obtain ⟨c0', c1', c2', d0, d1, d2⟩ := HS0.out.cells
  rw [hw0] at c0' c1' c2' d0 d1 d2
  go_enter Try.func7, Try.ntmps7
  go_wp2_with fail
  rw [← hw0]
  clear hw0 c0' c1' c2' d0 d1 d2
  refine (HAT.out _ (HP.out.below HS0.out.b)).mono ?_
  rintro e w1 ⟨rfl, b1⟩
  have HS1 := Lib.hid (HS0.out.step b1)
  clear b1 HS0
  obtain ⟨c0', c1', c2', d0, d1, d2⟩ := HS1.out.cells
  have hl1 := HS1.out.r.lt
  cases A with
  | none =>
    cases ps with
    | nil => exact absurd hkl (Nat.not_lt_zero _)
    | cons q r =>
      obtain ⟨g, e, _⟩ := HP.out 0 (by simp)
      cases e
  | some a =>
    obtain ⟨i0, hi, hz0, hz1, hz2⟩ := info_parts Try.infoPrm
    obtain ⟨w2, hw2⟩ : ∃ w2, w2 = w1.alloc (.cells #[.string tn, .string un, .slice (some a) ps.length c] 24) := ⟨_, rfl⟩
    have b2 : Below w1.heap.size w1 w2 := by rw [hw2]; exact (Below.refl _ _).alloc (Nat.le_refl _) _
    have HX2 := Lib.hid (show Blk w2 w1.heap.size 24 _ from by rw [hw2]; exact Blk.new w1 24 #[.string tn, .string un, .slice (some a) ps.length c])
    have HS2 := Lib.hid (HS1.out.step b2)
    have hx2 := HX2.out.lt
    clear b2
    go_upto_region 7 with fail
    rw [← hw2]
    generalize w1.heap.size = xb at *
    clear hw2 HS1 c0' c1' c2' d0 d1 d2
    obtain ⟨_, _, _, d0, d1, d2⟩ := HS2.out.cells
    have hx2' : w.heap.size + 1 + 1 < w2.heap.size := HS2.out.r.lt
    have hx3 : w.heap.size + 1 < w2.heap.size := by omega
    go_wp2_with (at_builtin; refine wpList_append_own _ rfl _ _ 22 rfl w2.heap.size 33 i0 _ 2 32 Try.underlying22 hi hz0 hz1 hz2 rfl (by decide) _ _ _ rfl (World.ownsRow_made w2 #[] 0 (Nat.le_refl _) (Nat.zero_le _) rfl) a ps.length c (prmL ps) rfl (by rw [prmL_len]) (HP.out.below ((HS2.out.b).alloc (by omega) _)).cells (prmL_one ps) ?_ ?_ ?_ ?_)
    · unfold maxLen; omega
    · omega
    · simp
    intro v3 w3 hown3 hgrow3 _
    have HO3 := Lib.hid (show w3.ownsRow w2.heap.size 33 2 v3 ps.length (prmL ps) from by simpa using hown3)
    have HB3 := Lib.hid (show Below w2.heap.size w2 w3 from ((Below.refl _ _).alloc (Nat.le_refl _) _).grown hgrow3 (by simp) (fun g hg => by simp [Value.ownBlock] at hg; omega))
    clear hown3 hgrow3
    have hx4 : w2.heap.size ≤ w3.heap.size := HB3.out.size
    go_wp2_with (at_builtin; refine wpList_append_own _ rfl _ _ 22 rfl w2.heap.size 33 i0 _ 2 32 Try.underlying22 hi hz0 hz1 hz2 rfl (by decide) _ _ _ rfl (HO3.out.alloc _) ⟨w3.heap.size, 0, none⟩ 1 1 [.string chrS, .string set] rfl rfl ?_ ?_ ?_ ?_ ?_ ?_)
    · intro j u hj
      have hcb := Blk.new w3 33 #[.string chrS, .string set]
      have e : (⟨w3.heap.size, 0, none⟩ : Addr).add j = ⟨w3.heap.size, j, none⟩ := by cases j <;> simp [Addr.add]
      rw [e, hcb.cell]
      simpa using hj
    · intro u hu
      simp at hu
      rcases hu with rfl | rfl <;> rfl
    · unfold maxLen; omega
    · omega
    · simp; omega
    intro v4 w4 hown4 hgrow4 _
    have hown4' : w4.ownsRow w2.heap.size 33 2 v4 (ps ++ [(⟨chrS, set⟩ : Prm)]).length (prmL (ps ++ [⟨chrS, set⟩])) := by rw [prmL_snoc, List.length_append]; exact hown4
    have HB4 := Lib.hid (show Below w2.heap.size w2 w4 from (HB3.out.alloc HB3.out.size _).grown hgrow4 (by simp; omega) (fun g hg => (HO3.out.lt g hg).1))
    obtain ⟨A4, c4, rfl⟩ := own_slc hown4'
    obtain ⟨n, hn⟩ : ∃ n, n = (ps ++ [(⟨chrS, set⟩ : Prm)]).length := ⟨_, rfl⟩
    have HO4 := Lib.hid (show OwnPs w4 w2.heap.size A4 c4 (ps ++ [⟨chrS, set⟩]) from hown4')
    have HN := Lib.hid hn
    rw [← hn]
    clear hown4 hown4' hgrow4 hn HO3
    have HX4 := Lib.hid (HX2.out.below HB4.out hx2)
    have HS4 := Lib.hid (HS2.out.step HB4.out)
    have f2 := HX4.out.frozen 2
    have e2 := HX4.out.cell 2
    clear HB3 HB4 HX2 HS2 d0 d1 d2
    obtain ⟨w5, hw5⟩ : ∃ w5, w5 = w4.setCell ⟨xb, 2, none⟩ (.slice A4 n c4) := ⟨_, rfl⟩
    have HX5 := Lib.hid (show Blk w5 xb 24 #[.string tn, .string un, .slice A4 n c4] from by rw [hw5]; exact HX4.out.set_ 2 _)
    have HS5 := Lib.hid (show StB w tm um A0 n0 c0 tn un (some a) ps.length c w5 from by rw [hw5]; exact HS4.out.set (by omega) _ _)
    have HO5 := Lib.hid (show OwnPs w5 w2.heap.size A4 c4 (ps ++ [⟨chrS, set⟩]) from by rw [hw5]; exact OwnPs.set HO4.out HX4.out _ _)
    have HA5 := Lib.hid (show OwnPs w5 base (some a) c ps from by rw [hw5]; exact OwnPs.set (own_mv HO.out (Mv.of_below HS4.out.b []) (by simp)) HX4.out _ _)
    have hbw : base ≤ w2.heap.size := by omega
    clear HO4 HX4 HS4
    go_upto_region 8 with fail
    rw [← hw5]
    clear hw5 f2 e2
    obtain ⟨_, _, _, d0, d1, d2⟩ := HS5.out.cells
    have r0 := HS5.out.r.cell 0
    have r1 := HS5.out.r.cell 1
    have r2 := HS5.out.r.cell 2
    have z0 := HS5.out.r.frozen 0
    have z1 := HS5.out.r.frozen 1
    have z2 := HS5.out.r.frozen 2
    go_wp2
    refine bodyPost_ret (v := .tuple #[mimV tn un (some a) ps.length c, .string set]) (by simp [results, Try.results7, go_sem, r0, r1, r2]; done) rfl ?_
    exact ⟨(some a), c, rfl, OwnPs.set3 HA5.out HS5.out.r _ _ _, ((HS5.out.b.setCell (by show w.heap.size ≤ w.heap.size + 1 + 1; omega) _).setCell (by show w.heap.size ≤ w.heap.size + 1 + 1; omega) _).setCell (by show w.heap.size ≤ w.heap.size + 1 + 1; omega) _⟩

set_option maxHeartbeats 4000000 in
set_option maxRecDepth 100000 in
theorem rstep_none (tm um : ByteArray) (A0 : Option Addr) (n0 c0 : Nat) (set : ByteArray) (nx : Mty) (A : Option Addr) (c base : Nat) (w : World) (h : OwnPs w base A c nx.ps) (hb : base ≤ w.heap.size) (hs : nx.small) (htm : tm.size ≤ 1048576) (hum : um.size ≤ 1048576)
    (_hset : set.size ≤ 1048576) (hd : eqS (essS nx.t nx.u) (essS tm um) = true) (hv : seenB nx.ps chrS = false) (he : (set.toList == []) = true) :
    Calls Try.prog 7 #[mimV tm um A0 n0 c0, .string set, mimV nx.t nx.u A nx.ps.length c] w (StepOf (stepT tm um set nx) base w) := by
  rw [stepT_not hd (moreB_none he)]
  obtain ⟨tn, un, ps⟩ := nx
  obtain ⟨h1, h2, h3, h4⟩ := hs
  simp only at h h1 h2 h3 h4 hd hv ⊢
  have HO := Lib.hid h
  have HP := Lib.hid h.ps
  obtain ⟨w0, hw0⟩ : ∃ w0, w0 = (((w.alloc (.cells #[.string tm, .string um, .slice A0 n0 c0] 24)).alloc (.cells #[.string tn, .string un, .slice A ps.length c] 24)).alloc (.cells #[.string ⟨#[]⟩, .string ⟨#[]⟩, .slice none 0 0] 24)) := ⟨_, rfl⟩
  have HS0 := Lib.hid (show StB w tm um A0 n0 c0 tn un A ps.length c w0 from by rw [hw0]; exact StB.first _ _ _ _ _ _ _ _ _ _ _)
  have HAT := Lib.hid (fun W (hW : PsIn W A ps) => rAt_any tn un A ps c chrS W hW (by omega))
  have hge := atI_ge ps chrS
  rw [hv] at hge
  obtain ⟨ai, hai⟩ : ∃ ai, ai = atI ps chrS := ⟨_, rfl⟩
  rw [← hai] at HAT hge
  have g0 : ai < 0 := by have := of_decide_eq_false hge; omega
  clear hai hge
  have hdl : (((tm ++ ⟨#[47]⟩) ++ um).toList == ((tn ++ ⟨#[47]⟩) ++ un).toList) = true := by
    rw [essS_is, essS_is]
    exact (eqS_flip _ _).trans hd
  have k1 : ¬ 9223372036854775807 < tm.size + 1 := by omega
  have k2 : ¬ 9223372036854775807 < tm.size + 1 + um.size := by omega
  have k3 : ¬ 9223372036854775807 < tn.size + 1 := by omega
  have k4 : ¬ 9223372036854775807 < tn.size + 1 + un.size := by omega
  clear h hd
  obtain ⟨c0', c1', c2', d0, d1, d2⟩ := HS0.out.cells
  rw [hw0] at c0' c1' c2' d0 d1 d2
  go_enter Try.func7, Try.ntmps7
  go_wp2_with fail
  rw [← hw0]
  clear hw0 c0' c1' c2' d0 d1 d2
  refine (HAT.out _ (HP.out.below HS0.out.b)).mono ?_
  rintro e w1 ⟨rfl, b1⟩
  have HS1 := Lib.hid (HS0.out.step b1)
  clear b1 HS0
  obtain ⟨c0', c1', c2', d0, d1, d2⟩ := HS1.out.cells
  have hl1 := HS1.out.r.lt
  cases A with
  | none =>
    have hps : ps = [] := by
      cases ps with
      | nil => rfl
      | cons q r =>
        obtain ⟨g, e, _⟩ := HP.out 0 (by simp)
        cases e
    subst hps
    obtain ⟨i0, hi, hz0, hz1, hz2⟩ := info_parts Try.infoPrm
    obtain ⟨w2, hw2⟩ : ∃ w2, w2 = w1.alloc (.cells #[.string tn, .string un, .slice none 0 c] 24) := ⟨_, rfl⟩
    have b2 : Below w1.heap.size w1 w2 := by rw [hw2]; exact (Below.refl _ _).alloc (Nat.le_refl _) _
    have HX2 := Lib.hid (show Blk w2 w1.heap.size 24 _ from by rw [hw2]; exact Blk.new w1 24 #[.string tn, .string un, .slice none 0 c])
    have HS2 := Lib.hid (HS1.out.step b2)
    have hx2 := HX2.out.lt
    clear b2
    go_upto_region 7 with fail
    rw [← hw2]
    generalize w1.heap.size = xb at *
    clear hw2 HS1 c0' c1' c2' d0 d1 d2
    obtain ⟨_, _, _, d0, d1, d2⟩ := HS2.out.cells
    have hx2' : w.heap.size + 1 + 1 < w2.heap.size := HS2.out.r.lt
    have hx3 : w.heap.size + 1 < w2.heap.size := by omega
    obtain ⟨w3, hw3⟩ : ∃ w3, w3 = w2.alloc (.cells #[] 33) := ⟨_, rfl⟩
    have HO3 := Lib.hid (show w3.ownsRow w2.heap.size 33 2 (.slice (some ⟨w2.heap.size, 0, none⟩) 0 0) 0 (prmL []) from by
      rw [hw3]; exact World.ownsRow_made w2 #[] 0 (Nat.le_refl _) (Nat.zero_le _) rfl)
    have HB3 := Lib.hid (show Below w2.heap.size w2 w3 from by rw [hw3]; exact (Below.refl _ _).alloc (Nat.le_refl _) _)
    go_wp2_with (at_builtin; refine append_onto_none rfl _ _ rfl w2.heap.size c rfl rfl ?_)
    refine Lib.hid ?_
    rw [← hw3]
    generalize hvv : (Value.slice (some ⟨w2.heap.size, 0, none⟩) 0 0) = v3 at HO3 ⊢
    clear hw3 hvv
    have hx4 : w2.heap.size ≤ w3.heap.size := HB3.out.size
    go_wp2_with (at_builtin; refine wpList_append_own _ rfl _ _ 22 rfl w2.heap.size 33 i0 _ 2 32 Try.underlying22 hi hz0 hz1 hz2 rfl (by decide) _ _ _ rfl (HO3.out.alloc _) ⟨w3.heap.size, 0, none⟩ 1 1 [.string chrS, .string set] rfl rfl ?_ ?_ ?_ ?_ ?_ ?_)
    · intro j u hj
      have hcb := Blk.new w3 33 #[.string chrS, .string set]
      have e : (⟨w3.heap.size, 0, none⟩ : Addr).add j = ⟨w3.heap.size, j, none⟩ := by cases j <;> simp [Addr.add]
      rw [e, hcb.cell]
      simpa using hj
    · intro u hu
      simp at hu
      rcases hu with rfl | rfl <;> rfl
    · unfold maxLen; omega
    · omega
    · simp; omega
    intro v4 w4 hown4 hgrow4 _
    have hown4' : w4.ownsRow w2.heap.size 33 2 v4 (([] : List Prm) ++ [(⟨chrS, set⟩ : Prm)]).length (prmL (([] : List Prm) ++ [⟨chrS, set⟩])) := by rw [prmL_snoc, List.length_append]; exact hown4
    have HB4 := Lib.hid (show Below w2.heap.size w2 w4 from (HB3.out.alloc HB3.out.size _).grown hgrow4 (by simp; omega) (fun g hg => (HO3.out.lt g hg).1))
    obtain ⟨A4, c4, rfl⟩ := own_slc hown4'
    obtain ⟨n, hn⟩ : ∃ n, n = (([] : List Prm) ++ [(⟨chrS, set⟩ : Prm)]).length := ⟨_, rfl⟩
    have HO4 := Lib.hid (show OwnPs w4 w2.heap.size A4 c4 (([] : List Prm) ++ [⟨chrS, set⟩]) from hown4')
    have HN := Lib.hid hn
    rw [← hn]
    clear hown4 hown4' hgrow4 hn HO3
    have HX4 := Lib.hid (HX2.out.below HB4.out hx2)
    have HS4 := Lib.hid (HS2.out.step HB4.out)
    have f2 := HX4.out.frozen 2
    have e2 := HX4.out.cell 2
    clear HB3 HB4 HX2 HS2 d0 d1 d2
    obtain ⟨w5, hw5⟩ : ∃ w5, w5 = w4.setCell ⟨xb, 2, none⟩ (.slice A4 n c4) := ⟨_, rfl⟩
    have HX5 := Lib.hid (show Blk w5 xb 24 #[.string tn, .string un, .slice A4 n c4] from by rw [hw5]; exact HX4.out.set_ 2 _)
    have HS5 := Lib.hid (show StB w tm um A0 n0 c0 tn un none 0 c w5 from by rw [hw5]; exact HS4.out.set (by omega) _ _)
    have HO5 := Lib.hid (show OwnPs w5 w2.heap.size A4 c4 (([] : List Prm) ++ [⟨chrS, set⟩]) from by rw [hw5]; exact OwnPs.set HO4.out HX4.out _ _)
    have HA5 := Lib.hid (show OwnPs w5 base none c [] from by rw [hw5]; exact OwnPs.set (own_mv HO.out (Mv.of_below HS4.out.b []) (by simp)) HX4.out _ _)
    have hbw : base ≤ w2.heap.size := by omega
    clear HO4 HX4 HS4
    go_upto_region 8 with fail
    rw [← hw5]
    clear hw5 f2 e2
    obtain ⟨_, _, _, d0, d1, d2⟩ := HS5.out.cells
    have r0 := HS5.out.r.cell 0
    have r1 := HS5.out.r.cell 1
    have r2 := HS5.out.r.cell 2
    have z0 := HS5.out.r.frozen 0
    have z1 := HS5.out.r.frozen 1
    have z2 := HS5.out.r.frozen 2
    go_wp2
    refine bodyPost_ret (v := .tuple #[mimV tn un none 0 c, .string set]) (by simp [results, Try.results7, go_sem, r0, r1, r2]; done) rfl ?_
    exact ⟨none, c, rfl, OwnPs.set3 HA5.out HS5.out.r _ _ _, ((HS5.out.b.setCell (by show w.heap.size ≤ w.heap.size + 1 + 1; omega) _).setCell (by show w.heap.size ≤ w.heap.size + 1 + 1; omega) _).setCell (by show w.heap.size ≤ w.heap.size + 1 + 1; omega) _⟩

  | some a =>
    obtain ⟨i0, hi, hz0, hz1, hz2⟩ := info_parts Try.infoPrm
    obtain ⟨w2, hw2⟩ : ∃ w2, w2 = w1.alloc (.cells #[.string tn, .string un, .slice (some a) ps.length c] 24) := ⟨_, rfl⟩
    have b2 : Below w1.heap.size w1 w2 := by rw [hw2]; exact (Below.refl _ _).alloc (Nat.le_refl _) _
    have HX2 := Lib.hid (show Blk w2 w1.heap.size 24 _ from by rw [hw2]; exact Blk.new w1 24 #[.string tn, .string un, .slice (some a) ps.length c])
    have HS2 := Lib.hid (HS1.out.step b2)
    have hx2 := HX2.out.lt
    clear b2
    go_upto_region 7 with fail
    rw [← hw2]
    generalize w1.heap.size = xb at *
    clear hw2 HS1 c0' c1' c2' d0 d1 d2
    obtain ⟨_, _, _, d0, d1, d2⟩ := HS2.out.cells
    have hx2' : w.heap.size + 1 + 1 < w2.heap.size := HS2.out.r.lt
    have hx3 : w.heap.size + 1 < w2.heap.size := by omega
    go_wp2_with (at_builtin; refine wpList_append_own _ rfl _ _ 22 rfl w2.heap.size 33 i0 _ 2 32 Try.underlying22 hi hz0 hz1 hz2 rfl (by decide) _ _ _ rfl (World.ownsRow_made w2 #[] 0 (Nat.le_refl _) (Nat.zero_le _) rfl) a ps.length c (prmL ps) rfl (by rw [prmL_len]) (HP.out.below ((HS2.out.b).alloc (by omega) _)).cells (prmL_one ps) ?_ ?_ ?_ ?_)
    · unfold maxLen; omega
    · omega
    · simp
    intro v3 w3 hown3 hgrow3 _
    have HO3 := Lib.hid (show w3.ownsRow w2.heap.size 33 2 v3 ps.length (prmL ps) from by simpa using hown3)
    have HB3 := Lib.hid (show Below w2.heap.size w2 w3 from ((Below.refl _ _).alloc (Nat.le_refl _) _).grown hgrow3 (by simp) (fun g hg => by simp [Value.ownBlock] at hg; omega))
    clear hown3 hgrow3
    have hx4 : w2.heap.size ≤ w3.heap.size := HB3.out.size
    go_wp2_with (at_builtin; refine wpList_append_own _ rfl _ _ 22 rfl w2.heap.size 33 i0 _ 2 32 Try.underlying22 hi hz0 hz1 hz2 rfl (by decide) _ _ _ rfl (HO3.out.alloc _) ⟨w3.heap.size, 0, none⟩ 1 1 [.string chrS, .string set] rfl rfl ?_ ?_ ?_ ?_ ?_ ?_)
    · intro j u hj
      have hcb := Blk.new w3 33 #[.string chrS, .string set]
      have e : (⟨w3.heap.size, 0, none⟩ : Addr).add j = ⟨w3.heap.size, j, none⟩ := by cases j <;> simp [Addr.add]
      rw [e, hcb.cell]
      simpa using hj
    · intro u hu
      simp at hu
      rcases hu with rfl | rfl <;> rfl
    · unfold maxLen; omega
    · omega
    · simp; omega
    intro v4 w4 hown4 hgrow4 _
    have hown4' : w4.ownsRow w2.heap.size 33 2 v4 (ps ++ [(⟨chrS, set⟩ : Prm)]).length (prmL (ps ++ [⟨chrS, set⟩])) := by rw [prmL_snoc, List.length_append]; exact hown4
    have HB4 := Lib.hid (show Below w2.heap.size w2 w4 from (HB3.out.alloc HB3.out.size _).grown hgrow4 (by simp; omega) (fun g hg => (HO3.out.lt g hg).1))
    obtain ⟨A4, c4, rfl⟩ := own_slc hown4'
    obtain ⟨n, hn⟩ : ∃ n, n = (ps ++ [(⟨chrS, set⟩ : Prm)]).length := ⟨_, rfl⟩
    have HO4 := Lib.hid (show OwnPs w4 w2.heap.size A4 c4 (ps ++ [⟨chrS, set⟩]) from hown4')
    have HN := Lib.hid hn
    rw [← hn]
    clear hown4 hown4' hgrow4 hn HO3
    have HX4 := Lib.hid (HX2.out.below HB4.out hx2)
    have HS4 := Lib.hid (HS2.out.step HB4.out)
    have f2 := HX4.out.frozen 2
    have e2 := HX4.out.cell 2
    clear HB3 HB4 HX2 HS2 d0 d1 d2
    obtain ⟨w5, hw5⟩ : ∃ w5, w5 = w4.setCell ⟨xb, 2, none⟩ (.slice A4 n c4) := ⟨_, rfl⟩
    have HX5 := Lib.hid (show Blk w5 xb 24 #[.string tn, .string un, .slice A4 n c4] from by rw [hw5]; exact HX4.out.set_ 2 _)
    have HS5 := Lib.hid (show StB w tm um A0 n0 c0 tn un (some a) ps.length c w5 from by rw [hw5]; exact HS4.out.set (by omega) _ _)
    have HO5 := Lib.hid (show OwnPs w5 w2.heap.size A4 c4 (ps ++ [⟨chrS, set⟩]) from by rw [hw5]; exact OwnPs.set HO4.out HX4.out _ _)
    have HA5 := Lib.hid (show OwnPs w5 base (some a) c ps from by rw [hw5]; exact OwnPs.set (own_mv HO.out (Mv.of_below HS4.out.b []) (by simp)) HX4.out _ _)
    have hbw : base ≤ w2.heap.size := by omega
    clear HO4 HX4 HS4
    go_upto_region 8 with fail
    rw [← hw5]
    clear hw5 f2 e2
    obtain ⟨_, _, _, d0, d1, d2⟩ := HS5.out.cells
    have r0 := HS5.out.r.cell 0
    have r1 := HS5.out.r.cell 1
    have r2 := HS5.out.r.cell 2
    have z0 := HS5.out.r.frozen 0
    have z1 := HS5.out.r.frozen 1
    have z2 := HS5.out.r.frozen 2
    go_wp2
    refine bodyPost_ret (v := .tuple #[mimV tn un (some a) ps.length c, .string set]) (by simp [results, Try.results7, go_sem, r0, r1, r2]; done) rfl ?_
    exact ⟨(some a), c, rfl, OwnPs.set3 HA5.out HS5.out.r _ _ _, ((HS5.out.b.setCell (by show w.heap.size ≤ w.heap.size + 1 + 1; omega) _).setCell (by show w.heap.size ≤ w.heap.size + 1 + 1; omega) _).setCell (by show w.heap.size ≤ w.heap.size + 1 + 1; omega) _⟩

set_option maxHeartbeats 4000000 in
set_option maxRecDepth 100000 in
theorem rstep_bad (tm um : ByteArray) (A0 : Option Addr) (n0 c0 : Nat) (set : ByteArray) (nx : Mty) (A : Option Addr) (c base : Nat) (w : World) (h : OwnPs w base A c nx.ps) (hb : base ≤ w.heap.size) (hs : nx.small) (htm : tm.size ≤ 1048576) (hum : um.size ≤ 1048576)
    (hset : set.size ≤ 1048576) (hd : eqS (essS nx.t nx.u) (essS tm um) = true) (hv : seenB nx.ps chrS = false) (he : (set.toList == []) = false) (hg : goodM nx.t nx.u (nx.ps ++ [⟨chrS, set⟩]) = false) :
    Calls Try.prog 7 #[mimV tm um A0 n0 c0, .string set, mimV nx.t nx.u A nx.ps.length c] w (StepOf (stepT tm um set nx) base w) := by
  rw [stepT_not hd (by unfold moreB; rw [hv, he, hg]; rfl)]
  obtain ⟨tn, un, ps⟩ := nx
  obtain ⟨h1, h2, h3, h4⟩ := hs
  simp only at h h1 h2 h3 h4 hd hv hg ⊢
  have HO := Lib.hid h
  have HP := Lib.hid h.ps
  obtain ⟨w0, hw0⟩ : ∃ w0, w0 = (((w.alloc (.cells #[.string tm, .string um, .slice A0 n0 c0] 24)).alloc (.cells #[.string tn, .string un, .slice A ps.length c] 24)).alloc (.cells #[.string ⟨#[]⟩, .string ⟨#[]⟩, .slice none 0 0] 24)) := ⟨_, rfl⟩
  have HS0 := Lib.hid (show StB w tm um A0 n0 c0 tn un A ps.length c w0 from by rw [hw0]; exact StB.first _ _ _ _ _ _ _ _ _ _ _)
  have HAT := Lib.hid (fun W (hW : PsIn W A ps) => rAt_any tn un A ps c chrS W hW (by omega))
  have hge := atI_ge ps chrS
  rw [hv] at hge
  obtain ⟨ai, hai⟩ : ∃ ai, ai = atI ps chrS := ⟨_, rfl⟩
  rw [← hai] at HAT hge
  have g0 : ai < 0 := by have := of_decide_eq_false hge; omega
  clear hai hge
  have HGD := Lib.hid (fun W A4 c4 (hW : PsIn W A4 (ps ++ [⟨chrS, set⟩])) => rgood_any tn un A4 (ps ++ [⟨chrS, set⟩]) c4 W ⟨hW, h3.snoc (by show 7 ≤ _; omega) hset, h1, h2, by simp; omega⟩)
  rw [hg] at HGD
  have hdl : (((tm ++ ⟨#[47]⟩) ++ um).toList == ((tn ++ ⟨#[47]⟩) ++ un).toList) = true := by
    rw [essS_is, essS_is]
    exact (eqS_flip _ _).trans hd
  have k1 : ¬ 9223372036854775807 < tm.size + 1 := by omega
  have k2 : ¬ 9223372036854775807 < tm.size + 1 + um.size := by omega
  have k3 : ¬ 9223372036854775807 < tn.size + 1 := by omega
  have k4 : ¬ 9223372036854775807 < tn.size + 1 + un.size := by omega
  clear h hd
  obtain ⟨c0', c1', c2', d0, d1, d2⟩ := HS0.out.cells
  rw [hw0] at c0' c1' c2' d0 d1 d2
  go_enter Try.func7, Try.ntmps7
  go_wp2_with fail
  rw [← hw0]
  clear hw0 c0' c1' c2' d0 d1 d2
  refine (HAT.out _ (HP.out.below HS0.out.b)).mono ?_
  rintro e w1 ⟨rfl, b1⟩
  have HS1 := Lib.hid (HS0.out.step b1)
  clear b1 HS0
  obtain ⟨c0', c1', c2', d0, d1, d2⟩ := HS1.out.cells
  have hl1 := HS1.out.r.lt
  cases A with
  | none =>
    have hps : ps = [] := by
      cases ps with
      | nil => rfl
      | cons q r =>
        obtain ⟨g, e, _⟩ := HP.out 0 (by simp)
        cases e
    subst hps
    obtain ⟨i0, hi, hz0, hz1, hz2⟩ := info_parts Try.infoPrm
    obtain ⟨w2, hw2⟩ : ∃ w2, w2 = w1.alloc (.cells #[.string tn, .string un, .slice none 0 c] 24) := ⟨_, rfl⟩
    have b2 : Below w1.heap.size w1 w2 := by rw [hw2]; exact (Below.refl _ _).alloc (Nat.le_refl _) _
    have HX2 := Lib.hid (show Blk w2 w1.heap.size 24 _ from by rw [hw2]; exact Blk.new w1 24 #[.string tn, .string un, .slice none 0 c])
    have HS2 := Lib.hid (HS1.out.step b2)
    have hx2 := HX2.out.lt
    clear b2
    go_upto_region 7 with fail
    rw [← hw2]
    generalize w1.heap.size = xb at *
    clear hw2 HS1 c0' c1' c2' d0 d1 d2
    obtain ⟨_, _, _, d0, d1, d2⟩ := HS2.out.cells
    have hx2' : w.heap.size + 1 + 1 < w2.heap.size := HS2.out.r.lt
    have hx3 : w.heap.size + 1 < w2.heap.size := by omega
    obtain ⟨w3, hw3⟩ : ∃ w3, w3 = w2.alloc (.cells #[] 33) := ⟨_, rfl⟩
    have HO3 := Lib.hid (show w3.ownsRow w2.heap.size 33 2 (.slice (some ⟨w2.heap.size, 0, none⟩) 0 0) 0 (prmL []) from by
      rw [hw3]; exact World.ownsRow_made w2 #[] 0 (Nat.le_refl _) (Nat.zero_le _) rfl)
    have HB3 := Lib.hid (show Below w2.heap.size w2 w3 from by rw [hw3]; exact (Below.refl _ _).alloc (Nat.le_refl _) _)
    go_wp2_with (at_builtin; refine append_onto_none rfl _ _ rfl w2.heap.size c rfl rfl ?_)
    refine Lib.hid ?_
    rw [← hw3]
    generalize hvv : (Value.slice (some ⟨w2.heap.size, 0, none⟩) 0 0) = v3 at HO3 ⊢
    clear hw3 hvv
    have hx4 : w2.heap.size ≤ w3.heap.size := HB3.out.size
    go_wp2_with (at_builtin; refine wpList_append_own _ rfl _ _ 22 rfl w2.heap.size 33 i0 _ 2 32 Try.underlying22 hi hz0 hz1 hz2 rfl (by decide) _ _ _ rfl (HO3.out.alloc _) ⟨w3.heap.size, 0, none⟩ 1 1 [.string chrS, .string set] rfl rfl ?_ ?_ ?_ ?_ ?_ ?_)
    · intro j u hj
      have hcb := Blk.new w3 33 #[.string chrS, .string set]
      have e : (⟨w3.heap.size, 0, none⟩ : Addr).add j = ⟨w3.heap.size, j, none⟩ := by cases j <;> simp [Addr.add]
      rw [e, hcb.cell]
      simpa using hj
    · intro u hu
      simp at hu
      rcases hu with rfl | rfl <;> rfl
    · unfold maxLen; omega
    · omega
    · simp; omega
    intro v4 w4 hown4 hgrow4 _
    have hown4' : w4.ownsRow w2.heap.size 33 2 v4 (([] : List Prm) ++ [(⟨chrS, set⟩ : Prm)]).length (prmL (([] : List Prm) ++ [⟨chrS, set⟩])) := by rw [prmL_snoc, List.length_append]; exact hown4
    have HB4 := Lib.hid (show Below w2.heap.size w2 w4 from (HB3.out.alloc HB3.out.size _).grown hgrow4 (by simp; omega) (fun g hg => (HO3.out.lt g hg).1))
    obtain ⟨A4, c4, rfl⟩ := own_slc hown4'
    obtain ⟨n, hn⟩ : ∃ n, n = (([] : List Prm) ++ [(⟨chrS, set⟩ : Prm)]).length := ⟨_, rfl⟩
    have HO4 := Lib.hid (show OwnPs w4 w2.heap.size A4 c4 (([] : List Prm) ++ [⟨chrS, set⟩]) from hown4')
    have HN := Lib.hid hn
    rw [← hn]
    clear hown4 hown4' hgrow4 hn HO3
    have HX4 := Lib.hid (HX2.out.below HB4.out hx2)
    have HS4 := Lib.hid (HS2.out.step HB4.out)
    have f2 := HX4.out.frozen 2
    have e2 := HX4.out.cell 2
    clear HB3 HB4 HX2 HS2 d0 d1 d2
    obtain ⟨w5, hw5⟩ : ∃ w5, w5 = w4.setCell ⟨xb, 2, none⟩ (.slice A4 n c4) := ⟨_, rfl⟩
    have HX5 := Lib.hid (show Blk w5 xb 24 #[.string tn, .string un, .slice A4 n c4] from by rw [hw5]; exact HX4.out.set_ 2 _)
    have HS5 := Lib.hid (show StB w tm um A0 n0 c0 tn un none 0 c w5 from by rw [hw5]; exact HS4.out.set (by omega) _ _)
    have HO5 := Lib.hid (show OwnPs w5 w2.heap.size A4 c4 (([] : List Prm) ++ [⟨chrS, set⟩]) from by rw [hw5]; exact OwnPs.set HO4.out HX4.out _ _)
    have HA5 := Lib.hid (show OwnPs w5 base none c [] from by rw [hw5]; exact OwnPs.set (own_mv HO.out (Mv.of_below HS4.out.b []) (by simp)) HX4.out _ _)
    have hbw : base ≤ w2.heap.size := by omega
    clear HO4 HX4 HS4
    go_upto_region 8 with fail
    rw [← hw5]
    clear hw5 f2 e2
    obtain ⟨_, _, _, d0, d1, d2⟩ := HS5.out.cells
    have x0 := HX5.out.cell 0
    have x1 := HX5.out.cell 1
    have x2 := HX5.out.cell 2
    have HM5 := Lib.hid (HGD.out w5 A4 c4 HO5.out.ps)
    rw [← HN.out] at HM5
    go_wp2_with fail
    refine HM5.out.mono ?_
    rintro e w6 ⟨rfl, b6⟩
    have HS6 := Lib.hid (HS5.out.step b6)
    have HX6 := Lib.hid (HX5.out.below b6 HX5.out.lt)
    have HO6 := Lib.hid (own_mv HO5.out (Mv.of_below b6 []) (by simp))
    have HA6 := Lib.hid (own_mv HA5.out (Mv.of_below b6 []) (by simp))
    clear b6 HS5 HX5 HO5 HA5 HM5 d0 d1 d2 x0 x1 x2
    obtain ⟨_, _, _, d0, d1, d2⟩ := HS6.out.cells
    have x0 := HX6.out.cell 0
    have x1 := HX6.out.cell 1
    have x2 := HX6.out.cell 2
    have r0 := HS6.out.r.cell 0
    have r1 := HS6.out.r.cell 1
    have r2 := HS6.out.r.cell 2
    have z0 := HS6.out.r.frozen 0
    have z1 := HS6.out.r.frozen 1
    have z2 := HS6.out.r.frozen 2
    go_wp2
    refine bodyPost_ret (v := .tuple #[mimV tn un none 0 c, .string set]) (by simp [results, Try.results7, go_sem, r0, r1, r2]; done) rfl ?_
    exact ⟨none, c, rfl, OwnPs.set3 HA6.out HS6.out.r _ _ _, ((HS6.out.b.setCell (by show w.heap.size ≤ w.heap.size + 1 + 1; omega) _).setCell (by show w.heap.size ≤ w.heap.size + 1 + 1; omega) _).setCell (by show w.heap.size ≤ w.heap.size + 1 + 1; omega) _⟩

  | some a =>
    obtain ⟨i0, hi, hz0, hz1, hz2⟩ := info_parts Try.infoPrm
    obtain ⟨w2, hw2⟩ : ∃ w2, w2 = w1.alloc (.cells #[.string tn, .string un, .slice (some a) ps.length c] 24) := ⟨_, rfl⟩
    have b2 : Below w1.heap.size w1 w2 := by rw [hw2]; exact (Below.refl _ _).alloc (Nat.le_refl _) _
    have HX2 := Lib.hid (show Blk w2 w1.heap.size 24 _ from by rw [hw2]; exact Blk.new w1 24 #[.string tn, .string un, .slice (some a) ps.length c])
    have HS2 := Lib.hid (HS1.out.step b2)
    have hx2 := HX2.out.lt
    clear b2
    go_upto_region 7 with fail
    rw [← hw2]
    generalize w1.heap.size = xb at *
    clear hw2 HS1 c0' c1' c2' d0 d1 d2
    obtain ⟨_, _, _, d0, d1, d2⟩ := HS2.out.cells
    have hx2' : w.heap.size + 1 + 1 < w2.heap.size := HS2.out.r.lt
    have hx3 : w.heap.size + 1 < w2.heap.size := by omega
    go_wp2_with (at_builtin; refine wpList_append_own _ rfl _ _ 22 rfl w2.heap.size 33 i0 _ 2 32 Try.underlying22 hi hz0 hz1 hz2 rfl (by decide) _ _ _ rfl (World.ownsRow_made w2 #[] 0 (Nat.le_refl _) (Nat.zero_le _) rfl) a ps.length c (prmL ps) rfl (by rw [prmL_len]) (HP.out.below ((HS2.out.b).alloc (by omega) _)).cells (prmL_one ps) ?_ ?_ ?_ ?_)
    · unfold maxLen; omega
    · omega
    · simp
    intro v3 w3 hown3 hgrow3 _
    have HO3 := Lib.hid (show w3.ownsRow w2.heap.size 33 2 v3 ps.length (prmL ps) from by simpa using hown3)
    have HB3 := Lib.hid (show Below w2.heap.size w2 w3 from ((Below.refl _ _).alloc (Nat.le_refl _) _).grown hgrow3 (by simp) (fun g hg => by simp [Value.ownBlock] at hg; omega))
    clear hown3 hgrow3
    have hx4 : w2.heap.size ≤ w3.heap.size := HB3.out.size
    go_wp2_with (at_builtin; refine wpList_append_own _ rfl _ _ 22 rfl w2.heap.size 33 i0 _ 2 32 Try.underlying22 hi hz0 hz1 hz2 rfl (by decide) _ _ _ rfl (HO3.out.alloc _) ⟨w3.heap.size, 0, none⟩ 1 1 [.string chrS, .string set] rfl rfl ?_ ?_ ?_ ?_ ?_ ?_)
    · intro j u hj
      have hcb := Blk.new w3 33 #[.string chrS, .string set]
      have e : (⟨w3.heap.size, 0, none⟩ : Addr).add j = ⟨w3.heap.size, j, none⟩ := by cases j <;> simp [Addr.add]
      rw [e, hcb.cell]
      simpa using hj
    · intro u hu
      simp at hu
      rcases hu with rfl | rfl <;> rfl
    · unfold maxLen; omega
    · omega
    · simp; omega
    intro v4 w4 hown4 hgrow4 _
    have hown4' : w4.ownsRow w2.heap.size 33 2 v4 (ps ++ [(⟨chrS, set⟩ : Prm)]).length (prmL (ps ++ [⟨chrS, set⟩])) := by rw [prmL_snoc, List.length_append]; exact hown4
    have HB4 := Lib.hid (show Below w2.heap.size w2 w4 from (HB3.out.alloc HB3.out.size _).grown hgrow4 (by simp; omega) (fun g hg => (HO3.out.lt g hg).1))
    obtain ⟨A4, c4, rfl⟩ := own_slc hown4'
    obtain ⟨n, hn⟩ : ∃ n, n = (ps ++ [(⟨chrS, set⟩ : Prm)]).length := ⟨_, rfl⟩
    have HO4 := Lib.hid (show OwnPs w4 w2.heap.size A4 c4 (ps ++ [⟨chrS, set⟩]) from hown4')
    have HN := Lib.hid hn
    rw [← hn]
    clear hown4 hown4' hgrow4 hn HO3
    have HX4 := Lib.hid (HX2.out.below HB4.out hx2)
    have HS4 := Lib.hid (HS2.out.step HB4.out)
    have f2 := HX4.out.frozen 2
    have e2 := HX4.out.cell 2
    clear HB3 HB4 HX2 HS2 d0 d1 d2
    obtain ⟨w5, hw5⟩ : ∃ w5, w5 = w4.setCell ⟨xb, 2, none⟩ (.slice A4 n c4) := ⟨_, rfl⟩
    have HX5 := Lib.hid (show Blk w5 xb 24 #[.string tn, .string un, .slice A4 n c4] from by rw [hw5]; exact HX4.out.set_ 2 _)
    have HS5 := Lib.hid (show StB w tm um A0 n0 c0 tn un (some a) ps.length c w5 from by rw [hw5]; exact HS4.out.set (by omega) _ _)
    have HO5 := Lib.hid (show OwnPs w5 w2.heap.size A4 c4 (ps ++ [⟨chrS, set⟩]) from by rw [hw5]; exact OwnPs.set HO4.out HX4.out _ _)
    have HA5 := Lib.hid (show OwnPs w5 base (some a) c ps from by rw [hw5]; exact OwnPs.set (own_mv HO.out (Mv.of_below HS4.out.b []) (by simp)) HX4.out _ _)
    have hbw : base ≤ w2.heap.size := by omega
    clear HO4 HX4 HS4
    go_upto_region 8 with fail
    rw [← hw5]
    clear hw5 f2 e2
    obtain ⟨_, _, _, d0, d1, d2⟩ := HS5.out.cells
    have x0 := HX5.out.cell 0
    have x1 := HX5.out.cell 1
    have x2 := HX5.out.cell 2
    have HM5 := Lib.hid (HGD.out w5 A4 c4 HO5.out.ps)
    rw [← HN.out] at HM5
    go_wp2_with fail
    refine HM5.out.mono ?_
    rintro e w6 ⟨rfl, b6⟩
    have HS6 := Lib.hid (HS5.out.step b6)
    have HX6 := Lib.hid (HX5.out.below b6 HX5.out.lt)
    have HO6 := Lib.hid (own_mv HO5.out (Mv.of_below b6 []) (by simp))
    have HA6 := Lib.hid (own_mv HA5.out (Mv.of_below b6 []) (by simp))
    clear b6 HS5 HX5 HO5 HA5 HM5 d0 d1 d2 x0 x1 x2
    obtain ⟨_, _, _, d0, d1, d2⟩ := HS6.out.cells
    have x0 := HX6.out.cell 0
    have x1 := HX6.out.cell 1
    have x2 := HX6.out.cell 2
    have r0 := HS6.out.r.cell 0
    have r1 := HS6.out.r.cell 1
    have r2 := HS6.out.r.cell 2
    have z0 := HS6.out.r.frozen 0
    have z1 := HS6.out.r.frozen 1
    have z2 := HS6.out.r.frozen 2
    go_wp2
    refine bodyPost_ret (v := .tuple #[mimV tn un (some a) ps.length c, .string set]) (by simp [results, Try.results7, go_sem, r0, r1, r2]; done) rfl ?_
    exact ⟨(some a), c, rfl, OwnPs.set3 HA6.out HS6.out.r _ _ _, ((HS6.out.b.setCell (by show w.heap.size ≤ w.heap.size + 1 + 1; omega) _).setCell (by show w.heap.size ≤ w.heap.size + 1 + 1; omega) _).setCell (by show w.heap.size ≤ w.heap.size + 1 + 1; omega) _⟩

set_option maxHeartbeats 4000000 in
set_option maxRecDepth 100000 in
theorem rstep_good (tm um : ByteArray) (A0 : Option Addr) (n0 c0 : Nat) (set : ByteArray) (nx : Mty) (A : Option Addr) (c base : Nat) (w : World) (h : OwnPs w base A c nx.ps) (hb : base ≤ w.heap.size) (hs : nx.small) (htm : tm.size ≤ 1048576) (hum : um.size ≤ 1048576)
    (hset : set.size ≤ 1048576) (hd : eqS (essS nx.t nx.u) (essS tm um) = true) (hv : seenB nx.ps chrS = false) (he : (set.toList == []) = false) (hg : goodM nx.t nx.u (nx.ps ++ [⟨chrS, set⟩]) = true) :
    Calls Try.prog 7 #[mimV tm um A0 n0 c0, .string set, mimV nx.t nx.u A nx.ps.length c] w (StepOf (stepT tm um set nx) base w) := by
  rw [stepT_more hd (by unfold moreB; rw [hv, he, hg]; rfl)]
  obtain ⟨tn, un, ps⟩ := nx
  obtain ⟨h1, h2, h3, h4⟩ := hs
  simp only at h h1 h2 h3 h4 hd hv hg ⊢
  have HO := Lib.hid h
  have HP := Lib.hid h.ps
  obtain ⟨w0, hw0⟩ : ∃ w0, w0 = (((w.alloc (.cells #[.string tm, .string um, .slice A0 n0 c0] 24)).alloc (.cells #[.string tn, .string un, .slice A ps.length c] 24)).alloc (.cells #[.string ⟨#[]⟩, .string ⟨#[]⟩, .slice none 0 0] 24)) := ⟨_, rfl⟩
  have HS0 := Lib.hid (show StB w tm um A0 n0 c0 tn un A ps.length c w0 from by rw [hw0]; exact StB.first _ _ _ _ _ _ _ _ _ _ _)
  have HAT := Lib.hid (fun W (hW : PsIn W A ps) => rAt_any tn un A ps c chrS W hW (by omega))
  have hge := atI_ge ps chrS
  rw [hv] at hge
  obtain ⟨ai, hai⟩ : ∃ ai, ai = atI ps chrS := ⟨_, rfl⟩
  rw [← hai] at HAT hge
  have g0 : ai < 0 := by have := of_decide_eq_false hge; omega
  clear hai hge
  have HGD := Lib.hid (fun W A4 c4 (hW : PsIn W A4 (ps ++ [⟨chrS, set⟩])) => rgood_any tn un A4 (ps ++ [⟨chrS, set⟩]) c4 W ⟨hW, h3.snoc (by show 7 ≤ _; omega) hset, h1, h2, by simp; omega⟩)
  rw [hg] at HGD
  have hdl : (((tm ++ ⟨#[47]⟩) ++ um).toList == ((tn ++ ⟨#[47]⟩) ++ un).toList) = true := by
    rw [essS_is, essS_is]
    exact (eqS_flip _ _).trans hd
  have k1 : ¬ 9223372036854775807 < tm.size + 1 := by omega
  have k2 : ¬ 9223372036854775807 < tm.size + 1 + um.size := by omega
  have k3 : ¬ 9223372036854775807 < tn.size + 1 := by omega
  have k4 : ¬ 9223372036854775807 < tn.size + 1 + un.size := by omega
  clear h hd
  obtain ⟨c0', c1', c2', d0, d1, d2⟩ := HS0.out.cells
  rw [hw0] at c0' c1' c2' d0 d1 d2
  go_enter Try.func7, Try.ntmps7
  go_wp2_with fail
  rw [← hw0]
  clear hw0 c0' c1' c2' d0 d1 d2
  refine (HAT.out _ (HP.out.below HS0.out.b)).mono ?_
  rintro e w1 ⟨rfl, b1⟩
  have HS1 := Lib.hid (HS0.out.step b1)
  clear b1 HS0
  obtain ⟨c0', c1', c2', d0, d1, d2⟩ := HS1.out.cells
  have hl1 := HS1.out.r.lt
  cases A with
  | none =>
    have hps : ps = [] := by
      cases ps with
      | nil => rfl
      | cons q r =>
        obtain ⟨g, e, _⟩ := HP.out 0 (by simp)
        cases e
    subst hps
    obtain ⟨i0, hi, hz0, hz1, hz2⟩ := info_parts Try.infoPrm
    obtain ⟨w2, hw2⟩ : ∃ w2, w2 = w1.alloc (.cells #[.string tn, .string un, .slice none 0 c] 24) := ⟨_, rfl⟩
    have b2 : Below w1.heap.size w1 w2 := by rw [hw2]; exact (Below.refl _ _).alloc (Nat.le_refl _) _
    have HX2 := Lib.hid (show Blk w2 w1.heap.size 24 _ from by rw [hw2]; exact Blk.new w1 24 #[.string tn, .string un, .slice none 0 c])
    have HS2 := Lib.hid (HS1.out.step b2)
    have hx2 := HX2.out.lt
    clear b2
    go_upto_region 7 with fail
    rw [← hw2]
    generalize w1.heap.size = xb at *
    clear hw2 HS1 c0' c1' c2' d0 d1 d2
    obtain ⟨_, _, _, d0, d1, d2⟩ := HS2.out.cells
    have hx2' : w.heap.size + 1 + 1 < w2.heap.size := HS2.out.r.lt
    have hx3 : w.heap.size + 1 < w2.heap.size := by omega
    obtain ⟨w3, hw3⟩ : ∃ w3, w3 = w2.alloc (.cells #[] 33) := ⟨_, rfl⟩
    have HO3 := Lib.hid (show w3.ownsRow w2.heap.size 33 2 (.slice (some ⟨w2.heap.size, 0, none⟩) 0 0) 0 (prmL []) from by
      rw [hw3]; exact World.ownsRow_made w2 #[] 0 (Nat.le_refl _) (Nat.zero_le _) rfl)
    have HB3 := Lib.hid (show Below w2.heap.size w2 w3 from by rw [hw3]; exact (Below.refl _ _).alloc (Nat.le_refl _) _)
    go_wp2_with (at_builtin; refine append_onto_none rfl _ _ rfl w2.heap.size c rfl rfl ?_)
    refine Lib.hid ?_
    rw [← hw3]
    generalize hvv : (Value.slice (some ⟨w2.heap.size, 0, none⟩) 0 0) = v3 at HO3 ⊢
    clear hw3 hvv
    have hx4 : w2.heap.size ≤ w3.heap.size := HB3.out.size
    go_wp2_with (at_builtin; refine wpList_append_own _ rfl _ _ 22 rfl w2.heap.size 33 i0 _ 2 32 Try.underlying22 hi hz0 hz1 hz2 rfl (by decide) _ _ _ rfl (HO3.out.alloc _) ⟨w3.heap.size, 0, none⟩ 1 1 [.string chrS, .string set] rfl rfl ?_ ?_ ?_ ?_ ?_ ?_)
    · intro j u hj
      have hcb := Blk.new w3 33 #[.string chrS, .string set]
      have e : (⟨w3.heap.size, 0, none⟩ : Addr).add j = ⟨w3.heap.size, j, none⟩ := by cases j <;> simp [Addr.add]
      rw [e, hcb.cell]
      simpa using hj
    · intro u hu
      simp at hu
      rcases hu with rfl | rfl <;> rfl
    · unfold maxLen; omega
    · omega
    · simp; omega
    intro v4 w4 hown4 hgrow4 _
    have hown4' : w4.ownsRow w2.heap.size 33 2 v4 (([] : List Prm) ++ [(⟨chrS, set⟩ : Prm)]).length (prmL (([] : List Prm) ++ [⟨chrS, set⟩])) := by rw [prmL_snoc, List.length_append]; exact hown4
    have HB4 := Lib.hid (show Below w2.heap.size w2 w4 from (HB3.out.alloc HB3.out.size _).grown hgrow4 (by simp; omega) (fun g hg => (HO3.out.lt g hg).1))
    obtain ⟨A4, c4, rfl⟩ := own_slc hown4'
    obtain ⟨n, hn⟩ : ∃ n, n = (([] : List Prm) ++ [(⟨chrS, set⟩ : Prm)]).length := ⟨_, rfl⟩
    have HO4 := Lib.hid (show OwnPs w4 w2.heap.size A4 c4 (([] : List Prm) ++ [⟨chrS, set⟩]) from hown4')
    have HN := Lib.hid hn
    rw [← hn]
    clear hown4 hown4' hgrow4 hn HO3
    have HX4 := Lib.hid (HX2.out.below HB4.out hx2)
    have HS4 := Lib.hid (HS2.out.step HB4.out)
    have f2 := HX4.out.frozen 2
    have e2 := HX4.out.cell 2
    clear HB3 HB4 HX2 HS2 d0 d1 d2
    obtain ⟨w5, hw5⟩ : ∃ w5, w5 = w4.setCell ⟨xb, 2, none⟩ (.slice A4 n c4) := ⟨_, rfl⟩
    have HX5 := Lib.hid (show Blk w5 xb 24 #[.string tn, .string un, .slice A4 n c4] from by rw [hw5]; exact HX4.out.set_ 2 _)
    have HS5 := Lib.hid (show StB w tm um A0 n0 c0 tn un none 0 c w5 from by rw [hw5]; exact HS4.out.set (by omega) _ _)
    have HO5 := Lib.hid (show OwnPs w5 w2.heap.size A4 c4 (([] : List Prm) ++ [⟨chrS, set⟩]) from by rw [hw5]; exact OwnPs.set HO4.out HX4.out _ _)
    have HA5 := Lib.hid (show OwnPs w5 base none c [] from by rw [hw5]; exact OwnPs.set (own_mv HO.out (Mv.of_below HS4.out.b []) (by simp)) HX4.out _ _)
    have hbw : base ≤ w2.heap.size := by omega
    clear HO4 HX4 HS4
    go_upto_region 8 with fail
    rw [← hw5]
    clear hw5 f2 e2
    obtain ⟨_, _, _, d0, d1, d2⟩ := HS5.out.cells
    have x0 := HX5.out.cell 0
    have x1 := HX5.out.cell 1
    have x2 := HX5.out.cell 2
    have HM5 := Lib.hid (HGD.out w5 A4 c4 HO5.out.ps)
    rw [← HN.out] at HM5
    go_wp2_with fail
    refine HM5.out.mono ?_
    rintro e w6 ⟨rfl, b6⟩
    have HS6 := Lib.hid (HS5.out.step b6)
    have HX6 := Lib.hid (HX5.out.below b6 HX5.out.lt)
    have HO6 := Lib.hid (own_mv HO5.out (Mv.of_below b6 []) (by simp))
    have HA6 := Lib.hid (own_mv HA5.out (Mv.of_below b6 []) (by simp))
    clear b6 HS5 HX5 HO5 HA5 HM5 d0 d1 d2 x0 x1 x2
    obtain ⟨_, _, _, d0, d1, d2⟩ := HS6.out.cells
    have x0 := HX6.out.cell 0
    have x1 := HX6.out.cell 1
    have x2 := HX6.out.cell 2
    have r0 := HS6.out.r.cell 0
    have r1 := HS6.out.r.cell 1
    have r2 := HS6.out.r.cell 2
    have z0 := HS6.out.r.frozen 0
    have z1 := HS6.out.r.frozen 1
    have z2 := HS6.out.r.frozen 2
    go_wp2
    refine bodyPost_ret (v := .tuple #[mimV tn un A4 n c4, .string set]) (by simp [results, Try.results7, go_sem, r0, r1, r2]; done) rfl ?_
    exact ⟨A4, c4, by rw [HN.out], OwnPs.set3 (own_base HO6.out hbw) HS6.out.r _ _ _, ((HS6.out.b.setCell (by show w.heap.size ≤ w.heap.size + 1 + 1; omega) _).setCell (by show w.heap.size ≤ w.heap.size + 1 + 1; omega) _).setCell (by show w.heap.size ≤ w.heap.size + 1 + 1; omega) _⟩

  | some a =>
    obtain ⟨i0, hi, hz0, hz1, hz2⟩ := info_parts Try.infoPrm
    obtain ⟨w2, hw2⟩ : ∃ w2, w2 = w1.alloc (.cells #[.string tn, .string un, .slice (some a) ps.length c] 24) := ⟨_, rfl⟩
    have b2 : Below w1.heap.size w1 w2 := by rw [hw2]; exact (Below.refl _ _).alloc (Nat.le_refl _) _
    have HX2 := Lib.hid (show Blk w2 w1.heap.size 24 _ from by rw [hw2]; exact Blk.new w1 24 #[.string tn, .string un, .slice (some a) ps.length c])
    have HS2 := Lib.hid (HS1.out.step b2)
    have hx2 := HX2.out.lt
    clear b2
    go_upto_region 7 with fail
    rw [← hw2]
    generalize w1.heap.size = xb at *
    clear hw2 HS1 c0' c1' c2' d0 d1 d2
    obtain ⟨_, _, _, d0, d1, d2⟩ := HS2.out.cells
    have hx2' : w.heap.size + 1 + 1 < w2.heap.size := HS2.out.r.lt
    have hx3 : w.heap.size + 1 < w2.heap.size := by omega
    go_wp2_with (at_builtin; refine wpList_append_own _ rfl _ _ 22 rfl w2.heap.size 33 i0 _ 2 32 Try.underlying22 hi hz0 hz1 hz2 rfl (by decide) _ _ _ rfl (World.ownsRow_made w2 #[] 0 (Nat.le_refl _) (Nat.zero_le _) rfl) a ps.length c (prmL ps) rfl (by rw [prmL_len]) (HP.out.below ((HS2.out.b).alloc (by omega) _)).cells (prmL_one ps) ?_ ?_ ?_ ?_)
    · unfold maxLen; omega
    · omega
    · simp
    intro v3 w3 hown3 hgrow3 _
    have HO3 := Lib.hid (show w3.ownsRow w2.heap.size 33 2 v3 ps.length (prmL ps) from by simpa using hown3)
    have HB3 := Lib.hid (show Below w2.heap.size w2 w3 from ((Below.refl _ _).alloc (Nat.le_refl _) _).grown hgrow3 (by simp) (fun g hg => by simp [Value.ownBlock] at hg; omega))
    clear hown3 hgrow3
    have hx4 : w2.heap.size ≤ w3.heap.size := HB3.out.size
    go_wp2_with (at_builtin; refine wpList_append_own _ rfl _ _ 22 rfl w2.heap.size 33 i0 _ 2 32 Try.underlying22 hi hz0 hz1 hz2 rfl (by decide) _ _ _ rfl (HO3.out.alloc _) ⟨w3.heap.size, 0, none⟩ 1 1 [.string chrS, .string set] rfl rfl ?_ ?_ ?_ ?_ ?_ ?_)
    · intro j u hj
      have hcb := Blk.new w3 33 #[.string chrS, .string set]
      have e : (⟨w3.heap.size, 0, none⟩ : Addr).add j = ⟨w3.heap.size, j, none⟩ := by cases j <;> simp [Addr.add]
      rw [e, hcb.cell]
      simpa using hj
    · intro u hu
      simp at hu
      rcases hu with rfl | rfl <;> rfl
    · unfold maxLen; omega
    · omega
    · simp; omega
    intro v4 w4 hown4 hgrow4 _
    have hown4' : w4.ownsRow w2.heap.size 33 2 v4 (ps ++ [(⟨chrS, set⟩ : Prm)]).length (prmL (ps ++ [⟨chrS, set⟩])) := by rw [prmL_snoc, List.length_append]; exact hown4
    have HB4 := Lib.hid (show Below w2.heap.size w2 w4 from (HB3.out.alloc HB3.out.size _).grown hgrow4 (by simp; omega) (fun g hg => (HO3.out.lt g hg).1))
    obtain ⟨A4, c4, rfl⟩ := own_slc hown4'
    obtain ⟨n, hn⟩ : ∃ n, n = (ps ++ [(⟨chrS, set⟩ : Prm)]).length := ⟨_, rfl⟩
    have HO4 := Lib.hid (show OwnPs w4 w2.heap.size A4 c4 (ps ++ [⟨chrS, set⟩]) from hown4')
    have HN := Lib.hid hn
    rw [← hn]
    clear hown4 hown4' hgrow4 hn HO3
    have HX4 := Lib.hid (HX2.out.below HB4.out hx2)
    have HS4 := Lib.hid (HS2.out.step HB4.out)
    have f2 := HX4.out.frozen 2
    have e2 := HX4.out.cell 2
    clear HB3 HB4 HX2 HS2 d0 d1 d2
    obtain ⟨w5, hw5⟩ : ∃ w5, w5 = w4.setCell ⟨xb, 2, none⟩ (.slice A4 n c4) := ⟨_, rfl⟩
    have HX5 := Lib.hid (show Blk w5 xb 24 #[.string tn, .string un, .slice A4 n c4] from by rw [hw5]; exact HX4.out.set_ 2 _)
    have HS5 := Lib.hid (show StB w tm um A0 n0 c0 tn un (some a) ps.length c w5 from by rw [hw5]; exact HS4.out.set (by omega) _ _)
    have HO5 := Lib.hid (show OwnPs w5 w2.heap.size A4 c4 (ps ++ [⟨chrS, set⟩]) from by rw [hw5]; exact OwnPs.set HO4.out HX4.out _ _)
    have HA5 := Lib.hid (show OwnPs w5 base (some a) c ps from by rw [hw5]; exact OwnPs.set (own_mv HO.out (Mv.of_below HS4.out.b []) (by simp)) HX4.out _ _)
    have hbw : base ≤ w2.heap.size := by omega
    clear HO4 HX4 HS4
    go_upto_region 8 with fail
    rw [← hw5]
    clear hw5 f2 e2
    obtain ⟨_, _, _, d0, d1, d2⟩ := HS5.out.cells
    have x0 := HX5.out.cell 0
    have x1 := HX5.out.cell 1
    have x2 := HX5.out.cell 2
    have HM5 := Lib.hid (HGD.out w5 A4 c4 HO5.out.ps)
    rw [← HN.out] at HM5
    go_wp2_with fail
    refine HM5.out.mono ?_
    rintro e w6 ⟨rfl, b6⟩
    have HS6 := Lib.hid (HS5.out.step b6)
    have HX6 := Lib.hid (HX5.out.below b6 HX5.out.lt)
    have HO6 := Lib.hid (own_mv HO5.out (Mv.of_below b6 []) (by simp))
    have HA6 := Lib.hid (own_mv HA5.out (Mv.of_below b6 []) (by simp))
    clear b6 HS5 HX5 HO5 HA5 HM5 d0 d1 d2 x0 x1 x2
    obtain ⟨_, _, _, d0, d1, d2⟩ := HS6.out.cells
    have x0 := HX6.out.cell 0
    have x1 := HX6.out.cell 1
    have x2 := HX6.out.cell 2
    have r0 := HS6.out.r.cell 0
    have r1 := HS6.out.r.cell 1
    have r2 := HS6.out.r.cell 2
    have z0 := HS6.out.r.frozen 0
    have z1 := HS6.out.r.frozen 1
    have z2 := HS6.out.r.frozen 2
    go_wp2
    refine bodyPost_ret (v := .tuple #[mimV tn un A4 n c4, .string set]) (by simp [results, Try.results7, go_sem, r0, r1, r2]; done) rfl ?_
    exact ⟨A4, c4, by rw [HN.out], OwnPs.set3 (own_base HO6.out hbw) HS6.out.r _ _ _, ((HS6.out.b.setCell (by show w.heap.size ≤ w.heap.size + 1 + 1; omega) _).setCell (by show w.heap.size ≤ w.heap.size + 1 + 1; omega) _).setCell (by show w.heap.size ≤ w.heap.size + 1 + 1; omega) _⟩

theorem rstep_any (tm um : ByteArray) (A0 : Option Addr) (n0 c0 : Nat) (set : ByteArray) (nx : Mty) (A : Option Addr) (c base : Nat) (w : World) (h : OwnPs w base A c nx.ps) (hb : base ≤ w.heap.size) (hs : nx.small) (htm : tm.size ≤ 1048576) (hum : um.size ≤ 1048576) (hset : set.size ≤ 1048576) :
    Calls Try.prog 7 #[mimV tm um A0 n0 c0, .string set, mimV nx.t nx.u A nx.ps.length c] w (StepOf (stepT tm um set nx) base w) := by
  cases hd : eqS (essS nx.t nx.u) (essS tm um)
  · cases hv : seenB nx.ps chrS
    · exact rstep_far0 tm um A0 n0 c0 set nx A c base w h hb hs htm hum hd hv
    · exact rstep_far1 tm um A0 n0 c0 set nx A c base w h hb hs htm hum hd hv
  · cases hv : seenB nx.ps chrS
    · cases he : (set.toList == [])
      · cases hg : goodM nx.t nx.u (nx.ps ++ [⟨chrS, set⟩])
        · exact rstep_bad tm um A0 n0 c0 set nx A c base w h hb hs htm hum hset hd hv he hg
        · exact rstep_good tm um A0 n0 c0 set nx A c base w h hb hs htm hum hset hd hv he hg
      · exact rstep_none tm um A0 n0 c0 set nx A c base w h hb hs htm hum hset hd hv he
    · exact rstep_seen tm um A0 n0 c0 set nx A c base w h hb hs htm hum hset hd hv

end Go.Proofs.Ytmepnfkgfbbkiaa
namespace Go.Proofs.Ytmepnfkgfbbkiaa
open Go.RowKit

/-- These types lie behind A. -/
def TyIn (w : World) (A : Option Addr) (R : List Trw) : Prop := ∀ i (h : i < R.length), ∃ g, A = some ⟨g, 0, none⟩ ∧ g < w.heap.size ∧ w.cell? ⟨g, i * 3, none⟩ = some (.string R[i].m.t) ∧ w.cell? ⟨g, i * 3 + 1, none⟩ = some (.string R[i].m.u) ∧ w.cell? ⟨g, i * 3 + 2, none⟩ = some (.slice R[i].A R[i].m.ps.length R[i].c)
theorem TyIn.below {w w' : World} {A : Option Addr} {R : List Trw} (h : TyIn w A R) (hb : Below w.heap.size w w') : TyIn w' A R := fun i hi => by
  obtain ⟨g, e, hl, c0, c1, c2⟩ := h i hi
  exact ⟨g, e, Nat.lt_of_lt_of_le hl hb.size, (hb.cell (p := ⟨g, i * 3, none⟩) hl).trans c0, (hb.cell (p := ⟨g, i * 3 + 1, none⟩) hl).trans c1, (hb.cell (p := ⟨g, i * 3 + 2, none⟩) hl).trans c2⟩
theorem TyIn.of_own {w : World} {base : Nat} {v : Value} {R : List Trw} (h : w.ownsRow base 24 3 v R.length (trwL R)) : ∃ A c, v = .slice A R.length c ∧ TyIn w A R := by
  rcases h.2 with ⟨hv, hn⟩ | ⟨g, cap, cur, hv, hb, hg, hc, _⟩
  · exact ⟨none, 0, by rw [hv, hn], fun i hi => absurd hi (by omega)⟩
  · refine ⟨_, cap, hv, fun i hi => ?_⟩
    subst hv
    have := trwL_at R i hi
    exact ⟨g, rfl, (Array.getElem?_eq_some_iff.1 hg).1, (h.cellAt _ (by omega)).trans this.1, (h.cellAt _ (by omega)).trans this.2.1, (h.cellAt _ (by omega)).trans this.2.2⟩

/-- What is small enough. -/
def Mty.ok (m : Mty) : Prop := m.t.size ≤ 1048576 ∧ m.u.size ≤ 1048576 ∧ AllIn 1048576 m.ps ∧ m.ps.length ≤ 1048576
theorem stepT_ok {t u set : ByteArray} {n : Mty} (h : n.small) (hs : set.size ≤ 1048576) : (stepT t u set n).1.ok ∧ (stepT t u set n).2.size ≤ 1048576 := by
  have h1 := stepT_len t u set n
  refine ⟨⟨by rw [stepT_t]; exact h.1, by rw [stepT_u]; exact h.2.1, stepT_all h.2.2.1 hs (by omega), ?_⟩, stepT_set h.2.2.1 hs⟩
  have := h.2.2.2
  omega
theorem Mty.ok.mim {m : Mty} (h : m.ok) {w : World} {A : Option Addr} (hp : PsIn w A m.ps) : MimIn w m.t m.u A m.ps := ⟨hp, h.2.2.1, h.1, h.2.1, h.2.2.2⟩
theorem extT_oks (l : List Mty) (h : ∀ m ∈ l, m.small) : ∀ k, (extT (l.take k)).1.ok ∧ (extT (l.take k)).2.size ≤ 1048576
  | 0 => ⟨⟨Nat.zero_le _, Nat.zero_le _, fun (p : Prm) (hp : p ∈ []) => absurd hp (by simp), Nat.zero_le _⟩, Nat.zero_le _⟩
  | k + 1 => by
    have ih := extT_oks l h k
    rcases Nat.lt_or_ge k l.length with hk | hk
    · rw [extT_step hk]
      exact stepT_ok (h _ (List.getElem_mem hk)) ih.2
    · rw [List.take_of_length_le (by omega)]
      rw [List.take_of_length_le hk] at ih
      exact ih
theorem extT_ok (l : List Mty) (h : ∀ m ∈ l, m.small) : (extT l).1.ok ∧ (extT l).2.size ≤ 1048576 := by
  have := extT_oks l h l.length
  rwa [List.take_length] at this

/-- What a call of Extract gives. -/
def ExtGives (m : Mty) (code : Int) (base : Nat) (w : World) (e : Ending) (w' : World) : Prop := ∃ A c, e = .returned (.tuple #[mimV m.t m.u A m.ps.length c, .int .i64 code]) ∧ OwnPs w' base A c m.ps ∧ m.ok ∧ Below w.heap.size w w'
def codeOf (Z : List Mty) : Int := if Z.length = 0 then 4 else 0
theorem rows_small {w : World} {base : Nat} {R : List Trw} (h : Rows3 w base R) : ∀ m ∈ R.map Trw.m, m.small := fun m hm => by
  obtain ⟨r, hr, rfl⟩ := List.mem_map.1 hm
  exact (h r hr).2

theorem tys_len {xs : List ByteArray} (hn : xs.length ≤ 700) (hx : ∀ y ∈ xs, y.size ≤ 1000) : (allT (valsL xs)).length ≤ 701401 := by
  have hj := joinS_size hx
  have hnb : xs.length * (1000 + 2) ≤ 700 * 1002 := Nat.mul_le_mul hn (Nat.le_refl _)
  exact Nat.le_trans (allT_len _) (valsL_sizes (n := 701400) (by omega)).2

set_option maxHeartbeats 4000000 in
set_option maxRecDepth 100000 in
theorem extract_any (A : Option Addr) (c : Nat) (xs : List ByteArray) (w : World) (h : TxIn w A xs) (hn : xs.length ≤ 700) (hx : ∀ y ∈ xs, y.size ≤ 1000) (hc : xs.length ≤ c) :
    Calls Try.prog 16 #[.slice A xs.length c] w (ExtGives (extT (allT (valsL xs))).1 (codeOf (allT (valsL xs))) w.heap.size w) := by
  obtain ⟨w0, hw0⟩ : ∃ w0, w0 = w.alloc (.cells #[.string ⟨#[]⟩, .string ⟨#[]⟩, .slice none 0 0] 24) := ⟨_, rfl⟩
  have HB0 := Lib.hid (show Below w.heap.size w w0 from by rw [hw0]; exact (Below.refl _ _).alloc (Nat.le_refl _) _)
  have HR0 := Lib.hid (show Blk w0 w.heap.size 24 #[.string ⟨#[]⟩, .string ⟨#[]⟩, .slice none 0 0] from by rw [hw0]; exact Blk.new _ _ _)
  have HA := Lib.hid (all_any A c xs w0 (h.below HB0.out) hn hx hc)
  have hzl := tys_len hn hx
  obtain ⟨Z, hZ⟩ : ∃ Z, Z = allT (valsL xs) := ⟨_, rfl⟩
  rw [← hZ] at HA hzl ⊢
  obtain ⟨E, hE⟩ : ∃ E, E = (extT Z).1 := ⟨_, rfl⟩
  obtain ⟨code, hco⟩ : ∃ code, code = codeOf Z := ⟨_, rfl⟩
  rw [← hE, ← hco]
  have HE := Lib.hid hE
  have HCO := Lib.hid hco
  clear hE hco
  obtain ⟨ft, fu, fp⟩ := E
  clear h hx hZ
  go_enter Try.func16, Try.ntmps16
  go_wp2_with fail
  rw [← hw0]
  clear hw0
  refine HA.out.mono ?_
  rintro e w1 ⟨v, R, rfl, hmap, ho, hr, b1⟩
  obtain ⟨B, d, rfl, hti⟩ := TyIn.of_own ho
  have HTI := Lib.hid hti
  have HRS := Lib.hid (hr.base HB0.out.size)
  have HR1 := Lib.hid (HR0.out.below b1 HR0.out.lt)
  have HB1 := Lib.hid (below_on HB0.out b1)
  have HMP := Lib.hid hmap
  have hl1 : w.heap.size < w1.heap.size := HR1.out.lt
  have HLN := Lib.hid (show R.length = Z.length from by rw [← hmap, List.length_map])
  have hrl : R.length ≤ 701401 := by have := HLN.out; omega
  have HSM := Lib.hid (show ∀ m ∈ Z, m.small from by rw [← hmap]; exact rows_small hr)
  have HEX := Lib.hid (extT_ok Z HSM.out)
  clear hti hr b1 ho hmap HA HR0 HB0
  by_cases h0 : R.length = 0
  · have d0 : ((R.length : Int) == 0) = true := beq_iff_eq.2 (by omega)
    have hz0 : Z = [] := List.eq_nil_of_length_eq_zero (by have := HLN.out; omega)
    subst hz0
    have hE0 : ft = ⟨#[]⟩ ∧ fu = ⟨#[]⟩ ∧ fp = [] ∧ code = 4 := by
      have h1 := HE.out
      have h2 := HCO.out
      injection h1 with h3 h4 h5
      exact ⟨h3, h4, h5, h2⟩
    obtain ⟨rfl, rfl, rfl, rfl⟩ := hE0
    have r0 := HR1.out.cell 0
    have r1 := HR1.out.cell 1
    have r2 := HR1.out.cell 2
    have z0 := HR1.out.frozen 0
    have z1 := HR1.out.frozen 1
    have z2 := HR1.out.frozen 2
    go_wp2
    refine bodyPost_ret (v := .tuple #[mimV ⟨#[]⟩ ⟨#[]⟩ none 0 0, .int .i64 4]) (by simp [results, Try.results16, go_sem, r0, r1, r2]; done) rfl ?_
    exact ⟨none, 0, rfl, World.ownsRow_nil _ _ _ _, by rw [HE.out]; exact HEX.out.1, ((HB1.out.setCell (by exact Nat.le_refl _) _).setCell (by exact Nat.le_refl _) _).setCell (by exact Nat.le_refl _) _⟩
  · have d0 : ((R.length : Int) == 0) = false := beq_eq_false_iff_ne.2 (by omega)
    have HM1 := Lib.hid (Blk.new w1 24 #[.string ⟨#[]⟩, .string ⟨#[]⟩, .slice none 0 0])
    have HBA := Lib.hid (show Below w1.heap.size w1 (w1.alloc (.cells #[.string ⟨#[]⟩, .string ⟨#[]⟩, .slice none 0 0] 24)) from (Below.refl _ _).alloc (Nat.le_refl _) _)
    go_wp2
    go_loopw [6, 17] (fun s i wr => ∃ (k : Nat) (A' : Option Addr) (c' : Nat), k ≤ R.length ∧ i = .int .i64 k ∧ s = .string (extT (Z.take k)).2 ∧ Blk wr w1.heap.size 24 #[.string (extT (Z.take k)).1.t, .string (extT (Z.take k)).1.u, .slice A' (extT (Z.take k)).1.ps.length c'] ∧ OwnPs wr w.heap.size A' c' (extT (Z.take k)).1.ps ∧ Below w1.heap.size w1 wr) (fun _ i _ => R.length - (intOf i).toNat)
    case atStart => exact ⟨0, none, 0, Nat.zero_le _, rfl, rfl, HM1.out, World.ownsRow_nil _ _ _ _, HBA.out⟩
    case round =>
      obtain ⟨k, A', c', hk, rfl, rfl, hbm, hps, hw⟩ := hrel
      have HBM := Lib.hid hbm
      have HPS := Lib.hid hps
      have HW := Lib.hid hw
      clear hbm hps hw HM1 HBA
      by_cases hlt : k < R.length
      · obtain ⟨g, rfl, hg, e0, e1, e2⟩ := HTI.out k hlt
        have c0 := (HW.out.cell (p := ⟨g, k * 3, none⟩) hg).trans e0
        have c1 := (HW.out.cell (p := ⟨g, k * 3 + 1, none⟩) hg).trans e1
        have c2 := (HW.out.cell (p := ⟨g, k * 3 + 2, none⟩) hg).trans e2
        clear e0 e1 e2
        have HXT := Lib.hid (show extT (Z.take (k + 1)) = stepT (extT (Z.take k)).1.t (extT (Z.take k)).1.u (extT (Z.take k)).2 R[k].m from by
          rw [extT_step (by have := HLN.out; omega)]
          congr 1
          have := HMP.out
          subst this
          simp)
        obtain ⟨hro, hrs⟩ := HRS.out R[k] (List.getElem_mem hlt)
        have HRO := Lib.hid (PsIn.below (OwnPs.ps hro) (HW.out.mono (Nat.le_refl _)))
        have HOK := extT_ok (Z.take k) (fun m hm => HSM.out m (List.mem_of_mem_take hm))
        have hst := stepT_ok (t := (extT (Z.take k)).1.t) (u := (extT (Z.take k)).1.u) hrs HOK.2
        generalize R[k] = r at *
        generalize extT (Z.take k) = E at *
        obtain ⟨⟨mt, mu, mp⟩, st⟩ := E
        obtain ⟨⟨nt, nu, np⟩, rA, rc⟩ := r
        obtain ⟨hm1, hm2, _, _⟩ := HOK.1
        have hm3 := HOK.2
        simp only at hm1 hm2 hm3 c0 c1 c2 ⊢
        have HHM1 := Lib.hid hm1
        have HHM2 := Lib.hid hm2
        have HHM3 := Lib.hid hm3
        have HRSM := Lib.hid hrs
        clear HOK hst hro hm1 hm2 hm3 hrs
        have b0 := HBM.out.cell 0
        have b1 := HBM.out.cell 1
        have b2 := HBM.out.cell 2
        have hmb := HBM.out.lt
        have hgl : g < wr.heap.size := Nat.lt_of_lt_of_le hg HW.out.size
        obtain ⟨w2, hw2⟩ : ∃ w2, w2 = wr.alloc (.cells #[.string nt, .string nu, .slice rA np.length rc] 24) := ⟨_, rfl⟩
        have b2' : Below wr.heap.size wr w2 := by rw [hw2]; exact (Below.refl _ _).alloc (Nat.le_refl _) _
        have HST := Lib.hid (step_any mt mu A' mp.length c' st ⟨nt, nu, np⟩ rA rc w2 (HRO.out.below b2') HRSM.out HHM1.out HHM2.out HHM3.out)
        have HBM2 := Lib.hid (HBM.out.below b2' hmb)
        have HW2 := Lib.hid (below_on HW.out b2')
        go_wp2_with fail
        rw [← hw2]
        clear hw2 b0 b1 b2 c0 c1 c2 HRO HBM hmb HW HPS b2'
        refine HST.out.mono ?_
        generalize hsT : stepT mt mu st ⟨nt, nu, np⟩ = q at HXT ⊢
        obtain ⟨⟨qt, qu, qp⟩, qs⟩ := q
        rintro e w3 ⟨A3, c3, rfl, ho3, b3⟩
        simp only at ho3
        have HBM3 := Lib.hid (HBM2.out.below b3 HBM2.out.lt)
        have HW3 := Lib.hid (below_on HW2.out b3)
        have hws : w.heap.size ≤ w2.heap.size := by have := HW2.out.size; omega
        have HO3 := Lib.hid (own_base ho3 hws)
        clear ho3 b3 HBM2 HW2 HST hsT
        have b0 := HBM3.out.cell 0
        have b1 := HBM3.out.cell 1
        have b2 := HBM3.out.cell 2
        have z0 := HBM3.out.frozen 0
        have z1 := HBM3.out.frozen 1
        have z2 := HBM3.out.frozen 2
        have HF1 := Lib.hid (((HBM3.out.set_ 0 (.string qt)).set_ 1 (.string qu)).set_ 2 (.slice A3 qp.length c3))
        have HF2 := Lib.hid (OwnPs.set3 HO3.out HBM3.out (.string qt) (.string qu) (.slice A3 qp.length c3))
        have HF3 := Lib.hid (((HW3.out.setCell (p := ⟨w1.heap.size, 0, none⟩) (Nat.le_refl _) (.string qt)).setCell (p := ⟨w1.heap.size, 1, none⟩) (Nat.le_refl _) (.string qu)).setCell (p := ⟨w1.heap.size, 2, none⟩) (Nat.le_refl _) (.slice A3 qp.length c3))
        clear HBM3 HW3 HO3
        go_wp2
        go_roundw
        case rel => exact ⟨k + 1, A3, c3, by omega, by go_num, by rw [HXT.out], by rw [HXT.out]; exact HF1.out, by rw [HXT.out]; exact HF2.out, HF3.out⟩
        case measure => simp [intOf]; omega
      · obtain rfl : k = R.length := by omega
        have htk : Z.take R.length = Z := List.take_of_length_le (by have := HLN.out; omega)
        rw [htk] at HBM HPS
        have HR2 := Lib.hid (HR1.out.below HW.out hl1)
        have HB2 := Lib.hid (below_on HB1.out HW.out)
        have hE1 : ft = (extT Z).1.t ∧ fu = (extT Z).1.u ∧ fp = (extT Z).1.ps ∧ code = 0 := by
          have h1 := HE.out
          refine ⟨congrArg Mty.t h1, congrArg Mty.u h1, congrArg Mty.ps h1, ?_⟩
          rw [HCO.out]
          exact if_neg (by have := HLN.out; omega)
        obtain ⟨hE2, hE3, hE4, hE5⟩ := hE1
        rw [← hE2, ← hE3, ← hE4] at HBM
        rw [← hE4] at HPS
        have HK1 := Lib.hid (show (⟨ft, fu, fp⟩ : Mty).ok from by rw [HE.out]; exact HEX.out.1)
        have HC0 := Lib.hid hE5
        clear HR1 HB1 HW htk HTI HRS HEX hE2 hE3 hE4 hE5 HE HCO
        have b0 := HBM.out.cell 0
        have b1 := HBM.out.cell 1
        have b2 := HBM.out.cell 2
        have r0 := HR2.out.cell 0
        have r1 := HR2.out.cell 1
        have r2 := HR2.out.cell 2
        have z0 := HR2.out.frozen 0
        have z1 := HR2.out.frozen 1
        have z2 := HR2.out.frozen 2
        go_wp2
        refine bodyPost_ret (v := .tuple #[mimV ft fu A' fp.length c', .int .i64 0]) (by simp [results, Try.results16, go_sem, r0, r1, r2]; done) rfl ?_
        exact ⟨A', c', by rw [HC0.out], OwnPs.set3 HPS.out HR2.out _ _ _, HK1.out, ((HB2.out.setCell (by exact Nat.le_refl _) _).setCell (by exact Nat.le_refl _) _).setCell (by exact Nat.le_refl _) _⟩

end Go.Proofs.Ytmepnfkgfbbkiaa
namespace Go.Proofs.Ytmepnfkgfbbkiaa
open Go.RowKit

abbrev liveS : ByteArray := ⟨#[116, 101, 120, 116, 47, 104, 116, 109, 108, 59, 99, 104, 97, 114, 115, 101, 116, 61, 97, 44, 32, 116, 101, 120, 116, 47, 104, 116, 109, 108]⟩
theorem live_ext : (extT (allT (valsL [liveS]))).1.ps = [⟨chrS, ⟨#[97]⟩⟩] := by kernel_rfl
theorem live_code : codeOf (allT (valsL [liveS])) = 0 := by kernel_rfl

set_option maxHeartbeats 2000000 in
set_option maxRecDepth 100000 in
theorem lives11_any (w : World) :
    Calls Try.prog 9 #[] w fun e w' => e = .returned (.bool true) ∧ Below w.heap.size w w' := by
  obtain ⟨w0, hw0⟩ : ∃ w0, w0 = w.alloc (.cells #[.string liveS] 9) := ⟨_, rfl⟩
  have HB0 := Lib.hid (show Below w.heap.size w w0 from by rw [hw0]; exact (Below.refl _ _).alloc (Nat.le_refl _) _)
  have hb := Blk.new w 9 #[.string liveS]
  rw [← hw0] at hb
  have HE := Lib.hid (extract_any (some ⟨w.heap.size, 0, none⟩) 1 [liveS] w0 (fun i hi => by
    have h0 : i = 0 := by simp at hi; exact hi
    subst h0
    exact ⟨w.heap.size, rfl, hb.lt, hb.cell 0⟩) (by decide) (fun y hy => by simp at hy; subst hy; decide) (by decide))
  rw [live_code] at HE
  obtain ⟨m, hm⟩ : ∃ m, m = (extT (allT (valsL [liveS]))).1 := ⟨_, rfl⟩
  rw [← hm] at HE
  have hps : m.ps = [⟨chrS, ⟨#[97]⟩⟩] := by rw [hm]; exact live_ext
  clear hm hb
  obtain ⟨mt, mu, mp⟩ := m
  simp only at hps
  subst hps
  go_enter Try.func9, Try.ntmps9
  go_wp2_with fail
  rw [← hw0]
  clear hw0
  refine HE.out.mono ?_
  rintro e w1 ⟨A, c, rfl, ho, _, b1⟩
  obtain ⟨g, rfl, hgl, _, hg⟩ := (OwnPs.ps ho) 0 (by simp)
  have hg1 : w1.cell? ⟨g, 1, none⟩ = some (.string ⟨#[97]⟩) := by simpa using hg
  have HB1 := Lib.hid (below_on HB0.out b1)
  clear ho b1 HE HB0 hg
  go_wp2
  go_ret
  exact ⟨rfl, HB1.out.alloc HB1.out.size _⟩

/-- Texts that came in; a few of them, somewhat cut. -/
def TxCame (w : World) (A : Option Addr) (n : Nat) (lp : Nat → ByteArray) : Prop := ∀ i, i < n → ∃ a, A = some a ∧ a.block < w.heap.size ∧ w.cell? (a.add i) = some (.string (lp i)) ∧ (lp i).size ≤ 9223372036854775807
def fewT (lp : Nat → ByteArray) (k : Nat) : List ByteArray := (List.range k).map fun i => cutB (lp i) 120
theorem fewT_len (lp : Nat → ByteArray) (k : Nat) : (fewT lp k).length = k := by simp [fewT]
theorem fewT_succ (lp : Nat → ByteArray) (k : Nat) : fewT lp (k + 1) = fewT lp k ++ [cutB (lp k) 120] := by simp [fewT, List.range_succ]
theorem fewT_all (lp : Nat → ByteArray) (k : Nat) : ∀ y ∈ fewT lp k, y.size ≤ 120 := fun y hy => by
  unfold fewT at hy
  obtain ⟨i, _, rfl⟩ := List.mem_map.1 hy
  exact cutB_size _ _

end Go.Proofs.Ytmepnfkgfbbkiaa
