/-
  What the document's Step of layer 11 answers. Condition: texts are as long as a mebibyte, and parameters as many.
  What the document's All answers. Condition: a thousand values of a thousand bytes.
  What the document's Extract of layer 11 answers. Condition: seven hundred values of a thousand bytes.
-/
import Derived.Test.YtighgoefmccagaaGreatZ21
import Derived.Test.YtighgoefmccagaaGreatZ19
import Derived.Test.YtighgoefmccagaaGreatZ20
namespace Go.Proofs.YtighgoefmccagaaGreat
open Go.RowKit

/-- What a call of the document's Step gives: parameters lie in rows from base on. -/
def StepOf (r : Mty × ByteArray) (base : Nat) (w : World) (e : Ending) (w' : World) : Prop := ∃ A' c', e = .returned (.tuple #[mimV r.1.t r.1.u A' r.1.ps.length c', .string r.2]) ∧ OwnPs w' base A' c' r.1.ps ∧ Below w.heap.size w w'
theorem eqS_flip (a b : ByteArray) : eqS a b = eqS b a := by
  unfold eqS
  exact BEq.comm
theorem parV_none {ps : List Prm} {x : ByteArray} (h : seenB ps x = false) : parV ps x = ⟨#[]⟩ := by
  have h1 := atN_seen ps x
  rw [h] at h1
  unfold parV
  rw [dif_neg (of_decide_eq_false h1)]
theorem StB.set {w W : World} {tm um : ByteArray} {A0 : Option Addr} {n0 c0 : Nat} {tn un : ByteArray} {A : Option Addr} {n c xb : Nat} (h : StB w tm um A0 n0 c0 tn un A n c W) (hx : w.heap.size + 1 + 1 < xb) (i : Nat) (v : Value) : StB w tm um A0 n0 c0 tn un A n c (W.setCell ⟨xb, i, none⟩ v) :=
  ⟨h.b.setCell (by show w.heap.size ≤ xb; omega) _, h.m.far (by show w.heap.size ≠ xb; omega) _, h.x.far (by show w.heap.size + 1 ≠ xb; omega) _, h.r.far (by show w.heap.size + 1 + 1 ≠ xb; omega) _⟩
/-- An append of nothing, which stops there. -/
theorem append_onto_none {w : World} {ops : Array Oper} {rest : List Oper} {o : Oper} {a : Act} {Q : Exit → Act → World → Prop} (hgd : o.guard = none) (s x : Operand)
    (ho : o.op = .call { callee := .builtin .append, args := #[s, x], argTypes := #[24, 24] }) (b c : Nat) (hs : a.eval s = .slice (some ⟨b, 0, none⟩) 0 0) (hx : a.eval x = .slice none 0 c)
    (h : Hid (wpList Tryz.prog ops Q rest (a.put o.dst (.slice (some ⟨b, 0, none⟩) 0 0)) w)) : wpList Tryz.prog ops Q (o :: rest) a w :=
  Lib.wpList_append_run w hgd s x _ _ ho _ _ hs hx _ _ (append_none b 0 c _ _) h.out
theorem essS_is (t u : ByteArray) : (t ++ ⟨#[47]⟩) ++ u = essS t u := essL_eq t u

set_option maxHeartbeats 4000000 in
set_option maxRecDepth 100000 in
theorem rstep_far0 (tm um : ByteArray) (A0 : Option Addr) (n0 c0 : Nat) (set : ByteArray) (nx : Mty) (A : Option Addr) (c base : Nat) (w : World) (h : OwnPs w base A c nx.ps) (_hb : base ≤ w.heap.size) (hs : nx.small) (htm : tm.size ≤ 1048576) (hum : um.size ≤ 1048576)
    (hd : eqS (essS nx.t nx.u) (essS tm um) = false) (hv : seenB nx.ps chrS = false) :
    Calls Tryz.prog 24 #[mimV tm um A0 n0 c0, .string set, mimV nx.t nx.u A nx.ps.length c] w (StepOf (stepT tm um set nx) base w) := by
  rw [stepT_far hd, parV_none hv]
  obtain ⟨tn, un, ps⟩ := nx
  obtain ⟨h1, h2, h3, h4⟩ := hs
  simp only at h h1 h2 h3 h4 hd hv ⊢
  have HO := Lib.hid h
  have HP := Lib.hid h.ps
  obtain ⟨w0, hw0⟩ : ∃ w0, w0 = (((w.alloc (.cells #[.string tm, .string um, .slice A0 n0 c0] 26)).alloc (.cells #[.string tn, .string un, .slice A ps.length c] 26)).alloc (.cells #[.string ⟨#[]⟩, .string ⟨#[]⟩, .slice none 0 0] 26)) := ⟨_, rfl⟩
  have HS0 := Lib.hid (show StB w tm um A0 n0 c0 tn un A ps.length c w0 from by rw [hw0]; exact StB.first _ _ _ _ _ _ _ _ _ _ _)
  have HAT := Lib.hid (fun W (hW : PsIn W A ps) => rAt_any tn un A ps c chrS W hW (by omega))
  have hge := atI_ge ps chrS
  rw [hv] at hge
  obtain ⟨ai, hai⟩ : ∃ ai, ai = atI ps chrS := ⟨_, rfl⟩
  rw [← hai] at HAT hge
  have g0 : ai < 0 := by have := of_decide_eq_false hge; omega
  clear hai hge
  have hdl : (((tm ++ ⟨#[47]⟩) ++ um).toList == ((tn ++ ⟨#[47]⟩) ++ un).toList) = false := by
    rw [essS_is, essS_is]
    exact (eqS_flip _ _).trans hd
  have k1 : ¬ 9223372036854775807 < tm.size + 1 := by omega
  have k2 : ¬ 9223372036854775807 < tm.size + 1 + um.size := by omega
  have k3 : ¬ 9223372036854775807 < tn.size + 1 := by omega
  have k4 : ¬ 9223372036854775807 < tn.size + 1 + un.size := by omega
  clear h hd
  obtain ⟨c0', c1', c2', d0, d1, d2⟩ := HS0.out.cells
  rw [hw0] at c0' c1' c2' d0 d1 d2
  go_enter Tryz.func24, Tryz.ntmps24
  go_wp2_with fail
  rw [← hw0]
  clear hw0 c0' c1' c2' d0 d1 d2
  refine (HAT.out _ (HP.out.below HS0.out.b)).mono ?_
  rintro e w1 ⟨rfl, b1⟩
  have HS1 := Lib.hid (HS0.out.step b1)
  clear b1 HS0
  obtain ⟨c0', c1', c2', d0, d1, d2⟩ := HS1.out.cells
  have hl1 := HS1.out.r.lt
  have r0 := HS1.out.r.cell 0
  have r1 := HS1.out.r.cell 1
  have r2 := HS1.out.r.cell 2
  have z0 := HS1.out.r.frozen 0
  have z1 := HS1.out.r.frozen 1
  have z2 := HS1.out.r.frozen 2
  go_wp2
  refine bodyPost_ret (v := .tuple #[mimV tn un A ps.length c, .string ⟨#[]⟩]) (by simp [results, Tryz.results24, go_sem, r0, r1, r2]; done) rfl ?_
  exact ⟨A, c, rfl, OwnPs.set3 (own_mv HO.out (Mv.of_below HS1.out.b []) (by simp)) HS1.out.r _ _ _, ((HS1.out.b.setCell (by show w.heap.size ≤ w.heap.size + 1 + 1; omega) _).setCell (by show w.heap.size ≤ w.heap.size + 1 + 1; omega) _).setCell (by show w.heap.size ≤ w.heap.size + 1 + 1; omega) _⟩

set_option maxHeartbeats 4000000 in
set_option maxRecDepth 100000 in
theorem rstep_far1 (tm um : ByteArray) (A0 : Option Addr) (n0 c0 : Nat) (set : ByteArray) (nx : Mty) (A : Option Addr) (c base : Nat) (w : World) (h : OwnPs w base A c nx.ps) (_hb : base ≤ w.heap.size) (hs : nx.small) (htm : tm.size ≤ 1048576) (hum : um.size ≤ 1048576)
    (hd : eqS (essS nx.t nx.u) (essS tm um) = false) (hv : seenB nx.ps chrS = true) :
    Calls Tryz.prog 24 #[mimV tm um A0 n0 c0, .string set, mimV nx.t nx.u A nx.ps.length c] w (StepOf (stepT tm um set nx) base w) := by
  rw [stepT_far hd]
  obtain ⟨tn, un, ps⟩ := nx
  obtain ⟨h1, h2, h3, h4⟩ := hs
  simp only at h h1 h2 h3 h4 hd hv ⊢
  have HO := Lib.hid h
  have HP := Lib.hid h.ps
  obtain ⟨w0, hw0⟩ : ∃ w0, w0 = (((w.alloc (.cells #[.string tm, .string um, .slice A0 n0 c0] 26)).alloc (.cells #[.string tn, .string un, .slice A ps.length c] 26)).alloc (.cells #[.string ⟨#[]⟩, .string ⟨#[]⟩, .slice none 0 0] 26)) := ⟨_, rfl⟩
  have HS0 := Lib.hid (show StB w tm um A0 n0 c0 tn un A ps.length c w0 from by rw [hw0]; exact StB.first _ _ _ _ _ _ _ _ _ _ _)
  have HAT := Lib.hid (fun W (hW : PsIn W A ps) => rAt_any tn un A ps c chrS W hW (by omega))
  have hge := atI_ge ps chrS
  rw [hv] at hge
  obtain ⟨k, hk⟩ : ∃ k, k = atN ps chrS := ⟨_, rfl⟩
  have hkl : k < ps.length := by
    have := atN_seen ps chrS
    rw [hv] at this
    rw [hk]
    exact of_decide_eq_true this
  have hatk : atI ps chrS = (k : Int) := by unfold atI; rw [← hk, if_pos hkl]
  have hpv : parV ps chrS = ps[k].v := by unfold parV; simp only [← hk]; rw [dif_pos hkl]
  rw [hatk] at HAT
  have g0 : ¬ (k : Int) < 0 := by omega
  clear hge hk hatk
  rw [hpv]
  obtain ⟨qv, hqv⟩ : ∃ qv, qv = ps[k].v := ⟨_, rfl⟩
  rw [← hqv]
  have HQV := Lib.hid hqv
  clear hpv hqv
  have hdl : (((tm ++ ⟨#[47]⟩) ++ um).toList == ((tn ++ ⟨#[47]⟩) ++ un).toList) = false := by
    rw [essS_is, essS_is]
    exact (eqS_flip _ _).trans hd
  have k1 : ¬ 9223372036854775807 < tm.size + 1 := by omega
  have k2 : ¬ 9223372036854775807 < tm.size + 1 + um.size := by omega
  have k3 : ¬ 9223372036854775807 < tn.size + 1 := by omega
  have k4 : ¬ 9223372036854775807 < tn.size + 1 + un.size := by omega
  clear h hd
  obtain ⟨c0', c1', c2', d0, d1, d2⟩ := HS0.out.cells
  rw [hw0] at c0' c1' c2' d0 d1 d2
  go_enter Tryz.func24, Tryz.ntmps24
  go_wp2_with fail
  rw [← hw0]
  clear hw0 c0' c1' c2' d0 d1 d2
  refine (HAT.out _ (HP.out.below HS0.out.b)).mono ?_
  rintro e w1 ⟨rfl, b1⟩
  have HS1 := Lib.hid (HS0.out.step b1)
  clear b1 HS0
  obtain ⟨c0', c1', c2', d0, d1, d2⟩ := HS1.out.cells
  have hl1 := HS1.out.r.lt
  obtain ⟨g, rfl, hgl, _, hq1⟩ := HP.out k hkl
  have q1 := (HS1.out.b.cell (p := ⟨g, k * 2 + 1, none⟩) hgl).trans hq1
  have HOM := Lib.hid (own_mv HO.out (Mv.of_below HS1.out.b []) (by simp))
  rw [← HQV.out] at q1
  clear hq1
  have r0 := HS1.out.r.cell 0
  have r1 := HS1.out.r.cell 1
  have r2 := HS1.out.r.cell 2
  have z0 := HS1.out.r.frozen 0
  have z1 := HS1.out.r.frozen 1
  have z2 := HS1.out.r.frozen 2
  go_wp2_with fail
  go_region
  all_goals go_wp2
  all_goals (
    refine bodyPost_ret (v := .tuple #[mimV tn un (some ⟨g, 0, none⟩) ps.length c, .string qv]) (by simp [results, Tryz.results24, go_sem, r0, r1, r2]; done) rfl ?_
    exact ⟨(some ⟨g, 0, none⟩), c, rfl, OwnPs.set3 HOM.out HS1.out.r _ _ _, (((HS1.out.b.setCell (by show w.heap.size ≤ w.heap.size + 1 + 1; omega) _).setCell (by show w.heap.size ≤ w.heap.size + 1 + 1; omega) _).setCell (by show w.heap.size ≤ w.heap.size + 1 + 1; omega) _).drew⟩)

set_option maxHeartbeats 4000000 in
set_option maxRecDepth 100000 in
theorem rstep_seen (tm um : ByteArray) (A0 : Option Addr) (n0 c0 : Nat) (set : ByteArray) (nx : Mty) (A : Option Addr) (c base : Nat) (w : World) (h : OwnPs w base A c nx.ps) (hb : base ≤ w.heap.size) (hs : nx.small) (htm : tm.size ≤ 1048576) (hum : um.size ≤ 1048576)
    (_hset : set.size ≤ 1048576) (hd : eqS (essS nx.t nx.u) (essS tm um) = true) (hv : seenB nx.ps chrS = true) :
    Calls Tryz.prog 24 #[mimV tm um A0 n0 c0, .string set, mimV nx.t nx.u A nx.ps.length c] w (StepOf (stepT tm um set nx) base w) := by
  rw [stepT_not hd (moreB_seen hv)]
  obtain ⟨tn, un, ps⟩ := nx
  obtain ⟨h1, h2, h3, h4⟩ := hs
  simp only at h h1 h2 h3 h4 hd hv ⊢
  have HO := Lib.hid h
  have HP := Lib.hid h.ps
  obtain ⟨w0, hw0⟩ : ∃ w0, w0 = (((w.alloc (.cells #[.string tm, .string um, .slice A0 n0 c0] 26)).alloc (.cells #[.string tn, .string un, .slice A ps.length c] 26)).alloc (.cells #[.string ⟨#[]⟩, .string ⟨#[]⟩, .slice none 0 0] 26)) := ⟨_, rfl⟩
  have HS0 := Lib.hid (show StB w tm um A0 n0 c0 tn un A ps.length c w0 from by rw [hw0]; exact StB.first _ _ _ _ _ _ _ _ _ _ _)
  have HAT := Lib.hid (fun W (hW : PsIn W A ps) => rAt_any tn un A ps c chrS W hW (by omega))
  have hge := atI_ge ps chrS
  rw [hv] at hge
  obtain ⟨k, hk⟩ : ∃ k, k = atN ps chrS := ⟨_, rfl⟩
  have hkl : k < ps.length := by
    have := atN_seen ps chrS
    rw [hv] at this
    rw [hk]
    exact of_decide_eq_true this
  have hatk : atI ps chrS = (k : Int) := by unfold atI; rw [← hk, if_pos hkl]
  have hpv : parV ps chrS = ps[k].v := by unfold parV; simp only [← hk]; rw [dif_pos hkl]
  rw [hatk] at HAT
  have g0 : ¬ (k : Int) < 0 := by omega
  clear hge hk hatk
  clear hpv
  have hdl : (((tm ++ ⟨#[47]⟩) ++ um).toList == ((tn ++ ⟨#[47]⟩) ++ un).toList) = true := by
    rw [essS_is, essS_is]
    exact (eqS_flip _ _).trans hd
  have k1 : ¬ 9223372036854775807 < tm.size + 1 := by omega
  have k2 : ¬ 9223372036854775807 < tm.size + 1 + um.size := by omega
  have k3 : ¬ 9223372036854775807 < tn.size + 1 := by omega
  have k4 : ¬ 9223372036854775807 < tn.size + 1 + un.size := by omega
  clear h hd
  obtain ⟨c0', c1', c2', d0, d1, d2⟩ := HS0.out.cells
  rw [hw0] at c0' c1' c2' d0 d1 d2
  go_enter Tryz.func24, Tryz.ntmps24
  go_wp2_with fail
  rw [← hw0]
  clear hw0 c0' c1' c2' d0 d1 d2
  refine (HAT.out _ (HP.out.below HS0.out.b)).mono ?_
  rintro e w1 ⟨rfl, b1⟩
  have HS1 := Lib.hid (HS0.out.step b1)
  clear b1 HS0
  obtain ⟨c0', c1', c2', d0, d1, d2⟩ := HS1.out.cells
  have hl1 := HS1.out.r.lt
  cases A with
  | none =>
    cases ps with
    | nil => exact absurd hkl (Nat.not_lt_zero _)
    | cons q r =>
      obtain ⟨g, e, _⟩ := HP.out 0 (by simp)
      cases e
  | some a =>
    obtain ⟨i0, hi, hz0, hz1, hz2⟩ := info_parts Tryz.infoPrm
    obtain ⟨w2, hw2⟩ : ∃ w2, w2 = w1.alloc (.cells #[.string tn, .string un, .slice (some a) ps.length c] 26) := ⟨_, rfl⟩
    have b2 : Below w1.heap.size w1 w2 := by rw [hw2]; exact (Below.refl _ _).alloc (Nat.le_refl _) _
    have HX2 := Lib.hid (show Blk w2 w1.heap.size 26 _ from by rw [hw2]; exact Blk.new w1 26 #[.string tn, .string un, .slice (some a) ps.length c])
    have HS2 := Lib.hid (HS1.out.step b2)
    have hx2 := HX2.out.lt
    clear b2
    go_upto_region 7 with fail
    rw [← hw2]
    generalize w1.heap.size = xb at *
    clear hw2 HS1 c0' c1' c2' d0 d1 d2
    obtain ⟨_, _, _, d0, d1, d2⟩ := HS2.out.cells
    have hx2' : w.heap.size + 1 + 1 < w2.heap.size := HS2.out.r.lt
    have hx3 : w.heap.size + 1 < w2.heap.size := by omega
    go_wp2_with (at_builtin; refine wpList_append_own _ rfl _ _ 24 rfl w2.heap.size 51 i0 _ 2 32 Tryz.underlying24 hi hz0 hz1 hz2 rfl (by decide) _ _ _ rfl (World.ownsRow_made w2 #[] 0 (Nat.le_refl _) (Nat.zero_le _) rfl) a ps.length c (prmL ps) rfl (by rw [prmL_len]) (HP.out.below ((HS2.out.b).alloc (by omega) _)).cells (prmL_one ps) ?_ ?_ ?_ ?_)
    · unfold maxLen; omega
    · omega
    · simp
    intro v3 w3 hown3 hgrow3 _
    have HO3 := Lib.hid (show w3.ownsRow w2.heap.size 51 2 v3 ps.length (prmL ps) from by simpa using hown3)
    have HB3 := Lib.hid (show Below w2.heap.size w2 w3 from ((Below.refl _ _).alloc (Nat.le_refl _) _).grown hgrow3 (by simp) (fun g hg => by simp [Value.ownBlock] at hg; omega))
    clear hown3 hgrow3
    have hx4 : w2.heap.size ≤ w3.heap.size := HB3.out.size
    go_wp2_with (at_builtin; refine wpList_append_own _ rfl _ _ 24 rfl w2.heap.size 51 i0 _ 2 32 Tryz.underlying24 hi hz0 hz1 hz2 rfl (by decide) _ _ _ rfl (HO3.out.alloc _) ⟨w3.heap.size, 0, none⟩ 1 1 [.string chrS, .string set] rfl rfl ?_ ?_ ?_ ?_ ?_ ?_)
    · intro j u hj
      have hcb := Blk.new w3 51 #[.string chrS, .string set]
      have e : (⟨w3.heap.size, 0, none⟩ : Addr).add j = ⟨w3.heap.size, j, none⟩ := by cases j <;> simp [Addr.add]
      rw [e, hcb.cell]
      simpa using hj
    · intro u hu
      simp at hu
      rcases hu with rfl | rfl <;> rfl
    · unfold maxLen; omega
    · omega
    · simp; omega
    intro v4 w4 hown4 hgrow4 _
    have hown4' : w4.ownsRow w2.heap.size 51 2 v4 (ps ++ [(⟨chrS, set⟩ : Prm)]).length (prmL (ps ++ [⟨chrS, set⟩])) := by rw [prmL_snoc, List.length_append]; exact hown4
    have HB4 := Lib.hid (show Below w2.heap.size w2 w4 from (HB3.out.alloc HB3.out.size _).grown hgrow4 (by simp; omega) (fun g hg => (HO3.out.lt g hg).1))
    obtain ⟨A4, c4, rfl⟩ := own_slc hown4'
    obtain ⟨n, hn⟩ : ∃ n, n = (ps ++ [(⟨chrS, set⟩ : Prm)]).length := ⟨_, rfl⟩
    have HO4 := Lib.hid (show OwnPs w4 w2.heap.size A4 c4 (ps ++ [⟨chrS, set⟩]) from hown4')
    have HN := Lib.hid hn
    rw [← hn]
    clear hown4 hown4' hgrow4 hn HO3
    have HX4 := Lib.hid (HX2.out.below HB4.out hx2)
    have HS4 := Lib.hid (HS2.out.step HB4.out)
    have f2 := HX4.out.frozen 2
    have e2 := HX4.out.cell 2
    clear HB3 HB4 HX2 HS2 d0 d1 d2
    obtain ⟨w5, hw5⟩ : ∃ w5, w5 = w4.setCell ⟨xb, 2, none⟩ (.slice A4 n c4) := ⟨_, rfl⟩
    have HX5 := Lib.hid (show Blk w5 xb 26 #[.string tn, .string un, .slice A4 n c4] from by rw [hw5]; exact HX4.out.set_ 2 _)
    have HS5 := Lib.hid (show StB w tm um A0 n0 c0 tn un (some a) ps.length c w5 from by rw [hw5]; exact HS4.out.set (by omega) _ _)
    have HO5 := Lib.hid (show OwnPs w5 w2.heap.size A4 c4 (ps ++ [⟨chrS, set⟩]) from by rw [hw5]; exact OwnPs.set HO4.out HX4.out _ _)
    have HA5 := Lib.hid (show OwnPs w5 base (some a) c ps from by rw [hw5]; exact OwnPs.set (own_mv HO.out (Mv.of_below HS4.out.b []) (by simp)) HX4.out _ _)
    have hbw : base ≤ w2.heap.size := by omega
    clear HO4 HX4 HS4
    go_upto_region 8 with fail
    rw [← hw5]
    clear hw5 f2 e2
    obtain ⟨_, _, _, d0, d1, d2⟩ := HS5.out.cells
    have r0 := HS5.out.r.cell 0
    have r1 := HS5.out.r.cell 1
    have r2 := HS5.out.r.cell 2
    have z0 := HS5.out.r.frozen 0
    have z1 := HS5.out.r.frozen 1
    have z2 := HS5.out.r.frozen 2
    go_wp2
    refine bodyPost_ret (v := .tuple #[mimV tn un (some a) ps.length c, .string set]) (by simp [results, Tryz.results24, go_sem, r0, r1, r2]; done) rfl ?_
    exact ⟨(some a), c, rfl, OwnPs.set3 HA5.out HS5.out.r _ _ _, ((HS5.out.b.setCell (by show w.heap.size ≤ w.heap.size + 1 + 1; omega) _).setCell (by show w.heap.size ≤ w.heap.size + 1 + 1; omega) _).setCell (by show w.heap.size ≤ w.heap.size + 1 + 1; omega) _⟩

set_option maxHeartbeats 4000000 in
set_option maxRecDepth 100000 in
theorem rstep_none (tm um : ByteArray) (A0 : Option Addr) (n0 c0 : Nat) (set : ByteArray) (nx : Mty) (A : Option Addr) (c base : Nat) (w : World) (h : OwnPs w base A c nx.ps) (hb : base ≤ w.heap.size) (hs : nx.small) (htm : tm.size ≤ 1048576) (hum : um.size ≤ 1048576)
    (_hset : set.size ≤ 1048576) (hd : eqS (essS nx.t nx.u) (essS tm um) = true) (hv : seenB nx.ps chrS = false) (he : (set.toList == []) = true) :
    Calls Tryz.prog 24 #[mimV tm um A0 n0 c0, .string set, mimV nx.t nx.u A nx.ps.length c] w (StepOf (stepT tm um set nx) base w) := by
  rw [stepT_not hd (moreB_none he)]
  obtain ⟨tn, un, ps⟩ := nx
  obtain ⟨h1, h2, h3, h4⟩ := hs
  simp only at h h1 h2 h3 h4 hd hv ⊢
  have HO := Lib.hid h
  have HP := Lib.hid h.ps
  obtain ⟨w0, hw0⟩ : ∃ w0, w0 = (((w.alloc (.cells #[.string tm, .string um, .slice A0 n0 c0] 26)).alloc (.cells #[.string tn, .string un, .slice A ps.length c] 26)).alloc (.cells #[.string ⟨#[]⟩, .string ⟨#[]⟩, .slice none 0 0] 26)) := ⟨_, rfl⟩
  have HS0 := Lib.hid (show StB w tm um A0 n0 c0 tn un A ps.length c w0 from by rw [hw0]; exact StB.first _ _ _ _ _ _ _ _ _ _ _)
  have HAT := Lib.hid (fun W (hW : PsIn W A ps) => rAt_any tn un A ps c chrS W hW (by omega))
  have hge := atI_ge ps chrS
  rw [hv] at hge
  obtain ⟨ai, hai⟩ : ∃ ai, ai = atI ps chrS := ⟨_, rfl⟩
  rw [← hai] at HAT hge
  have g0 : ai < 0 := by have := of_decide_eq_false hge; omega
  clear hai hge
  have hdl : (((tm ++ ⟨#[47]⟩) ++ um).toList == ((tn ++ ⟨#[47]⟩) ++ un).toList) = true := by
    rw [essS_is, essS_is]
    exact (eqS_flip _ _).trans hd
  have k1 : ¬ 9223372036854775807 < tm.size + 1 := by omega
  have k2 : ¬ 9223372036854775807 < tm.size + 1 + um.size := by omega
  have k3 : ¬ 9223372036854775807 < tn.size + 1 := by omega
  have k4 : ¬ 9223372036854775807 < tn.size + 1 + un.size := by omega
  clear h hd
  obtain ⟨c0', c1', c2', d0, d1, d2⟩ := HS0.out.cells
  rw [hw0] at c0' c1' c2' d0 d1 d2
  go_enter Tryz.func24, Tryz.ntmps24
  go_wp2_with fail
  rw [← hw0]
  clear hw0 c0' c1' c2' d0 d1 d2
  refine (HAT.out _ (HP.out.below HS0.out.b)).mono ?_
  rintro e w1 ⟨rfl, b1⟩
  have HS1 := Lib.hid (HS0.out.step b1)
  clear b1 HS0
  obtain ⟨c0', c1', c2', d0, d1, d2⟩ := HS1.out.cells
  have hl1 := HS1.out.r.lt
  cases A with
  | none =>
    have hps : ps = [] := by
      cases ps with
      | nil => rfl
      | cons q r =>
        obtain ⟨g, e, _⟩ := HP.out 0 (by simp)
        cases e
    subst hps
    obtain ⟨i0, hi, hz0, hz1, hz2⟩ := info_parts Tryz.infoPrm
    obtain ⟨w2, hw2⟩ : ∃ w2, w2 = w1.alloc (.cells #[.string tn, .string un, .slice none 0 c] 26) := ⟨_, rfl⟩
    have b2 : Below w1.heap.size w1 w2 := by rw [hw2]; exact (Below.refl _ _).alloc (Nat.le_refl _) _
    have HX2 := Lib.hid (show Blk w2 w1.heap.size 26 _ from by rw [hw2]; exact Blk.new w1 26 #[.string tn, .string un, .slice none 0 c])
    have HS2 := Lib.hid (HS1.out.step b2)
    have hx2 := HX2.out.lt
    clear b2
    go_upto_region 7 with fail
    rw [← hw2]
    generalize w1.heap.size = xb at *
    clear hw2 HS1 c0' c1' c2' d0 d1 d2
    obtain ⟨_, _, _, d0, d1, d2⟩ := HS2.out.cells
    have hx2' : w.heap.size + 1 + 1 < w2.heap.size := HS2.out.r.lt
    have hx3 : w.heap.size + 1 < w2.heap.size := by omega
    obtain ⟨w3, hw3⟩ : ∃ w3, w3 = w2.alloc (.cells #[] 51) := ⟨_, rfl⟩
    have HO3 := Lib.hid (show w3.ownsRow w2.heap.size 51 2 (.slice (some ⟨w2.heap.size, 0, none⟩) 0 0) 0 (prmL []) from by
      rw [hw3]; exact World.ownsRow_made w2 #[] 0 (Nat.le_refl _) (Nat.zero_le _) rfl)
    have HB3 := Lib.hid (show Below w2.heap.size w2 w3 from by rw [hw3]; exact (Below.refl _ _).alloc (Nat.le_refl _) _)
    go_wp2_with (at_builtin; refine append_onto_none rfl _ _ rfl w2.heap.size c rfl rfl ?_)
    refine Lib.hid ?_
    rw [← hw3]
    generalize hvv : (Value.slice (some ⟨w2.heap.size, 0, none⟩) 0 0) = v3 at HO3 ⊢
    clear hw3 hvv
    have hx4 : w2.heap.size ≤ w3.heap.size := HB3.out.size
    go_wp2_with (at_builtin; refine wpList_append_own _ rfl _ _ 24 rfl w2.heap.size 51 i0 _ 2 32 Tryz.underlying24 hi hz0 hz1 hz2 rfl (by decide) _ _ _ rfl (HO3.out.alloc _) ⟨w3.heap.size, 0, none⟩ 1 1 [.string chrS, .string set] rfl rfl ?_ ?_ ?_ ?_ ?_ ?_)
    · intro j u hj
      have hcb := Blk.new w3 51 #[.string chrS, .string set]
      have e : (⟨w3.heap.size, 0, none⟩ : Addr).add j = ⟨w3.heap.size, j, none⟩ := by cases j <;> simp [Addr.add]
      rw [e, hcb.cell]
      simpa using hj
    · intro u hu
      simp at hu
      rcases hu with rfl | rfl <;> rfl
    · unfold maxLen; omega
    · omega
    · simp; omega
    intro v4 w4 hown4 hgrow4 _
    have hown4' : w4.ownsRow w2.heap.size 51 2 v4 (([] : List Prm) ++ [(⟨chrS, set⟩ : Prm)]).length (prmL (([] : List Prm) ++ [⟨chrS, set⟩])) := by rw [prmL_snoc, List.length_append]; exact hown4
    have HB4 := Lib.hid (show Below w2.heap.size w2 w4 from (HB3.out.alloc HB3.out.size _).grown hgrow4 (by simp; omega) (fun g hg => (HO3.out.lt g hg).1))
    obtain ⟨A4, c4, rfl⟩ := own_slc hown4'
    obtain ⟨n, hn⟩ : ∃ n, n = (([] : List Prm) ++ [(⟨chrS, set⟩ : Prm)]).length := ⟨_, rfl⟩
    have HO4 := Lib.hid (show OwnPs w4 w2.heap.size A4 c4 (([] : List Prm) ++ [⟨chrS, set⟩]) from hown4')
    have HN := Lib.hid hn
    rw [← hn]
    clear hown4 hown4' hgrow4 hn HO3
    have HX4 := Lib.hid (HX2.out.below HB4.out hx2)
    have HS4 := Lib.hid (HS2.out.step HB4.out)
    have f2 := HX4.out.frozen 2
    have e2 := HX4.out.cell 2
    clear HB3 HB4 HX2 HS2 d0 d1 d2
    obtain ⟨w5, hw5⟩ : ∃ w5, w5 = w4.setCell ⟨xb, 2, none⟩ (.slice A4 n c4) := ⟨_, rfl⟩
    have HX5 := Lib.hid (show Blk w5 xb 26 #[.string tn, .string un, .slice A4 n c4] from by rw [hw5]; exact HX4.out.set_ 2 _)
    have HS5 := Lib.hid (show StB w tm um A0 n0 c0 tn un none 0 c w5 from by rw [hw5]; exact HS4.out.set (by omega) _ _)
    have HO5 := Lib.hid (show OwnPs w5 w2.heap.size A4 c4 (([] : List Prm) ++ [⟨chrS, set⟩]) from by rw [hw5]; exact OwnPs.set HO4.out HX4.out _ _)
    have HA5 := Lib.hid (show OwnPs w5 base none c [] from by rw [hw5]; exact OwnPs.set (own_mv HO.out (Mv.of_below HS4.out.b []) (by simp)) HX4.out _ _)
    have hbw : base ≤ w2.heap.size := by omega
    clear HO4 HX4 HS4
    go_upto_region 8 with fail
    rw [← hw5]
    clear hw5 f2 e2
    obtain ⟨_, _, _, d0, d1, d2⟩ := HS5.out.cells
    have r0 := HS5.out.r.cell 0
    have r1 := HS5.out.r.cell 1
    have r2 := HS5.out.r.cell 2
    have z0 := HS5.out.r.frozen 0
    have z1 := HS5.out.r.frozen 1
    have z2 := HS5.out.r.frozen 2
    go_wp2
    refine bodyPost_ret (v := .tuple #[mimV tn un none 0 c, .string set]) (by simp [results, Tryz.results24, go_sem, r0, r1, r2]; done) rfl ?_
    exact ⟨none, c, rfl, OwnPs.set3 HA5.out HS5.out.r _ _ _, ((HS5.out.b.setCell (by show w.heap.size ≤ w.heap.size + 1 + 1; omega) _).setCell (by show w.heap.size ≤ w.heap.size + 1 + 1; omega) _).setCell (by show w.heap.size ≤ w.heap.size + 1 + 1; omega) _⟩

  | some a =>
    obtain ⟨i0, hi, hz0, hz1, hz2⟩ := info_parts Tryz.infoPrm
    obtain ⟨w2, hw2⟩ : ∃ w2, w2 = w1.alloc (.cells #[.string tn, .string un, .slice (some a) ps.length c] 26) := ⟨_, rfl⟩
    have b2 : Below w1.heap.size w1 w2 := by rw [hw2]; exact (Below.refl _ _).alloc (Nat.le_refl _) _
    have HX2 := Lib.hid (show Blk w2 w1.heap.size 26 _ from by rw [hw2]; exact Blk.new w1 26 #[.string tn, .string un, .slice (some a) ps.length c])
    have HS2 := Lib.hid (HS1.out.step b2)
    have hx2 := HX2.out.lt
    clear b2
    go_upto_region 7 with fail
    rw [← hw2]
    generalize w1.heap.size = xb at *
    clear hw2 HS1 c0' c1' c2' d0 d1 d2
    obtain ⟨_, _, _, d0, d1, d2⟩ := HS2.out.cells
    have hx2' : w.heap.size + 1 + 1 < w2.heap.size := HS2.out.r.lt
    have hx3 : w.heap.size + 1 < w2.heap.size := by omega
    go_wp2_with (at_builtin; refine wpList_append_own _ rfl _ _ 24 rfl w2.heap.size 51 i0 _ 2 32 Tryz.underlying24 hi hz0 hz1 hz2 rfl (by decide) _ _ _ rfl (World.ownsRow_made w2 #[] 0 (Nat.le_refl _) (Nat.zero_le _) rfl) a ps.length c (prmL ps) rfl (by rw [prmL_len]) (HP.out.below ((HS2.out.b).alloc (by omega) _)).cells (prmL_one ps) ?_ ?_ ?_ ?_)
    · unfold maxLen; omega
    · omega
    · simp
    intro v3 w3 hown3 hgrow3 _
    have HO3 := Lib.hid (show w3.ownsRow w2.heap.size 51 2 v3 ps.length (prmL ps) from by simpa using hown3)
    have HB3 := Lib.hid (show Below w2.heap.size w2 w3 from ((Below.refl _ _).alloc (Nat.le_refl _) _).grown hgrow3 (by simp) (fun g hg => by simp [Value.ownBlock] at hg; omega))
    clear hown3 hgrow3
    have hx4 : w2.heap.size ≤ w3.heap.size := HB3.out.size
    go_wp2_with (at_builtin; refine wpList_append_own _ rfl _ _ 24 rfl w2.heap.size 51 i0 _ 2 32 Tryz.underlying24 hi hz0 hz1 hz2 rfl (by decide) _ _ _ rfl (HO3.out.alloc _) ⟨w3.heap.size, 0, none⟩ 1 1 [.string chrS, .string set] rfl rfl ?_ ?_ ?_ ?_ ?_ ?_)
    · intro j u hj
      have hcb := Blk.new w3 51 #[.string chrS, .string set]
      have e : (⟨w3.heap.size, 0, none⟩ : Addr).add j = ⟨w3.heap.size, j, none⟩ := by cases j <;> simp [Addr.add]
      rw [e, hcb.cell]
      simpa using hj
    · intro u hu
      simp at hu
      rcases hu with rfl | rfl <;> rfl
    · unfold maxLen; omega
    · omega
    · simp; omega
    intro v4 w4 hown4 hgrow4 _
    have hown4' : w4.ownsRow w2.heap.size 51 2 v4 (ps ++ [(⟨chrS, set⟩ : Prm)]).length (prmL (ps ++ [⟨chrS, set⟩])) := by rw [prmL_snoc, List.length_append]; exact hown4
    have HB4 := Lib.hid (show Below w2.heap.size w2 w4 from (HB3.out.alloc HB3.out.size _).grown hgrow4 (by simp; omega) (fun g hg => (HO3.out.lt g hg).1))
    obtain ⟨A4, c4, rfl⟩ := own_slc hown4'
    obtain ⟨n, hn⟩ : ∃ n, n = (ps ++ [(⟨chrS, set⟩ : Prm)]).length := ⟨_, rfl⟩
    have HO4 := Lib.hid (show OwnPs w4 w2.heap.size A4 c4 (ps ++ [⟨chrS, set⟩]) from hown4')
    have HN := Lib.hid hn
    rw [← hn]
    clear hown4 hown4' hgrow4 hn HO3
    have HX4 := Lib.hid (HX2.out.below HB4.out hx2)
    have HS4 := Lib.hid (HS2.out.step HB4.out)
    have f2 := HX4.out.frozen 2
    have e2 := HX4.out.cell 2
    clear HB3 HB4 HX2 HS2 d0 d1 d2
    obtain ⟨w5, hw5⟩ : ∃ w5, w5 = w4.setCell ⟨xb, 2, none⟩ (.slice A4 n c4) := ⟨_, rfl⟩
    have HX5 := Lib.hid (show Blk w5 xb 26 #[.string tn, .string un, .slice A4 n c4] from by rw [hw5]; exact HX4.out.set_ 2 _)
    have HS5 := Lib.hid (show StB w tm um A0 n0 c0 tn un (some a) ps.length c w5 from by rw [hw5]; exact HS4.out.set (by omega) _ _)
    have HO5 := Lib.hid (show OwnPs w5 w2.heap.size A4 c4 (ps ++ [⟨chrS, set⟩]) from by rw [hw5]; exact OwnPs.set HO4.out HX4.out _ _)
    have HA5 := Lib.hid (show OwnPs w5 base (some a) c ps from by rw [hw5]; exact OwnPs.set (own_mv HO.out (Mv.of_below HS4.out.b []) (by simp)) HX4.out _ _)
    have hbw : base ≤ w2.heap.size := by omega
    clear HO4 HX4 HS4
    go_upto_region 8 with fail
    rw [← hw5]
    clear hw5 f2 e2
    obtain ⟨_, _, _, d0, d1, d2⟩ := HS5.out.cells
    have r0 := HS5.out.r.cell 0
    have r1 := HS5.out.r.cell 1
    have r2 := HS5.out.r.cell 2
    have z0 := HS5.out.r.frozen 0
    have z1 := HS5.out.r.frozen 1
    have z2 := HS5.out.r.frozen 2
    go_wp2
    refine bodyPost_ret (v := .tuple #[mimV tn un (some a) ps.length c, .string set]) (by simp [results, Tryz.results24, go_sem, r0, r1, r2]; done) rfl ?_
    exact ⟨(some a), c, rfl, OwnPs.set3 HA5.out HS5.out.r _ _ _, ((HS5.out.b.setCell (by show w.heap.size ≤ w.heap.size + 1 + 1; omega) _).setCell (by show w.heap.size ≤ w.heap.size + 1 + 1; omega) _).setCell (by show w.heap.size ≤ w.heap.size + 1 + 1; omega) _⟩

set_option maxHeartbeats 4000000 in
set_option maxRecDepth 100000 in
theorem rstep_bad (tm um : ByteArray) (A0 : Option Addr) (n0 c0 : Nat) (set : ByteArray) (nx : Mty) (A : Option Addr) (c base : Nat) (w : World) (h : OwnPs w base A c nx.ps) (hb : base ≤ w.heap.size) (hs : nx.small) (htm : tm.size ≤ 1048576) (hum : um.size ≤ 1048576)
    (hset : set.size ≤ 1048576) (hd : eqS (essS nx.t nx.u) (essS tm um) = true) (hv : seenB nx.ps chrS = false) (he : (set.toList == []) = false) (hg : goodM nx.t nx.u (nx.ps ++ [⟨chrS, set⟩]) = false) :
    Calls Tryz.prog 24 #[mimV tm um A0 n0 c0, .string set, mimV nx.t nx.u A nx.ps.length c] w (StepOf (stepT tm um set nx) base w) := by
  rw [stepT_not hd (by unfold moreB; rw [hv, he, hg]; rfl)]
  obtain ⟨tn, un, ps⟩ := nx
  obtain ⟨h1, h2, h3, h4⟩ := hs
  simp only at h h1 h2 h3 h4 hd hv hg ⊢
  have HO := Lib.hid h
  have HP := Lib.hid h.ps
  obtain ⟨w0, hw0⟩ : ∃ w0, w0 = (((w.alloc (.cells #[.string tm, .string um, .slice A0 n0 c0] 26)).alloc (.cells #[.string tn, .string un, .slice A ps.length c] 26)).alloc (.cells #[.string ⟨#[]⟩, .string ⟨#[]⟩, .slice none 0 0] 26)) := ⟨_, rfl⟩
  have HS0 := Lib.hid (show StB w tm um A0 n0 c0 tn un A ps.length c w0 from by rw [hw0]; exact StB.first _ _ _ _ _ _ _ _ _ _ _)
  have HAT := Lib.hid (fun W (hW : PsIn W A ps) => rAt_any tn un A ps c chrS W hW (by omega))
  have hge := atI_ge ps chrS
  rw [hv] at hge
  obtain ⟨ai, hai⟩ : ∃ ai, ai = atI ps chrS := ⟨_, rfl⟩
  rw [← hai] at HAT hge
  have g0 : ai < 0 := by have := of_decide_eq_false hge; omega
  clear hai hge
  have HGD := Lib.hid (fun W A4 c4 (hW : PsIn W A4 (ps ++ [⟨chrS, set⟩])) => rgood_any tn un A4 (ps ++ [⟨chrS, set⟩]) c4 W ⟨hW, h3.snoc (by show 7 ≤ _; omega) hset, h1, h2, by simp; omega⟩)
  rw [hg] at HGD
  have hdl : (((tm ++ ⟨#[47]⟩) ++ um).toList == ((tn ++ ⟨#[47]⟩) ++ un).toList) = true := by
    rw [essS_is, essS_is]
    exact (eqS_flip _ _).trans hd
  have k1 : ¬ 9223372036854775807 < tm.size + 1 := by omega
  have k2 : ¬ 9223372036854775807 < tm.size + 1 + um.size := by omega
  have k3 : ¬ 9223372036854775807 < tn.size + 1 := by omega
  have k4 : ¬ 9223372036854775807 < tn.size + 1 + un.size := by omega
  clear h hd
  obtain ⟨c0', c1', c2', d0, d1, d2⟩ := HS0.out.cells
  rw [hw0] at c0' c1' c2' d0 d1 d2
  go_enter Tryz.func24, Tryz.ntmps24
  go_wp2_with fail
  rw [← hw0]
  clear hw0 c0' c1' c2' d0 d1 d2
  refine (HAT.out _ (HP.out.below HS0.out.b)).mono ?_
  rintro e w1 ⟨rfl, b1⟩
  have HS1 := Lib.hid (HS0.out.step b1)
  clear b1 HS0
  obtain ⟨c0', c1', c2', d0, d1, d2⟩ := HS1.out.cells
  have hl1 := HS1.out.r.lt
  cases A with
  | none =>
    have hps : ps = [] := by
      cases ps with
      | nil => rfl
      | cons q r =>
        obtain ⟨g, e, _⟩ := HP.out 0 (by simp)
        cases e
    subst hps
    obtain ⟨i0, hi, hz0, hz1, hz2⟩ := info_parts Tryz.infoPrm
    obtain ⟨w2, hw2⟩ : ∃ w2, w2 = w1.alloc (.cells #[.string tn, .string un, .slice none 0 c] 26) := ⟨_, rfl⟩
    have b2 : Below w1.heap.size w1 w2 := by rw [hw2]; exact (Below.refl _ _).alloc (Nat.le_refl _) _
    have HX2 := Lib.hid (show Blk w2 w1.heap.size 26 _ from by rw [hw2]; exact Blk.new w1 26 #[.string tn, .string un, .slice none 0 c])
    have HS2 := Lib.hid (HS1.out.step b2)
    have hx2 := HX2.out.lt
    clear b2
    go_upto_region 7 with fail
    rw [← hw2]
    generalize w1.heap.size = xb at *
    clear hw2 HS1 c0' c1' c2' d0 d1 d2
    obtain ⟨_, _, _, d0, d1, d2⟩ := HS2.out.cells
    have hx2' : w.heap.size + 1 + 1 < w2.heap.size := HS2.out.r.lt
    have hx3 : w.heap.size + 1 < w2.heap.size := by omega
    obtain ⟨w3, hw3⟩ : ∃ w3, w3 = w2.alloc (.cells #[] 51) := ⟨_, rfl⟩
    have HO3 := Lib.hid (show w3.ownsRow w2.heap.size 51 2 (.slice (some ⟨w2.heap.size, 0, none⟩) 0 0) 0 (prmL []) from by
      rw [hw3]; exact World.ownsRow_made w2 #[] 0 (Nat.le_refl _) (Nat.zero_le _) rfl)
    have HB3 := Lib.hid (show Below w2.heap.size w2 w3 from by rw [hw3]; exact (Below.refl _ _).alloc (Nat.le_refl _) _)
    go_wp2_with (at_builtin; refine append_onto_none rfl _ _ rfl w2.heap.size c rfl rfl ?_)
    refine Lib.hid ?_
    rw [← hw3]
    generalize hvv : (Value.slice (some ⟨w2.heap.size, 0, none⟩) 0 0) = v3 at HO3 ⊢
    clear hw3 hvv
    have hx4 : w2.heap.size ≤ w3.heap.size := HB3.out.size
    go_wp2_with (at_builtin; refine wpList_append_own _ rfl _ _ 24 rfl w2.heap.size 51 i0 _ 2 32 Tryz.underlying24 hi hz0 hz1 hz2 rfl (by decide) _ _ _ rfl (HO3.out.alloc _) ⟨w3.heap.size, 0, none⟩ 1 1 [.string chrS, .string set] rfl rfl ?_ ?_ ?_ ?_ ?_ ?_)
    · intro j u hj
      have hcb := Blk.new w3 51 #[.string chrS, .string set]
      have e : (⟨w3.heap.size, 0, none⟩ : Addr).add j = ⟨w3.heap.size, j, none⟩ := by cases j <;> simp [Addr.add]
      rw [e, hcb.cell]
      simpa using hj
    · intro u hu
      simp at hu
      rcases hu with rfl | rfl <;> rfl
    · unfold maxLen; omega
    · omega
    · simp; omega
    intro v4 w4 hown4 hgrow4 _
    have hown4' : w4.ownsRow w2.heap.size 51 2 v4 (([] : List Prm) ++ [(⟨chrS, set⟩ : Prm)]).length (prmL (([] : List Prm) ++ [⟨chrS, set⟩])) := by rw [prmL_snoc, List.length_append]; exact hown4
    have HB4 := Lib.hid (show Below w2.heap.size w2 w4 from (HB3.out.alloc HB3.out.size _).grown hgrow4 (by simp; omega) (fun g hg => (HO3.out.lt g hg).1))
    obtain ⟨A4, c4, rfl⟩ := own_slc hown4'
    obtain ⟨n, hn⟩ : ∃ n, n = (([] : List Prm) ++ [(⟨chrS, set⟩ : Prm)]).length := ⟨_, rfl⟩
    have HO4 := Lib.hid (show OwnPs w4 w2.heap.size A4 c4 (([] : List Prm) ++ [⟨chrS, set⟩]) from hown4')
    have HN := Lib.hid hn
    rw [← hn]
    clear hown4 hown4' hgrow4 hn HO3
    have HX4 := Lib.hid (HX2.out.below HB4.out hx2)
    have HS4 := Lib.hid (HS2.out.step HB4.out)
    have f2 := HX4.out.frozen 2
    have e2 := HX4.out.cell 2
    clear HB3 HB4 HX2 HS2 d0 d1 d2
    obtain ⟨w5, hw5⟩ : ∃ w5, w5 = w4.setCell ⟨xb, 2, none⟩ (.slice A4 n c4) := ⟨_, rfl⟩
    have HX5 := Lib.hid (show Blk w5 xb 26 #[.string tn, .string un, .slice A4 n c4] from by rw [hw5]; exact HX4.out.set_ 2 _)
    have HS5 := Lib.hid (show StB w tm um A0 n0 c0 tn un none 0 c w5 from by rw [hw5]; exact HS4.out.set (by omega) _ _)
    have HO5 := Lib.hid (show OwnPs w5 w2.heap.size A4 c4 (([] : List Prm) ++ [⟨chrS, set⟩]) from by rw [hw5]; exact OwnPs.set HO4.out HX4.out _ _)
    have HA5 := Lib.hid (show OwnPs w5 base none c [] from by rw [hw5]; exact OwnPs.set (own_mv HO.out (Mv.of_below HS4.out.b []) (by simp)) HX4.out _ _)
    have hbw : base ≤ w2.heap.size := by omega
    clear HO4 HX4 HS4
    go_upto_region 8 with fail
    rw [← hw5]
    clear hw5 f2 e2
    obtain ⟨_, _, _, d0, d1, d2⟩ := HS5.out.cells
    have x0 := HX5.out.cell 0
    have x1 := HX5.out.cell 1
    have x2 := HX5.out.cell 2
    have HM5 := Lib.hid (HGD.out w5 A4 c4 HO5.out.ps)
    rw [← HN.out] at HM5
    go_wp2_with fail
    refine HM5.out.mono ?_
    rintro e w6 ⟨rfl, b6⟩
    have HS6 := Lib.hid (HS5.out.step b6)
    have HX6 := Lib.hid (HX5.out.below b6 HX5.out.lt)
    have HO6 := Lib.hid (own_mv HO5.out (Mv.of_below b6 []) (by simp))
    have HA6 := Lib.hid (own_mv HA5.out (Mv.of_below b6 []) (by simp))
    clear b6 HS5 HX5 HO5 HA5 HM5 d0 d1 d2 x0 x1 x2
    obtain ⟨_, _, _, d0, d1, d2⟩ := HS6.out.cells
    have x0 := HX6.out.cell 0
    have x1 := HX6.out.cell 1
    have x2 := HX6.out.cell 2
    have r0 := HS6.out.r.cell 0
    have r1 := HS6.out.r.cell 1
    have r2 := HS6.out.r.cell 2
    have z0 := HS6.out.r.frozen 0
    have z1 := HS6.out.r.frozen 1
    have z2 := HS6.out.r.frozen 2
    go_wp2
    refine bodyPost_ret (v := .tuple #[mimV tn un none 0 c, .string set]) (by simp [results, Tryz.results24, go_sem, r0, r1, r2]; done) rfl ?_
    exact ⟨none, c, rfl, OwnPs.set3 HA6.out HS6.out.r _ _ _, ((HS6.out.b.setCell (by show w.heap.size ≤ w.heap.size + 1 + 1; omega) _).setCell (by show w.heap.size ≤ w.heap.size + 1 + 1; omega) _).setCell (by show w.heap.size ≤ w.heap.size + 1 + 1; omega) _⟩

  | some a =>
    obtain ⟨i0, hi, hz0, hz1, hz2⟩ := info_parts Tryz.infoPrm
    obtain ⟨w2, hw2⟩ : ∃ w2, w2 = w1.alloc (.cells #[.string tn, .string un, .slice (some a) ps.length c] 26) := ⟨_, rfl⟩
    have b2 : Below w1.heap.size w1 w2 := by rw [hw2]; exact (Below.refl _ _).alloc (Nat.le_refl _) _
    have HX2 := Lib.hid (show Blk w2 w1.heap.size 26 _ from by rw [hw2]; exact Blk.new w1 26 #[.string tn, .string un, .slice (some a) ps.length c])
    have HS2 := Lib.hid (HS1.out.step b2)
    have hx2 := HX2.out.lt
    clear b2
    go_upto_region 7 with fail
    rw [← hw2]
    generalize w1.heap.size = xb at *
    clear hw2 HS1 c0' c1' c2' d0 d1 d2
    obtain ⟨_, _, _, d0, d1, d2⟩ := HS2.out.cells
    have hx2' : w.heap.size + 1 + 1 < w2.heap.size := HS2.out.r.lt
    have hx3 : w.heap.size + 1 < w2.heap.size := by omega
    go_wp2_with (at_builtin; refine wpList_append_own _ rfl _ _ 24 rfl w2.heap.size 51 i0 _ 2 32 Tryz.underlying24 hi hz0 hz1 hz2 rfl (by decide) _ _ _ rfl (World.ownsRow_made w2 #[] 0 (Nat.le_refl _) (Nat.zero_le _) rfl) a ps.length c (prmL ps) rfl (by rw [prmL_len]) (HP.out.below ((HS2.out.b).alloc (by omega) _)).cells (prmL_one ps) ?_ ?_ ?_ ?_)
    · unfold maxLen; omega
    · omega
    · simp
    intro v3 w3 hown3 hgrow3 _
    have HO3 := Lib.hid (show w3.ownsRow w2.heap.size 51 2 v3 ps.length (prmL ps) from by simpa using hown3)
    have HB3 := Lib.hid (show Below w2.heap.size w2 w3 from ((Below.refl _ _).alloc (Nat.le_refl _) _).grown hgrow3 (by simp) (fun g hg => by simp [Value.ownBlock] at hg; omega))
    clear hown3 hgrow3
    have hx4 : w2.heap.size ≤ w3.heap.size := HB3.out.size
    go_wp2_with (at_builtin; refine wpList_append_own _ rfl _ _ 24 rfl w2.heap.size 51 i0 _ 2 32 Tryz.underlying24 hi hz0 hz1 hz2 rfl (by decide) _ _ _ rfl (HO3.out.alloc _) ⟨w3.heap.size, 0, none⟩ 1 1 [.string chrS, .string set] rfl rfl ?_ ?_ ?_ ?_ ?_ ?_)
    · intro j u hj
      have hcb := Blk.new w3 51 #[.string chrS, .string set]
      have e : (⟨w3.heap.size, 0, none⟩ : Addr).add j = ⟨w3.heap.size, j, none⟩ := by cases j <;> simp [Addr.add]
      rw [e, hcb.cell]
      simpa using hj
    · intro u hu
      simp at hu
      rcases hu with rfl | rfl <;> rfl
    · unfold maxLen; omega
    · omega
    · simp; omega
    intro v4 w4 hown4 hgrow4 _
    have hown4' : w4.ownsRow w2.heap.size 51 2 v4 (ps ++ [(⟨chrS, set⟩ : Prm)]).length (prmL (ps ++ [⟨chrS, set⟩])) := by rw [prmL_snoc, List.length_append]; exact hown4
    have HB4 := Lib.hid (show Below w2.heap.size w2 w4 from (HB3.out.alloc HB3.out.size _).grown hgrow4 (by simp; omega) (fun g hg => (HO3.out.lt g hg).1))
    obtain ⟨A4, c4, rfl⟩ := own_slc hown4'
    obtain ⟨n, hn⟩ : ∃ n, n = (ps ++ [(⟨chrS, set⟩ : Prm)]).length := ⟨_, rfl⟩
    have HO4 := Lib.hid (show OwnPs w4 w2.heap.size A4 c4 (ps ++ [⟨chrS, set⟩]) from hown4')
    have HN := Lib.hid hn
    rw [← hn]
    clear hown4 hown4' hgrow4 hn HO3
    have HX4 := Lib.hid (HX2.out.below HB4.out hx2)
    have HS4 := Lib.hid (HS2.out.step HB4.out)
    have f2 := HX4.out.frozen 2
    have e2 := HX4.out.cell 2
    clear HB3 HB4 HX2 HS2 d0 d1 d2
    obtain ⟨w5, hw5⟩ : ∃ w5, w5 = w4.setCell ⟨xb, 2, none⟩ (.slice A4 n c4) := ⟨_, rfl⟩
    have HX5 := Lib.hid (show Blk w5 xb 26 #[.string tn, .string un, .slice A4 n c4] from by rw [hw5]; exact HX4.out.set_ 2 _)
    have HS5 := Lib.hid (show StB w tm um A0 n0 c0 tn un (some a) ps.length c w5 from by rw [hw5]; exact HS4.out.set (by omega) _ _)
    have HO5 := Lib.hid (show OwnPs w5 w2.heap.size A4 c4 (ps ++ [⟨chrS, set⟩]) from by rw [hw5]; exact OwnPs.set HO4.out HX4.out _ _)
    have HA5 := Lib.hid (show OwnPs w5 base (some a) c ps from by rw [hw5]; exact OwnPs.set (own_mv HO.out (Mv.of_below HS4.out.b []) (by simp)) HX4.out _ _)
    have hbw : base ≤ w2.heap.size := by omega
    clear HO4 HX4 HS4
    go_upto_region 8 with fail
    rw [← hw5]
    clear hw5 f2 e2
    obtain ⟨_, _, _, d0, d1, d2⟩ := HS5.out.cells
    have x0 := HX5.out.cell 0
    have x1 := HX5.out.cell 1
    have x2 := HX5.out.cell 2
    have HM5 := Lib.hid (HGD.out w5 A4 c4 HO5.out.ps)
    rw [← HN.out] at HM5
    go_wp2_with fail
    refine HM5.out.mono ?_
    rintro e w6 ⟨rfl, b6⟩
    have HS6 := Lib.hid (HS5.out.step b6)
    have HX6 := Lib.hid (HX5.out.below b6 HX5.out.lt)
    have HO6 := Lib.hid (own_mv HO5.out (Mv.of_below b6 []) (by simp))
    have HA6 := Lib.hid (own_mv HA5.out (Mv.of_below b6 []) (by simp))
    clear b6 HS5 HX5 HO5 HA5 HM5 d0 d1 d2 x0 x1 x2
    obtain ⟨_, _, _, d0, d1, d2⟩ := HS6.out.cells
    have x0 := HX6.out.cell 0
    have x1 := HX6.out.cell 1
    have x2 := HX6.out.cell 2
    have r0 := HS6.out.r.cell 0
    have r1 := HS6.out.r.cell 1
    have r2 := HS6.out.r.cell 2
    have z0 := HS6.out.r.frozen 0
    have z1 := HS6.out.r.frozen 1
    have z2 := HS6.out.r.frozen 2
    go_wp2
    refine bodyPost_ret (v := .tuple #[mimV tn un (some a) ps.length c, .string set]) (by simp [results, Tryz.results24, go_sem, r0, r1, r2]; done) rfl ?_
    exact ⟨(some a), c, rfl, OwnPs.set3 HA6.out HS6.out.r _ _ _, ((HS6.out.b.setCell (by show w.heap.size ≤ w.heap.size + 1 + 1; omega) _).setCell (by show w.heap.size ≤ w.heap.size + 1 + 1; omega) _).setCell (by show w.heap.size ≤ w.heap.size + 1 + 1; omega) _⟩

set_option maxHeartbeats 4000000 in
set_option maxRecDepth 100000 in
theorem rstep_good (tm um : ByteArray) (A0 : Option Addr) (n0 c0 : Nat) (set : ByteArray) (nx : Mty) (A : Option Addr) (c base : Nat) (w : World) (h : OwnPs w base A c nx.ps) (hb : base ≤ w.heap.size) (hs : nx.small) (htm : tm.size ≤ 1048576) (hum : um.size ≤ 1048576)
    (hset : set.size ≤ 1048576) (hd : eqS (essS nx.t nx.u) (essS tm um) = true) (hv : seenB nx.ps chrS = false) (he : (set.toList == []) = false) (hg : goodM nx.t nx.u (nx.ps ++ [⟨chrS, set⟩]) = true) :
    Calls Tryz.prog 24 #[mimV tm um A0 n0 c0, .string set, mimV nx.t nx.u A nx.ps.length c] w (StepOf (stepT tm um set nx) base w) := by
  rw [stepT_more hd (by unfold moreB; rw [hv, he, hg]; rfl)]
  obtain ⟨tn, un, ps⟩ := nx
  obtain ⟨h1, h2, h3, h4⟩ := hs
  simp only at h h1 h2 h3 h4 hd hv hg ⊢
  have HO := Lib.hid h
  have HP := Lib.hid h.ps
  obtain ⟨w0, hw0⟩ : ∃ w0, w0 = (((w.alloc (.cells #[.string tm, .string um, .slice A0 n0 c0] 26)).alloc (.cells #[.string tn, .string un, .slice A ps.length c] 26)).alloc (.cells #[.string ⟨#[]⟩, .string ⟨#[]⟩, .slice none 0 0] 26)) := ⟨_, rfl⟩
  have HS0 := Lib.hid (show StB w tm um A0 n0 c0 tn un A ps.length c w0 from by rw [hw0]; exact StB.first _ _ _ _ _ _ _ _ _ _ _)
  have HAT := Lib.hid (fun W (hW : PsIn W A ps) => rAt_any tn un A ps c chrS W hW (by omega))
  have hge := atI_ge ps chrS
  rw [hv] at hge
  obtain ⟨ai, hai⟩ : ∃ ai, ai = atI ps chrS := ⟨_, rfl⟩
  rw [← hai] at HAT hge
  have g0 : ai < 0 := by have := of_decide_eq_false hge; omega
  clear hai hge
  have HGD := Lib.hid (fun W A4 c4 (hW : PsIn W A4 (ps ++ [⟨chrS, set⟩])) => rgood_any tn un A4 (ps ++ [⟨chrS, set⟩]) c4 W ⟨hW, h3.snoc (by show 7 ≤ _; omega) hset, h1, h2, by simp; omega⟩)
  rw [hg] at HGD
  have hdl : (((tm ++ ⟨#[47]⟩) ++ um).toList == ((tn ++ ⟨#[47]⟩) ++ un).toList) = true := by
    rw [essS_is, essS_is]
    exact (eqS_flip _ _).trans hd
  have k1 : ¬ 9223372036854775807 < tm.size + 1 := by omega
  have k2 : ¬ 9223372036854775807 < tm.size + 1 + um.size := by omega
  have k3 : ¬ 9223372036854775807 < tn.size + 1 := by omega
  have k4 : ¬ 9223372036854775807 < tn.size + 1 + un.size := by omega
  clear h hd
  obtain ⟨c0', c1', c2', d0, d1, d2⟩ := HS0.out.cells
  rw [hw0] at c0' c1' c2' d0 d1 d2
  go_enter Tryz.func24, Tryz.ntmps24
  go_wp2_with fail
  rw [← hw0]
  clear hw0 c0' c1' c2' d0 d1 d2
  refine (HAT.out _ (HP.out.below HS0.out.b)).mono ?_
  rintro e w1 ⟨rfl, b1⟩
  have HS1 := Lib.hid (HS0.out.step b1)
  clear b1 HS0
  obtain ⟨c0', c1', c2', d0, d1, d2⟩ := HS1.out.cells
  have hl1 := HS1.out.r.lt
  cases A with
  | none =>
    have hps : ps = [] := by
      cases ps with
      | nil => rfl
      | cons q r =>
        obtain ⟨g, e, _⟩ := HP.out 0 (by simp)
        cases e
    subst hps
    obtain ⟨i0, hi, hz0, hz1, hz2⟩ := info_parts Tryz.infoPrm
    obtain ⟨w2, hw2⟩ : ∃ w2, w2 = w1.alloc (.cells #[.string tn, .string un, .slice none 0 c] 26) := ⟨_, rfl⟩
    have b2 : Below w1.heap.size w1 w2 := by rw [hw2]; exact (Below.refl _ _).alloc (Nat.le_refl _) _
    have HX2 := Lib.hid (show Blk w2 w1.heap.size 26 _ from by rw [hw2]; exact Blk.new w1 26 #[.string tn, .string un, .slice none 0 c])
    have HS2 := Lib.hid (HS1.out.step b2)
    have hx2 := HX2.out.lt
    clear b2
    go_upto_region 7 with fail
    rw [← hw2]
    generalize w1.heap.size = xb at *
    clear hw2 HS1 c0' c1' c2' d0 d1 d2
    obtain ⟨_, _, _, d0, d1, d2⟩ := HS2.out.cells
    have hx2' : w.heap.size + 1 + 1 < w2.heap.size := HS2.out.r.lt
    have hx3 : w.heap.size + 1 < w2.heap.size := by omega
    obtain ⟨w3, hw3⟩ : ∃ w3, w3 = w2.alloc (.cells #[] 51) := ⟨_, rfl⟩
    have HO3 := Lib.hid (show w3.ownsRow w2.heap.size 51 2 (.slice (some ⟨w2.heap.size, 0, none⟩) 0 0) 0 (prmL []) from by
      rw [hw3]; exact World.ownsRow_made w2 #[] 0 (Nat.le_refl _) (Nat.zero_le _) rfl)
    have HB3 := Lib.hid (show Below w2.heap.size w2 w3 from by rw [hw3]; exact (Below.refl _ _).alloc (Nat.le_refl _) _)
    go_wp2_with (at_builtin; refine append_onto_none rfl _ _ rfl w2.heap.size c rfl rfl ?_)
    refine Lib.hid ?_
    rw [← hw3]
    generalize hvv : (Value.slice (some ⟨w2.heap.size, 0, none⟩) 0 0) = v3 at HO3 ⊢
    clear hw3 hvv
    have hx4 : w2.heap.size ≤ w3.heap.size := HB3.out.size
    go_wp2_with (at_builtin; refine wpList_append_own _ rfl _ _ 24 rfl w2.heap.size 51 i0 _ 2 32 Tryz.underlying24 hi hz0 hz1 hz2 rfl (by decide) _ _ _ rfl (HO3.out.alloc _) ⟨w3.heap.size, 0, none⟩ 1 1 [.string chrS, .string set] rfl rfl ?_ ?_ ?_ ?_ ?_ ?_)
    · intro j u hj
      have hcb := Blk.new w3 51 #[.string chrS, .string set]
      have e : (⟨w3.heap.size, 0, none⟩ : Addr).add j = ⟨w3.heap.size, j, none⟩ := by cases j <;> simp [Addr.add]
      rw [e, hcb.cell]
      simpa using hj
    · intro u hu
      simp at hu
      rcases hu with rfl | rfl <;> rfl
    · unfold maxLen; omega
    · omega
    · simp; omega
    intro v4 w4 hown4 hgrow4 _
    have hown4' : w4.ownsRow w2.heap.size 51 2 v4 (([] : List Prm) ++ [(⟨chrS, set⟩ : Prm)]).length (prmL (([] : List Prm) ++ [⟨chrS, set⟩])) := by rw [prmL_snoc, List.length_append]; exact hown4
    have HB4 := Lib.hid (show Below w2.heap.size w2 w4 from (HB3.out.alloc HB3.out.size _).grown hgrow4 (by simp; omega) (fun g hg => (HO3.out.lt g hg).1))
    obtain ⟨A4, c4, rfl⟩ := own_slc hown4'
    obtain ⟨n, hn⟩ : ∃ n, n = (([] : List Prm) ++ [(⟨chrS, set⟩ : Prm)]).length := ⟨_, rfl⟩
    have HO4 := Lib.hid (show OwnPs w4 w2.heap.size A4 c4 (([] : List Prm) ++ [⟨chrS, set⟩]) from hown4')
    have HN := Lib.hid hn
    rw [← hn]
    clear hown4 hown4' hgrow4 hn HO3
    have HX4 := Lib.hid (HX2.out.below HB4.out hx2)
    have HS4 := Lib.hid (HS2.out.step HB4.out)
    have f2 := HX4.out.frozen 2
    have e2 := HX4.out.cell 2
    clear HB3 HB4 HX2 HS2 d0 d1 d2
    obtain ⟨w5, hw5⟩ : ∃ w5, w5 = w4.setCell ⟨xb, 2, none⟩ (.slice A4 n c4) := ⟨_, rfl⟩
    have HX5 := Lib.hid (show Blk w5 xb 26 #[.string tn, .string un, .slice A4 n c4] from by rw [hw5]; exact HX4.out.set_ 2 _)
    have HS5 := Lib.hid (show StB w tm um A0 n0 c0 tn un none 0 c w5 from by rw [hw5]; exact HS4.out.set (by omega) _ _)
    have HO5 := Lib.hid (show OwnPs w5 w2.heap.size A4 c4 (([] : List Prm) ++ [⟨chrS, set⟩]) from by rw [hw5]; exact OwnPs.set HO4.out HX4.out _ _)
    have HA5 := Lib.hid (show OwnPs w5 base none c [] from by rw [hw5]; exact OwnPs.set (own_mv HO.out (Mv.of_below HS4.out.b []) (by simp)) HX4.out _ _)
    have hbw : base ≤ w2.heap.size := by omega
    clear HO4 HX4 HS4
    go_upto_region 8 with fail
    rw [← hw5]
    clear hw5 f2 e2
    obtain ⟨_, _, _, d0, d1, d2⟩ := HS5.out.cells
    have x0 := HX5.out.cell 0
    have x1 := HX5.out.cell 1
    have x2 := HX5.out.cell 2
    have HM5 := Lib.hid (HGD.out w5 A4 c4 HO5.out.ps)
    rw [← HN.out] at HM5
    go_wp2_with fail
    refine HM5.out.mono ?_
    rintro e w6 ⟨rfl, b6⟩
    have HS6 := Lib.hid (HS5.out.step b6)
    have HX6 := Lib.hid (HX5.out.below b6 HX5.out.lt)
    have HO6 := Lib.hid (own_mv HO5.out (Mv.of_below b6 []) (by simp))
    have HA6 := Lib.hid (own_mv HA5.out (Mv.of_below b6 []) (by simp))
    clear b6 HS5 HX5 HO5 HA5 HM5 d0 d1 d2 x0 x1 x2
    obtain ⟨_, _, _, d0, d1, d2⟩ := HS6.out.cells
    have x0 := HX6.out.cell 0
    have x1 := HX6.out.cell 1
    have x2 := HX6.out.cell 2
    have r0 := HS6.out.r.cell 0
    have r1 := HS6.out.r.cell 1
    have r2 := HS6.out.r.cell 2
    have z0 := HS6.out.r.frozen 0
    have z1 := HS6.out.r.frozen 1
    have z2 := HS6.out.r.frozen 2
    go_wp2
    refine bodyPost_ret (v := .tuple #[mimV tn un A4 n c4, .string set]) (by simp [results, Tryz.results24, go_sem, r0, r1, r2]; done) rfl ?_
    exact ⟨A4, c4, by rw [HN.out], OwnPs.set3 (own_base HO6.out hbw) HS6.out.r _ _ _, ((HS6.out.b.setCell (by show w.heap.size ≤ w.heap.size + 1 + 1; omega) _).setCell (by show w.heap.size ≤ w.heap.size + 1 + 1; omega) _).setCell (by show w.heap.size ≤ w.heap.size + 1 + 1; omega) _⟩

  | some a =>
    obtain ⟨i0, hi, hz0, hz1, hz2⟩ := info_parts Tryz.infoPrm
    obtain ⟨w2, hw2⟩ : ∃ w2, w2 = w1.alloc (.cells #[.string tn, .string un, .slice (some a) ps.length c] 26) := ⟨_, rfl⟩
    have b2 : Below w1.heap.size w1 w2 := by rw [hw2]; exact (Below.refl _ _).alloc (Nat.le_refl _) _
    have HX2 := Lib.hid (show Blk w2 w1.heap.size 26 _ from by rw [hw2]; exact Blk.new w1 26 #[.string tn, .string un, .slice (some a) ps.length c])
    have HS2 := Lib.hid (HS1.out.step b2)
    have hx2 := HX2.out.lt
    clear b2
    go_upto_region 7 with fail
    rw [← hw2]
    generalize w1.heap.size = xb at *
    clear hw2 HS1 c0' c1' c2' d0 d1 d2
    obtain ⟨_, _, _, d0, d1, d2⟩ := HS2.out.cells
    have hx2' : w.heap.size + 1 + 1 < w2.heap.size := HS2.out.r.lt
    have hx3 : w.heap.size + 1 < w2.heap.size := by omega
    go_wp2_with (at_builtin; refine wpList_append_own _ rfl _ _ 24 rfl w2.heap.size 51 i0 _ 2 32 Tryz.underlying24 hi hz0 hz1 hz2 rfl (by decide) _ _ _ rfl (World.ownsRow_made w2 #[] 0 (Nat.le_refl _) (Nat.zero_le _) rfl) a ps.length c (prmL ps) rfl (by rw [prmL_len]) (HP.out.below ((HS2.out.b).alloc (by omega) _)).cells (prmL_one ps) ?_ ?_ ?_ ?_)
    · unfold maxLen; omega
    · omega
    · simp
    intro v3 w3 hown3 hgrow3 _
    have HO3 := Lib.hid (show w3.ownsRow w2.heap.size 51 2 v3 ps.length (prmL ps) from by simpa using hown3)
    have HB3 := Lib.hid (show Below w2.heap.size w2 w3 from ((Below.refl _ _).alloc (Nat.le_refl _) _).grown hgrow3 (by simp) (fun g hg => by simp [Value.ownBlock] at hg; omega))
    clear hown3 hgrow3
    have hx4 : w2.heap.size ≤ w3.heap.size := HB3.out.size
    go_wp2_with (at_builtin; refine wpList_append_own _ rfl _ _ 24 rfl w2.heap.size 51 i0 _ 2 32 Tryz.underlying24 hi hz0 hz1 hz2 rfl (by decide) _ _ _ rfl (HO3.out.alloc _) ⟨w3.heap.size, 0, none⟩ 1 1 [.string chrS, .string set] rfl rfl ?_ ?_ ?_ ?_ ?_ ?_)
    · intro j u hj
      have hcb := Blk.new w3 51 #[.string chrS, .string set]
      have e : (⟨w3.heap.size, 0, none⟩ : Addr).add j = ⟨w3.heap.size, j, none⟩ := by cases j <;> simp [Addr.add]
      rw [e, hcb.cell]
      simpa using hj
    · intro u hu
      simp at hu
      rcases hu with rfl | rfl <;> rfl
    · unfold maxLen; omega
    · omega
    · simp; omega
    intro v4 w4 hown4 hgrow4 _
    have hown4' : w4.ownsRow w2.heap.size 51 2 v4 (ps ++ [(⟨chrS, set⟩ : Prm)]).length (prmL (ps ++ [⟨chrS, set⟩])) := by rw [prmL_snoc, List.length_append]; exact hown4
    have HB4 := Lib.hid (show Below w2.heap.size w2 w4 from (HB3.out.alloc HB3.out.size _).grown hgrow4 (by simp; omega) (fun g hg => (HO3.out.lt g hg).1))
    obtain ⟨A4, c4, rfl⟩ := own_slc hown4'
    obtain ⟨n, hn⟩ : ∃ n, n = (ps ++ [(⟨chrS, set⟩ : Prm)]).length := ⟨_, rfl⟩
    have HO4 := Lib.hid (show OwnPs w4 w2.heap.size A4 c4 (ps ++ [⟨chrS, set⟩]) from hown4')
    have HN := Lib.hid hn
    rw [← hn]
    clear hown4 hown4' hgrow4 hn HO3
    have HX4 := Lib.hid (HX2.out.below HB4.out hx2)
    have HS4 := Lib.hid (HS2.out.step HB4.out)
    have f2 := HX4.out.frozen 2
    have e2 := HX4.out.cell 2
    clear HB3 HB4 HX2 HS2 d0 d1 d2
    obtain ⟨w5, hw5⟩ : ∃ w5, w5 = w4.setCell ⟨xb, 2, none⟩ (.slice A4 n c4) := ⟨_, rfl⟩
    have HX5 := Lib.hid (show Blk w5 xb 26 #[.string tn, .string un, .slice A4 n c4] from by rw [hw5]; exact HX4.out.set_ 2 _)
    have HS5 := Lib.hid (show StB w tm um A0 n0 c0 tn un (some a) ps.length c w5 from by rw [hw5]; exact HS4.out.set (by omega) _ _)
    have HO5 := Lib.hid (show OwnPs w5 w2.heap.size A4 c4 (ps ++ [⟨chrS, set⟩]) from by rw [hw5]; exact OwnPs.set HO4.out HX4.out _ _)
    have HA5 := Lib.hid (show OwnPs w5 base (some a) c ps from by rw [hw5]; exact OwnPs.set (own_mv HO.out (Mv.of_below HS4.out.b []) (by simp)) HX4.out _ _)
    have hbw : base ≤ w2.heap.size := by omega
    clear HO4 HX4 HS4
    go_upto_region 8 with fail
    rw [← hw5]
    clear hw5 f2 e2
    obtain ⟨_, _, _, d0, d1, d2⟩ := HS5.out.cells
    have x0 := HX5.out.cell 0
    have x1 := HX5.out.cell 1
    have x2 := HX5.out.cell 2
    have HM5 := Lib.hid (HGD.out w5 A4 c4 HO5.out.ps)
    rw [← HN.out] at HM5
    go_wp2_with fail
    refine HM5.out.mono ?_
    rintro e w6 ⟨rfl, b6⟩
    have HS6 := Lib.hid (HS5.out.step b6)
    have HX6 := Lib.hid (HX5.out.below b6 HX5.out.lt)
    have HO6 := Lib.hid (own_mv HO5.out (Mv.of_below b6 []) (by simp))
    have HA6 := Lib.hid (own_mv HA5.out (Mv.of_below b6 []) (by simp))
    clear b6 HS5 HX5 HO5 HA5 HM5 d0 d1 d2 x0 x1 x2
    obtain ⟨_, _, _, d0, d1, d2⟩ := HS6.out.cells
    have x0 := HX6.out.cell 0
    have x1 := HX6.out.cell 1
    have x2 := HX6.out.cell 2
    have r0 := HS6.out.r.cell 0
    have r1 := HS6.out.r.cell 1
    have r2 := HS6.out.r.cell 2
    have z0 := HS6.out.r.frozen 0
    have z1 := HS6.out.r.frozen 1
    have z2 := HS6.out.r.frozen 2
    go_wp2
    refine bodyPost_ret (v := .tuple #[mimV tn un A4 n c4, .string set]) (by simp [results, Tryz.results24, go_sem, r0, r1, r2]; done) rfl ?_
    exact ⟨A4, c4, by rw [HN.out], OwnPs.set3 (own_base HO6.out hbw) HS6.out.r _ _ _, ((HS6.out.b.setCell (by show w.heap.size ≤ w.heap.size + 1 + 1; omega) _).setCell (by show w.heap.size ≤ w.heap.size + 1 + 1; omega) _).setCell (by show w.heap.size ≤ w.heap.size + 1 + 1; omega) _⟩

theorem rstep_any (tm um : ByteArray) (A0 : Option Addr) (n0 c0 : Nat) (set : ByteArray) (nx : Mty) (A : Option Addr) (c base : Nat) (w : World) (h : OwnPs w base A c nx.ps) (hb : base ≤ w.heap.size) (hs : nx.small) (htm : tm.size ≤ 1048576) (hum : um.size ≤ 1048576) (hset : set.size ≤ 1048576) :
    Calls Tryz.prog 24 #[mimV tm um A0 n0 c0, .string set, mimV nx.t nx.u A nx.ps.length c] w (StepOf (stepT tm um set nx) base w) := by
  cases hd : eqS (essS nx.t nx.u) (essS tm um)
  · cases hv : seenB nx.ps chrS
    · exact rstep_far0 tm um A0 n0 c0 set nx A c base w h hb hs htm hum hd hv
    · exact rstep_far1 tm um A0 n0 c0 set nx A c base w h hb hs htm hum hd hv
  · cases hv : seenB nx.ps chrS
    · cases he : (set.toList == [])
      · cases hg : goodM nx.t nx.u (nx.ps ++ [⟨chrS, set⟩])
        · exact rstep_bad tm um A0 n0 c0 set nx A c base w h hb hs htm hum hset hd hv he hg
        · exact rstep_good tm um A0 n0 c0 set nx A c base w h hb hs htm hum hset hd hv he hg
      · exact rstep_none tm um A0 n0 c0 set nx A c base w h hb hs htm hum hset hd hv he
    · exact rstep_seen tm um A0 n0 c0 set nx A c base w h hb hs htm hum hset hd hv

end Go.Proofs.YtighgoefmccagaaGreat
namespace Go.Proofs.YtighgoefmccagaaGreat
open Go.RowKit

theorem rparse_not (p : ByteArray) (w : World) (hs : p.size ≤ 1048575) (h : saysB (trimP whiB p) = false) :
    Calls Tryz.prog 35 #[.string p] w (SaysNo w) := (rparse_no p w (by omega) h).mono fun _ _ hh => hh

set_option maxHeartbeats 4000000 in
set_option maxRecDepth 100000 in
theorem rall_any (A : Option Addr) (c : Nat) (xs : List ByteArray) (w : World) (h : TxIn w A xs) (hn : xs.length ≤ 700) (hx : ∀ y ∈ xs, y.size ≤ 1000) :
    Calls Tryz.prog 23 #[.slice A xs.length c] w (NewTys (allT (valsL xs)) w) := by
  obtain ⟨i0, hi, hz0, hz1, hz2⟩ := info_parts Tryz.infoMime
  have HV := Lib.hid (fun W (hW : TxIn W A xs) => rvalues_any A c xs W hW (by omega) hx)
  have hj := joinS_size hx
  have hnb : xs.length * (1000 + 2) ≤ 700 * 1002 := Nat.mul_le_mul hn (Nat.le_refl _)
  obtain ⟨hvs, hvn⟩ := valsL_sizes (n := 701400) (by omega : (joinS xs).size ≤ 701400)
  generalize valsL xs = L at *
  clear hx hj hnb
  have HVS := Lib.hid (fun i (hi : i < L.length) => hvs L[i] (List.getElem_mem hi))
  obtain ⟨Z, hZ⟩ : ∃ Z, Z = allT L := ⟨_, rfl⟩
  rw [← hZ]
  have HZ := Lib.hid hZ
  clear hvs hZ
  go_enter Tryz.func23, Tryz.ntmps23
  obtain ⟨w0, hw0⟩ : ∃ w0, w0 = w.alloc (.cells #[] 26) := ⟨_, rfl⟩
  have HB0 := Lib.hid (show Below w.heap.size w w0 from by rw [hw0]; exact (Below.refl _ _).alloc (Nat.le_refl _) _)
  have HO0 := Lib.hid (show w0.ownsRow w.heap.size 26 3 (.slice (some ⟨w.heap.size, 0, none⟩) 0 0) 0 [] from by rw [hw0]; exact World.ownsRow_made w #[] 0 (Nat.le_refl _) (Nat.zero_le _) rfl)
  have HH := Lib.hid h
  clear h
  go_wp2_with fail
  rw [← hw0]
  clear hw0
  refine (HV.out _ (HH.out.below HB0.out)).mono ?_
  rintro e w1 ⟨v1, rfl, ho, b1⟩
  obtain ⟨B, d, rfl, _, _⟩ := TxIn.of_own ho
  have HS1 := Lib.hid (own_base ho HB0.out.size)
  have HO1 := Lib.hid (own_mv HO0.out (Mv.of_below b1 []) (by simp))
  have HB1 := Lib.hid (below_on HB0.out b1)
  clear ho b1 HV HO0 HB0 HH
  go_wp2
  go_loopw [3, 5] (fun v i wr => ∃ (k : Nat) (R : List Trw), k ≤ L.length ∧ i = .int .i64 k ∧ R.length ≤ k ∧ R.map Trw.m = allT (L.take k) ∧ wr.ownsRow w.heap.size 26 3 v R.length (trwL R) ∧ Rows3 wr w.heap.size R ∧ wr.ownsRow w.heap.size 9 1 (.slice B L.length d) L.length (strs L) ∧ Below w.heap.size w wr) (fun _ i _ => L.length - (intOf i).toNat)
  case atStart => exact ⟨0, [], Nat.zero_le _, rfl, Nat.zero_le _, rfl, HO1.out, Rows3.nil _ _, HS1.out, HB1.out⟩
  case round =>
    obtain ⟨k, R, hk, rfl, hrk, hmap, hown, hrows, hst, hw⟩ := hrel
    have HO := Lib.hid hown
    have HR := Lib.hid hrows
    have HW := Lib.hid hw
    have HMP := Lib.hid hmap
    have HS := Lib.hid hst
    have hws : w.heap.size ≤ wr.heap.size := hw.size
    obtain ⟨B', d', eB, hti, _⟩ := TxIn.of_own hst
    cases eB
    have HTI := Lib.hid hti
    clear hown hrows hw hmap hst hti
    by_cases hlt : k < L.length
    · obtain ⟨g, eB, hg, hck'⟩ := HTI.out k hlt
      subst eB
      have HST := Lib.hid (allT_step hlt)
      have hps := HVS.out k hlt
      generalize L[k] = p at hck' HST hps
      rcases typO_cases p with ⟨t1, t2⟩ | ⟨m, t1, t2, t3⟩ | ⟨m, t1, t2, t3⟩
      · have HPA := Lib.hid (fun W => rparse_not p W (by omega) t1)
        rw [t2] at HST
        have HE := Lib.hid (show R.map Trw.m = allT (L.take (k + 1)) from by rw [HST.out, HMP.out]; simp)
        clear t1 t2 HST HMP
        obtain ⟨ao, n', cap, rfl⟩ := own_slice HO.out
        go_wp2_with fail
        refine (HPA.out _).mono ?_
        rintro e w2 ⟨rfl, b2⟩
        have b3 : Below wr.heap.size wr (w2.alloc (.cells #[.string ⟨#[]⟩, .string ⟨#[]⟩, .slice none 0 0] 26)) := b2.alloc b2.size _
        have HO2 := Lib.hid (own_mv HO.out (Mv.of_below b3 []) (by simp))
        have HR2 := Lib.hid (HR.out.below b3)
        have HS2 := Lib.hid (own_mv HS.out (Mv.of_below b3 []) (by simp))
        have HW2 := Lib.hid (below_on HW.out b3)
        clear b2 b3 HO HR HW HS
        go_wp2
        go_roundw
        case rel => exact ⟨k + 1, R, by omega, by go_num, by omega, HE.out, HO2.out, HR2.out, HS2.out, HW2.out⟩
        case measure => simp [intOf]; omega
      · have HPA := Lib.hid (fun W => t1.rparse W (by omega))
        rw [t3] at HST
        have HE := Lib.hid (show R.map Trw.m = allT (L.take (k + 1)) from by rw [HST.out, HMP.out]; simp)
        have t4 : (m.t.toList == [42]) = true ∧ (m.u.toList == [42]) = true := by rw [anyT_eq, Bool.and_eq_true] at t2; exact t2
        clear t1 t2 t3 HST HMP
        obtain ⟨mt, mu, mp⟩ := m
        obtain ⟨t5, t6⟩ := t4
        simp only at t5 t6
        obtain ⟨ao, n', cap, rfl⟩ := own_slice HO.out
        go_wp2_with fail
        refine (HPA.out _).mono ?_
        rintro e w2 ⟨A2, c2, rfl, ho2, hs2, b2⟩
        have b5 : Below wr.heap.size wr (w2.alloc (.cells #[.string mt, .string mu, .slice A2 mp.length c2] 26)) := b2.alloc b2.size _
        have HO2 := Lib.hid (own_mv HO.out (Mv.of_below b5 []) (by simp))
        have HR2 := Lib.hid (HR.out.below b5)
        have HS2 := Lib.hid (own_mv HS.out (Mv.of_below b5 []) (by simp))
        have HW2 := Lib.hid (below_on HW.out b5)
        clear b2 b5 HO HR HW HS ho2 hs2
        go_wp2
        go_roundw
        case rel => exact ⟨k + 1, R, by omega, by go_num, by omega, HE.out, HO2.out, HR2.out, HS2.out, HW2.out⟩
        case measure => simp [intOf]; omega
      · have HPA := Lib.hid (fun W => t1.rparse W (by omega))
        rw [t3] at HST
        have HE := Lib.hid (show R.map Trw.m ++ [m] = allT (L.take (k + 1)) from by rw [HST.out, HMP.out]; simp)
        have t4 : (m.t.toList == [42]) = false ∨ ((m.t.toList == [42]) = true ∧ (m.u.toList == [42]) = false) := by
          rw [anyT_eq] at t2
          cases h1 : (m.t.toList == [42])
          · exact .inl rfl
          · rw [h1] at t2; exact .inr ⟨rfl, t2⟩
        rcases t4 with t4 | t4
        · skip
          clear t1 t2 t3 HST HMP
          obtain ⟨mt, mu, mp⟩ := m
          have t5 : (mt.toList == [42]) = false := t4
          obtain ⟨ao, n', cap, rfl⟩ := own_slice HO.out
          go_wp2_with fail
          refine (HPA.out _).mono ?_
          rintro e w2 ⟨A2, c2, rfl, ho2, hs2, b2⟩
          have HSM := Lib.hid hs2
          have b5 : Below wr.heap.size wr (w2.alloc (.cells #[.string mt, .string mu, .slice A2 mp.length c2] 26)) := b2.alloc b2.size _
          have b25 : Below w2.heap.size w2 (w2.alloc (.cells #[.string mt, .string mu, .slice A2 mp.length c2] 26)) := (Below.refl _ _).alloc (Nat.le_refl _) _
          have HO2 := Lib.hid (own_mv HO.out (Mv.of_below b5 []) (by simp))
          have HR2 := Lib.hid (HR.out.below b5)
          have HS2 := Lib.hid (own_mv HS.out (Mv.of_below b5 []) (by simp))
          have HP2 := Lib.hid (own_mv (own_base ho2 hws) (Mv.of_below b25 []) (by simp))
          have HW2 := Lib.hid (below_on HW.out b5)
          obtain ⟨w4, hw4⟩ : ∃ w4, w4 = w2.alloc (.cells #[.string mt, .string mu, .slice A2 mp.length c2] 26) := ⟨_, rfl⟩
          have HC4 := Lib.hid (show Blk w4 w2.heap.size 26 _ from by rw [hw4]; exact Blk.new _ _ _)
          rw [← hw4] at HO2 HR2 HS2 HP2 HW2
          have hws4 : w.heap.size ≤ w4.heap.size := HW2.out.size
          clear b2 b5 b25 HO HR HW HS ho2 hs2
          have c0 := HC4.out.cell 0
          have c1 := HC4.out.cell 1
          have c2' := HC4.out.cell 2
          rw [hw4] at c0 c1 c2'
          go_upto_region 7 with fail
          rw [← hw4] at c0 c1 c2' ⊢
          clear hw4
          go_wp2_with (at_builtin; refine wpList_append_own _ rfl _ _ 54 rfl w.heap.size 26 i0 _ 3 56 Tryz.underlying54 hi hz0 hz1 hz2 rfl (by decide) _ _ _ rfl (HO2.out.alloc _) ⟨w4.heap.size, 0, none⟩ 1 1 [.string mt, .string mu, .slice A2 mp.length c2] rfl rfl ?c1 ?c2 ?c3 ?c4 ?c5 ?_)
          case c1 =>
            intro j u hj
            have hcb := Blk.new w4 26 #[.string mt, .string mu, .slice A2 mp.length c2]
            have e : (⟨w4.heap.size, 0, none⟩ : Addr).add j = ⟨w4.heap.size, j, none⟩ := by cases j <;> simp [Addr.add]
            rw [e, hcb.cell]
            simpa using hj
          case c2 =>
            intro u hu
            simp at hu
            rcases hu with rfl | rfl | rfl <;> rfl
          case c3 => unfold maxLen; omega
          case c4 => omega
          case c5 => simp; omega
          intro v' w5 hown' hgrow _
          have HO5 := Lib.hid (show w5.ownsRow w.heap.size 26 3 v' (R ++ [(⟨⟨mt, mu, mp⟩, A2, c2⟩ : Trw)]).length (trwL (R ++ [⟨⟨mt, mu, mp⟩, A2, c2⟩])) from by rw [trwL_snoc, List.length_append]; exact hown')
          have HB5 := Lib.hid (Below.grown (HW2.out.alloc HW2.out.size _) hgrow (by simp; omega) (fun g hg => (HO2.out.lt g hg).1))
          have HR5 := Lib.hid (((HR2.out.below ((Below.refl _ _).alloc (Nat.le_refl _) _)).grown (HO2.out.alloc _) hgrow).snoc (r := ⟨⟨mt, mu, mp⟩, A2, c2⟩) (own_other (own_mv HP2.out (Mv.of_below ((Below.refl _ _).alloc (Nat.le_refl _) _) []) (by simp)) (HO2.out.alloc _) hgrow) HSM.out)
          have HS5 := Lib.hid (own_apart (HS2.out.alloc _) (HO2.out.alloc _) (by decide) hgrow)
          clear hown' hgrow HO2 HR2 HS2 HW2 HP2 HC4 c0 c1 c2'
          go_wp2
          go_roundw
          case rel => exact ⟨k + 1, R ++ [⟨⟨mt, mu, mp⟩, A2, c2⟩], by omega, by go_num, by simp; omega, by rw [List.map_append]; exact HE.out, HO5.out, HR5.out, HS5.out, HB5.out⟩
          case measure => simp [intOf]; omega
        · skip
          clear t1 t2 t3 HST HMP
          obtain ⟨mt, mu, mp⟩ := m
          have t5 : (mt.toList == [42]) = true := t4.1
          have t6 : (mu.toList == [42]) = false := t4.2
          obtain ⟨ao, n', cap, rfl⟩ := own_slice HO.out
          go_wp2_with fail
          refine (HPA.out _).mono ?_
          rintro e w2 ⟨A2, c2, rfl, ho2, hs2, b2⟩
          have HSM := Lib.hid hs2
          have b5 : Below wr.heap.size wr (w2.alloc (.cells #[.string mt, .string mu, .slice A2 mp.length c2] 26)) := b2.alloc b2.size _
          have b25 : Below w2.heap.size w2 (w2.alloc (.cells #[.string mt, .string mu, .slice A2 mp.length c2] 26)) := (Below.refl _ _).alloc (Nat.le_refl _) _
          have HO2 := Lib.hid (own_mv HO.out (Mv.of_below b5 []) (by simp))
          have HR2 := Lib.hid (HR.out.below b5)
          have HS2 := Lib.hid (own_mv HS.out (Mv.of_below b5 []) (by simp))
          have HP2 := Lib.hid (own_mv (own_base ho2 hws) (Mv.of_below b25 []) (by simp))
          have HW2 := Lib.hid (below_on HW.out b5)
          obtain ⟨w4, hw4⟩ : ∃ w4, w4 = w2.alloc (.cells #[.string mt, .string mu, .slice A2 mp.length c2] 26) := ⟨_, rfl⟩
          have HC4 := Lib.hid (show Blk w4 w2.heap.size 26 _ from by rw [hw4]; exact Blk.new _ _ _)
          rw [← hw4] at HO2 HR2 HS2 HP2 HW2
          have hws4 : w.heap.size ≤ w4.heap.size := HW2.out.size
          clear b2 b5 b25 HO HR HW HS ho2 hs2
          have c0 := HC4.out.cell 0
          have c1 := HC4.out.cell 1
          have c2' := HC4.out.cell 2
          rw [hw4] at c0 c1 c2'
          go_upto_region 7 with fail
          rw [← hw4] at c0 c1 c2' ⊢
          clear hw4
          go_wp2_with (at_builtin; refine wpList_append_own _ rfl _ _ 54 rfl w.heap.size 26 i0 _ 3 56 Tryz.underlying54 hi hz0 hz1 hz2 rfl (by decide) _ _ _ rfl (HO2.out.alloc _) ⟨w4.heap.size, 0, none⟩ 1 1 [.string mt, .string mu, .slice A2 mp.length c2] rfl rfl ?c1 ?c2 ?c3 ?c4 ?c5 ?_)
          case c1 =>
            intro j u hj
            have hcb := Blk.new w4 26 #[.string mt, .string mu, .slice A2 mp.length c2]
            have e : (⟨w4.heap.size, 0, none⟩ : Addr).add j = ⟨w4.heap.size, j, none⟩ := by cases j <;> simp [Addr.add]
            rw [e, hcb.cell]
            simpa using hj
          case c2 =>
            intro u hu
            simp at hu
            rcases hu with rfl | rfl | rfl <;> rfl
          case c3 => unfold maxLen; omega
          case c4 => omega
          case c5 => simp; omega
          intro v' w5 hown' hgrow _
          have HO5 := Lib.hid (show w5.ownsRow w.heap.size 26 3 v' (R ++ [(⟨⟨mt, mu, mp⟩, A2, c2⟩ : Trw)]).length (trwL (R ++ [⟨⟨mt, mu, mp⟩, A2, c2⟩])) from by rw [trwL_snoc, List.length_append]; exact hown')
          have HB5 := Lib.hid (Below.grown (HW2.out.alloc HW2.out.size _) hgrow (by simp; omega) (fun g hg => (HO2.out.lt g hg).1))
          have HR5 := Lib.hid (((HR2.out.below ((Below.refl _ _).alloc (Nat.le_refl _) _)).grown (HO2.out.alloc _) hgrow).snoc (r := ⟨⟨mt, mu, mp⟩, A2, c2⟩) (own_other (own_mv HP2.out (Mv.of_below ((Below.refl _ _).alloc (Nat.le_refl _) _) []) (by simp)) (HO2.out.alloc _) hgrow) HSM.out)
          have HS5 := Lib.hid (own_apart (HS2.out.alloc _) (HO2.out.alloc _) (by decide) hgrow)
          clear hown' hgrow HO2 HR2 HS2 HW2 HP2 HC4 c0 c1 c2'
          go_wp2
          go_roundw
          case rel => exact ⟨k + 1, R ++ [⟨⟨mt, mu, mp⟩, A2, c2⟩], by omega, by go_num, by simp; omega, by rw [List.map_append]; exact HE.out, HO5.out, HR5.out, HS5.out, HB5.out⟩
          case measure => simp [intOf]; omega
    · obtain rfl : k = L.length := by omega
      have HE := Lib.hid (show R.map Trw.m = Z from by rw [HZ.out, ← allT_all L]; exact HMP.out)
      go_wp2
      go_ret
      exact ⟨_, R, rfl, HE.out, HO.out, HR.out, HW.out⟩

end Go.Proofs.YtighgoefmccagaaGreat
namespace Go.Proofs.YtighgoefmccagaaGreat
open Go.RowKit

set_option maxHeartbeats 4000000 in
set_option maxRecDepth 100000 in
theorem rextract_any (A : Option Addr) (c : Nat) (xs : List ByteArray) (w : World) (h : TxIn w A xs) (hn : xs.length ≤ 700) (hx : ∀ y ∈ xs, y.size ≤ 1000) :
    Calls Tryz.prog 15 #[.slice A xs.length c] w (ExtGives (extT (allT (valsL xs))).1 (codeOf (allT (valsL xs))) w.heap.size w) := by
  obtain ⟨w0, hw0⟩ : ∃ w0, w0 = w.alloc (.cells #[.string ⟨#[]⟩, .string ⟨#[]⟩, .slice none 0 0] 26) := ⟨_, rfl⟩
  have HB0 := Lib.hid (show Below w.heap.size w w0 from by rw [hw0]; exact (Below.refl _ _).alloc (Nat.le_refl _) _)
  have HR0 := Lib.hid (show Blk w0 w.heap.size 26 #[.string ⟨#[]⟩, .string ⟨#[]⟩, .slice none 0 0] from by rw [hw0]; exact Blk.new _ _ _)
  have HA := Lib.hid (rall_any A c xs w0 (h.below HB0.out) hn hx)
  have hzl := tys_len hn hx
  obtain ⟨Z, hZ⟩ : ∃ Z, Z = allT (valsL xs) := ⟨_, rfl⟩
  rw [← hZ] at HA hzl ⊢
  obtain ⟨E, hE⟩ : ∃ E, E = (extT Z).1 := ⟨_, rfl⟩
  obtain ⟨code, hco⟩ : ∃ code, code = codeOf Z := ⟨_, rfl⟩
  rw [← hE, ← hco]
  have HE := Lib.hid hE
  have HCO := Lib.hid hco
  clear hE hco
  obtain ⟨ft, fu, fp⟩ := E
  clear h hx hZ
  go_enter Tryz.func15, Tryz.ntmps15
  go_wp2_with fail
  rw [← hw0]
  clear hw0
  refine HA.out.mono ?_
  rintro e w1 ⟨v, R, rfl, hmap, ho, hr, b1⟩
  obtain ⟨B, d, rfl, hti⟩ := TyIn.of_own ho
  have HTI := Lib.hid hti
  have HRS := Lib.hid (hr.base HB0.out.size)
  have HR1 := Lib.hid (HR0.out.below b1 HR0.out.lt)
  have HB1 := Lib.hid (below_on HB0.out b1)
  have HMP := Lib.hid hmap
  have hl1 : w.heap.size < w1.heap.size := HR1.out.lt
  have HLN := Lib.hid (show R.length = Z.length from by rw [← hmap, List.length_map])
  have hrl : R.length ≤ 701401 := by have := HLN.out; omega
  have HSM := Lib.hid (show ∀ m ∈ Z, m.small from by rw [← hmap]; exact rows_small hr)
  have HEX := Lib.hid (extT_ok Z HSM.out)
  clear hti hr b1 ho hmap HA HR0 HB0
  have HM1 := Lib.hid (Blk.new w1 26 #[.string ⟨#[]⟩, .string ⟨#[]⟩, .slice none 0 0])
  have HBA := Lib.hid (show Below w1.heap.size w1 (w1.alloc (.cells #[.string ⟨#[]⟩, .string ⟨#[]⟩, .slice none 0 0] 26)) from (Below.refl _ _).alloc (Nat.le_refl _) _)
  go_wp2
  go_loopw [5, 7] (fun s i wr => ∃ (k : Nat) (A' : Option Addr) (c' : Nat), k ≤ R.length ∧ i = .int .i64 k ∧ s = .string (extT (Z.take k)).2 ∧ Blk wr w1.heap.size 26 #[.string (extT (Z.take k)).1.t, .string (extT (Z.take k)).1.u, .slice A' (extT (Z.take k)).1.ps.length c'] ∧ OwnPs wr w.heap.size A' c' (extT (Z.take k)).1.ps ∧ Below w1.heap.size w1 wr) (fun _ i _ => R.length - (intOf i).toNat)
  case atStart => exact ⟨0, none, 0, Nat.zero_le _, rfl, rfl, HM1.out, World.ownsRow_nil _ _ _ _, HBA.out⟩
  case round =>
    obtain ⟨k, A', c', hk, rfl, rfl, hbm, hps, hw⟩ := hrel
    have HBM := Lib.hid hbm
    have HPS := Lib.hid hps
    have HW := Lib.hid hw
    clear hbm hps hw HM1 HBA
    by_cases hlt : k < R.length
    · obtain ⟨g, rfl, hg, e0, e1, e2⟩ := HTI.out k hlt
      have c0 := (HW.out.cell (p := ⟨g, k * 3, none⟩) hg).trans e0
      have c1 := (HW.out.cell (p := ⟨g, k * 3 + 1, none⟩) hg).trans e1
      have c2 := (HW.out.cell (p := ⟨g, k * 3 + 2, none⟩) hg).trans e2
      clear e0 e1 e2
      have HXT := Lib.hid (show extT (Z.take (k + 1)) = stepT (extT (Z.take k)).1.t (extT (Z.take k)).1.u (extT (Z.take k)).2 R[k].m from by
        rw [extT_step (by have := HLN.out; omega)]
        congr 1
        have := HMP.out
        subst this
        simp)
      obtain ⟨hro, hrs⟩ := HRS.out R[k] (List.getElem_mem hlt)
      have HRO := Lib.hid (show OwnPs wr w.heap.size R[k].A R[k].c R[k].m.ps from own_mv hro (Mv.of_below HW.out []) (by simp))
      have HOK := extT_ok (Z.take k) (fun m hm => HSM.out m (List.mem_of_mem_take hm))
      have hst := stepT_ok (t := (extT (Z.take k)).1.t) (u := (extT (Z.take k)).1.u) hrs HOK.2
      generalize R[k] = r at *
      generalize extT (Z.take k) = E at *
      obtain ⟨⟨mt, mu, mp⟩, st⟩ := E
      obtain ⟨⟨nt, nu, np⟩, rA, rc⟩ := r
      obtain ⟨hm1, hm2, _, _⟩ := HOK.1
      have hm3 := HOK.2
      simp only at hm1 hm2 hm3 c0 c1 c2 ⊢
      have HHM1 := Lib.hid hm1
      have HHM2 := Lib.hid hm2
      have HHM3 := Lib.hid hm3
      have HRSM := Lib.hid hrs
      clear HOK hst hro hm1 hm2 hm3 hrs
      have b0 := HBM.out.cell 0
      have b1 := HBM.out.cell 1
      have b2 := HBM.out.cell 2
      have hmb := HBM.out.lt
      have hgl : g < wr.heap.size := Nat.lt_of_lt_of_le hg HW.out.size
      have hws : w.heap.size ≤ wr.heap.size := by have := HW.out.size; omega
      have HST := Lib.hid (fun W (hW : OwnPs W w.heap.size rA rc np) (hl : w.heap.size ≤ W.heap.size) => rstep_any mt mu A' mp.length c' st ⟨nt, nu, np⟩ rA rc w.heap.size W hW hl HRSM.out HHM1.out HHM2.out HHM3.out)
      generalize hsT : stepT mt mu st ⟨nt, nu, np⟩ = q at HXT HST
      obtain ⟨⟨qt, qu, qp⟩, qs⟩ := q
      clear hsT
      have HSU : Hid (∀ W, OwnPs W w.heap.size rA rc np → w.heap.size ≤ W.heap.size → Calls Tryz.prog 24 #[mimV mt mu A' mp.length c', .string st, mimV nt nu rA np.length rc] W fun e w' => ∃ A3 c3, e = .returned (.tuple #[mimV qt qu A3 qp.length c3, .string qs]) ∧ OwnPs w' w.heap.size A3 c3 qp ∧ Below W.heap.size W w') := HST.out
      clear HST
      have HRD := Lib.hid (show OwnPs wr.drew w.heap.size rA rc np from HRO.out)
      have HBD := Lib.hid (show Blk wr.drew w1.heap.size 26 _ from HBM.out)
      have HWW := Lib.hid (show Below w1.heap.size w1 wr.drew from HW.out.drew)
      have HWD := Lib.hid (show w.heap.size ≤ wr.drew.heap.size from hws)
      have HB := Lib.hid (Below.refl wr.heap.size wr)
      have z0 := HBM.out.frozen 0
      have z1 := HBM.out.frozen 1
      have z2 := HBM.out.frozen 2
      go_wp2_with fail
      go_region_with (go_at_call 24; (with_reducible refine (HSU.out _ HRD.out HWD.out).mono ?_); rintro e w3 ⟨A3, c3, rfl, ho3, b3⟩; have HBM3 := Lib.hid (HBD.out.below b3 HBD.out.lt); have HO3 := Lib.hid ho3; have HW3 := Lib.hid (below_on HWW.out b3); have e0 := HBM3.out.cell 0; have e1 := HBM3.out.cell 1; have e2 := HBM3.out.cell 2; have y0 := HBM3.out.frozen 0; have y1 := HBM3.out.frozen 1; have y2 := HBM3.out.frozen 2; clear ho3 b3)
      all_goals (
        have HF1 := Lib.hid (((HBM3.out.set_ 0 (.string qt)).set_ 1 (.string qu)).set_ 2 (.slice A3 qp.length c3))
        have HF2 := Lib.hid (OwnPs.set3 HO3.out HBM3.out (.string qt) (.string qu) (.slice A3 qp.length c3))
        have HF3 := Lib.hid (((HW3.out.setCell (p := ⟨w1.heap.size, 0, none⟩) (Nat.le_refl _) (.string qt)).setCell (p := ⟨w1.heap.size, 1, none⟩) (Nat.le_refl _) (.string qu)).setCell (p := ⟨w1.heap.size, 2, none⟩) (Nat.le_refl _) (.slice A3 qp.length c3))
        clear HBM3 HW3 HO3
        go_wp2
        go_roundw)
      case rel => exact ⟨k + 1, A3, c3, by omega, by go_num, by rw [HXT.out], by rw [HXT.out]; exact HF1.out, by rw [HXT.out]; exact HF2.out, HF3.out⟩
      case measure => simp [intOf]; omega
      case rel => exact ⟨k + 1, A3, c3, by omega, by go_num, by rw [HXT.out], by rw [HXT.out]; exact HF1.out, by rw [HXT.out]; exact HF2.out, HF3.out⟩
      case measure => simp [intOf]; omega
    · obtain rfl : k = R.length := by omega
      have htk : Z.take R.length = Z := List.take_of_length_le (by have := HLN.out; omega)
      rw [htk] at HBM HPS
      have HR2 := Lib.hid (HR1.out.below HW.out hl1)
      have HB2 := Lib.hid (below_on HB1.out HW.out)
      have r0 := HR2.out.cell 0
      have r1 := HR2.out.cell 1
      have r2 := HR2.out.cell 2
      have z0 := HR2.out.frozen 0
      have z1 := HR2.out.frozen 1
      have z2 := HR2.out.frozen 2
      by_cases h0 : R.length = 0
      · have d0 : ((R.length : Int) == 0) = true := beq_iff_eq.2 (by omega)
        have hz0 : Z = [] := List.eq_nil_of_length_eq_zero (by have := HLN.out; omega)
        subst hz0
        have hE0 : ft = ⟨#[]⟩ ∧ fu = ⟨#[]⟩ ∧ fp = [] ∧ code = 4 := by
          have h1 := HE.out
          have h2 := HCO.out
          injection h1 with h3 h4 h5
          exact ⟨h3, h4, h5, h2⟩
        obtain ⟨rfl, rfl, rfl, rfl⟩ := hE0
        clear HBM HPS htk
        go_wp2
        refine bodyPost_ret (v := .tuple #[mimV ⟨#[]⟩ ⟨#[]⟩ none 0 0, .int .i64 4]) (by simp [results, Tryz.results15, go_sem, r0, r1, r2]; done) rfl ?_
        exact ⟨none, 0, rfl, World.ownsRow_nil _ _ _ _, by rw [HE.out]; exact HEX.out.1, ((HB2.out.setCell (by exact Nat.le_refl _) _).setCell (by exact Nat.le_refl _) _).setCell (by exact Nat.le_refl _) _⟩
      · have d0 : ((R.length : Int) == 0) = false := beq_eq_false_iff_ne.2 (by omega)
        have hE1 : ft = (extT Z).1.t ∧ fu = (extT Z).1.u ∧ fp = (extT Z).1.ps ∧ code = 0 := by
          have h1 := HE.out
          refine ⟨congrArg Mty.t h1, congrArg Mty.u h1, congrArg Mty.ps h1, ?_⟩
          rw [HCO.out]
          exact if_neg (by have := HLN.out; omega)
        obtain ⟨hE2, hE3, hE4, hE5⟩ := hE1
        rw [← hE2, ← hE3, ← hE4] at HBM
        rw [← hE4] at HPS
        have HK1 := Lib.hid (show (⟨ft, fu, fp⟩ : Mty).ok from by rw [HE.out]; exact HEX.out.1)
        have HC0 := Lib.hid hE5
        clear HR1 HB1 HW htk HTI HRS HEX hE2 hE3 hE4 hE5 HE HCO
        have b0 := HBM.out.cell 0
        have b1 := HBM.out.cell 1
        have b2 := HBM.out.cell 2
        go_wp2
        refine bodyPost_ret (v := .tuple #[mimV ft fu A' fp.length c', .int .i64 0]) (by simp [results, Tryz.results15, go_sem, r0, r1, r2]; done) rfl ?_
        exact ⟨A', c', by rw [HC0.out], OwnPs.set3 HPS.out HR2.out _ _ _, HK1.out, ((HB2.out.setCell (by exact Nat.le_refl _) _).setCell (by exact Nat.le_refl _) _).setCell (by exact Nat.le_refl _) _⟩

end Go.Proofs.YtighgoefmccagaaGreat
