/-
  What lives and Few of layer 11's statements answer. Condition: texts are as long as a length can be.
  What the document's Step of layer 11 answers. Condition: texts are as long as a mebibyte, and parameters as many.
  What the document's All answers. Condition: a thousand values of a thousand bytes.
-/
import Derived.Test.YtmepnfkgfbbkiaaGreatZ3
import Derived.Test.YtmepnfkgfbbkiaaGreatCut
import Derived.Test.YtmepnfkgfbbkiaaGreatMs
namespace Go.Proofs.YtmepnfkgfbbkiaaGreat
open Go.RowKit

abbrev liveS : ByteArray := ⟨#[116, 101, 120, 116, 47, 104, 116, 109, 108, 59, 99, 104, 97, 114, 115, 101, 116, 61, 97, 44, 32, 116, 101, 120, 116, 47, 104, 116, 109, 108]⟩
theorem live_ext : (extT (allT (valsL [liveS]))).1.ps = [⟨chrS, ⟨#[97]⟩⟩] := by kernel_rfl
theorem live_code : codeOf (allT (valsL [liveS])) = 0 := by kernel_rfl

set_option maxHeartbeats 2000000 in
set_option maxRecDepth 100000 in
theorem lives11_any (w : World) :
    Calls Tryz.prog 14 #[] w fun e w' => e = .returned (.bool true) ∧ Below w.heap.size w w' := by
  obtain ⟨w0, hw0⟩ : ∃ w0, w0 = w.alloc (.cells #[.string liveS] 9) := ⟨_, rfl⟩
  have HB0 := Lib.hid (show Below w.heap.size w w0 from by rw [hw0]; exact (Below.refl _ _).alloc (Nat.le_refl _) _)
  have hb := Blk.new w 9 #[.string liveS]
  rw [← hw0] at hb
  have HE := Lib.hid (extract_any (some ⟨w.heap.size, 0, none⟩) 1 [liveS] w0 (fun i hi => by
    have h0 : i = 0 := by simp at hi; exact hi
    subst h0
    exact ⟨w.heap.size, rfl, hb.lt, hb.cell 0⟩) (by decide) (fun y hy => by simp at hy; subst hy; decide) (by decide))
  rw [live_code] at HE
  obtain ⟨m, hm⟩ : ∃ m, m = (extT (allT (valsL [liveS]))).1 := ⟨_, rfl⟩
  rw [← hm] at HE
  have hps : m.ps = [⟨chrS, ⟨#[97]⟩⟩] := by rw [hm]; exact live_ext
  clear hm hb
  obtain ⟨mt, mu, mp⟩ := m
  simp only at hps
  subst hps
  go_enter Tryz.func14, Tryz.ntmps14
  go_wp2_with fail
  rw [← hw0]
  clear hw0
  refine HE.out.mono ?_
  rintro e w1 ⟨A, c, rfl, ho, _, b1⟩
  obtain ⟨g, rfl, hgl, _, hg⟩ := (OwnPs.ps ho) 0 (by simp)
  have hg1 : w1.cell? ⟨g, 1, none⟩ = some (.string ⟨#[97]⟩) := by simpa using hg
  have HB1 := Lib.hid (below_on HB0.out b1)
  clear ho b1 HE HB0 hg
  go_wp2
  go_ret
  exact ⟨rfl, HB1.out.alloc HB1.out.size _⟩

/-- Texts that came in; a few of them, somewhat cut. -/
def TxCame (w : World) (A : Option Addr) (n : Nat) (lp : Nat → ByteArray) : Prop := ∀ i, i < n → ∃ a, A = some a ∧ a.block < w.heap.size ∧ w.cell? (a.add i) = some (.string (lp i)) ∧ (lp i).size ≤ 9223372036854775807
def fewT (lp : Nat → ByteArray) (k : Nat) : List ByteArray := (List.range k).map fun i => cutB (lp i) 120
theorem fewT_len (lp : Nat → ByteArray) (k : Nat) : (fewT lp k).length = k := by simp [fewT]
theorem fewT_succ (lp : Nat → ByteArray) (k : Nat) : fewT lp (k + 1) = fewT lp k ++ [cutB (lp k) 120] := by simp [fewT, List.range_succ]
theorem fewT_all (lp : Nat → ByteArray) (k : Nat) : ∀ y ∈ fewT lp k, y.size ≤ 120 := fun y hy => by
  unfold fewT at hy
  obtain ⟨i, _, rfl⟩ := List.mem_map.1 hy
  exact cutB_size _ _

set_option maxHeartbeats 2000000 in
set_option maxRecDepth 100000 in
theorem fews_any (A : Option Addr) (n c : Nat) (lp : Nat → ByteArray) (w : World) (h : TxCame w A n lp) (hn : n ≤ 9223372036854775807) :
    Calls Tryz.prog 5 #[.slice A n c, .int .i64 6] w (NewStrs (fewT lp (min n 6)) w) := by
  obtain ⟨i0, hi, hz0, hz1, hz2⟩ := info_parts Tryz.info9
  have HC := Lib.hid h
  obtain ⟨L, hL⟩ : ∃ L, L = fewT lp (min n 6) := ⟨_, rfl⟩
  rw [← hL]
  have HL := Lib.hid hL
  clear h hL
  go_enter Tryz.func5, Tryz.ntmps5
  go_wp2
  go_loopw [5, 6] (fun v i wr => ∃ k : Nat, k ≤ n ∧ k ≤ 6 ∧ i = .int .i64 k ∧ wr.ownsRow w.heap.size 9 1 v k (strs (fewT lp k)) ∧ Below w.heap.size w wr) (fun _ i _ => 6 - (intOf i).toNat)
  case atStart => exact ⟨0, Nat.zero_le _, Nat.zero_le _, rfl, World.ownsRow_made w #[] 0 (Nat.le_refl _) (Nat.zero_le _) rfl, (Below.refl _ _).alloc (Nat.le_refl _) _⟩
  case round =>
    obtain ⟨k, hk, hk6, rfl, hown, hw⟩ := hrel
    have HO := Lib.hid hown
    have HW := Lib.hid hw
    clear hown hw
    obtain ⟨ao, n', cap, rfl⟩ := own_slice HO.out
    by_cases hlt : k < n ∧ k < 6
    · obtain ⟨h1, h2⟩ := hlt
      obtain ⟨a, rfl, hab, e0, hsz⟩ := HC.out k h1
      have hab' : (a.add k).block < w.heap.size := by
        have : (a.add k).block = a.block := by unfold Addr.add; split <;> rfl
        rw [this]; exact hab
      have c0 := (HW.out.cell hab').trans e0
      have HCT := Lib.hid (fun W => cut_any (lp k) 120 W hsz)
      have HFS := Lib.hid (fewT_succ lp k)
      have d1 : decide ((k : Int) < (n : Int)) = true := by simp; omega
      have d2 : decide ((k : Int) < 6) = true := by simp; omega
      generalize cutB (lp k) 120 = x at HCT HFS
      generalize lp k = y at *
      clear e0 hab hab' hsz
      go_wp2_with fail
      refine (HCT.out _).mono ?_
      rintro e wx ⟨rfl, rfl⟩
      go_wp2_with (at_builtin; refine wpList_append_own _ rfl _ _ 22 rfl w.heap.size 9 i0 (.string ⟨#[]⟩) 1 16 Tryz.underlying22 hi hz0 hz1 hz2 rfl (by decide) _ _ _ rfl (HO.out.alloc _) ⟨wr.heap.size, 0, none⟩ 1 1 [.string x] rfl rfl ?c1 ?c2 ?c3 ?c4 ?c5 ?_)
      case c1 =>
        intro j u hj
        match j, hj with
        | 0, hj => simp at hj; subst hj; simp [Addr.add]
      case c2 => intro u hu; simp at hu; subst hu; rfl
      case c3 => unfold maxLen; omega
      case c4 => omega
      case c5 => have := HW.out.size; simp; omega
      intro v' w3 hown' hgrow _
      have HO3 := Lib.hid (show w3.ownsRow w.heap.size 9 1 v' (k + 1) (strs (fewT lp (k + 1))) from by rw [HFS.out]; simpa [strs] using hown')
      have HW3 := Lib.hid (Below.grown (HW.out.alloc HW.out.size _) hgrow (by have := HW.out.size; simp; omega) (fun g hg => (HO.out.lt g hg).1))
      clear hown' hgrow HO HW
      go_wp2
      go_roundw
      case rel => exact ⟨k + 1, by omega, by omega, by go_num, HO3.out, HW3.out⟩
      case measure => simp [intOf]; omega
    · have hkm : k = min n 6 := by omega
      have HE := Lib.hid (show L = fewT lp k from by rw [HL.out, hkm])
      have HF := Lib.hid (fewT_len lp k)
      rcases (by omega : k = n ∨ (k < n ∧ k = 6)) with hkn | ⟨hkn, hk66⟩
      · have d1 : decide ((k : Int) < (n : Int)) = false := by simp; omega
        clear hkm hlt
        go_wp2
        go_ret
        exact ⟨_, rfl, by rw [HE.out, HF.out]; exact HO.out, HW.out⟩
      · have d1 : decide ((k : Int) < (n : Int)) = true := by simp; omega
        have d2 : decide ((k : Int) < 6) = false := by simp; omega
        clear hkm hlt
        go_wp2
        go_ret
        exact ⟨_, rfl, by rw [HE.out, HF.out]; exact HO.out, HW.out⟩

end Go.Proofs.YtmepnfkgfbbkiaaGreat
namespace Go.Proofs.YtmepnfkgfbbkiaaGreat
open Go.RowKit

/-- What a call of the document's Step gives: parameters lie in rows from base on. -/
def StepOf (r : Mty × ByteArray) (base : Nat) (w : World) (e : Ending) (w' : World) : Prop := ∃ A' c', e = .returned (.tuple #[mimV r.1.t r.1.u A' r.1.ps.length c', .string r.2]) ∧ OwnPs w' base A' c' r.1.ps ∧ Below w.heap.size w w'
theorem eqS_flip (a b : ByteArray) : eqS a b = eqS b a := by
  unfold eqS
  exact BEq.comm
theorem parV_none {ps : List Prm} {x : ByteArray} (h : seenB ps x = false) : parV ps x = ⟨#[]⟩ := by
  have h1 := atN_seen ps x
  rw [h] at h1
  unfold parV
  rw [dif_neg (of_decide_eq_false h1)]
theorem StB.set {w W : World} {tm um : ByteArray} {A0 : Option Addr} {n0 c0 : Nat} {tn un : ByteArray} {A : Option Addr} {n c xb : Nat} (h : StB w tm um A0 n0 c0 tn un A n c W) (hx : w.heap.size + 1 + 1 < xb) (i : Nat) (v : Value) : StB w tm um A0 n0 c0 tn un A n c (W.setCell ⟨xb, i, none⟩ v) :=
  ⟨h.b.setCell (by show w.heap.size ≤ xb; omega) _, h.m.far (by show w.heap.size ≠ xb; omega) _, h.x.far (by show w.heap.size + 1 ≠ xb; omega) _, h.r.far (by show w.heap.size + 1 + 1 ≠ xb; omega) _⟩
/-- An append of nothing, which stops there. -/
theorem append_onto_none {w : World} {ops : Array Oper} {rest : List Oper} {o : Oper} {a : Act} {Q : Exit → Act → World → Prop} (hgd : o.guard = none) (s x : Operand)
    (ho : o.op = .call { callee := .builtin .append, args := #[s, x], argTypes := #[33, 33] }) (b c : Nat) (hs : a.eval s = .slice (some ⟨b, 0, none⟩) 0 0) (hx : a.eval x = .slice none 0 c)
    (h : Hid (wpList Tryz.prog ops Q rest (a.put o.dst (.slice (some ⟨b, 0, none⟩) 0 0)) w)) : wpList Tryz.prog ops Q (o :: rest) a w :=
  Lib.wpList_append_run w hgd s x _ _ ho _ _ hs hx _ _ (append_none b 0 c _ _) h.out
theorem essS_is (t u : ByteArray) : (t ++ ⟨#[47]⟩) ++ u = essS t u := essL_eq t u

set_option maxHeartbeats 4000000 in
set_option maxRecDepth 100000 in
theorem rstep_far0 (tm um : ByteArray) (A0 : Option Addr) (n0 c0 : Nat) (set : ByteArray) (nx : Mty) (A : Option Addr) (c base : Nat) (w : World) (h : OwnPs w base A c nx.ps) (_hb : base ≤ w.heap.size) (hs : nx.small) (htm : tm.size ≤ 1048576) (hum : um.size ≤ 1048576)
    (hd : eqS (essS nx.t nx.u) (essS tm um) = false) (hv : seenB nx.ps chrS = false) :
    Calls Tryz.prog 28 #[mimV tm um A0 n0 c0, .string set, mimV nx.t nx.u A nx.ps.length c] w (StepOf (stepT tm um set nx) base w) := by
  rw [stepT_far hd, parV_none hv]
  obtain ⟨tn, un, ps⟩ := nx
  obtain ⟨h1, h2, h3, h4⟩ := hs
  simp only at h h1 h2 h3 h4 hd hv ⊢
  have HO := Lib.hid h
  have HP := Lib.hid h.ps
  obtain ⟨w0, hw0⟩ : ∃ w0, w0 = (((w.alloc (.cells #[.string tm, .string um, .slice A0 n0 c0] 35)).alloc (.cells #[.string tn, .string un, .slice A ps.length c] 35)).alloc (.cells #[.string ⟨#[]⟩, .string ⟨#[]⟩, .slice none 0 0] 35)) := ⟨_, rfl⟩
  have HS0 := Lib.hid (show StB w tm um A0 n0 c0 tn un A ps.length c w0 from by rw [hw0]; exact StB.first _ _ _ _ _ _ _ _ _ _ _)
  have HAT := Lib.hid (fun W (hW : PsIn W A ps) => rAt_any tn un A ps c chrS W hW (by omega))
  have hge := atI_ge ps chrS
  rw [hv] at hge
  obtain ⟨ai, hai⟩ : ∃ ai, ai = atI ps chrS := ⟨_, rfl⟩
  rw [← hai] at HAT hge
  have g0 : ai < 0 := by have := of_decide_eq_false hge; omega
  clear hai hge
  have hdl : (((tm ++ ⟨#[47]⟩) ++ um).toList == ((tn ++ ⟨#[47]⟩) ++ un).toList) = false := by
    rw [essS_is, essS_is]
    exact (eqS_flip _ _).trans hd
  have k1 : ¬ 9223372036854775807 < tm.size + 1 := by omega
  have k2 : ¬ 9223372036854775807 < tm.size + 1 + um.size := by omega
  have k3 : ¬ 9223372036854775807 < tn.size + 1 := by omega
  have k4 : ¬ 9223372036854775807 < tn.size + 1 + un.size := by omega
  clear h hd
  obtain ⟨c0', c1', c2', d0, d1, d2⟩ := HS0.out.cells
  rw [hw0] at c0' c1' c2' d0 d1 d2
  go_enter Tryz.func28, Tryz.ntmps28
  go_wp2_with fail
  rw [← hw0]
  clear hw0 c0' c1' c2' d0 d1 d2
  refine (HAT.out _ (HP.out.below HS0.out.b)).mono ?_
  rintro e w1 ⟨rfl, b1⟩
  have HS1 := Lib.hid (HS0.out.step b1)
  clear b1 HS0
  obtain ⟨c0', c1', c2', d0, d1, d2⟩ := HS1.out.cells
  have hl1 := HS1.out.r.lt
  have r0 := HS1.out.r.cell 0
  have r1 := HS1.out.r.cell 1
  have r2 := HS1.out.r.cell 2
  have z0 := HS1.out.r.frozen 0
  have z1 := HS1.out.r.frozen 1
  have z2 := HS1.out.r.frozen 2
  go_wp2
  refine bodyPost_ret (v := .tuple #[mimV tn un A ps.length c, .string ⟨#[]⟩]) (by simp [results, Tryz.results28, go_sem, r0, r1, r2]; done) rfl ?_
  exact ⟨A, c, rfl, OwnPs.set3 (own_mv HO.out (Mv.of_below HS1.out.b []) (by simp)) HS1.out.r _ _ _, ((HS1.out.b.setCell (by show w.heap.size ≤ w.heap.size + 1 + 1; omega) _).setCell (by show w.heap.size ≤ w.heap.size + 1 + 1; omega) _).setCell (by show w.heap.size ≤ w.heap.size + 1 + 1; omega) _⟩

set_option maxHeartbeats 4000000 in
set_option maxRecDepth 100000 in
theorem rstep_far1 (tm um : ByteArray) (A0 : Option Addr) (n0 c0 : Nat) (set : ByteArray) (nx : Mty) (A : Option Addr) (c base : Nat) (w : World) (h : OwnPs w base A c nx.ps) (_hb : base ≤ w.heap.size) (hs : nx.small) (htm : tm.size ≤ 1048576) (hum : um.size ≤ 1048576)
    (hd : eqS (essS nx.t nx.u) (essS tm um) = false) (hv : seenB nx.ps chrS = true) :
    Calls Tryz.prog 28 #[mimV tm um A0 n0 c0, .string set, mimV nx.t nx.u A nx.ps.length c] w (StepOf (stepT tm um set nx) base w) := by
  rw [stepT_far hd]
  obtain ⟨tn, un, ps⟩ := nx
  obtain ⟨h1, h2, h3, h4⟩ := hs
  simp only at h h1 h2 h3 h4 hd hv ⊢
  have HO := Lib.hid h
  have HP := Lib.hid h.ps
  obtain ⟨w0, hw0⟩ : ∃ w0, w0 = (((w.alloc (.cells #[.string tm, .string um, .slice A0 n0 c0] 35)).alloc (.cells #[.string tn, .string un, .slice A ps.length c] 35)).alloc (.cells #[.string ⟨#[]⟩, .string ⟨#[]⟩, .slice none 0 0] 35)) := ⟨_, rfl⟩
  have HS0 := Lib.hid (show StB w tm um A0 n0 c0 tn un A ps.length c w0 from by rw [hw0]; exact StB.first _ _ _ _ _ _ _ _ _ _ _)
  have HAT := Lib.hid (fun W (hW : PsIn W A ps) => rAt_any tn un A ps c chrS W hW (by omega))
  have hge := atI_ge ps chrS
  rw [hv] at hge
  obtain ⟨k, hk⟩ : ∃ k, k = atN ps chrS := ⟨_, rfl⟩
  have hkl : k < ps.length := by
    have := atN_seen ps chrS
    rw [hv] at this
    rw [hk]
    exact of_decide_eq_true this
  have hatk : atI ps chrS = (k : Int) := by unfold atI; rw [← hk, if_pos hkl]
  have hpv : parV ps chrS = ps[k].v := by unfold parV; simp only [← hk]; rw [dif_pos hkl]
  rw [hatk] at HAT
  have g0 : ¬ (k : Int) < 0 := by omega
  clear hge hk hatk
  rw [hpv]
  obtain ⟨qv, hqv⟩ : ∃ qv, qv = ps[k].v := ⟨_, rfl⟩
  rw [← hqv]
  have HQV := Lib.hid hqv
  clear hpv hqv
  have hdl : (((tm ++ ⟨#[47]⟩) ++ um).toList == ((tn ++ ⟨#[47]⟩) ++ un).toList) = false := by
    rw [essS_is, essS_is]
    exact (eqS_flip _ _).trans hd
  have k1 : ¬ 9223372036854775807 < tm.size + 1 := by omega
  have k2 : ¬ 9223372036854775807 < tm.size + 1 + um.size := by omega
  have k3 : ¬ 9223372036854775807 < tn.size + 1 := by omega
  have k4 : ¬ 9223372036854775807 < tn.size + 1 + un.size := by omega
  clear h hd
  obtain ⟨c0', c1', c2', d0, d1, d2⟩ := HS0.out.cells
  rw [hw0] at c0' c1' c2' d0 d1 d2
  go_enter Tryz.func28, Tryz.ntmps28
  go_wp2_with fail
  rw [← hw0]
  clear hw0 c0' c1' c2' d0 d1 d2
  refine (HAT.out _ (HP.out.below HS0.out.b)).mono ?_
  rintro e w1 ⟨rfl, b1⟩
  have HS1 := Lib.hid (HS0.out.step b1)
  clear b1 HS0
  obtain ⟨c0', c1', c2', d0, d1, d2⟩ := HS1.out.cells
  have hl1 := HS1.out.r.lt
  obtain ⟨g, rfl, hgl, _, hq1⟩ := HP.out k hkl
  have q1 := (HS1.out.b.cell (p := ⟨g, k * 2 + 1, none⟩) hgl).trans hq1
  have HOM := Lib.hid (own_mv HO.out (Mv.of_below HS1.out.b []) (by simp))
  rw [← HQV.out] at q1
  clear hq1
  have r0 := HS1.out.r.cell 0
  have r1 := HS1.out.r.cell 1
  have r2 := HS1.out.r.cell 2
  have z0 := HS1.out.r.frozen 0
  have z1 := HS1.out.r.frozen 1
  have z2 := HS1.out.r.frozen 2
  go_wp2_with fail
  go_region
  all_goals go_wp2
  all_goals (
    refine bodyPost_ret (v := .tuple #[mimV tn un (some ⟨g, 0, none⟩) ps.length c, .string qv]) (by simp [results, Tryz.results28, go_sem, r0, r1, r2]; done) rfl ?_
    exact ⟨(some ⟨g, 0, none⟩), c, rfl, OwnPs.set3 HOM.out HS1.out.r _ _ _, (((HS1.out.b.setCell (by show w.heap.size ≤ w.heap.size + 1 + 1; omega) _).setCell (by show w.heap.size ≤ w.heap.size + 1 + 1; omega) _).setCell (by show w.heap.size ≤ w.heap.size + 1 + 1; omega) _).drew⟩)

set_option maxHeartbeats 4000000 in
set_option maxRecDepth 100000 in
theorem rstep_seen (tm um : ByteArray) (A0 : Option Addr) (n0 c0 : Nat) (set : ByteArray) (nx : Mty) (A : Option Addr) (c base : Nat) (w : World) (h : OwnPs w base A c nx.ps) (hb : base ≤ w.heap.size) (hs : nx.small) (htm : tm.size ≤ 1048576) (hum : um.size ≤ 1048576)
    (_hset : set.size ≤ 1048576) (hd : eqS (essS nx.t nx.u) (essS tm um) = true) (hv : seenB nx.ps chrS = true) :
    Calls Tryz.prog 28 #[mimV tm um A0 n0 c0, .string set, mimV nx.t nx.u A nx.ps.length c] w (StepOf (stepT tm um set nx) base w) := by
  rw [stepT_not hd (moreB_seen hv)]
  obtain ⟨tn, un, ps⟩ := nx
  obtain ⟨h1, h2, h3, h4⟩ := hs
  simp only at h h1 h2 h3 h4 hd hv ⊢
  have HO := Lib.hid h
  have HP := Lib.hid h.ps
  obtain ⟨w0, hw0⟩ : ∃ w0, w0 = (((w.alloc (.cells #[.string tm, .string um, .slice A0 n0 c0] 35)).alloc (.cells #[.string tn, .string un, .slice A ps.length c] 35)).alloc (.cells #[.string ⟨#[]⟩, .string ⟨#[]⟩, .slice none 0 0] 35)) := ⟨_, rfl⟩
  have HS0 := Lib.hid (show StB w tm um A0 n0 c0 tn un A ps.length c w0 from by rw [hw0]; exact StB.first _ _ _ _ _ _ _ _ _ _ _)
  have HAT := Lib.hid (fun W (hW : PsIn W A ps) => rAt_any tn un A ps c chrS W hW (by omega))
  have hge := atI_ge ps chrS
  rw [hv] at hge
  obtain ⟨k, hk⟩ : ∃ k, k = atN ps chrS := ⟨_, rfl⟩
  have hkl : k < ps.length := by
    have := atN_seen ps chrS
    rw [hv] at this
    rw [hk]
    exact of_decide_eq_true this
  have hatk : atI ps chrS = (k : Int) := by unfold atI; rw [← hk, if_pos hkl]
  have hpv : parV ps chrS = ps[k].v := by unfold parV; simp only [← hk]; rw [dif_pos hkl]
  rw [hatk] at HAT
  have g0 : ¬ (k : Int) < 0 := by omega
  clear hge hk hatk
  clear hpv
  have hdl : (((tm ++ ⟨#[47]⟩) ++ um).toList == ((tn ++ ⟨#[47]⟩) ++ un).toList) = true := by
    rw [essS_is, essS_is]
    exact (eqS_flip _ _).trans hd
  have k1 : ¬ 9223372036854775807 < tm.size + 1 := by omega
  have k2 : ¬ 9223372036854775807 < tm.size + 1 + um.size := by omega
  have k3 : ¬ 9223372036854775807 < tn.size + 1 := by omega
  have k4 : ¬ 9223372036854775807 < tn.size + 1 + un.size := by omega
  clear h hd
  obtain ⟨c0', c1', c2', d0, d1, d2⟩ := HS0.out.cells
  rw [hw0] at c0' c1' c2' d0 d1 d2
  go_enter Tryz.func28, Tryz.ntmps28
  go_wp2_with fail
  rw [← hw0]
  clear hw0 c0' c1' c2' d0 d1 d2
  refine (HAT.out _ (HP.out.below HS0.out.b)).mono ?_
  rintro e w1 ⟨rfl, b1⟩
  have HS1 := Lib.hid (HS0.out.step b1)
  clear b1 HS0
  obtain ⟨c0', c1', c2', d0, d1, d2⟩ := HS1.out.cells
  have hl1 := HS1.out.r.lt
  cases A with
  | none =>
    cases ps with
    | nil => exact absurd hkl (Nat.not_lt_zero _)
    | cons q r =>
      obtain ⟨g, e, _⟩ := HP.out 0 (by simp)
      cases e
  | some a =>
    obtain ⟨i0, hi, hz0, hz1, hz2⟩ := info_parts Tryz.infoPrm
    obtain ⟨w2, hw2⟩ : ∃ w2, w2 = w1.alloc (.cells #[.string tn, .string un, .slice (some a) ps.length c] 35) := ⟨_, rfl⟩
    have b2 : Below w1.heap.size w1 w2 := by rw [hw2]; exact (Below.refl _ _).alloc (Nat.le_refl _) _
    have HX2 := Lib.hid (show Blk w2 w1.heap.size 35 _ from by rw [hw2]; exact Blk.new w1 35 #[.string tn, .string un, .slice (some a) ps.length c])
    have HS2 := Lib.hid (HS1.out.step b2)
    have hx2 := HX2.out.lt
    clear b2
    go_upto_region 7 with fail
    rw [← hw2]
    generalize w1.heap.size = xb at *
    clear hw2 HS1 c0' c1' c2' d0 d1 d2
    obtain ⟨_, _, _, d0, d1, d2⟩ := HS2.out.cells
    have hx2' : w.heap.size + 1 + 1 < w2.heap.size := HS2.out.r.lt
    have hx3 : w.heap.size + 1 < w2.heap.size := by omega
    go_wp2_with (at_builtin; refine wpList_append_own _ rfl _ _ 33 rfl w2.heap.size 46 i0 _ 2 32 Tryz.underlying33 hi hz0 hz1 hz2 rfl (by decide) _ _ _ rfl (World.ownsRow_made w2 #[] 0 (Nat.le_refl _) (Nat.zero_le _) rfl) a ps.length c (prmL ps) rfl (by rw [prmL_len]) (HP.out.below ((HS2.out.b).alloc (by omega) _)).cells (prmL_one ps) ?_ ?_ ?_ ?_)
    · unfold maxLen; omega
    · omega
    · simp
    intro v3 w3 hown3 hgrow3 _
    have HO3 := Lib.hid (show w3.ownsRow w2.heap.size 46 2 v3 ps.length (prmL ps) from by simpa using hown3)
    have HB3 := Lib.hid (show Below w2.heap.size w2 w3 from ((Below.refl _ _).alloc (Nat.le_refl _) _).grown hgrow3 (by simp) (fun g hg => by simp [Value.ownBlock] at hg; omega))
    clear hown3 hgrow3
    have hx4 : w2.heap.size ≤ w3.heap.size := HB3.out.size
    go_wp2_with (at_builtin; refine wpList_append_own _ rfl _ _ 33 rfl w2.heap.size 46 i0 _ 2 32 Tryz.underlying33 hi hz0 hz1 hz2 rfl (by decide) _ _ _ rfl (HO3.out.alloc _) ⟨w3.heap.size, 0, none⟩ 1 1 [.string chrS, .string set] rfl rfl ?_ ?_ ?_ ?_ ?_ ?_)
    · intro j u hj
      have hcb := Blk.new w3 46 #[.string chrS, .string set]
      have e : (⟨w3.heap.size, 0, none⟩ : Addr).add j = ⟨w3.heap.size, j, none⟩ := by cases j <;> simp [Addr.add]
      rw [e, hcb.cell]
      simpa using hj
    · intro u hu
      simp at hu
      rcases hu with rfl | rfl <;> rfl
    · unfold maxLen; omega
    · omega
    · simp; omega
    intro v4 w4 hown4 hgrow4 _
    have hown4' : w4.ownsRow w2.heap.size 46 2 v4 (ps ++ [(⟨chrS, set⟩ : Prm)]).length (prmL (ps ++ [⟨chrS, set⟩])) := by rw [prmL_snoc, List.length_append]; exact hown4
    have HB4 := Lib.hid (show Below w2.heap.size w2 w4 from (HB3.out.alloc HB3.out.size _).grown hgrow4 (by simp; omega) (fun g hg => (HO3.out.lt g hg).1))
    obtain ⟨A4, c4, rfl⟩ := own_slc hown4'
    obtain ⟨n, hn⟩ : ∃ n, n = (ps ++ [(⟨chrS, set⟩ : Prm)]).length := ⟨_, rfl⟩
    have HO4 := Lib.hid (show OwnPs w4 w2.heap.size A4 c4 (ps ++ [⟨chrS, set⟩]) from hown4')
    have HN := Lib.hid hn
    rw [← hn]
    clear hown4 hown4' hgrow4 hn HO3
    have HX4 := Lib.hid (HX2.out.below HB4.out hx2)
    have HS4 := Lib.hid (HS2.out.step HB4.out)
    have f2 := HX4.out.frozen 2
    have e2 := HX4.out.cell 2
    clear HB3 HB4 HX2 HS2 d0 d1 d2
    obtain ⟨w5, hw5⟩ : ∃ w5, w5 = w4.setCell ⟨xb, 2, none⟩ (.slice A4 n c4) := ⟨_, rfl⟩
    have HX5 := Lib.hid (show Blk w5 xb 35 #[.string tn, .string un, .slice A4 n c4] from by rw [hw5]; exact HX4.out.set_ 2 _)
    have HS5 := Lib.hid (show StB w tm um A0 n0 c0 tn un (some a) ps.length c w5 from by rw [hw5]; exact HS4.out.set (by omega) _ _)
    have HO5 := Lib.hid (show OwnPs w5 w2.heap.size A4 c4 (ps ++ [⟨chrS, set⟩]) from by rw [hw5]; exact OwnPs.set HO4.out HX4.out _ _)
    have HA5 := Lib.hid (show OwnPs w5 base (some a) c ps from by rw [hw5]; exact OwnPs.set (own_mv HO.out (Mv.of_below HS4.out.b []) (by simp)) HX4.out _ _)
    have hbw : base ≤ w2.heap.size := by omega
    clear HO4 HX4 HS4
    go_upto_region 8 with fail
    rw [← hw5]
    clear hw5 f2 e2
    obtain ⟨_, _, _, d0, d1, d2⟩ := HS5.out.cells
    have r0 := HS5.out.r.cell 0
    have r1 := HS5.out.r.cell 1
    have r2 := HS5.out.r.cell 2
    have z0 := HS5.out.r.frozen 0
    have z1 := HS5.out.r.frozen 1
    have z2 := HS5.out.r.frozen 2
    go_wp2
    refine bodyPost_ret (v := .tuple #[mimV tn un (some a) ps.length c, .string set]) (by simp [results, Tryz.results28, go_sem, r0, r1, r2]; done) rfl ?_
    exact ⟨(some a), c, rfl, OwnPs.set3 HA5.out HS5.out.r _ _ _, ((HS5.out.b.setCell (by show w.heap.size ≤ w.heap.size + 1 + 1; omega) _).setCell (by show w.heap.size ≤ w.heap.size + 1 + 1; omega) _).setCell (by show w.heap.size ≤ w.heap.size + 1 + 1; omega) _⟩

set_option maxHeartbeats 4000000 in
set_option maxRecDepth 100000 in
theorem rstep_none (tm um : ByteArray) (A0 : Option Addr) (n0 c0 : Nat) (set : ByteArray) (nx : Mty) (A : Option Addr) (c base : Nat) (w : World) (h : OwnPs w base A c nx.ps) (hb : base ≤ w.heap.size) (hs : nx.small) (htm : tm.size ≤ 1048576) (hum : um.size ≤ 1048576)
    (_hset : set.size ≤ 1048576) (hd : eqS (essS nx.t nx.u) (essS tm um) = true) (hv : seenB nx.ps chrS = false) (he : (set.toList == []) = true) :
    Calls Tryz.prog 28 #[mimV tm um A0 n0 c0, .string set, mimV nx.t nx.u A nx.ps.length c] w (StepOf (stepT tm um set nx) base w) := by
  rw [stepT_not hd (moreB_none he)]
  obtain ⟨tn, un, ps⟩ := nx
  obtain ⟨h1, h2, h3, h4⟩ := hs
  simp only at h h1 h2 h3 h4 hd hv ⊢
  have HO := Lib.hid h
  have HP := Lib.hid h.ps
  obtain ⟨w0, hw0⟩ : ∃ w0, w0 = (((w.alloc (.cells #[.string tm, .string um, .slice A0 n0 c0] 35)).alloc (.cells #[.string tn, .string un, .slice A ps.length c] 35)).alloc (.cells #[.string ⟨#[]⟩, .string ⟨#[]⟩, .slice none 0 0] 35)) := ⟨_, rfl⟩
  have HS0 := Lib.hid (show StB w tm um A0 n0 c0 tn un A ps.length c w0 from by rw [hw0]; exact StB.first _ _ _ _ _ _ _ _ _ _ _)
  have HAT := Lib.hid (fun W (hW : PsIn W A ps) => rAt_any tn un A ps c chrS W hW (by omega))
  have hge := atI_ge ps chrS
  rw [hv] at hge
  obtain ⟨ai, hai⟩ : ∃ ai, ai = atI ps chrS := ⟨_, rfl⟩
  rw [← hai] at HAT hge
  have g0 : ai < 0 := by have := of_decide_eq_false hge; omega
  clear hai hge
  have hdl : (((tm ++ ⟨#[47]⟩) ++ um).toList == ((tn ++ ⟨#[47]⟩) ++ un).toList) = true := by
    rw [essS_is, essS_is]
    exact (eqS_flip _ _).trans hd
  have k1 : ¬ 9223372036854775807 < tm.size + 1 := by omega
  have k2 : ¬ 9223372036854775807 < tm.size + 1 + um.size := by omega
  have k3 : ¬ 9223372036854775807 < tn.size + 1 := by omega
  have k4 : ¬ 9223372036854775807 < tn.size + 1 + un.size := by omega
  clear h hd
  obtain ⟨c0', c1', c2', d0, d1, d2⟩ := HS0.out.cells
  rw [hw0] at c0' c1' c2' d0 d1 d2
  go_enter Tryz.func28, Tryz.ntmps28
  go_wp2_with fail
  rw [← hw0]
  clear hw0 c0' c1' c2' d0 d1 d2
  refine (HAT.out _ (HP.out.below HS0.out.b)).mono ?_
  rintro e w1 ⟨rfl, b1⟩
  have HS1 := Lib.hid (HS0.out.step b1)
  clear b1 HS0
  obtain ⟨c0', c1', c2', d0, d1, d2⟩ := HS1.out.cells
  have hl1 := HS1.out.r.lt
  cases A with
  | none =>
    have hps : ps = [] := by
      cases ps with
      | nil => rfl
      | cons q r =>
        obtain ⟨g, e, _⟩ := HP.out 0 (by simp)
        cases e
    subst hps
    obtain ⟨i0, hi, hz0, hz1, hz2⟩ := info_parts Tryz.infoPrm
    obtain ⟨w2, hw2⟩ : ∃ w2, w2 = w1.alloc (.cells #[.string tn, .string un, .slice none 0 c] 35) := ⟨_, rfl⟩
    have b2 : Below w1.heap.size w1 w2 := by rw [hw2]; exact (Below.refl _ _).alloc (Nat.le_refl _) _
    have HX2 := Lib.hid (show Blk w2 w1.heap.size 35 _ from by rw [hw2]; exact Blk.new w1 35 #[.string tn, .string un, .slice none 0 c])
    have HS2 := Lib.hid (HS1.out.step b2)
    have hx2 := HX2.out.lt
    clear b2
    go_upto_region 7 with fail
    rw [← hw2]
    generalize w1.heap.size = xb at *
    clear hw2 HS1 c0' c1' c2' d0 d1 d2
    obtain ⟨_, _, _, d0, d1, d2⟩ := HS2.out.cells
    have hx2' : w.heap.size + 1 + 1 < w2.heap.size := HS2.out.r.lt
    have hx3 : w.heap.size + 1 < w2.heap.size := by omega
    obtain ⟨w3, hw3⟩ : ∃ w3, w3 = w2.alloc (.cells #[] 46) := ⟨_, rfl⟩
    have HO3 := Lib.hid (show w3.ownsRow w2.heap.size 46 2 (.slice (some ⟨w2.heap.size, 0, none⟩) 0 0) 0 (prmL []) from by
      rw [hw3]; exact World.ownsRow_made w2 #[] 0 (Nat.le_refl _) (Nat.zero_le _) rfl)
    have HB3 := Lib.hid (show Below w2.heap.size w2 w3 from by rw [hw3]; exact (Below.refl _ _).alloc (Nat.le_refl _) _)
    go_wp2_with (at_builtin; refine append_onto_none rfl _ _ rfl w2.heap.size c rfl rfl ?_)
    refine Lib.hid ?_
    rw [← hw3]
    generalize hvv : (Value.slice (some ⟨w2.heap.size, 0, none⟩) 0 0) = v3 at HO3 ⊢
    clear hw3 hvv
    have hx4 : w2.heap.size ≤ w3.heap.size := HB3.out.size
    go_wp2_with (at_builtin; refine wpList_append_own _ rfl _ _ 33 rfl w2.heap.size 46 i0 _ 2 32 Tryz.underlying33 hi hz0 hz1 hz2 rfl (by decide) _ _ _ rfl (HO3.out.alloc _) ⟨w3.heap.size, 0, none⟩ 1 1 [.string chrS, .string set] rfl rfl ?_ ?_ ?_ ?_ ?_ ?_)
    · intro j u hj
      have hcb := Blk.new w3 46 #[.string chrS, .string set]
      have e : (⟨w3.heap.size, 0, none⟩ : Addr).add j = ⟨w3.heap.size, j, none⟩ := by cases j <;> simp [Addr.add]
      rw [e, hcb.cell]
      simpa using hj
    · intro u hu
      simp at hu
      rcases hu with rfl | rfl <;> rfl
    · unfold maxLen; omega
    · omega
    · simp; omega
    intro v4 w4 hown4 hgrow4 _
    have hown4' : w4.ownsRow w2.heap.size 46 2 v4 (([] : List Prm) ++ [(⟨chrS, set⟩ : Prm)]).length (prmL (([] : List Prm) ++ [⟨chrS, set⟩])) := by rw [prmL_snoc, List.length_append]; exact hown4
    have HB4 := Lib.hid (show Below w2.heap.size w2 w4 from (HB3.out.alloc HB3.out.size _).grown hgrow4 (by simp; omega) (fun g hg => (HO3.out.lt g hg).1))
    obtain ⟨A4, c4, rfl⟩ := own_slc hown4'
    obtain ⟨n, hn⟩ : ∃ n, n = (([] : List Prm) ++ [(⟨chrS, set⟩ : Prm)]).length := ⟨_, rfl⟩
    have HO4 := Lib.hid (show OwnPs w4 w2.heap.size A4 c4 (([] : List Prm) ++ [⟨chrS, set⟩]) from hown4')
    have HN := Lib.hid hn
    rw [← hn]
    clear hown4 hown4' hgrow4 hn HO3
    have HX4 := Lib.hid (HX2.out.below HB4.out hx2)
    have HS4 := Lib.hid (HS2.out.step HB4.out)
    have f2 := HX4.out.frozen 2
    have e2 := HX4.out.cell 2
    clear HB3 HB4 HX2 HS2 d0 d1 d2
    obtain ⟨w5, hw5⟩ : ∃ w5, w5 = w4.setCell ⟨xb, 2, none⟩ (.slice A4 n c4) := ⟨_, rfl⟩
    have HX5 := Lib.hid (show Blk w5 xb 35 #[.string tn, .string un, .slice A4 n c4] from by rw [hw5]; exact HX4.out.set_ 2 _)
    have HS5 := Lib.hid (show StB w tm um A0 n0 c0 tn un none 0 c w5 from by rw [hw5]; exact HS4.out.set (by omega) _ _)
    have HO5 := Lib.hid (show OwnPs w5 w2.heap.size A4 c4 (([] : List Prm) ++ [⟨chrS, set⟩]) from by rw [hw5]; exact OwnPs.set HO4.out HX4.out _ _)
    have HA5 := Lib.hid (show OwnPs w5 base none c [] from by rw [hw5]; exact OwnPs.set (own_mv HO.out (Mv.of_below HS4.out.b []) (by simp)) HX4.out _ _)
    have hbw : base ≤ w2.heap.size := by omega
    clear HO4 HX4 HS4
    go_upto_region 8 with fail
    rw [← hw5]
    clear hw5 f2 e2
    obtain ⟨_, _, _, d0, d1, d2⟩ := HS5.out.cells
    have r0 := HS5.out.r.cell 0
    have r1 := HS5.out.r.cell 1
    have r2 := HS5.out.r.cell 2
    have z0 := HS5.out.r.frozen 0
    have z1 := HS5.out.r.frozen 1
    have z2 := HS5.out.r.frozen 2
    go_wp2
    refine bodyPost_ret (v := .tuple #[mimV tn un none 0 c, .string set]) (by simp [results, Tryz.results28, go_sem, r0, r1, r2]; done) rfl ?_
    exact ⟨none, c, rfl, OwnPs.set3 HA5.out HS5.out.r _ _ _, ((HS5.out.b.setCell (by show w.heap.size ≤ w.heap.size + 1 + 1; omega) _).setCell (by show w.heap.size ≤ w.heap.size + 1 + 1; omega) _).setCell (by show w.heap.size ≤ w.heap.size + 1 + 1; omega) _⟩

  | some a =>
    obtain ⟨i0, hi, hz0, hz1, hz2⟩ := info_parts Tryz.infoPrm
    obtain ⟨w2, hw2⟩ : ∃ w2, w2 = w1.alloc (.cells #[.string tn, .string un, .slice (some a) ps.length c] 35) := ⟨_, rfl⟩
    have b2 : Below w1.heap.size w1 w2 := by rw [hw2]; exact (Below.refl _ _).alloc (Nat.le_refl _) _
    have HX2 := Lib.hid (show Blk w2 w1.heap.size 35 _ from by rw [hw2]; exact Blk.new w1 35 #[.string tn, .string un, .slice (some a) ps.length c])
    have HS2 := Lib.hid (HS1.out.step b2)
    have hx2 := HX2.out.lt
    clear b2
    go_upto_region 7 with fail
    rw [← hw2]
    generalize w1.heap.size = xb at *
    clear hw2 HS1 c0' c1' c2' d0 d1 d2
    obtain ⟨_, _, _, d0, d1, d2⟩ := HS2.out.cells
    have hx2' : w.heap.size + 1 + 1 < w2.heap.size := HS2.out.r.lt
    have hx3 : w.heap.size + 1 < w2.heap.size := by omega
    go_wp2_with (at_builtin; refine wpList_append_own _ rfl _ _ 33 rfl w2.heap.size 46 i0 _ 2 32 Tryz.underlying33 hi hz0 hz1 hz2 rfl (by decide) _ _ _ rfl (World.ownsRow_made w2 #[] 0 (Nat.le_refl _) (Nat.zero_le _) rfl) a ps.length c (prmL ps) rfl (by rw [prmL_len]) (HP.out.below ((HS2.out.b).alloc (by omega) _)).cells (prmL_one ps) ?_ ?_ ?_ ?_)
    · unfold maxLen; omega
    · omega
    · simp
    intro v3 w3 hown3 hgrow3 _
    have HO3 := Lib.hid (show w3.ownsRow w2.heap.size 46 2 v3 ps.length (prmL ps) from by simpa using hown3)
    have HB3 := Lib.hid (show Below w2.heap.size w2 w3 from ((Below.refl _ _).alloc (Nat.le_refl _) _).grown hgrow3 (by simp) (fun g hg => by simp [Value.ownBlock] at hg; omega))
    clear hown3 hgrow3
    have hx4 : w2.heap.size ≤ w3.heap.size := HB3.out.size
    go_wp2_with (at_builtin; refine wpList_append_own _ rfl _ _ 33 rfl w2.heap.size 46 i0 _ 2 32 Tryz.underlying33 hi hz0 hz1 hz2 rfl (by decide) _ _ _ rfl (HO3.out.alloc _) ⟨w3.heap.size, 0, none⟩ 1 1 [.string chrS, .string set] rfl rfl ?_ ?_ ?_ ?_ ?_ ?_)
    · intro j u hj
      have hcb := Blk.new w3 46 #[.string chrS, .string set]
      have e : (⟨w3.heap.size, 0, none⟩ : Addr).add j = ⟨w3.heap.size, j, none⟩ := by cases j <;> simp [Addr.add]
      rw [e, hcb.cell]
      simpa using hj
    · intro u hu
      simp at hu
      rcases hu with rfl | rfl <;> rfl
    · unfold maxLen; omega
    · omega
    · simp; omega
    intro v4 w4 hown4 hgrow4 _
    have hown4' : w4.ownsRow w2.heap.size 46 2 v4 (ps ++ [(⟨chrS, set⟩ : Prm)]).length (prmL (ps ++ [⟨chrS, set⟩])) := by rw [prmL_snoc, List.length_append]; exact hown4
    have HB4 := Lib.hid (show Below w2.heap.size w2 w4 from (HB3.out.alloc HB3.out.size _).grown hgrow4 (by simp; omega) (fun g hg => (HO3.out.lt g hg).1))
    obtain ⟨A4, c4, rfl⟩ := own_slc hown4'
    obtain ⟨n, hn⟩ : ∃ n, n = (ps ++ [(⟨chrS, set⟩ : Prm)]).length := ⟨_, rfl⟩
    have HO4 := Lib.hid (show OwnPs w4 w2.heap.size A4 c4 (ps ++ [⟨chrS, set⟩]) from hown4')
    have HN := Lib.hid hn
    rw [← hn]
    clear hown4 hown4' hgrow4 hn HO3
    have HX4 := Lib.hid (HX2.out.below HB4.out hx2)
    have HS4 := Lib.hid (HS2.out.step HB4.out)
    have f2 := HX4.out.frozen 2
    have e2 := HX4.out.cell 2
    clear HB3 HB4 HX2 HS2 d0 d1 d2
    obtain ⟨w5, hw5⟩ : ∃ w5, w5 = w4.setCell ⟨xb, 2, none⟩ (.slice A4 n c4) := ⟨_, rfl⟩
    have HX5 := Lib.hid (show Blk w5 xb 35 #[.string tn, .string un, .slice A4 n c4] from by rw [hw5]; exact HX4.out.set_ 2 _)
    have HS5 := Lib.hid (show StB w tm um A0 n0 c0 tn un (some a) ps.length c w5 from by rw [hw5]; exact HS4.out.set (by omega) _ _)
    have HO5 := Lib.hid (show OwnPs w5 w2.heap.size A4 c4 (ps ++ [⟨chrS, set⟩]) from by rw [hw5]; exact OwnPs.set HO4.out HX4.out _ _)
    have HA5 := Lib.hid (show OwnPs w5 base (some a) c ps from by rw [hw5]; exact OwnPs.set (own_mv HO.out (Mv.of_below HS4.out.b []) (by simp)) HX4.out _ _)
    have hbw : base ≤ w2.heap.size := by omega
    clear HO4 HX4 HS4
    go_upto_region 8 with fail
    rw [← hw5]
    clear hw5 f2 e2
    obtain ⟨_, _, _, d0, d1, d2⟩ := HS5.out.cells
    have r0 := HS5.out.r.cell 0
    have r1 := HS5.out.r.cell 1
    have r2 := HS5.out.r.cell 2
    have z0 := HS5.out.r.frozen 0
    have z1 := HS5.out.r.frozen 1
    have z2 := HS5.out.r.frozen 2
    go_wp2
    refine bodyPost_ret (v := .tuple #[mimV tn un (some a) ps.length c, .string set]) (by simp [results, Tryz.results28, go_sem, r0, r1, r2]; done) rfl ?_
    exact ⟨(some a), c, rfl, OwnPs.set3 HA5.out HS5.out.r _ _ _, ((HS5.out.b.setCell (by show w.heap.size ≤ w.heap.size + 1 + 1; omega) _).setCell (by show w.heap.size ≤ w.heap.size + 1 + 1; omega) _).setCell (by show w.heap.size ≤ w.heap.size + 1 + 1; omega) _⟩

set_option maxHeartbeats 4000000 in
set_option maxRecDepth 100000 in
theorem rstep_bad (tm um : ByteArray) (A0 : Option Addr) (n0 c0 : Nat) (set : ByteArray) (nx : Mty) (A : Option Addr) (c base : Nat) (w : World) (h : OwnPs w base A c nx.ps) (hb : base ≤ w.heap.size) (hs : nx.small) (htm : tm.size ≤ 1048576) (hum : um.size ≤ 1048576)
    (hset : set.size ≤ 1048576) (hd : eqS (essS nx.t nx.u) (essS tm um) = true) (hv : seenB nx.ps chrS = false) (he : (set.toList == []) = false) (hg : goodM nx.t nx.u (nx.ps ++ [⟨chrS, set⟩]) = false) :
    Calls Tryz.prog 28 #[mimV tm um A0 n0 c0, .string set, mimV nx.t nx.u A nx.ps.length c] w (StepOf (stepT tm um set nx) base w) := by
  rw [stepT_not hd (by unfold moreB; rw [hv, he, hg]; rfl)]
  obtain ⟨tn, un, ps⟩ := nx
  obtain ⟨h1, h2, h3, h4⟩ := hs
  simp only at h h1 h2 h3 h4 hd hv hg ⊢
  have HO := Lib.hid h
  have HP := Lib.hid h.ps
  obtain ⟨w0, hw0⟩ : ∃ w0, w0 = (((w.alloc (.cells #[.string tm, .string um, .slice A0 n0 c0] 35)).alloc (.cells #[.string tn, .string un, .slice A ps.length c] 35)).alloc (.cells #[.string ⟨#[]⟩, .string ⟨#[]⟩, .slice none 0 0] 35)) := ⟨_, rfl⟩
  have HS0 := Lib.hid (show StB w tm um A0 n0 c0 tn un A ps.length c w0 from by rw [hw0]; exact StB.first _ _ _ _ _ _ _ _ _ _ _)
  have HAT := Lib.hid (fun W (hW : PsIn W A ps) => rAt_any tn un A ps c chrS W hW (by omega))
  have hge := atI_ge ps chrS
  rw [hv] at hge
  obtain ⟨ai, hai⟩ : ∃ ai, ai = atI ps chrS := ⟨_, rfl⟩
  rw [← hai] at HAT hge
  have g0 : ai < 0 := by have := of_decide_eq_false hge; omega
  clear hai hge
  have HGD := Lib.hid (fun W A4 c4 (hW : PsIn W A4 (ps ++ [⟨chrS, set⟩])) => rgood_any tn un A4 (ps ++ [⟨chrS, set⟩]) c4 W ⟨hW, h3.snoc (by show 7 ≤ _; omega) hset, h1, h2, by simp; omega⟩)
  rw [hg] at HGD
  have hdl : (((tm ++ ⟨#[47]⟩) ++ um).toList == ((tn ++ ⟨#[47]⟩) ++ un).toList) = true := by
    rw [essS_is, essS_is]
    exact (eqS_flip _ _).trans hd
  have k1 : ¬ 9223372036854775807 < tm.size + 1 := by omega
  have k2 : ¬ 9223372036854775807 < tm.size + 1 + um.size := by omega
  have k3 : ¬ 9223372036854775807 < tn.size + 1 := by omega
  have k4 : ¬ 9223372036854775807 < tn.size + 1 + un.size := by omega
  clear h hd
  obtain ⟨c0', c1', c2', d0, d1, d2⟩ := HS0.out.cells
  rw [hw0] at c0' c1' c2' d0 d1 d2
  go_enter Tryz.func28, Tryz.ntmps28
  go_wp2_with fail
  rw [← hw0]
  clear hw0 c0' c1' c2' d0 d1 d2
  refine (HAT.out _ (HP.out.below HS0.out.b)).mono ?_
  rintro e w1 ⟨rfl, b1⟩
  have HS1 := Lib.hid (HS0.out.step b1)
  clear b1 HS0
  obtain ⟨c0', c1', c2', d0, d1, d2⟩ := HS1.out.cells
  have hl1 := HS1.out.r.lt
  cases A with
  | none =>
    have hps : ps = [] := by
      cases ps with
      | nil => rfl
      | cons q r =>
        obtain ⟨g, e, _⟩ := HP.out 0 (by simp)
        cases e
    subst hps
    obtain ⟨i0, hi, hz0, hz1, hz2⟩ := info_parts Tryz.infoPrm
    obtain ⟨w2, hw2⟩ : ∃ w2, w2 = w1.alloc (.cells #[.string tn, .string un, .slice none 0 c] 35) := ⟨_, rfl⟩
    have b2 : Below w1.heap.size w1 w2 := by rw [hw2]; exact (Below.refl _ _).alloc (Nat.le_refl _) _
    have HX2 := Lib.hid (show Blk w2 w1.heap.size 35 _ from by rw [hw2]; exact Blk.new w1 35 #[.string tn, .string un, .slice none 0 c])
    have HS2 := Lib.hid (HS1.out.step b2)
    have hx2 := HX2.out.lt
    clear b2
    go_upto_region 7 with fail
    rw [← hw2]
    generalize w1.heap.size = xb at *
    clear hw2 HS1 c0' c1' c2' d0 d1 d2
    obtain ⟨_, _, _, d0, d1, d2⟩ := HS2.out.cells
    have hx2' : w.heap.size + 1 + 1 < w2.heap.size := HS2.out.r.lt
    have hx3 : w.heap.size + 1 < w2.heap.size := by omega
    obtain ⟨w3, hw3⟩ : ∃ w3, w3 = w2.alloc (.cells #[] 46) := ⟨_, rfl⟩
    have HO3 := Lib.hid (show w3.ownsRow w2.heap.size 46 2 (.slice (some ⟨w2.heap.size, 0, none⟩) 0 0) 0 (prmL []) from by
      rw [hw3]; exact World.ownsRow_made w2 #[] 0 (Nat.le_refl _) (Nat.zero_le _) rfl)
    have HB3 := Lib.hid (show Below w2.heap.size w2 w3 from by rw [hw3]; exact (Below.refl _ _).alloc (Nat.le_refl _) _)
    go_wp2_with (at_builtin; refine append_onto_none rfl _ _ rfl w2.heap.size c rfl rfl ?_)
    refine Lib.hid ?_
    rw [← hw3]
    generalize hvv : (Value.slice (some ⟨w2.heap.size, 0, none⟩) 0 0) = v3 at HO3 ⊢
    clear hw3 hvv
    have hx4 : w2.heap.size ≤ w3.heap.size := HB3.out.size
    go_wp2_with (at_builtin; refine wpList_append_own _ rfl _ _ 33 rfl w2.heap.size 46 i0 _ 2 32 Tryz.underlying33 hi hz0 hz1 hz2 rfl (by decide) _ _ _ rfl (HO3.out.alloc _) ⟨w3.heap.size, 0, none⟩ 1 1 [.string chrS, .string set] rfl rfl ?_ ?_ ?_ ?_ ?_ ?_)
    · intro j u hj
      have hcb := Blk.new w3 46 #[.string chrS, .string set]
      have e : (⟨w3.heap.size, 0, none⟩ : Addr).add j = ⟨w3.heap.size, j, none⟩ := by cases j <;> simp [Addr.add]
      rw [e, hcb.cell]
      simpa using hj
    · intro u hu
      simp at hu
      rcases hu with rfl | rfl <;> rfl
    · unfold maxLen; omega
    · omega
    · simp; omega
    intro v4 w4 hown4 hgrow4 _
    have hown4' : w4.ownsRow w2.heap.size 46 2 v4 (([] : List Prm) ++ [(⟨chrS, set⟩ : Prm)]).length (prmL (([] : List Prm) ++ [⟨chrS, set⟩])) := by rw [prmL_snoc, List.length_append]; exact hown4
    have HB4 := Lib.hid (show Below w2.heap.size w2 w4 from (HB3.out.alloc HB3.out.size _).grown hgrow4 (by simp; omega) (fun g hg => (HO3.out.lt g hg).1))
    obtain ⟨A4, c4, rfl⟩ := own_slc hown4'
    obtain ⟨n, hn⟩ : ∃ n, n = (([] : List Prm) ++ [(⟨chrS, set⟩ : Prm)]).length := ⟨_, rfl⟩
    have HO4 := Lib.hid (show OwnPs w4 w2.heap.size A4 c4 (([] : List Prm) ++ [⟨chrS, set⟩]) from hown4')
    have HN := Lib.hid hn
    rw [← hn]
    clear hown4 hown4' hgrow4 hn HO3
    have HX4 := Lib.hid (HX2.out.below HB4.out hx2)
    have HS4 := Lib.hid (HS2.out.step HB4.out)
    have f2 := HX4.out.frozen 2
    have e2 := HX4.out.cell 2
    clear HB3 HB4 HX2 HS2 d0 d1 d2
    obtain ⟨w5, hw5⟩ : ∃ w5, w5 = w4.setCell ⟨xb, 2, none⟩ (.slice A4 n c4) := ⟨_, rfl⟩
    have HX5 := Lib.hid (show Blk w5 xb 35 #[.string tn, .string un, .slice A4 n c4] from by rw [hw5]; exact HX4.out.set_ 2 _)
    have HS5 := Lib.hid (show StB w tm um A0 n0 c0 tn un none 0 c w5 from by rw [hw5]; exact HS4.out.set (by omega) _ _)
    have HO5 := Lib.hid (show OwnPs w5 w2.heap.size A4 c4 (([] : List Prm) ++ [⟨chrS, set⟩]) from by rw [hw5]; exact OwnPs.set HO4.out HX4.out _ _)
    have HA5 := Lib.hid (show OwnPs w5 base none c [] from by rw [hw5]; exact OwnPs.set (own_mv HO.out (Mv.of_below HS4.out.b []) (by simp)) HX4.out _ _)
    have hbw : base ≤ w2.heap.size := by omega
    clear HO4 HX4 HS4
    go_upto_region 8 with fail
    rw [← hw5]
    clear hw5 f2 e2
    obtain ⟨_, _, _, d0, d1, d2⟩ := HS5.out.cells
    have x0 := HX5.out.cell 0
    have x1 := HX5.out.cell 1
    have x2 := HX5.out.cell 2
    have HM5 := Lib.hid (HGD.out w5 A4 c4 HO5.out.ps)
    rw [← HN.out] at HM5
    go_wp2_with fail
    refine HM5.out.mono ?_
    rintro e w6 ⟨rfl, b6⟩
    have HS6 := Lib.hid (HS5.out.step b6)
    have HX6 := Lib.hid (HX5.out.below b6 HX5.out.lt)
    have HO6 := Lib.hid (own_mv HO5.out (Mv.of_below b6 []) (by simp))
    have HA6 := Lib.hid (own_mv HA5.out (Mv.of_below b6 []) (by simp))
    clear b6 HS5 HX5 HO5 HA5 HM5 d0 d1 d2 x0 x1 x2
    obtain ⟨_, _, _, d0, d1, d2⟩ := HS6.out.cells
    have x0 := HX6.out.cell 0
    have x1 := HX6.out.cell 1
    have x2 := HX6.out.cell 2
    have r0 := HS6.out.r.cell 0
    have r1 := HS6.out.r.cell 1
    have r2 := HS6.out.r.cell 2
    have z0 := HS6.out.r.frozen 0
    have z1 := HS6.out.r.frozen 1
    have z2 := HS6.out.r.frozen 2
    go_wp2
    refine bodyPost_ret (v := .tuple #[mimV tn un none 0 c, .string set]) (by simp [results, Tryz.results28, go_sem, r0, r1, r2]; done) rfl ?_
    exact ⟨none, c, rfl, OwnPs.set3 HA6.out HS6.out.r _ _ _, ((HS6.out.b.setCell (by show w.heap.size ≤ w.heap.size + 1 + 1; omega) _).setCell (by show w.heap.size ≤ w.heap.size + 1 + 1; omega) _).setCell (by show w.heap.size ≤ w.heap.size + 1 + 1; omega) _⟩

  | some a =>
    obtain ⟨i0, hi, hz0, hz1, hz2⟩ := info_parts Tryz.infoPrm
    obtain ⟨w2, hw2⟩ : ∃ w2, w2 = w1.alloc (.cells #[.string tn, .string un, .slice (some a) ps.length c] 35) := ⟨_, rfl⟩
    have b2 : Below w1.heap.size w1 w2 := by rw [hw2]; exact (Below.refl _ _).alloc (Nat.le_refl _) _
    have HX2 := Lib.hid (show Blk w2 w1.heap.size 35 _ from by rw [hw2]; exact Blk.new w1 35 #[.string tn, .string un, .slice (some a) ps.length c])
    have HS2 := Lib.hid (HS1.out.step b2)
    have hx2 := HX2.out.lt
    clear b2
    go_upto_region 7 with fail
    rw [← hw2]
    generalize w1.heap.size = xb at *
    clear hw2 HS1 c0' c1' c2' d0 d1 d2
    obtain ⟨_, _, _, d0, d1, d2⟩ := HS2.out.cells
    have hx2' : w.heap.size + 1 + 1 < w2.heap.size := HS2.out.r.lt
    have hx3 : w.heap.size + 1 < w2.heap.size := by omega
    go_wp2_with (at_builtin; refine wpList_append_own _ rfl _ _ 33 rfl w2.heap.size 46 i0 _ 2 32 Tryz.underlying33 hi hz0 hz1 hz2 rfl (by decide) _ _ _ rfl (World.ownsRow_made w2 #[] 0 (Nat.le_refl _) (Nat.zero_le _) rfl) a ps.length c (prmL ps) rfl (by rw [prmL_len]) (HP.out.below ((HS2.out.b).alloc (by omega) _)).cells (prmL_one ps) ?_ ?_ ?_ ?_)
    · unfold maxLen; omega
    · omega
    · simp
    intro v3 w3 hown3 hgrow3 _
    have HO3 := Lib.hid (show w3.ownsRow w2.heap.size 46 2 v3 ps.length (prmL ps) from by simpa using hown3)
    have HB3 := Lib.hid (show Below w2.heap.size w2 w3 from ((Below.refl _ _).alloc (Nat.le_refl _) _).grown hgrow3 (by simp) (fun g hg => by simp [Value.ownBlock] at hg; omega))
    clear hown3 hgrow3
    have hx4 : w2.heap.size ≤ w3.heap.size := HB3.out.size
    go_wp2_with (at_builtin; refine wpList_append_own _ rfl _ _ 33 rfl w2.heap.size 46 i0 _ 2 32 Tryz.underlying33 hi hz0 hz1 hz2 rfl (by decide) _ _ _ rfl (HO3.out.alloc _) ⟨w3.heap.size, 0, none⟩ 1 1 [.string chrS, .string set] rfl rfl ?_ ?_ ?_ ?_ ?_ ?_)
    · intro j u hj
      have hcb := Blk.new w3 46 #[.string chrS, .string set]
      have e : (⟨w3.heap.size, 0, none⟩ : Addr).add j = ⟨w3.heap.size, j, none⟩ := by cases j <;> simp [Addr.add]
      rw [e, hcb.cell]
      simpa using hj
    · intro u hu
      simp at hu
      rcases hu with rfl | rfl <;> rfl
    · unfold maxLen; omega
    · omega
    · simp; omega
    intro v4 w4 hown4 hgrow4 _
    have hown4' : w4.ownsRow w2.heap.size 46 2 v4 (ps ++ [(⟨chrS, set⟩ : Prm)]).length (prmL (ps ++ [⟨chrS, set⟩])) := by rw [prmL_snoc, List.length_append]; exact hown4
    have HB4 := Lib.hid (show Below w2.heap.size w2 w4 from (HB3.out.alloc HB3.out.size _).grown hgrow4 (by simp; omega) (fun g hg => (HO3.out.lt g hg).1))
    obtain ⟨A4, c4, rfl⟩ := own_slc hown4'
    obtain ⟨n, hn⟩ : ∃ n, n = (ps ++ [(⟨chrS, set⟩ : Prm)]).length := ⟨_, rfl⟩
    have HO4 := Lib.hid (show OwnPs w4 w2.heap.size A4 c4 (ps ++ [⟨chrS, set⟩]) from hown4')
    have HN := Lib.hid hn
    rw [← hn]
    clear hown4 hown4' hgrow4 hn HO3
    have HX4 := Lib.hid (HX2.out.below HB4.out hx2)
    have HS4 := Lib.hid (HS2.out.step HB4.out)
    have f2 := HX4.out.frozen 2
    have e2 := HX4.out.cell 2
    clear HB3 HB4 HX2 HS2 d0 d1 d2
    obtain ⟨w5, hw5⟩ : ∃ w5, w5 = w4.setCell ⟨xb, 2, none⟩ (.slice A4 n c4) := ⟨_, rfl⟩
    have HX5 := Lib.hid (show Blk w5 xb 35 #[.string tn, .string un, .slice A4 n c4] from by rw [hw5]; exact HX4.out.set_ 2 _)
    have HS5 := Lib.hid (show StB w tm um A0 n0 c0 tn un (some a) ps.length c w5 from by rw [hw5]; exact HS4.out.set (by omega) _ _)
    have HO5 := Lib.hid (show OwnPs w5 w2.heap.size A4 c4 (ps ++ [⟨chrS, set⟩]) from by rw [hw5]; exact OwnPs.set HO4.out HX4.out _ _)
    have HA5 := Lib.hid (show OwnPs w5 base (some a) c ps from by rw [hw5]; exact OwnPs.set (own_mv HO.out (Mv.of_below HS4.out.b []) (by simp)) HX4.out _ _)
    have hbw : base ≤ w2.heap.size := by omega
    clear HO4 HX4 HS4
    go_upto_region 8 with fail
    rw [← hw5]
    clear hw5 f2 e2
    obtain ⟨_, _, _, d0, d1, d2⟩ := HS5.out.cells
    have x0 := HX5.out.cell 0
    have x1 := HX5.out.cell 1
    have x2 := HX5.out.cell 2
    have HM5 := Lib.hid (HGD.out w5 A4 c4 HO5.out.ps)
    rw [← HN.out] at HM5
    go_wp2_with fail
    refine HM5.out.mono ?_
    rintro e w6 ⟨rfl, b6⟩
    have HS6 := Lib.hid (HS5.out.step b6)
    have HX6 := Lib.hid (HX5.out.below b6 HX5.out.lt)
    have HO6 := Lib.hid (own_mv HO5.out (Mv.of_below b6 []) (by simp))
    have HA6 := Lib.hid (own_mv HA5.out (Mv.of_below b6 []) (by simp))
    clear b6 HS5 HX5 HO5 HA5 HM5 d0 d1 d2 x0 x1 x2
    obtain ⟨_, _, _, d0, d1, d2⟩ := HS6.out.cells
    have x0 := HX6.out.cell 0
    have x1 := HX6.out.cell 1
    have x2 := HX6.out.cell 2
    have r0 := HS6.out.r.cell 0
    have r1 := HS6.out.r.cell 1
    have r2 := HS6.out.r.cell 2
    have z0 := HS6.out.r.frozen 0
    have z1 := HS6.out.r.frozen 1
    have z2 := HS6.out.r.frozen 2
    go_wp2
    refine bodyPost_ret (v := .tuple #[mimV tn un (some a) ps.length c, .string set]) (by simp [results, Tryz.results28, go_sem, r0, r1, r2]; done) rfl ?_
    exact ⟨(some a), c, rfl, OwnPs.set3 HA6.out HS6.out.r _ _ _, ((HS6.out.b.setCell (by show w.heap.size ≤ w.heap.size + 1 + 1; omega) _).setCell (by show w.heap.size ≤ w.heap.size + 1 + 1; omega) _).setCell (by show w.heap.size ≤ w.heap.size + 1 + 1; omega) _⟩

set_option maxHeartbeats 4000000 in
set_option maxRecDepth 100000 in
theorem rstep_good (tm um : ByteArray) (A0 : Option Addr) (n0 c0 : Nat) (set : ByteArray) (nx : Mty) (A : Option Addr) (c base : Nat) (w : World) (h : OwnPs w base A c nx.ps) (hb : base ≤ w.heap.size) (hs : nx.small) (htm : tm.size ≤ 1048576) (hum : um.size ≤ 1048576)
    (hset : set.size ≤ 1048576) (hd : eqS (essS nx.t nx.u) (essS tm um) = true) (hv : seenB nx.ps chrS = false) (he : (set.toList == []) = false) (hg : goodM nx.t nx.u (nx.ps ++ [⟨chrS, set⟩]) = true) :
    Calls Tryz.prog 28 #[mimV tm um A0 n0 c0, .string set, mimV nx.t nx.u A nx.ps.length c] w (StepOf (stepT tm um set nx) base w) := by
  rw [stepT_more hd (by unfold moreB; rw [hv, he, hg]; rfl)]
  obtain ⟨tn, un, ps⟩ := nx
  obtain ⟨h1, h2, h3, h4⟩ := hs
  simp only at h h1 h2 h3 h4 hd hv hg ⊢
  have HO := Lib.hid h
  have HP := Lib.hid h.ps
  obtain ⟨w0, hw0⟩ : ∃ w0, w0 = (((w.alloc (.cells #[.string tm, .string um, .slice A0 n0 c0] 35)).alloc (.cells #[.string tn, .string un, .slice A ps.length c] 35)).alloc (.cells #[.string ⟨#[]⟩, .string ⟨#[]⟩, .slice none 0 0] 35)) := ⟨_, rfl⟩
  have HS0 := Lib.hid (show StB w tm um A0 n0 c0 tn un A ps.length c w0 from by rw [hw0]; exact StB.first _ _ _ _ _ _ _ _ _ _ _)
  have HAT := Lib.hid (fun W (hW : PsIn W A ps) => rAt_any tn un A ps c chrS W hW (by omega))
  have hge := atI_ge ps chrS
  rw [hv] at hge
  obtain ⟨ai, hai⟩ : ∃ ai, ai = atI ps chrS := ⟨_, rfl⟩
  rw [← hai] at HAT hge
  have g0 : ai < 0 := by have := of_decide_eq_false hge; omega
  clear hai hge
  have HGD := Lib.hid (fun W A4 c4 (hW : PsIn W A4 (ps ++ [⟨chrS, set⟩])) => rgood_any tn un A4 (ps ++ [⟨chrS, set⟩]) c4 W ⟨hW, h3.snoc (by show 7 ≤ _; omega) hset, h1, h2, by simp; omega⟩)
  rw [hg] at HGD
  have hdl : (((tm ++ ⟨#[47]⟩) ++ um).toList == ((tn ++ ⟨#[47]⟩) ++ un).toList) = true := by
    rw [essS_is, essS_is]
    exact (eqS_flip _ _).trans hd
  have k1 : ¬ 9223372036854775807 < tm.size + 1 := by omega
  have k2 : ¬ 9223372036854775807 < tm.size + 1 + um.size := by omega
  have k3 : ¬ 9223372036854775807 < tn.size + 1 := by omega
  have k4 : ¬ 9223372036854775807 < tn.size + 1 + un.size := by omega
  clear h hd
  obtain ⟨c0', c1', c2', d0, d1, d2⟩ := HS0.out.cells
  rw [hw0] at c0' c1' c2' d0 d1 d2
  go_enter Tryz.func28, Tryz.ntmps28
  go_wp2_with fail
  rw [← hw0]
  clear hw0 c0' c1' c2' d0 d1 d2
  refine (HAT.out _ (HP.out.below HS0.out.b)).mono ?_
  rintro e w1 ⟨rfl, b1⟩
  have HS1 := Lib.hid (HS0.out.step b1)
  clear b1 HS0
  obtain ⟨c0', c1', c2', d0, d1, d2⟩ := HS1.out.cells
  have hl1 := HS1.out.r.lt
  cases A with
  | none =>
    have hps : ps = [] := by
      cases ps with
      | nil => rfl
      | cons q r =>
        obtain ⟨g, e, _⟩ := HP.out 0 (by simp)
        cases e
    subst hps
    obtain ⟨i0, hi, hz0, hz1, hz2⟩ := info_parts Tryz.infoPrm
    obtain ⟨w2, hw2⟩ : ∃ w2, w2 = w1.alloc (.cells #[.string tn, .string un, .slice none 0 c] 35) := ⟨_, rfl⟩
    have b2 : Below w1.heap.size w1 w2 := by rw [hw2]; exact (Below.refl _ _).alloc (Nat.le_refl _) _
    have HX2 := Lib.hid (show Blk w2 w1.heap.size 35 _ from by rw [hw2]; exact Blk.new w1 35 #[.string tn, .string un, .slice none 0 c])
    have HS2 := Lib.hid (HS1.out.step b2)
    have hx2 := HX2.out.lt
    clear b2
    go_upto_region 7 with fail
    rw [← hw2]
    generalize w1.heap.size = xb at *
    clear hw2 HS1 c0' c1' c2' d0 d1 d2
    obtain ⟨_, _, _, d0, d1, d2⟩ := HS2.out.cells
    have hx2' : w.heap.size + 1 + 1 < w2.heap.size := HS2.out.r.lt
    have hx3 : w.heap.size + 1 < w2.heap.size := by omega
    obtain ⟨w3, hw3⟩ : ∃ w3, w3 = w2.alloc (.cells #[] 46) := ⟨_, rfl⟩
    have HO3 := Lib.hid (show w3.ownsRow w2.heap.size 46 2 (.slice (some ⟨w2.heap.size, 0, none⟩) 0 0) 0 (prmL []) from by
      rw [hw3]; exact World.ownsRow_made w2 #[] 0 (Nat.le_refl _) (Nat.zero_le _) rfl)
    have HB3 := Lib.hid (show Below w2.heap.size w2 w3 from by rw [hw3]; exact (Below.refl _ _).alloc (Nat.le_refl _) _)
    go_wp2_with (at_builtin; refine append_onto_none rfl _ _ rfl w2.heap.size c rfl rfl ?_)
    refine Lib.hid ?_
    rw [← hw3]
    generalize hvv : (Value.slice (some ⟨w2.heap.size, 0, none⟩) 0 0) = v3 at HO3 ⊢
    clear hw3 hvv
    have hx4 : w2.heap.size ≤ w3.heap.size := HB3.out.size
    go_wp2_with (at_builtin; refine wpList_append_own _ rfl _ _ 33 rfl w2.heap.size 46 i0 _ 2 32 Tryz.underlying33 hi hz0 hz1 hz2 rfl (by decide) _ _ _ rfl (HO3.out.alloc _) ⟨w3.heap.size, 0, none⟩ 1 1 [.string chrS, .string set] rfl rfl ?_ ?_ ?_ ?_ ?_ ?_)
    · intro j u hj
      have hcb := Blk.new w3 46 #[.string chrS, .string set]
      have e : (⟨w3.heap.size, 0, none⟩ : Addr).add j = ⟨w3.heap.size, j, none⟩ := by cases j <;> simp [Addr.add]
      rw [e, hcb.cell]
      simpa using hj
    · intro u hu
      simp at hu
      rcases hu with rfl | rfl <;> rfl
    · unfold maxLen; omega
    · omega
    · simp; omega
    intro v4 w4 hown4 hgrow4 _
    have hown4' : w4.ownsRow w2.heap.size 46 2 v4 (([] : List Prm) ++ [(⟨chrS, set⟩ : Prm)]).length (prmL (([] : List Prm) ++ [⟨chrS, set⟩])) := by rw [prmL_snoc, List.length_append]; exact hown4
    have HB4 := Lib.hid (show Below w2.heap.size w2 w4 from (HB3.out.alloc HB3.out.size _).grown hgrow4 (by simp; omega) (fun g hg => (HO3.out.lt g hg).1))
    obtain ⟨A4, c4, rfl⟩ := own_slc hown4'
    obtain ⟨n, hn⟩ : ∃ n, n = (([] : List Prm) ++ [(⟨chrS, set⟩ : Prm)]).length := ⟨_, rfl⟩
    have HO4 := Lib.hid (show OwnPs w4 w2.heap.size A4 c4 (([] : List Prm) ++ [⟨chrS, set⟩]) from hown4')
    have HN := Lib.hid hn
    rw [← hn]
    clear hown4 hown4' hgrow4 hn HO3
    have HX4 := Lib.hid (HX2.out.below HB4.out hx2)
    have HS4 := Lib.hid (HS2.out.step HB4.out)
    have f2 := HX4.out.frozen 2
    have e2 := HX4.out.cell 2
    clear HB3 HB4 HX2 HS2 d0 d1 d2
    obtain ⟨w5, hw5⟩ : ∃ w5, w5 = w4.setCell ⟨xb, 2, none⟩ (.slice A4 n c4) := ⟨_, rfl⟩
    have HX5 := Lib.hid (show Blk w5 xb 35 #[.string tn, .string un, .slice A4 n c4] from by rw [hw5]; exact HX4.out.set_ 2 _)
    have HS5 := Lib.hid (show StB w tm um A0 n0 c0 tn un none 0 c w5 from by rw [hw5]; exact HS4.out.set (by omega) _ _)
    have HO5 := Lib.hid (show OwnPs w5 w2.heap.size A4 c4 (([] : List Prm) ++ [⟨chrS, set⟩]) from by rw [hw5]; exact OwnPs.set HO4.out HX4.out _ _)
    have HA5 := Lib.hid (show OwnPs w5 base none c [] from by rw [hw5]; exact OwnPs.set (own_mv HO.out (Mv.of_below HS4.out.b []) (by simp)) HX4.out _ _)
    have hbw : base ≤ w2.heap.size := by omega
    clear HO4 HX4 HS4
    go_upto_region 8 with fail
    rw [← hw5]
    clear hw5 f2 e2
    obtain ⟨_, _, _, d0, d1, d2⟩ := HS5.out.cells
    have x0 := HX5.out.cell 0
    have x1 := HX5.out.cell 1
    have x2 := HX5.out.cell 2
    have HM5 := Lib.hid (HGD.out w5 A4 c4 HO5.out.ps)
    rw [← HN.out] at HM5
    go_wp2_with fail
    refine HM5.out.mono ?_
    rintro e w6 ⟨rfl, b6⟩
    have HS6 := Lib.hid (HS5.out.step b6)
    have HX6 := Lib.hid (HX5.out.below b6 HX5.out.lt)
    have HO6 := Lib.hid (own_mv HO5.out (Mv.of_below b6 []) (by simp))
    have HA6 := Lib.hid (own_mv HA5.out (Mv.of_below b6 []) (by simp))
    clear b6 HS5 HX5 HO5 HA5 HM5 d0 d1 d2 x0 x1 x2
    obtain ⟨_, _, _, d0, d1, d2⟩ := HS6.out.cells
    have x0 := HX6.out.cell 0
    have x1 := HX6.out.cell 1
    have x2 := HX6.out.cell 2
    have r0 := HS6.out.r.cell 0
    have r1 := HS6.out.r.cell 1
    have r2 := HS6.out.r.cell 2
    have z0 := HS6.out.r.frozen 0
    have z1 := HS6.out.r.frozen 1
    have z2 := HS6.out.r.frozen 2
    go_wp2
    refine bodyPost_ret (v := .tuple #[mimV tn un A4 n c4, .string set]) (by simp [results, Tryz.results28, go_sem, r0, r1, r2]; done) rfl ?_
    exact ⟨A4, c4, by rw [HN.out], OwnPs.set3 (own_base HO6.out hbw) HS6.out.r _ _ _, ((HS6.out.b.setCell (by show w.heap.size ≤ w.heap.size + 1 + 1; omega) _).setCell (by show w.heap.size ≤ w.heap.size + 1 + 1; omega) _).setCell (by show w.heap.size ≤ w.heap.size + 1 + 1; omega) _⟩

  | some a =>
    obtain ⟨i0, hi, hz0, hz1, hz2⟩ := info_parts Tryz.infoPrm
    obtain ⟨w2, hw2⟩ : ∃ w2, w2 = w1.alloc (.cells #[.string tn, .string un, .slice (some a) ps.length c] 35) := ⟨_, rfl⟩
    have b2 : Below w1.heap.size w1 w2 := by rw [hw2]; exact (Below.refl _ _).alloc (Nat.le_refl _) _
    have HX2 := Lib.hid (show Blk w2 w1.heap.size 35 _ from by rw [hw2]; exact Blk.new w1 35 #[.string tn, .string un, .slice (some a) ps.length c])
    have HS2 := Lib.hid (HS1.out.step b2)
    have hx2 := HX2.out.lt
    clear b2
    go_upto_region 7 with fail
    rw [← hw2]
    generalize w1.heap.size = xb at *
    clear hw2 HS1 c0' c1' c2' d0 d1 d2
    obtain ⟨_, _, _, d0, d1, d2⟩ := HS2.out.cells
    have hx2' : w.heap.size + 1 + 1 < w2.heap.size := HS2.out.r.lt
    have hx3 : w.heap.size + 1 < w2.heap.size := by omega
    go_wp2_with (at_builtin; refine wpList_append_own _ rfl _ _ 33 rfl w2.heap.size 46 i0 _ 2 32 Tryz.underlying33 hi hz0 hz1 hz2 rfl (by decide) _ _ _ rfl (World.ownsRow_made w2 #[] 0 (Nat.le_refl _) (Nat.zero_le _) rfl) a ps.length c (prmL ps) rfl (by rw [prmL_len]) (HP.out.below ((HS2.out.b).alloc (by omega) _)).cells (prmL_one ps) ?_ ?_ ?_ ?_)
    · unfold maxLen; omega
    · omega
    · simp
    intro v3 w3 hown3 hgrow3 _
    have HO3 := Lib.hid (show w3.ownsRow w2.heap.size 46 2 v3 ps.length (prmL ps) from by simpa using hown3)
    have HB3 := Lib.hid (show Below w2.heap.size w2 w3 from ((Below.refl _ _).alloc (Nat.le_refl _) _).grown hgrow3 (by simp) (fun g hg => by simp [Value.ownBlock] at hg; omega))
    clear hown3 hgrow3
    have hx4 : w2.heap.size ≤ w3.heap.size := HB3.out.size
    go_wp2_with (at_builtin; refine wpList_append_own _ rfl _ _ 33 rfl w2.heap.size 46 i0 _ 2 32 Tryz.underlying33 hi hz0 hz1 hz2 rfl (by decide) _ _ _ rfl (HO3.out.alloc _) ⟨w3.heap.size, 0, none⟩ 1 1 [.string chrS, .string set] rfl rfl ?_ ?_ ?_ ?_ ?_ ?_)
    · intro j u hj
      have hcb := Blk.new w3 46 #[.string chrS, .string set]
      have e : (⟨w3.heap.size, 0, none⟩ : Addr).add j = ⟨w3.heap.size, j, none⟩ := by cases j <;> simp [Addr.add]
      rw [e, hcb.cell]
      simpa using hj
    · intro u hu
      simp at hu
      rcases hu with rfl | rfl <;> rfl
    · unfold maxLen; omega
    · omega
    · simp; omega
    intro v4 w4 hown4 hgrow4 _
    have hown4' : w4.ownsRow w2.heap.size 46 2 v4 (ps ++ [(⟨chrS, set⟩ : Prm)]).length (prmL (ps ++ [⟨chrS, set⟩])) := by rw [prmL_snoc, List.length_append]; exact hown4
    have HB4 := Lib.hid (show Below w2.heap.size w2 w4 from (HB3.out.alloc HB3.out.size _).grown hgrow4 (by simp; omega) (fun g hg => (HO3.out.lt g hg).1))
    obtain ⟨A4, c4, rfl⟩ := own_slc hown4'
    obtain ⟨n, hn⟩ : ∃ n, n = (ps ++ [(⟨chrS, set⟩ : Prm)]).length := ⟨_, rfl⟩
    have HO4 := Lib.hid (show OwnPs w4 w2.heap.size A4 c4 (ps ++ [⟨chrS, set⟩]) from hown4')
    have HN := Lib.hid hn
    rw [← hn]
    clear hown4 hown4' hgrow4 hn HO3
    have HX4 := Lib.hid (HX2.out.below HB4.out hx2)
    have HS4 := Lib.hid (HS2.out.step HB4.out)
    have f2 := HX4.out.frozen 2
    have e2 := HX4.out.cell 2
    clear HB3 HB4 HX2 HS2 d0 d1 d2
    obtain ⟨w5, hw5⟩ : ∃ w5, w5 = w4.setCell ⟨xb, 2, none⟩ (.slice A4 n c4) := ⟨_, rfl⟩
    have HX5 := Lib.hid (show Blk w5 xb 35 #[.string tn, .string un, .slice A4 n c4] from by rw [hw5]; exact HX4.out.set_ 2 _)
    have HS5 := Lib.hid (show StB w tm um A0 n0 c0 tn un (some a) ps.length c w5 from by rw [hw5]; exact HS4.out.set (by omega) _ _)
    have HO5 := Lib.hid (show OwnPs w5 w2.heap.size A4 c4 (ps ++ [⟨chrS, set⟩]) from by rw [hw5]; exact OwnPs.set HO4.out HX4.out _ _)
    have HA5 := Lib.hid (show OwnPs w5 base (some a) c ps from by rw [hw5]; exact OwnPs.set (own_mv HO.out (Mv.of_below HS4.out.b []) (by simp)) HX4.out _ _)
    have hbw : base ≤ w2.heap.size := by omega
    clear HO4 HX4 HS4
    go_upto_region 8 with fail
    rw [← hw5]
    clear hw5 f2 e2
    obtain ⟨_, _, _, d0, d1, d2⟩ := HS5.out.cells
    have x0 := HX5.out.cell 0
    have x1 := HX5.out.cell 1
    have x2 := HX5.out.cell 2
    have HM5 := Lib.hid (HGD.out w5 A4 c4 HO5.out.ps)
    rw [← HN.out] at HM5
    go_wp2_with fail
    refine HM5.out.mono ?_
    rintro e w6 ⟨rfl, b6⟩
    have HS6 := Lib.hid (HS5.out.step b6)
    have HX6 := Lib.hid (HX5.out.below b6 HX5.out.lt)
    have HO6 := Lib.hid (own_mv HO5.out (Mv.of_below b6 []) (by simp))
    have HA6 := Lib.hid (own_mv HA5.out (Mv.of_below b6 []) (by simp))
    clear b6 HS5 HX5 HO5 HA5 HM5 d0 d1 d2 x0 x1 x2
    obtain ⟨_, _, _, d0, d1, d2⟩ := HS6.out.cells
    have x0 := HX6.out.cell 0
    have x1 := HX6.out.cell 1
    have x2 := HX6.out.cell 2
    have r0 := HS6.out.r.cell 0
    have r1 := HS6.out.r.cell 1
    have r2 := HS6.out.r.cell 2
    have z0 := HS6.out.r.frozen 0
    have z1 := HS6.out.r.frozen 1
    have z2 := HS6.out.r.frozen 2
    go_wp2
    refine bodyPost_ret (v := .tuple #[mimV tn un A4 n c4, .string set]) (by simp [results, Tryz.results28, go_sem, r0, r1, r2]; done) rfl ?_
    exact ⟨A4, c4, by rw [HN.out], OwnPs.set3 (own_base HO6.out hbw) HS6.out.r _ _ _, ((HS6.out.b.setCell (by show w.heap.size ≤ w.heap.size + 1 + 1; omega) _).setCell (by show w.heap.size ≤ w.heap.size + 1 + 1; omega) _).setCell (by show w.heap.size ≤ w.heap.size + 1 + 1; omega) _⟩

theorem rstep_any (tm um : ByteArray) (A0 : Option Addr) (n0 c0 : Nat) (set : ByteArray) (nx : Mty) (A : Option Addr) (c base : Nat) (w : World) (h : OwnPs w base A c nx.ps) (hb : base ≤ w.heap.size) (hs : nx.small) (htm : tm.size ≤ 1048576) (hum : um.size ≤ 1048576) (hset : set.size ≤ 1048576) :
    Calls Tryz.prog 28 #[mimV tm um A0 n0 c0, .string set, mimV nx.t nx.u A nx.ps.length c] w (StepOf (stepT tm um set nx) base w) := by
  cases hd : eqS (essS nx.t nx.u) (essS tm um)
  · cases hv : seenB nx.ps chrS
    · exact rstep_far0 tm um A0 n0 c0 set nx A c base w h hb hs htm hum hd hv
    · exact rstep_far1 tm um A0 n0 c0 set nx A c base w h hb hs htm hum hd hv
  · cases hv : seenB nx.ps chrS
    · cases he : (set.toList == [])
      · cases hg : goodM nx.t nx.u (nx.ps ++ [⟨chrS, set⟩])
        · exact rstep_bad tm um A0 n0 c0 set nx A c base w h hb hs htm hum hset hd hv he hg
        · exact rstep_good tm um A0 n0 c0 set nx A c base w h hb hs htm hum hset hd hv he hg
      · exact rstep_none tm um A0 n0 c0 set nx A c base w h hb hs htm hum hset hd hv he
    · exact rstep_seen tm um A0 n0 c0 set nx A c base w h hb hs htm hum hset hd hv

end Go.Proofs.YtmepnfkgfbbkiaaGreat
namespace Go.Proofs.YtmepnfkgfbbkiaaGreat
open Go.RowKit

theorem rparse_not (p : ByteArray) (w : World) (hs : p.size ≤ 1048575) (h : saysB (trimP whiB p) = false) :
    Calls Tryz.prog 23 #[.string p] w (SaysNo w) := (rparse_no p w (by omega) h).mono fun _ _ hh => hh

set_option maxHeartbeats 4000000 in
set_option maxRecDepth 100000 in
theorem rall_any (A : Option Addr) (c : Nat) (xs : List ByteArray) (w : World) (h : TxIn w A xs) (hn : xs.length ≤ 700) (hx : ∀ y ∈ xs, y.size ≤ 1000) :
    Calls Tryz.prog 7 #[.slice A xs.length c] w (NewTys (allT (valsL xs)) w) := by
  obtain ⟨i0, hi, hz0, hz1, hz2⟩ := info_parts Tryz.infoMime
  have HV := Lib.hid (fun W (hW : TxIn W A xs) => rvalues_any A c xs W hW (by omega) hx)
  have hj := joinS_size hx
  have hnb : xs.length * (1000 + 2) ≤ 700 * 1002 := Nat.mul_le_mul hn (Nat.le_refl _)
  obtain ⟨hvs, hvn⟩ := valsL_sizes (n := 701400) (by omega : (joinS xs).size ≤ 701400)
  generalize valsL xs = L at *
  clear hx hj hnb
  have HVS := Lib.hid (fun i (hi : i < L.length) => hvs L[i] (List.getElem_mem hi))
  obtain ⟨Z, hZ⟩ : ∃ Z, Z = allT L := ⟨_, rfl⟩
  rw [← hZ]
  have HZ := Lib.hid hZ
  clear hvs hZ
  go_enter Tryz.func7, Tryz.ntmps7
  obtain ⟨w0, hw0⟩ : ∃ w0, w0 = w.alloc (.cells #[] 35) := ⟨_, rfl⟩
  have HB0 := Lib.hid (show Below w.heap.size w w0 from by rw [hw0]; exact (Below.refl _ _).alloc (Nat.le_refl _) _)
  have HO0 := Lib.hid (show w0.ownsRow w.heap.size 35 3 (.slice (some ⟨w.heap.size, 0, none⟩) 0 0) 0 [] from by rw [hw0]; exact World.ownsRow_made w #[] 0 (Nat.le_refl _) (Nat.zero_le _) rfl)
  have HH := Lib.hid h
  clear h
  go_wp2_with fail
  rw [← hw0]
  clear hw0
  refine (HV.out _ (HH.out.below HB0.out)).mono ?_
  rintro e w1 ⟨v1, rfl, ho, b1⟩
  obtain ⟨B, d, rfl, _, _⟩ := TxIn.of_own ho
  have HS1 := Lib.hid (own_base ho HB0.out.size)
  have HO1 := Lib.hid (own_mv HO0.out (Mv.of_below b1 []) (by simp))
  have HB1 := Lib.hid (below_on HB0.out b1)
  clear ho b1 HV HO0 HB0 HH
  go_wp2
  go_loopw [3, 5] (fun v i wr => ∃ (k : Nat) (R : List Trw), k ≤ L.length ∧ i = .int .i64 k ∧ R.length ≤ k ∧ R.map Trw.m = allT (L.take k) ∧ wr.ownsRow w.heap.size 35 3 v R.length (trwL R) ∧ Rows3 wr w.heap.size R ∧ wr.ownsRow w.heap.size 9 1 (.slice B L.length d) L.length (strs L) ∧ Below w.heap.size w wr) (fun _ i _ => L.length - (intOf i).toNat)
  case atStart => exact ⟨0, [], Nat.zero_le _, rfl, Nat.zero_le _, rfl, HO1.out, Rows3.nil _ _, HS1.out, HB1.out⟩
  case round =>
    obtain ⟨k, R, hk, rfl, hrk, hmap, hown, hrows, hst, hw⟩ := hrel
    have HO := Lib.hid hown
    have HR := Lib.hid hrows
    have HW := Lib.hid hw
    have HMP := Lib.hid hmap
    have HS := Lib.hid hst
    have hws : w.heap.size ≤ wr.heap.size := hw.size
    obtain ⟨B', d', eB, hti, _⟩ := TxIn.of_own hst
    cases eB
    have HTI := Lib.hid hti
    clear hown hrows hw hmap hst hti
    by_cases hlt : k < L.length
    · obtain ⟨g, eB, hg, hck'⟩ := HTI.out k hlt
      subst eB
      have HST := Lib.hid (allT_step hlt)
      have hps := HVS.out k hlt
      generalize L[k] = p at hck' HST hps
      rcases typO_cases p with ⟨t1, t2⟩ | ⟨m, t1, t2, t3⟩ | ⟨m, t1, t2, t3⟩
      · have HPA := Lib.hid (fun W => rparse_not p W (by omega) t1)
        rw [t2] at HST
        have HE := Lib.hid (show R.map Trw.m = allT (L.take (k + 1)) from by rw [HST.out, HMP.out]; simp)
        clear t1 t2 HST HMP
        obtain ⟨ao, n', cap, rfl⟩ := own_slice HO.out
        go_wp2_with fail
        refine (HPA.out _).mono ?_
        rintro e w2 ⟨rfl, b2⟩
        have b3 : Below wr.heap.size wr (w2.alloc (.cells #[.string ⟨#[]⟩, .string ⟨#[]⟩, .slice none 0 0] 35)) := b2.alloc b2.size _
        have HO2 := Lib.hid (own_mv HO.out (Mv.of_below b3 []) (by simp))
        have HR2 := Lib.hid (HR.out.below b3)
        have HS2 := Lib.hid (own_mv HS.out (Mv.of_below b3 []) (by simp))
        have HW2 := Lib.hid (below_on HW.out b3)
        clear b2 b3 HO HR HW HS
        go_wp2
        go_roundw
        case rel => exact ⟨k + 1, R, by omega, by go_num, by omega, HE.out, HO2.out, HR2.out, HS2.out, HW2.out⟩
        case measure => simp [intOf]; omega
      · have HPA := Lib.hid (fun W => t1.rparse W (by omega))
        rw [t3] at HST
        have HE := Lib.hid (show R.map Trw.m = allT (L.take (k + 1)) from by rw [HST.out, HMP.out]; simp)
        have t4 : (m.t.toList == [42]) = true ∧ (m.u.toList == [42]) = true := by rw [anyT_eq, Bool.and_eq_true] at t2; exact t2
        clear t1 t2 t3 HST HMP
        obtain ⟨mt, mu, mp⟩ := m
        obtain ⟨t5, t6⟩ := t4
        simp only at t5 t6
        obtain ⟨ao, n', cap, rfl⟩ := own_slice HO.out
        go_wp2_with fail
        refine (HPA.out _).mono ?_
        rintro e w2 ⟨A2, c2, rfl, ho2, hs2, b2⟩
        have b5 : Below wr.heap.size wr (w2.alloc (.cells #[.string mt, .string mu, .slice A2 mp.length c2] 35)) := b2.alloc b2.size _
        have HO2 := Lib.hid (own_mv HO.out (Mv.of_below b5 []) (by simp))
        have HR2 := Lib.hid (HR.out.below b5)
        have HS2 := Lib.hid (own_mv HS.out (Mv.of_below b5 []) (by simp))
        have HW2 := Lib.hid (below_on HW.out b5)
        clear b2 b5 HO HR HW HS ho2 hs2
        go_wp2
        go_roundw
        case rel => exact ⟨k + 1, R, by omega, by go_num, by omega, HE.out, HO2.out, HR2.out, HS2.out, HW2.out⟩
        case measure => simp [intOf]; omega
      · have HPA := Lib.hid (fun W => t1.rparse W (by omega))
        rw [t3] at HST
        have HE := Lib.hid (show R.map Trw.m ++ [m] = allT (L.take (k + 1)) from by rw [HST.out, HMP.out]; simp)
        have t4 : (m.t.toList == [42]) = false ∨ ((m.t.toList == [42]) = true ∧ (m.u.toList == [42]) = false) := by
          rw [anyT_eq] at t2
          cases h1 : (m.t.toList == [42])
          · exact .inl rfl
          · rw [h1] at t2; exact .inr ⟨rfl, t2⟩
        rcases t4 with t4 | t4
        · skip
          clear t1 t2 t3 HST HMP
          obtain ⟨mt, mu, mp⟩ := m
          have t5 : (mt.toList == [42]) = false := t4
          obtain ⟨ao, n', cap, rfl⟩ := own_slice HO.out
          go_wp2_with fail
          refine (HPA.out _).mono ?_
          rintro e w2 ⟨A2, c2, rfl, ho2, hs2, b2⟩
          have HSM := Lib.hid hs2
          have b5 : Below wr.heap.size wr (w2.alloc (.cells #[.string mt, .string mu, .slice A2 mp.length c2] 35)) := b2.alloc b2.size _
          have b25 : Below w2.heap.size w2 (w2.alloc (.cells #[.string mt, .string mu, .slice A2 mp.length c2] 35)) := (Below.refl _ _).alloc (Nat.le_refl _) _
          have HO2 := Lib.hid (own_mv HO.out (Mv.of_below b5 []) (by simp))
          have HR2 := Lib.hid (HR.out.below b5)
          have HS2 := Lib.hid (own_mv HS.out (Mv.of_below b5 []) (by simp))
          have HP2 := Lib.hid (own_mv (own_base ho2 hws) (Mv.of_below b25 []) (by simp))
          have HW2 := Lib.hid (below_on HW.out b5)
          obtain ⟨w4, hw4⟩ : ∃ w4, w4 = w2.alloc (.cells #[.string mt, .string mu, .slice A2 mp.length c2] 35) := ⟨_, rfl⟩
          have HC4 := Lib.hid (show Blk w4 w2.heap.size 35 _ from by rw [hw4]; exact Blk.new _ _ _)
          rw [← hw4] at HO2 HR2 HS2 HP2 HW2
          have hws4 : w.heap.size ≤ w4.heap.size := HW2.out.size
          clear b2 b5 b25 HO HR HW HS ho2 hs2
          have c0 := HC4.out.cell 0
          have c1 := HC4.out.cell 1
          have c2' := HC4.out.cell 2
          rw [hw4] at c0 c1 c2'
          go_upto_region 7 with fail
          rw [← hw4] at c0 c1 c2' ⊢
          clear hw4
          go_wp2_with (at_builtin; refine wpList_append_own _ rfl _ _ 24 rfl w.heap.size 35 i0 _ 3 56 Tryz.underlying24 hi hz0 hz1 hz2 rfl (by decide) _ _ _ rfl (HO2.out.alloc _) ⟨w4.heap.size, 0, none⟩ 1 1 [.string mt, .string mu, .slice A2 mp.length c2] rfl rfl ?c1 ?c2 ?c3 ?c4 ?c5 ?_)
          case c1 =>
            intro j u hj
            have hcb := Blk.new w4 35 #[.string mt, .string mu, .slice A2 mp.length c2]
            have e : (⟨w4.heap.size, 0, none⟩ : Addr).add j = ⟨w4.heap.size, j, none⟩ := by cases j <;> simp [Addr.add]
            rw [e, hcb.cell]
            simpa using hj
          case c2 =>
            intro u hu
            simp at hu
            rcases hu with rfl | rfl | rfl <;> rfl
          case c3 => unfold maxLen; omega
          case c4 => omega
          case c5 => simp; omega
          intro v' w5 hown' hgrow _
          have HO5 := Lib.hid (show w5.ownsRow w.heap.size 35 3 v' (R ++ [(⟨⟨mt, mu, mp⟩, A2, c2⟩ : Trw)]).length (trwL (R ++ [⟨⟨mt, mu, mp⟩, A2, c2⟩])) from by rw [trwL_snoc, List.length_append]; exact hown')
          have HB5 := Lib.hid (Below.grown (HW2.out.alloc HW2.out.size _) hgrow (by simp; omega) (fun g hg => (HO2.out.lt g hg).1))
          have HR5 := Lib.hid (((HR2.out.below ((Below.refl _ _).alloc (Nat.le_refl _) _)).grown (HO2.out.alloc _) hgrow).snoc (r := ⟨⟨mt, mu, mp⟩, A2, c2⟩) (own_other (own_mv HP2.out (Mv.of_below ((Below.refl _ _).alloc (Nat.le_refl _) _) []) (by simp)) (HO2.out.alloc _) hgrow) HSM.out)
          have HS5 := Lib.hid (own_apart (HS2.out.alloc _) (HO2.out.alloc _) (by decide) hgrow)
          clear hown' hgrow HO2 HR2 HS2 HW2 HP2 HC4 c0 c1 c2'
          go_wp2
          go_roundw
          case rel => exact ⟨k + 1, R ++ [⟨⟨mt, mu, mp⟩, A2, c2⟩], by omega, by go_num, by simp; omega, by rw [List.map_append]; exact HE.out, HO5.out, HR5.out, HS5.out, HB5.out⟩
          case measure => simp [intOf]; omega
        · skip
          clear t1 t2 t3 HST HMP
          obtain ⟨mt, mu, mp⟩ := m
          have t5 : (mt.toList == [42]) = true := t4.1
          have t6 : (mu.toList == [42]) = false := t4.2
          obtain ⟨ao, n', cap, rfl⟩ := own_slice HO.out
          go_wp2_with fail
          refine (HPA.out _).mono ?_
          rintro e w2 ⟨A2, c2, rfl, ho2, hs2, b2⟩
          have HSM := Lib.hid hs2
          have b5 : Below wr.heap.size wr (w2.alloc (.cells #[.string mt, .string mu, .slice A2 mp.length c2] 35)) := b2.alloc b2.size _
          have b25 : Below w2.heap.size w2 (w2.alloc (.cells #[.string mt, .string mu, .slice A2 mp.length c2] 35)) := (Below.refl _ _).alloc (Nat.le_refl _) _
          have HO2 := Lib.hid (own_mv HO.out (Mv.of_below b5 []) (by simp))
          have HR2 := Lib.hid (HR.out.below b5)
          have HS2 := Lib.hid (own_mv HS.out (Mv.of_below b5 []) (by simp))
          have HP2 := Lib.hid (own_mv (own_base ho2 hws) (Mv.of_below b25 []) (by simp))
          have HW2 := Lib.hid (below_on HW.out b5)
          obtain ⟨w4, hw4⟩ : ∃ w4, w4 = w2.alloc (.cells #[.string mt, .string mu, .slice A2 mp.length c2] 35) := ⟨_, rfl⟩
          have HC4 := Lib.hid (show Blk w4 w2.heap.size 35 _ from by rw [hw4]; exact Blk.new _ _ _)
          rw [← hw4] at HO2 HR2 HS2 HP2 HW2
          have hws4 : w.heap.size ≤ w4.heap.size := HW2.out.size
          clear b2 b5 b25 HO HR HW HS ho2 hs2
          have c0 := HC4.out.cell 0
          have c1 := HC4.out.cell 1
          have c2' := HC4.out.cell 2
          rw [hw4] at c0 c1 c2'
          go_upto_region 7 with fail
          rw [← hw4] at c0 c1 c2' ⊢
          clear hw4
          go_wp2_with (at_builtin; refine wpList_append_own _ rfl _ _ 24 rfl w.heap.size 35 i0 _ 3 56 Tryz.underlying24 hi hz0 hz1 hz2 rfl (by decide) _ _ _ rfl (HO2.out.alloc _) ⟨w4.heap.size, 0, none⟩ 1 1 [.string mt, .string mu, .slice A2 mp.length c2] rfl rfl ?c1 ?c2 ?c3 ?c4 ?c5 ?_)
          case c1 =>
            intro j u hj
            have hcb := Blk.new w4 35 #[.string mt, .string mu, .slice A2 mp.length c2]
            have e : (⟨w4.heap.size, 0, none⟩ : Addr).add j = ⟨w4.heap.size, j, none⟩ := by cases j <;> simp [Addr.add]
            rw [e, hcb.cell]
            simpa using hj
          case c2 =>
            intro u hu
            simp at hu
            rcases hu with rfl | rfl | rfl <;> rfl
          case c3 => unfold maxLen; omega
          case c4 => omega
          case c5 => simp; omega
          intro v' w5 hown' hgrow _
          have HO5 := Lib.hid (show w5.ownsRow w.heap.size 35 3 v' (R ++ [(⟨⟨mt, mu, mp⟩, A2, c2⟩ : Trw)]).length (trwL (R ++ [⟨⟨mt, mu, mp⟩, A2, c2⟩])) from by rw [trwL_snoc, List.length_append]; exact hown')
          have HB5 := Lib.hid (Below.grown (HW2.out.alloc HW2.out.size _) hgrow (by simp; omega) (fun g hg => (HO2.out.lt g hg).1))
          have HR5 := Lib.hid (((HR2.out.below ((Below.refl _ _).alloc (Nat.le_refl _) _)).grown (HO2.out.alloc _) hgrow).snoc (r := ⟨⟨mt, mu, mp⟩, A2, c2⟩) (own_other (own_mv HP2.out (Mv.of_below ((Below.refl _ _).alloc (Nat.le_refl _) _) []) (by simp)) (HO2.out.alloc _) hgrow) HSM.out)
          have HS5 := Lib.hid (own_apart (HS2.out.alloc _) (HO2.out.alloc _) (by decide) hgrow)
          clear hown' hgrow HO2 HR2 HS2 HW2 HP2 HC4 c0 c1 c2'
          go_wp2
          go_roundw
          case rel => exact ⟨k + 1, R ++ [⟨⟨mt, mu, mp⟩, A2, c2⟩], by omega, by go_num, by simp; omega, by rw [List.map_append]; exact HE.out, HO5.out, HR5.out, HS5.out, HB5.out⟩
          case measure => simp [intOf]; omega
    · obtain rfl : k = L.length := by omega
      have HE := Lib.hid (show R.map Trw.m = Z from by rw [HZ.out, ← allT_all L]; exact HMP.out)
      go_wp2
      go_ret
      exact ⟨_, R, rfl, HE.out, HO.out, HR.out, HW.out⟩

end Go.Proofs.YtmepnfkgfbbkiaaGreat
