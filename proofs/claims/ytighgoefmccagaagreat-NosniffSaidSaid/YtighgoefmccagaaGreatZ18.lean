/-
  What Get and Combined of package header answer. Conditions: texts are shorter than a mebibyte, headers no more than a mebibyte; for Combined, no more than 1000 of at most 1000 bytes.
  What Clone of the library does with parameters, and what copied of package combine answers. Condition: parameters are as many as a mebibyte has bytes.
  What the document's trim, Split and Same of layer 4 answer. Condition: the text takes at most 2^40 bytes.
-/
import Derived.Test.YtighgoefmccagaaGreatZ16
import Derived.Test.YtighgoefmccagaaGreatZ17
import Derived.Maps.AppendAt
import Derived.Test.YtighgoefmccagaaGreatZ11
import Derived.Test.YtighgoefmccagaaGreatZ12
import Derived.Lib.SliceRun
import Derived.Test.YtighgoefmccagaaGreatZ15
import Derived.Test.YtighgoefmccagaaGreatZ9
namespace Go.Proofs.YtighgoefmccagaaGreat
open Go.RowKit Go.Shelf
attribute [local go_sem] Oper.semAt_some

/-- The iterator's value, and the world in which it was made. -/
abbrev namedF (b : Nat) : Value := .func (.func 47) #[] #[.pointer (some ⟨b, 0, none⟩), .pointer (some ⟨b + 2, 0, none⟩)]
structure NamedAt (W : World) (b c : Nat) (name : ByteArray) (A : Option Addr) (l : List Prm) : Prop where
  lb : Blk W b 22 #[.slice A l.length c]
  nb : Blk W (b + 1) 9 #[.string name]
  fb : Blk W (b + 2) 79 #[namedV (b + 1)]

set_option maxHeartbeats 400000 in
theorem named_any (name : ByteArray) (A : Option Addr) (c : Nat) (l : List Prm) (w : World) :
    Calls Tryz.prog 30 #[.string name, .slice A l.length c] w fun e w' => e = .returned (namedF w.heap.size) ∧ NamedAt w' w.heap.size c name A l ∧ Below w.heap.size w w' ∧ w'.heap.size = w.heap.size + 3 := by
  have hmf := make_func
  have hst : ∀ (w : World) (a : Addr) (fn : Fn) (fi ca : Array Value) (m : Mode), (store a (.func fn fi ca) m).run Tryz.prog w = stored Tryz.prog w a (.func fn fi ca) m := fun w a _ _ _ m => run_store Tryz.prog w a _ m rfl
  go_enter Tryz.func30, Tryz.ntmps30
  go_wp2_with (go_at_call 46; (with_reducible refine (isNamed_any name _).mono ?_); rintro e w1 ⟨rfl, rfl⟩)
  go_ret
  have e1 : ((w.alloc (.cells #[.slice A l.length c] 22)).alloc (.cells #[.string name] 9)).heap.size = w.heap.size + 2 := by simp
  have b2 := Blk.new ((w.alloc (.cells #[.slice A l.length c] 22)).alloc (.cells #[.string name] 9)) 79 #[namedV (w.heap.size + 1)]
  have b1 := (Blk.new (w.alloc (.cells #[.slice A l.length c] 22)) 9 #[.string name]).alloc (.cells #[namedV (w.heap.size + 1)] 79)
  have b0 := ((Blk.new w 22 #[.slice A l.length c]).alloc (.cells #[.string name] 9)).alloc (.cells #[namedV (w.heap.size + 1)] 79)
  rw [e1] at b2
  rw [World.size_alloc] at b1
  exact ⟨rfl, ⟨b0, b1, b2⟩, (((Below.refl _ w).alloc (Nat.le_refl _) _).alloc (by simp) _).alloc (by simp; omega) _, by simp⟩

theorem named_stops (n : Nat) (hn : 1 ≤ n) (b L B c : Nat) (name : ByteArray) (A : Option Addr) (l : List Prm) (hm : name.size ≤ 1048576) (ha : AllIn 1048576 l) (hl : l.length ≤ 1048576) (w : World) (h : NamedAt w b c name A l) (hP : HdIn w A l)
    (hb : b + 2 < B) (hL : L < b) (hA : ∀ a, A = some a → 0 < l.length → a.block < B ∧ a.block ≠ L) :
    SeqStopsK Fence.wide n Tryz.prog 47 #[.pointer (some ⟨b, 0, none⟩), .pointer (some ⟨b + 2, 0, none⟩)] encH (KeepsU B L) (fun xs => xs = l.filter (hasN name)) (fun _ => True) l.length w := fun l' J Jx W hW hJ _ hY h0 =>
  named1_in n hn l' b (b + 2) (b + 1) L B W.heap.size c name A l hm ha hl J Jx hJ hY W (h.lb.below hW h.lb.lt) (h.fb.below hW h.fb.lt) (h.nb.below hW h.nb.lt) (hP.below hW) ⟨hb, by omega⟩ ⟨by omega, by omega⟩ hA h0

theorem Tryz.infoS22 : (Tryz.prog.info? 9).map (fun i => (i.zero, i.size, i.bytes)) = some (some (.string ⟨#[]⟩), 1, 16) := by kernel_rfl
theorem strs_snoc (xs : List ByteArray) (x : ByteArray) : strs (xs ++ [x]) = strs xs ++ [.string x] := by simp [strs]

set_option maxRecDepth 100000 in
set_option maxHeartbeats 4000000 in
theorem hget_any (name : ByteArray) (A : Option Addr) (c : Nat) (l : List Prm) (w : World) (h : HdIn w A l) (ha : AllIn 1048576 l) (hn : l.length ≤ 1048576) (hm : name.size ≤ 1048576) :
    Calls Tryz.prog 20 #[.string name, .slice A l.length c] w fun e w' => ∃ v, e = .returned v ∧ w'.ownsRow w.heap.size 9 1 v (getN name l).length (strs (getN name l)) ∧ Below w.heap.size w w' := by
  obtain ⟨i0, hi, hz0, hz1, hz2⟩ := info_parts Tryz.infoS22
  have HH := Lib.hid h
  have HN := Lib.hid fun n W => callsIn_wide (n := n).2 (named_any name A c l W)
  have HAL := Lib.hid h.lt
  clear h
  refine (callsIn_wide (n := 3)).1 ?_
  refine callsIn_of_wp_marks Tryz.func20 rfl trivial ?_ rfl
  simp only [Tryz.ntmps20, List.size_toArray, List.length_cons, List.length_nil, Nat.reduceAdd, Nat.reduceSub, Array.replicate_succ, Array.replicate_zero, List.push_toArray, List.append_toArray, List.nil_append, List.cons_append]
  have HL0 := Lib.hid (Blk.new w 47 #[.slice none 0 0])
  have HB0 := Lib.hid ((Below.refl w.heap.size w).alloc (Nat.le_refl _) (.cells #[.slice none 0 0] 47))
  gi_wp2_with (refine ⟨trivial, ?_⟩; gi_at_call 30; refine (HN.out _ _).mono ?_; rintro e w1 ⟨rfl, hn1, b1, hs1⟩; have HN1 := Lib.hid hn1; have HL1 := Lib.hid (HL0.out.below b1 HL0.out.lt); have HB1 := Lib.hid (HB0.out.trans (b1.mono HB0.out.size)); have HH1 := Lib.hid ((HH.out.below HB0.out).below b1); have HS1 := Lib.hid hs1; clear hn1 b1 hs1)
  have hL1 := HL1.out
  have hszw : (w.alloc (.cells #[.slice none 0 0] 47)).heap.size = w.heap.size + 1 := by simp
  have hN1 : NamedAt w1 (w.heap.size + 1) c name A l := by rw [← hszw]; exact HN1.out
  have hsz : w1.heap.size = w.heap.size + 4 := by rw [HS1.out, hszw]
  clear HN HL0 HB0 HS1 HN1 hszw
  refine wpIn_rangeFunc_ownH (w0 := w1) rfl (by omega) (gf := 47) (lb := #[.pointer (some ⟨w.heap.size + 1, 0, none⟩), .pointer (some ⟨w.heap.size + 1 + 2, 0, none⟩)]) rfl trivial (enters_of Tryz.func47 (by kernel_rfl) rfl)
    (named_stops 2 (by omega) (w.heap.size + 1) w.heap.size w1.heap.size c name A l hm ha hn w1 hN1 HH1.out (by omega) (by omega) (fun a e h0 => by have := HAL.out a e h0; omega)) keepsU_t (fun W l o o' h1 h2 h3 h4 => keepsU_b W l o o' h1 h2 h3 h4) (Below.refl _ _) (fun _ => rfl)
    (fun pre W => (∃ v, Boxed W w.heap.size 47 v ∧ W.ownsRow w1.heap.size 9 1 v pre.length (strs (pre.map Prm.v)) ∧ True) ∧ (Below w.heap.size w W ∧ w1.heap.size ≤ W.heap.size))
    (fun _ _ _ => False)
    (OwnFrom.and (Own.from (holdsRow_own w1.heap.size w.heap.size 47 9 1 (fun pre : List Prm => pre.length) (fun pre => strs (pre.map Prm.v)) (fun _ _ => True)) _) (OwnFrom.and (ownFrom_below (Nat.le_refl _) (by omega)) (fun s X Y row hs hg hr => Nat.le_trans hs hg.size)))
    (fun _ _ _ _ _ hs _ _ => hs)
    ⟨⟨_, hL1, World.ownsRow_nil _ _ _ _, trivial⟩, HB1.out, Nat.le_refl _⟩
    (fun x a' W => ∃ Bx, w1.heap.size ≤ Bx ∧ Blk W Bx 41 #[.string x.n, .string x.v] ∧ a' = { tmps := #[.string name, .slice A l.length c, undef, undef, .slice none 0 0, .pointer (some ⟨w.heap.size, 0, none⟩), .pointer (some ⟨Bx, 0, none⟩), .string name, .slice A l.length c, namedF (w.heap.size + 1), .agg #[.string x.n, .string x.v], undef, undef, undef, undef, undef, undef], defers := [] })
    (fun x a' s X Y row ⟨Bx, h1, h2, h3⟩ hg hr => ⟨Bx, h1, (blk_own (β := Unit) Bx _ _).from _ s X Y row h2 hg hr, h3⟩) ?assign ?body ?done ?stop
  case assign =>
    rintro l' pre x W K ⟨⟨v, hv, hrow, _⟩, hB, hs⟩ hK
    gi_wp2
    exact hK _ _ ((KeepsOthers.alloc _ _).from _) (keepsU_below ((Below.refl _ W).alloc hs _)) ⟨⟨v, hv.alloc _, hrow.alloc _, trivial⟩, hB.alloc (by omega) _, by simp; omega⟩ ⟨W.heap.size, hs, Blk.new W _ _, rfl⟩
  case body =>
    rintro l' pre x a' W hl ⟨r, hr⟩ ⟨⟨v, hv, hrow, _⟩, hB, hs⟩ ⟨Bx, hBx, hbx, rfl⟩ hlt
    have c1 := hbx.cell 1
    have hvc := hv.cell
    have hvl : v.ownBlock ≠ some w.heap.size := fun e => by have := (hrow.lt _ e).1; omega
    have HROW := Lib.hid hrow
    have HV := Lib.hid hv
    have hpl : pre.length < l.length := hlt
    clear hrow hv hr
    obtain ⟨ao, n', cap, rfl⟩ := own_slice HROW.out
    gi_wp2_with (gi_at_builtin; refine wpListIn_append_own _ rfl _ _ 47 rfl w1.heap.size 9 i0 _ 1 16 Tryz.underlying47 hi hz0 hz1 hz2 rfl (by decide) _ _ _ rfl (HROW.out.alloc _) ⟨W.heap.size, 0, none⟩ 1 1 [.string x.v] rfl rfl (cell_one_new _ _ _) (by simp [Value.oneCell']) (by unfold maxLen; omega) (by omega) (by simp; omega) ?_; intro v' w2 hown' hgrow _; obtain ⟨g', cap', rfl⟩ := ownsRow_succ hown'; obtain ⟨hv1, hv2, hr2, hk2, hb2⟩ := HV.out.appended (by decide) (own_base HROW.out (by omega)) hB.size (Nat.le_refl _) (own_base hown' (by omega)) hgrow; have hc1 := hv1.cell; have hf1 := hv1.frozen)
    have hrow2 := hown'.kept (grownBy_setCell' w2 w.heap.size (.slice (some ⟨g', 0, none⟩) (pre.length + 1) cap')) (.inr (hv1.not_row (by decide) hown').symm)
    have hmv := boxed_mv (L := w.heap.size) (v' := .slice (some ⟨g', 0, none⟩) (pre.length + 1) cap') HROW.out hs hgrow
    have HE := Lib.hid (show strs ((pre ++ [x]).map Prm.v) = strs (pre.map Prm.v) ++ [.string x.v] from by rw [List.map_append]; exact strs_snoc _ _)
    have HE2 := Lib.hid (show (pre ++ [x]).length = pre.length + 1 from by simp)
    refine ⟨hk2.from _, keepsU_mv hmv, ⟨⟨_, hv2, ?_, trivial⟩, hB.trans hb2, Nat.le_trans hs hmv.size⟩⟩
    rw [HE.out, HE2.out]
    exact hrow2
  case done =>
    rintro D xs W hD rfl ⟨⟨v, hv, hrow, _⟩, hB, hs⟩ hK
    have hvc := hv.cell
    have HROW := Lib.hid hrow
    have HV := Lib.hid hv
    clear hrow hv
    obtain ⟨ao, n', cap, rfl⟩ := own_slice HROW.out
    gi_wp2
    refine ⟨by simp, .inl ⟨_, _, rfl, run_takeDeferred hK, ?_⟩⟩
    exact ⟨_, results_tmp rfl _ _ _, _, rfl, (show (getN name l).length = (l.filter (hasN name)).length from by unfold getN; rw [List.length_map]) ▸ own_base (ownsRow_putObj HROW.out _ hK rfl) (by omega), hB.trans (belowK_b (w := w) (Nat.le_refl _) W D _ _ (by omega) hK rfl rfl)⟩
  case stop =>
    rintro D c pre W _ _ h _
    exact h.elim

theorem getN_le {name : ByteArray} {l : List Prm} {m : Nat} (h : ∀ p ∈ l, p.v.size ≤ m) : ∀ y ∈ getN name l, y.size ≤ m := fun y hy => by
  unfold getN at hy
  obtain ⟨p, hp, rfl⟩ := List.mem_map.1 hy
  exact h p (List.mem_filter.1 hp).1

set_option maxHeartbeats 1000000 in
theorem combined_any (name : ByteArray) (A : Option Addr) (c : Nat) (l : List Prm) (w : World) (h : HdIn w A l) (ha : AllIn 1000 l) (hn : l.length ≤ 1000) (hm : name.size ≤ 1048576) :
    Calls Tryz.prog 31 #[.string name, .slice A l.length c] w fun e w' => e = .returned (.tuple #[.string (joinS (getN name l)), .bool (decide (0 < (getN name l).length))]) ∧ Below w.heap.size w w' := by
  have HG := Lib.hid (hget_any name A c l w h (fun p hp => ⟨by have := (ha p hp).1; omega, by have := (ha p hp).2; omega⟩) (by omega) hm)
  have HX := Lib.hid (getN_le (name := name) fun p hp => (ha p hp).2)
  have hl := Nat.le_trans (getN_len name l) hn
  generalize getN name l = xs at *
  obtain ⟨z, hz⟩ : ∃ z, z = joinS xs := ⟨_, rfl⟩
  rw [← hz]
  have HZ := Lib.hid hz
  clear h ha hz
  go_enter Tryz.func31, Tryz.ntmps31
  go_wp2_with fail
  refine HG.out.mono ?_
  rintro e w1 ⟨v, rfl, ho, b1⟩
  obtain ⟨A', c', rfl, ht, hc⟩ := TxIn.of_own ho
  have HB1 := Lib.hid b1
  have HJ := Lib.hid (show Calls Tryz.prog 48 #[.slice A' xs.length c'] w1 fun e w' => e = .returned (.string z) ∧ Below w1.heap.size w1 w' from by rw [HZ.out]; exact cjoin_any A' c' xs w1 ht hl HX.out hc)
  clear ho ht b1 HG HX
  go_wp2_with fail
  refine HJ.out.mono ?_
  rintro e w2 ⟨rfl, b2⟩
  have HB2 := Lib.hid (below_on HB1.out b2)
  clear b2
  go_wp2
  go_ret2
  exact ⟨rfl, HB2.out⟩

end Go.Proofs.YtighgoefmccagaaGreat
namespace Go.Proofs.YtighgoefmccagaaGreat
open Go.RowKit

theorem own_ne {w : World} {B size : Nat} {e T : TypeId} {v : Value} {n : Nat} {xs : List Value} {b : Nat} {cs : Array Value} (hown : w.ownsRow B e size v n xs) (hb : Blk w b T cs) (hTe : T ≠ e) : v.ownBlock ≠ some b := by
  rcases hown.2 with ⟨rfl, _⟩ | ⟨g, cap, cur, rfl, _, hg, _⟩
  · intro h; cases h
  · intro h
    cases h
    have h2 : w.heap[g]? = _ := hb
    rw [hg] at h2
    injection h2 with h2
    injection h2 with _ h9
    exact hTe h9.symm
/-- Parameters stay while a type's box is written. -/
theorem OwnPs.set {w : World} {base c b : Nat} {A : Option Addr} {ps : List Prm} {cs : Array Value} (h : OwnPs w base A c ps) (hb : Blk w b 26 cs) (i : Nat) (v : Value) : OwnPs (w.setCell ⟨b, i, none⟩ v) base A c ps := by
  have hne := own_ne h hb (by decide)
  exact own_mv h ((Mv.refl _ [b] _).setCell (.inl (by simp)) _) (by simpa using hne)
theorem OwnPs.set3 {w : World} {base c b : Nat} {A : Option Addr} {ps : List Prm} {x0 x1 x2 : Value} (h : OwnPs w base A c ps) (hb : Blk w b 26 #[x0, x1, x2]) (y0 y1 y2 : Value) :
    OwnPs (((w.setCell ⟨b, 0, none⟩ y0).setCell ⟨b, 1, none⟩ y1).setCell ⟨b, 2, none⟩ y2) base A c ps :=
  ((h.set hb 0 y0).set (hb.set_ 0 y0) 1 y1).set ((hb.set_ 0 y0).set_ 1 y1) 2 y2

set_option maxHeartbeats 1000000 in
theorem clone_any (A : Option Addr) (c : Nat) (ps : List Prm) (w : World) (h : PsIn w A ps) (hn : ps.length ≤ 1048576) :
    Calls Tryz.prog 67 #[.slice A ps.length c] w fun e w' => ∃ A' c', e = .returned (.slice A' ps.length c') ∧ OwnPs w' w.heap.size A' c' ps ∧ Below w.heap.size w w' := by
  obtain ⟨i0, hi, hz0, hz1, hz2⟩ := info_parts Tryz.infoPrm
  have hq : ∀ (w : World) (a : Option Addr) (l c : Nat), (binOp .eql 24 (.slice a l c) (.slice none 0 0)).run Tryz.prog w = .ok (.bool a.isNone) w := fun w a l c => Lib.run_eql_slice_nil w _ _ a l c 0 0 Tryz.underlying24
  have HP := Lib.hid h
  clear h
  cases A with
  | none =>
    have hps : ps = [] := by
      cases ps with
      | nil => rfl
      | cons q r =>
        obtain ⟨g, e, _⟩ := HP.out 0 (by simp)
        cases e
    subst hps
    go_enter Tryz.func67, Tryz.ntmps67
    go_wp2
    go_ret
    exact ⟨none, 0, rfl, World.ownsRow_nil _ _ _ _, Below.refl _ _⟩
  | some a =>
    go_enter Tryz.func67, Tryz.ntmps67
    go_wp2_with (at_builtin; refine wpList_append_own _ rfl _ _ 24 rfl w.heap.size 51 i0 _ 2 32 Tryz.underlying24 hi hz0 hz1 hz2 rfl (by decide) _ _ _ rfl (World.ownsRow_made w #[] 0 (Nat.le_refl _) (Nat.zero_le _) rfl) a ps.length c (prmL ps) rfl (by rw [prmL_len]) (HP.out.below ((Below.refl _ _).alloc (Nat.le_refl _) _)).cells (prmL_one ps) ?_ ?_ ?_ ?_)
    · unfold maxLen; omega
    · omega
    · simp
    · intro v' w1 hown hgrow _
      have ho : w1.ownsRow w.heap.size 51 2 v' ps.length (prmL ps) := by simpa using hown
      obtain ⟨A', c', rfl⟩ := own_slc ho
      have HO := Lib.hid ho
      have HB := Lib.hid (((Below.refl w.heap.size w).alloc (Nat.le_refl _) _).grown hgrow (by simp) (fun g hg => by simp [Value.ownBlock] at hg; omega))
      clear ho hown hgrow
      go_wp2
      go_ret
      exact ⟨A', c', rfl, HO.out, HB.out⟩

set_option maxHeartbeats 1000000 in
theorem copied_any (t u : ByteArray) (A : Option Addr) (c : Nat) (ps : List Prm) (w : World) (h : PsIn w A ps) (hn : ps.length ≤ 1048576) :
    Calls Tryz.prog 44 #[mimV t u A ps.length c] w fun e w' => ∃ A' c', e = .returned (mimV t u A' ps.length c') ∧ OwnPs w' w.heap.size A' c' ps ∧ Below w.heap.size w w' := by
  obtain ⟨w0, hw0⟩ : ∃ w0, w0 = (w.alloc (.cells #[.string t, .string u, .slice A ps.length c] 26)).alloc (.cells #[.string ⟨#[]⟩, .string ⟨#[]⟩, .slice none 0 0] 26) := ⟨_, rfl⟩
  have HB0 := Lib.hid (show Below w.heap.size w w0 from by rw [hw0]; exact ((Below.refl w.heap.size w).alloc (Nat.le_refl _) _).alloc (by simp) _)
  have HP0 := Lib.hid (show Blk w0 w.heap.size 26 #[.string t, .string u, .slice A ps.length c] from by rw [hw0]; exact (Blk.new _ _ _).alloc _)
  have HR0 := Lib.hid (show Blk w0 (w.heap.size + 1) 26 #[.string ⟨#[]⟩, .string ⟨#[]⟩, .slice none 0 0] from by
    have := Blk.new (w.alloc (.cells #[.string t, .string u, .slice A ps.length c] 26)) 26 #[.string ⟨#[]⟩, .string ⟨#[]⟩, .slice none 0 0]
    rw [hw0]
    simpa using this)
  have HC := Lib.hid (clone_any A c ps w0 (h.below HB0.out) hn)
  have hlt0 : w.heap.size + 1 < w0.heap.size := HR0.out.lt
  clear h
  have c0 := HP0.out.cell 0
  have c1 := HP0.out.cell 1
  have c2 := HP0.out.cell 2
  go_enter Tryz.func44, Tryz.ntmps44
  go_wp2_with fail
  rw [← hw0]
  clear hw0
  refine HC.out.mono ?_
  rintro e w1 ⟨A', c', rfl, ho1, b1⟩
  have HO1 := Lib.hid ho1
  have HB1 := Lib.hid (below_on HB0.out b1)
  have HP1 := Lib.hid (HP0.out.below b1 HP0.out.lt)
  have HR1 := Lib.hid (HR0.out.below b1 HR0.out.lt)
  clear ho1 b1 HB0 HP0 HR0 c0 c1 c2 HC
  have c0 := HP1.out.cell 0
  have c1 := HP1.out.cell 1
  have c2 := HP1.out.cell 2
  have z2 := HP1.out.frozen 2
  have d0 := HR1.out.cell 0
  have d1 := HR1.out.cell 1
  have d2 := HR1.out.cell 2
  have y0 := HR1.out.frozen 0
  have y1 := HR1.out.frozen 1
  have y2 := HR1.out.frozen 2
  go_wp2
  refine bodyPost_ret (v := mimV t u A' ps.length c') (by simp [results, Tryz.results44, go_sem, d0, d1, d2]; done) rfl ?_
  have hm : Mv w1.heap.size [w.heap.size, w.heap.size + 1] w1 ((((w1.setCell ⟨w.heap.size, 2, none⟩ (.slice A' ps.length c')).setCell ⟨w.heap.size + 1, 0, none⟩ (.string t)).setCell ⟨w.heap.size + 1, 1, none⟩ (.string u)).setCell ⟨w.heap.size + 1, 2, none⟩ (.slice A' ps.length c')) := ((((Mv.refl _ _ _).setCell (.inl (by simp)) _).setCell (.inl (by simp)) _).setCell (.inl (by simp)) _).setCell (.inl (by simp)) _
  refine ⟨A', c', rfl, own_base (own_keep HO1.out hm (by simp; omega)) (by omega), ?_⟩
  exact (((HB1.out.setCell (by exact Nat.le_refl _) _).setCell (by show w.heap.size ≤ w.heap.size + 1; omega) _).setCell (by show w.heap.size ≤ w.heap.size + 1; omega) _).setCell (by show w.heap.size ≤ w.heap.size + 1; omega) _

end Go.Proofs.YtighgoefmccagaaGreat
namespace Go.Proofs.YtighgoefmccagaaGreat
open Go.RowKit

theorem run_all {p : UInt8 → Bool} {s : ByteArray} : ∀ (n i j : Nat), j = i + n → j < scan p s i → (hj : j < s.size) → p s[j] = true
  | 0, i, j, e, h, hj => by
    obtain rfl : j = i := by omega
    cases hp : p s[j]
    · rw [scan_stop hj hp] at h; omega
    · rfl
  | n + 1, i, j, e, h, hj => by
    have hi : i < s.size := by omega
    cases hp : p s[i]
    · rw [scan_stop hi hp] at h; omega
    · exact run_all n (i + 1) j (by omega) (by rw [scan_step hi hp]; exact h) hj
theorem run_is {p : UInt8 → Bool} {s : ByteArray} : ∀ (n i j : Nat), j = i + n → j ≤ s.size → (∀ k (hk : k < s.size), i ≤ k → k < j → p s[k] = true) → (∀ h : j < s.size, p s[j] = false) → scan p s i = j
  | 0, i, j, e, hj, _, h2 => by
    obtain rfl : j = i := by omega
    rcases Nat.lt_or_ge j s.size with h | h
    · exact scan_stop h (h2 h)
    · exact scan_end (by omega)
  | n + 1, i, j, e, hj, h1, h2 => by
    have hi : i < s.size := by omega
    rw [← scan_step hi (h1 i hi (Nat.le_refl _) (by omega))]
    exact run_is n (i + 1) j (by omega) hj (fun k hk a b => h1 k hk (by omega) b) h2
/-- Bytes that may be passed over anyhow. -/
theorem run_over {p : UInt8 → Bool} {s : ByteArray} : ∀ (n i j : Nat), j = i + n → j ≤ s.size → (∀ k (hk : k < s.size), i ≤ k → k < j → p s[k] = true) → scan p s i = scan p s j
  | 0, i, j, e, _, _ => by obtain rfl : j = i := by omega
                           rfl
  | n + 1, i, j, e, hj, h1 => by
    have hi : i < s.size := by omega
    rw [← scan_step hi (h1 i hi (Nat.le_refl _) (by omega))]
    exact run_over n (i + 1) j (by omega) hj (fun k hk a b => h1 k hk (by omega) b)
theorem back_is {p : UInt8 → Bool} {s : ByteArray} : ∀ (k m : Nat), k ≤ s.size → m ≤ k → (m = 0 ∨ ∃ h : m - 1 < s.size, p s[m - 1] = false) → (∀ i (hi : i < s.size), m ≤ i → i < k → p s[i] = true) → backN p s k = m
  | 0, m, _, hm, _, _ => by obtain rfl : m = 0 := by omega
                            rfl
  | k + 1, m, hk, hm, h1, h2 => by
    have hks : k < s.size := by omega
    rcases Nat.lt_or_ge m (k + 1) with h | h
    · rw [backN_step hks (h2 k hks (by omega) (by omega))]
      exact back_is k m (by omega) (by omega) h1 (fun i hi a b => h2 i hi a (by omega))
    · obtain rfl : m = k + 1 := by omega
      rcases h1 with h1 | ⟨h3, h1⟩
      · omega
      · exact backN_stop hks h1
theorem back_all {p : UInt8 → Bool} {s : ByteArray} : ∀ (k i : Nat), k ≤ s.size → backN p s k ≤ i → i < k → (hi : i < s.size) → p s[i] = true
  | k + 1, i, hk, h1, h2, hi => by
    have hks : k < s.size := by omega
    cases hp : p s[k]
    · rw [backN_stop hks hp] at h1; omega
    · rw [backN_step hks hp] at h1
      rcases Nat.lt_or_ge i k with h | h
      · exact back_all k i (by omega) h1 h hi
      · obtain rfl : i = k := by omega
        exact hp

theorem ext_get {s : ByteArray} {a b i : Nat} (h : i < (s.extract a b).size) (h2 : a + i < s.size) : (s.extract a b)[i] = s[a + i] := by
  rw [← getElem!_pos _ i h, ← getElem!_pos s (a + i) h2, extract_at h]
theorem ext_size (s : ByteArray) {a b : Nat} (h : b ≤ s.size) : (s.extract a b).size = b - a := by simp; omega

/-- A text without what may go at its front. -/
def frontP (p : UInt8 → Bool) (s : ByteArray) : ByteArray := s.extract (scan p s 0) s.size
theorem front_get {p : UInt8 → Bool} {s : ByteArray} {i : Nat} (h : i < (frontP p s).size) (h2 : scan p s 0 + i < s.size) : (frontP p s)[i] = s[scan p s 0 + i] := ext_get (s := s) (a := scan p s 0) (b := s.size) h h2
/-- Where what may go at the front ends, in a part of a text. -/
theorem run_part {p : UInt8 → Bool} {s : ByteArray} {f i : Nat} (hf : f ≤ i) (hi : i ≤ s.size) (h : scan p s f ≤ i) : scan p (s.extract f i) 0 = scan p s f - f := by
  have hz := ext_size s (a := f) hi
  have hg := scan_ge p s f
  refine run_is (scan p s f - f) 0 _ (by omega) (by omega) (fun k hk _ h2 => ?_) (fun hl => ?_)
  · rw [ext_get hk (by omega)]
    exact run_all k f (f + k) rfl (by omega) (by omega)
  · rw [ext_get hl (by omega)]
    have e : f + (scan p s f - f) = scan p s f := by omega
    simp only [e]
    exact scan_at (by omega) (by omega)
theorem none_eq {a b : ByteArray} (h : a.size = 0) (h' : b.size = 0) : a = b := by
  apply ByteArray.ext
  rw [Array.eq_empty_of_size_eq_zero (show a.data.size = 0 from h), Array.eq_empty_of_size_eq_zero (show b.data.size = 0 from h')]
theorem front_cut (p : UInt8 → Bool) (x : ByteArray) : frontP p (cutP p x) = cutP p (frontP p x) := by
  have hb := backN_le p x x.size
  have hle := scan_le p x 0 (Nat.zero_le _)
  have hzc := cutP_size p x
  have hzf : (frontP p x).size = x.size - scan p x 0 := ext_size x (Nat.le_refl _)
  rcases Nat.lt_or_ge (scan p x 0) x.size with h | h
  · have hat := scan_at (p := p) (Nat.zero_le _) h
    -- the cut lies behind the first byte that stays
    have hab : scan p x 0 < backN p x x.size := by
      rcases Nat.lt_or_ge (scan p x 0) (backN p x x.size) with h2 | h2
      · exact h2
      · rw [back_all x.size _ (Nat.le_refl _) h2 h h] at hat; cases hat
    have e1 : scan p (cutP p x) 0 = scan p x 0 := run_part (Nat.zero_le _) hb (by omega)
    have e2 : backN p (frontP p x) (frontP p x).size = backN p x x.size - scan p x 0 := by
      refine back_is _ _ (Nat.le_refl _) (by omega) (.inr ?_) (fun i hi h1 h2 => ?_)
      · have hl : backN p x x.size - scan p x 0 - 1 < (frontP p x).size := by omega
        refine ⟨hl, ?_⟩
        rw [front_get hl (by omega)]
        have e : scan p x 0 + (backN p x x.size - scan p x 0 - 1) = backN p x x.size - 1 := by omega
        simp only [e]
        rcases backN_at p x x.size with h3 | h3
        · omega
        · rw [getElem!_pos x _ (by omega)] at h3
          exact h3
      · rw [front_get hi (by omega)]
        exact back_all x.size _ (Nat.le_refl _) (by omega) (by omega) (by omega)
    have l1 : frontP p (cutP p x) = (cutP p x).extract (scan p x 0) (backN p x x.size) := by
      unfold frontP
      rw [e1, hzc]
    have r1 : cutP p (frontP p x) = (frontP p x).extract 0 (backN p x x.size - scan p x 0) := by
      rw [← e2]; rfl
    rw [l1, r1]
    have l2 : (cutP p x).extract (scan p x 0) (backN p x x.size) = x.extract (scan p x 0) (backN p x x.size) := by
      have h1 : cutP p x = x.extract 0 (backN p x x.size) := rfl
      rw [h1, ByteArray.extract_extract, Nat.zero_add, Nat.zero_add, Nat.min_self]
    have r2 : (frontP p x).extract 0 (backN p x x.size - scan p x 0) = x.extract (scan p x 0) (backN p x x.size) := by
      have h1 : frontP p x = x.extract (scan p x 0) x.size := rfl
      have h2 : scan p x 0 + (backN p x x.size - scan p x 0) = backN p x x.size := by omega
      rw [h1, ByteArray.extract_extract, Nat.add_zero, h2, Nat.min_eq_left hb]
    rw [l2, r2]
  · have e0 : backN p x x.size = 0 := back_is _ _ (Nat.le_refl _) (Nat.zero_le _) (.inl rfl) (fun i hi _ _ => run_all i 0 i (by omega) (by omega) hi)
    have z1 : (frontP p (cutP p x)).size = 0 := by
      unfold frontP
      have := scan_le p (cutP p x) 0 (Nat.zero_le _)
      rw [ext_size _ (Nat.le_refl _)]; omega
    have z2 : (cutP p (frontP p x)).size = 0 := by
      have := cutP_le p (frontP p x)
      omega
    exact none_eq z1 z2

theorem tab_goes (b : UInt8) : (!tabB b || !hasB stopP b) = true := bytes_all (p := fun b => !tabB b || !hasB stopP b) (by kernel_rfl) b
theorem pEnd_run {s : ByteArray} {k j : Nat} (hk : k ≤ s.size) (hj : j ≤ s.size) (h : runP s k = runP s j) : pEnd s k = pEnd s j := by
  rw [pEnd_step hk, pEnd_step hj, h]
theorem pEnd_from {s : ByteArray} {k : Nat} (hk : k ≤ s.size) : pEnd s (pFrom s k) = pEnd s k := by
  have h1 := pFrom_ge s k
  have h2 := pFrom_le hk
  refine (pEnd_run hk h2 ?_).symm
  refine run_over (pFrom s k - k) k (pFrom s k) (by omega) h2 (fun i hi a b => ?_)
  have h3 := run_all (p := tabB) (i - k) k i (by omega) b hi
  have h4 := tab_goes s[i]
  rw [h3] at h4
  simpa using h4
theorem pTo_is {s : ByteArray} {k : Nat} (hk : k ≤ s.size) : pTo s k = pEnd s k := pEnd_from hk
theorem piece_is {s : ByteArray} {k : Nat} (hk : k ≤ s.size) : piece s k = frontP tabB (cutP tabB (s.extract k (pEnd s k))) := by
  rw [front_cut]
  have h1 := pFrom_ge s k
  have h2 := pEnd_ge (pFrom_le hk)
  rw [pEnd_from hk] at h2
  have h3 := pEnd_le hk
  unfold piece frontP
  rw [pTo_is hk, run_part (by omega) h3 h2, ext_size s h3, ByteArray.extract_extract]
  congr 2 <;> (show _ = _) <;> first | (show pFrom s k = _; unfold pFrom at h1 ⊢; omega) | omega
theorem pEnd_over {s : ByteArray} {k : Nat} (h : k < s.size) (h1 : s[k].toNat ≠ 34) (h2 : s[k].toNat ≠ 44) : pEnd s (k + 1) = pEnd s k := by
  refine pEnd_run h (Nat.le_of_lt h) (scan_step h ?_)
  rw [stopP_has]
  simp [h1, h2]
theorem runP_here {s : ByteArray} {k : Nat} (h : k < s.size) (h1 : s[k].toNat = 34 ∨ s[k].toNat = 44) : runP s k = k := by
  refine scan_stop h ?_
  rw [stopP_has]
  rcases h1 with h1 | h1 <;> simp [h1]
theorem pEnd_here {s : ByteArray} {k : Nat} (h : k < s.size) (h1 : s[k].toNat = 44) : pEnd s k = k := by
  have e := runP_here h (.inr h1)
  have := pEnd_comma (Nat.le_of_lt h) (by rw [e]; exact h) (by simp only [e]; exact h1)
  rw [this, e]
theorem pEnd_read {s : ByteArray} {k : Nat} (h : k < s.size) (h1 : s[k].toNat = 34) : pEnd s (k + 1 + (quoS s (k + 1)).2) = pEnd s k := by
  have e := runP_here h (.inl h1)
  have := pEnd_quote (Nat.le_of_lt h) (by rw [e]; exact h) (by simp only [e]; exact h1)
  rw [this, e]
theorem pEnd_stop (s : ByteArray) : pEnd s s.size = s.size := pEnd_end (Nat.le_refl _) (scan_end rfl)

set_option maxHeartbeats 2000000 in
theorem rtrim_any (s : ByteArray) (w : World) (hs : s.size ≤ 9223372036854775807) :
    Calls Tryz.prog 60 #[.string s] w fun e w' => e = .returned (.string (frontP tabB (cutP tabB s))) ∧ w = w' := by
  have HE := Lib.hid (refEnds_any s w hs)
  have hz := cutP_le tabB s
  obtain ⟨e, he⟩ : ∃ e, e = cutP tabB s := ⟨_, rfl⟩
  rw [← he] at HE hz ⊢
  clear he
  obtain ⟨z, hZ⟩ : ∃ z, z = frontP tabB e := ⟨_, rfl⟩
  rw [← hZ]
  have HZ := Lib.hid hZ
  clear hZ
  go_enter Tryz.func60, Tryz.ntmps60
  go_wp2_with fail
  refine HE.out.mono ?_
  rintro e' w' ⟨rfl, rfl⟩
  go_wp2
  go_loop [0] (fun i => ∃ (k : Nat) (x : ByteArray), k ≤ e.size ∧ i = .string x ∧ x = e.extract k e.size ∧ scan tabB e k = scan tabB e 0) (fun i => strLen i)
  case atStart => exact ⟨0, e, Nat.zero_le _, rfl, (extract_all e).symm, rfl⟩
  case round =>
    obtain ⟨k, x, hk, rfl, hx, hb⟩ := hrel
    have HB := Lib.hid hb
    have HX := Lib.hid hx
    clear hb
    have hzx : x.size = e.size - k := by rw [hx]; simp
    have hzs : x.size ≤ 9223372036854775807 := by omega
    clear hx
    by_cases hlt : k < e.size
    · have hx0 : 0 < x.size := by omega
      have HZZ := Lib.hid hzx
      clear hzx
      have g1 : (0 : Int) < (x.size : Int) := by omega
      have HA := Lib.hid (show x[0] = e[k] from by
        rw [← getElem!_pos x 0 hx0, ← getElem!_pos e k hlt, HX.out, extract_at (by rw [← HX.out]; exact hx0), Nat.add_zero])
      have HL := Lib.hid (fun W => refTab_any x[0] W)
      cases hb : tabB x[0]
      · have HT := Lib.hid (show z = x from by rw [HZ.out]; unfold frontP; rw [← HB.out, scan_stop hlt (by rw [← HA.out]; exact hb), HX.out])
        have HL2 : Hid (∀ W, Calls Tryz.prog 85 #[.int .u8 (x[0].toNat : Int)] W fun e w' => e = .returned (.bool false) ∧ W = w') := fun W => by have := HL.out W; rwa [hb] at this
        clear HL hb
        go_wp2_with (go_at_call 85; refine (HL2.out _).mono ?_; rintro e w' ⟨rfl, rfl⟩)
        go_ret
        exact ⟨by rw [HT.out]; rfl, rfl⟩
      · have HN := Lib.hid (scan_step hlt (by rw [← HA.out]; exact hb))
        have HL2 : Hid (∀ W, Calls Tryz.prog 85 #[.int .u8 (x[0].toNat : Int)] W fun e w' => e = .returned (.bool true) ∧ W = w') := fun W => by have := HL.out W; rwa [hb] at this
        have HTL := Lib.hid (show x.extract 1 x.size = e.extract (k + 1) e.size from by rw [HX.out]; exact extract_tail hlt)
        have hzt : (x.extract 1 x.size).size = x.size - 1 := ext_size x (Nat.le_refl _)
        clear HL hb
        go_wp2_with (go_at_call 85; refine (HL2.out _).mono ?_; rintro e w' ⟨rfl, rfl⟩)
        go_round
        case rel => exact ⟨k + 1, _, by omega, rfl, HTL.out, by rw [HN.out, HB.out]⟩
        case measure => simp [strLen]; omega
    · have HT := Lib.hid (show z = x from by
        have hke : k = e.size := by omega
        rw [HZ.out]; unfold frontP
        have := HX.out
        rw [← HB.out, scan_end hke, this])
      have hx0 : ¬ 0 < x.size := by omega
      have g1 : ¬ (0 : Int) < (x.size : Int) := by omega
      go_wp2
      go_ret
      exact ⟨by rw [HT.out]; rfl, rfl⟩

end Go.Proofs.YtighgoefmccagaaGreat
