/-
  What package header's loop over the headers of a name is handed: they, one behind the other. Conditions: texts are shorter than a mebibyte; the loop's body keeps what lies below a block, but for one.
  What While does to a cursor where it is asked of class.Tab. Conditions as in Cursor.
  What takePiece does to a cursor, and what layer 4's Split answers. Condition: the text takes at most 2^45 bytes.
-/
import Derived.Test.YtighgoefmccagaaZ15
import Derived.RangeFuncNested
import Derived.RangeFuncBound
import Derived.RangeFuncCalls
import Derived.RangeFuncLeaves
import Derived.Shelf.Abstract
import Derived.Shelf.RegionOpen
import Derived.WalkKit
import Derived.OwnWalkIn
import Derived.TacticsInMore
import Derived.LoopNIn
import Derived.LoopIn
import Derived.Test.YtighgoefmccagaaZ3
import Derived.Test.YtighgoefmccagaaZ6
import Derived.Test.YtighgoefmccagaaZ4
import Derived.OneCell
import Derived.Test.YtighgoefmccagaaZ7
import Derived.Test.YtighgoefmccagaaZ9
import Derived.OwnWalk
import Derived.Laws.OwnMore
namespace Go.Proofs.Ytighgoefmccagaa
open Go.RowKit Go.Shelf
attribute [local go_sem] Oper.semAt_some

/-- What a round keeps: all below block B but block L. -/
def KeepsU (B L : Nat) (W W' : World) : Prop := ∀ g, g < B → g ≠ L → W'.heap[g]? = W.heap[g]?
theorem keepsU_t {B L : Nat} {X Y Z : World} (h : KeepsU B L X Y) (k : KeepsU B L Y Z) : KeepsU B L X Z := fun g h1 h2 => (k g h1 h2).trans (h g h1 h2)
theorem keepsU_b {B L : Nat} (W : World) (l : Nat) (o o' : Obj) (hB : B ≤ l) (_ : W.heap[l]? = some o) (_ : o.isCells = false) (_ : o.isWalk = false) : KeepsU B L W (W.putObj l o') := fun g h1 _ => World.putObj_heap_other (by omega)
theorem keepsU_below {B L : Nat} {W W' : World} (h : Below B W W') : KeepsU B L W W' := fun g h1 _ => h.block g h1
theorem keepsU_mv {B L : Nat} {W W' : World} (h : Mv B [L] W W') : KeepsU B L W W' := fun g h1 h2 => h.block g h1 (by simpa using h2)
theorem Blk.ku {B L : Nat} {W W' : World} {g : Nat} {T : TypeId} {cs : Array Value} (h : Blk W g T cs) (k : KeepsU B L W W') (hg : g < B) (hL : g ≠ L) : Blk W' g T cs := (k g hg hL).trans h
theorem HdIn.ku {B L : Nat} {W W' : World} {A : Option Addr} {l : List Prm} (h : HdIn W A l) (k : KeepsU B L W W') (hA : ∀ a, A = some a → 0 < l.length → a.block < B ∧ a.block ≠ L) : HdIn W' A l := fun i hi => by
  obtain ⟨a, e, hl, h0, h1⟩ := h i hi
  have hb := hA a e (by omega)
  have e1 := k a.block hb.1 hb.2
  refine ⟨a, e, ?_, ?_, ?_⟩
  · rcases Nat.lt_or_ge a.block W'.heap.size with h2 | h2
    · exact h2
    · rw [Array.getElem?_eq_none h2, Array.getElem?_eq_getElem hl] at e1
      cases e1
  · refine (World.cell?_of_block (w := W) ?_).trans h0
    rw [madd_block]; exact e1
  · refine (World.cell?_of_block (w := W) (a := ⟨(a.add (i * 2)).block, (a.add (i * 2)).off + 1, none⟩) ?_).trans h1
    show W'.heap[(a.add (i * 2)).block]? = W.heap[(a.add (i * 2)).block]?
    rw [madd_block]; exact e1
theorem abidesA_step {β : Type} {B : Nat} {J : β → World → Prop} (h : AbidesFrom B J) {x : β} {W W' : World} (hj : J x W) (hb : Below W.heap.size W W') : J x W' :=
  h x W W' none hj ⟨hb.os, hb.tape, hb.output, hb.size, fun i hi _ => hb.block i hi⟩ (fun r e => by cases e)

theorem HdIn.lt {w : World} {A : Option Addr} {l : List Prm} (h : HdIn w A l) : ∀ a, A = some a → 0 < l.length → a.block < w.heap.size := fun a e hl => by
  obtain ⟨a', e', h1, _⟩ := h 0 hl
  rw [e] at e'
  cases e'
  exact h1

abbrev encH (p : Prm) : Array Value := #[.agg #[.string p.n, .string p.v]]

theorem filt_yes {q : Prm → Bool} {l : List Prm} {k : Nat} (hk : k < l.length) (h : q l[k] = true) : (l.take (k + 1)).filter q = (l.take k).filter q ++ [l[k]] := by
  rw [List.take_succ_eq_append_getElem hk, List.filter_append]
  simp [h]
theorem filt_no {q : Prm → Bool} {l : List Prm} {k : Nat} (hk : k < l.length) (h : q l[k] = false) : (l.take (k + 1)).filter q = (l.take k).filter q := by
  rw [List.take_succ_eq_append_getElem hk, List.filter_append]
  simp [h]
theorem filt_len (q : Prm → Bool) (l : List Prm) (k : Nat) (hk : k < l.length) : ((l.take k).filter q).length < l.length :=
  Nat.lt_of_le_of_lt (Nat.le_trans List.filter_sublist.length_le (List.length_take_le _ _)) hk

set_option maxHeartbeats 4000000 in
set_option maxRecDepth 100000 in
/-- The iterator, for every loop body that keeps what is not its own. -/
theorem named1_in (n : Nat) (hn : 1 ≤ n) (l Lb Fb Nb L B B0 c : Nat) (name : ByteArray) (A : Option Addr) (ps : List Prm) (hm : name.size ≤ 1048576) (ha : AllIn 1048576 ps) (hl : ps.length ≤ 1048576) (J Jx : List Prm → World → Prop) (hJ : AbidesFrom B0 J)
    (hY : ∀ pre x W, J pre W → pre.length < ps.length → YieldAt Fence.wide (n - 1) Try.prog l (encH x) W fun e W' =>
      (e = .returned (.bool true) ∧ J (pre ++ [x]) W' ∧ KeepsU B L W W') ∨ (e = .returned (.bool false) ∧ Jx (pre ++ [x]) W'))
    (W : World) (hLb : Blk W Lb 22 #[.slice A ps.length c]) (hFb : Blk W Fb 91 #[namedV Nb]) (hNb : Blk W Nb 9 #[.string name]) (hP : HdIn W A ps)
    (hF : Fb < B ∧ Fb ≠ L) (hN : Nb < B ∧ Nb ≠ L) (hA : ∀ a, A = some a → 0 < ps.length → a.block < B ∧ a.block ≠ L) (h0 : J [] W) :
    CallsIn Fence.wide n Try.prog 52 #[.func (.yield l) #[] #[], .pointer (some ⟨Lb, 0, none⟩), .pointer (some ⟨Fb, 0, none⟩)] W fun e W' => (∃ v, e = .returned v) ∧
      ((∃ xs, xs = ps.filter (hasN name) ∧ J xs W') ∨ (∃ pre, True ∧ Jx pre W')) := by
  have HY := Lib.hid hY
  have HJ := Lib.hid hJ
  have H0 := Lib.hid h0
  have HP := Lib.hid hP
  have HA := Lib.hid ha
  have HAA := Lib.hid hA
  have HFb := Lib.hid hFb
  have HNb := Lib.hid hNb
  have cL := hLb.cell 0
  clear hY hJ h0 hP ha hA hFb hNb hLb
  refine callsIn_of_wp Try.func52 rfl trivial ?_ rfl
  simp only [Try.ntmps52, List.size_toArray, List.length_cons, List.length_nil, Nat.reduceAdd, Nat.reduceSub, Array.replicate_succ, Array.replicate_zero, List.push_toArray, List.append_toArray, List.nil_append, List.cons_append]
  gi_wp2
  gi_loopw [8] (fun i wr => ∃ k : Nat, k ≤ ps.length ∧ i = .int .i64 (k : Nat) ∧ Hid (J ((ps.take k).filter (hasN name)) wr) ∧ Hid (Blk wr Fb 91 #[namedV Nb]) ∧ Hid (Blk wr Nb 9 #[.string name]) ∧ Hid (HdIn wr A ps)) (fun i _ => ps.length - (intOf i).toNat)
  case atStart => exact ⟨0, by omega, rfl, H0, HFb, HNb, HP⟩
  case round =>
    obtain ⟨k, hk, rfl, HJk, HF2, HN2, HP2⟩ := hrel
    clear HFb HNb HP H0 cL
    by_cases hlt : k < ps.length
    · obtain ⟨a, rfl, hal, c0, c1⟩ := HP2.out k hlt
      have hsz := HA.out.at_ hlt
      have HLN := Lib.hid (filt_len (hasN name) ps k hlt)
      have HYK := Lib.hid (fun W hj => HY.out ((ps.take k).filter (hasN name)) ps[k] W hj HLN.out)
      have HL1 := Lib.hid (show hasN name ps[k] = true → _ from filt_yes hlt)
      have HL2 := Lib.hid (show hasN name ps[k] = false → _ from filt_no hlt)
      obtain ⟨p, hp⟩ : ∃ p, ps[k] = p := ⟨_, rfl⟩
      rw [hp] at c0 c1 hsz HYK HL1 HL2
      clear hp
      obtain ⟨pn, pv⟩ := p
      simp only at c0 c1 hsz
      have HC := Lib.hid (fun W (h : W.cell? ⟨Nb, 0, none⟩ = some (.string name)) => callsIn_wide (n := n - 1).2 (isNamed1_any Nb name pn pv W h (by omega) (by omega)))
      have b0 : Below wr.heap.size wr (wr.alloc (.cells #[.string pn, .string pv] 33)) := (Below.refl _ _).alloc (Nat.le_refl _) _
      have cF : (wr.alloc (.cells #[.string pn, .string pv] 33)).cell? ⟨Fb, 0, none⟩ = some (namedV Nb) := (HF2.out.below b0 HF2.out.lt).cell 0
      have cN : (wr.alloc (.cells #[.string pn, .string pv] 33)).cell? ⟨Nb, 0, none⟩ = some (.string name) := (HN2.out.below b0 HN2.out.lt).cell 0
      have HB0 := Lib.hid b0
      have hFl := HF2.out.lt
      clear b0
      cases hb : hasN name ⟨pn, pv⟩
      · rw [hb] at HC
        have HL := Lib.hid (HL2.out hb)
        clear hb HL1 HL2 HYK HY
        gi_wp2_with (first | (with_reducible refine And.intro ?_ ?_; focus (intro f h; cases h)) | (refine ⟨trivial, ?_⟩; gi_at_call 73; refine (HC.out _ cN).mono ?_; rintro e w3 ⟨rfl, b3⟩; have HB3 := Lib.hid (HB0.out.trans (b3.mono (by simp))); clear b3))
        go_roundw
        case rel => exact ⟨k + 1, by omega, by go_num, by rw [HL.out]; exact abidesA_step HJ.out HJk.out HB3.out, HF2.out.below HB3.out HF2.out.lt, HN2.out.below HB3.out HN2.out.lt, HP2.out.below HB3.out⟩
        case measure => simp [intOf]; omega
      · rw [hb] at HC
        have HL := Lib.hid (HL1.out hb)
        clear hb HL1 HL2 HY
        have HX0 := Lib.hid (Blk.new wr 33 #[.string pn, .string pv])
        gi_wp2_with (first | (with_reducible refine And.intro ?_ ?_; focus (intro f h; cases h)) | (refine ⟨trivial, ?_⟩; gi_at_call 73; refine (HC.out _ cN).mono ?_; rintro e w3 ⟨rfl, b3⟩; have HB3 := Lib.hid (HB0.out.trans (b3.mono (by simp))); have x0 : w3.cell? ⟨wr.heap.size, 0, none⟩ = some (.string pn) := (HX0.out.below b3 (by simp)).cell 0; have x1 : w3.cell? ⟨wr.heap.size, 1, none⟩ = some (.string pv) := (HX0.out.below b3 (by simp)).cell 1; clear b3; obtain ⟨f2, t2, a2, y2, hy2, hR2⟩ := HYK.out w3 (abidesA_step HJ.out HJk.out HB3.out); dsimp only [encH] at hy2))
        refine hR2.mono ?_
        rintro e W3 (⟨rfl, hJ3, hk3⟩ | ⟨rfl, hx3⟩)
        · have HF3 := Lib.hid ((HF2.out.below HB3.out HF2.out.lt).ku hk3 hF.1 hF.2)
          have HN3 := Lib.hid ((HN2.out.below HB3.out HN2.out.lt).ku hk3 hN.1 hN.2)
          have HP3 := Lib.hid ((HP2.out.below HB3.out).ku hk3 HAA.out)
          have HJ3 := Lib.hid hJ3
          clear hk3 hJ3
          gi_wp2
          go_roundw
          case rel => exact ⟨k + 1, by omega, by go_num, by rw [HL.out]; exact HJ3.out, HF3, HN3, HP3⟩
          case measure => simp [intOf]; omega
        · gi_wp2
          refine bodyPost_ret (results_none rfl _ _ _) rfl ?_
          exact ⟨⟨_, rfl⟩, .inr ⟨_, trivial, hx3⟩⟩
    · obtain rfl : k = ps.length := by omega
      have HE := Lib.hid (show (ps.take ps.length).filter (hasN name) = ps.filter (hasN name) from by rw [List.take_length])
      gi_wp2
      go_end0
      exact ⟨⟨_, rfl⟩, .inl ⟨_, rfl, by rw [← HE.out]; exact HJk.out⟩⟩

theorem blk_own {β : Type} (B : Nat) (t : TypeId) (cs : Array Value) : Own (fun (_ : β) W => Blk W B t cs) := fun s X Y row hs hg hrow =>
  (hg.block B (Blk.lt hs) (fun e' => by obtain ⟨o, ho, hc⟩ := hrow B e'.symm; rw [show X.heap[B]? = _ from hs] at ho; cases ho; cases hc)).trans hs

/-- A list that grows in a box: nothing below its row's base has turned but the box. -/
theorem boxed_mv {W w1 : World} {base L : Nat} {e : TypeId} {size : Nat} {v v' : Value} {k : Nat} {xs : List Value} {tmp : Obj} (hrow : W.ownsRow base e size v k xs) (hb : base ≤ W.heap.size) (hgrow : (W.alloc tmp).grownBy w1 v.ownBlock) : Mv base [L] W (w1.setCell ⟨L, 0, none⟩ v') := by
  have h1 : Mv base [L] W (W.alloc tmp) := (Mv.refl _ _ _).alloc hb _
  have h2 : Mv base [L] (W.alloc tmp) w1 := ⟨hgrow.os, hgrow.tape, hgrow.output, hgrow.size, fun k hk _ => hgrow.block k (by simp; omega) (fun e => by have := (hrow.lt k e.symm).1; omega)⟩
  exact (h1.trans h2).setCell (.inl (by simp)) _

end Go.Proofs.Ytighgoefmccagaa
namespace Go.Proofs.Ytighgoefmccagaa
open Go.RowKit

abbrev fn_tab : Value := .func (.func 39) #[] #[]

set_option maxHeartbeats 1000000 in
theorem while1_tab (tb pb fb cb k j : Nat) (s : ByteArray) (w : World) (h : Cur w cb s k) (ht : w.heap[tb]? = some (.cells #[.int .i64 j] 3 (0, 0))) (hp : w.cell? ⟨pb, 0, none⟩ = some (cptr cb)) (hf : w.cell? ⟨fb, 0, none⟩ = some fn_tab)
    (hj : j ≤ s.size) (hs : s.size ≤ 9223372036854775807) (n1 : tb ≠ pb) (n2 : tb ≠ fb) (n3 : tb ≠ cb) :
    Calls Try.prog 55 #[.pointer (some ⟨tb, 0, none⟩), .pointer (some ⟨pb, 0, none⟩), .pointer (some ⟨fb, 0, none⟩)] w fun e w' => e = .returned (.tuple #[]) ∧ Mv w.heap.size [tb] w w' ∧ w'.heap[tb]? = some (.cells #[.int .i64 (scan tabB s j : Nat)] 3 (0, 0)) := by
  go_enter Try.func55, Try.ntmps55
  go_wp2
  have hc0 := h.c0
  have lt : tb < w.heap.size := lt_of_block ht
  have lp : pb < w.heap.size := World.block_lt_of_cell? w _ hp
  have lf : fb < w.heap.size := World.block_lt_of_cell? w _ hf
  have lc : cb < w.heap.size := h.lt
  go_loopw [3] (fun _ wr => ∃ i : Nat, j ≤ i ∧ i ≤ s.size ∧ scan tabB s i = scan tabB s j ∧ wr.heap[tb]? = some (.cells #[.int .i64 i] 3 (0, 0)) ∧ Mv w.heap.size [tb] w wr) (fun _ wr => s.size - cellNat wr tb)
  case atStart => exact ⟨j, by omega, hj, rfl, ht, Mv.refl _ _ _⟩
  case round =>
    obtain ⟨i, hi, hi2, hsc, hti, hm⟩ := hrel
    have d0 : wr.cell? ⟨tb, 0, none⟩ = some (.int .i64 i) := by simp [World.cell?, hti]
    have dz : wr.frozen? ⟨tb, 0, none⟩ = false := by simp [World.frozen?, hti]
    have d1 : wr.cell? ⟨pb, 0, none⟩ = some (cptr cb) := (hm.cell (p := ⟨pb, 0, none⟩) lp (by simpa using n1.symm)).trans hp
    have d2 : wr.cell? ⟨fb, 0, none⟩ = some fn_tab := (hm.cell (p := ⟨fb, 0, none⟩) lf (by simpa using n2.symm)).trans hf
    have d3 : wr.cell? ⟨cb, 0, none⟩ = some (.string s) := (hm.cell (p := ⟨cb, 0, none⟩) lc (by simpa using n3.symm)).trans hc0
    have HS := Lib.hid hsc
    have HT := Lib.hid hti
    have HM := Lib.hid hm
    clear hsc hti hm h ht hp hf hc0
    by_cases hlt : i < s.size
    · have e1 : decide (i < s.size) = true := by simpa using hlt
      have HL := fun W => tab_any s[i] W
      cases hb : tabB s[i]
      · have HF : Hid (scan tabB s i = i) := scan_stop hlt hb
        rw [hb] at HL
        have HL2 := Lib.hid HL
        clear HL hb
        go_wp2
        go_quiet ((go_at_call 39; exact Calls.quiet_of_same ((HL2.out _).mono fun _ _ h => ⟨h.1, h.2.symm⟩)))
        go_wp2
        go_end0
        refine ⟨rfl, HM.out.drewN _, ?_⟩
        rw [← HS.out, HF.out]
        exact HT.out
      · have HF : Hid (scan tabB s (i + 1) = scan tabB s i) := scan_step hlt hb
        rw [hb] at HL
        have HL2 := Lib.hid HL
        clear HL hb
        go_wp2
        go_quiet ((go_at_call 39; exact Calls.quiet_of_same ((HL2.out _).mono fun _ _ h => ⟨h.1, h.2.symm⟩)))
        go_wp2
        go_roundw
        case rel => exact ⟨i + 1, by omega, by omega, HF.out.trans HS.out, one_setCell HT.out, (HM.out.drewN _).setCell (.inl (by simp)) _⟩
        case measure => rw [cellNat_of HT.out]; refine Nat.lt_of_le_of_lt (Nat.le_of_eq (congrArg (s.size - ·) (cellNat_of (n := i + 1) (one_setCell HT.out)))) ?_; show s.size - (i + 1) < s.size - i; omega
    · obtain rfl : i = s.size := by omega
      have HF : Hid (scan tabB s s.size = s.size) := scan_end rfl
      go_wp2
      go_quiet (fail)
      go_wp2
      go_end0
      refine ⟨rfl, HM.out.drewN _, ?_⟩
      rw [← HS.out, HF.out]
      exact HT.out

theorem enter_while1_tab (a b c : Value) (w : World) : (callFunc 55 (#[] ++ #[a, b, c])).run Try.prog w = .ok (.enter 55 (#[] ++ #[a, b, c])) w := by simp [go_sem]

theorem catch_while1_tab (tb pb fb cb k : Nat) (s : ByteArray) (w : World) (h : Cur w cb s k) (ht : w.heap[tb]? = some (.cells #[.int .i64 k] 3 (0, 0))) (hp : w.cell? ⟨pb, 0, none⟩ = some (cptr cb)) (hf : w.cell? ⟨fb, 0, none⟩ = some fn_tab)
    (hk : k ≤ s.size) (hs : s.size ≤ 9223372036854775807) (n1 : tb ≠ pb) (n2 : tb ≠ fb) (n3 : tb ≠ cb) :
    Calls Try.prog 54 #[.func (.func 55) #[] #[.pointer (some ⟨tb, 0, none⟩), .pointer (some ⟨pb, 0, none⟩), .pointer (some ⟨fb, 0, none⟩)]] w fun e w' =>
      e = .returned (.tuple #[flt 0 0, .bool false]) ∧ Mv w.heap.size [tb] w w' ∧ w'.heap[tb]? = some (.cells #[.int .i64 (scan tabB s k : Nat)] 3 (0, 0)) := by
  have lt : tb < w.heap.size := lt_of_block ht
  refine catch_mv_returns 55 #[] #[.pointer (some ⟨tb, 0, none⟩), .pointer (some ⟨pb, 0, none⟩), .pointer (some ⟨fb, 0, none⟩)] w [tb] (fun W => W.heap[tb]? = some (.cells #[.int .i64 (scan tabB s k : Nat)] 3 (0, 0)))
    (one_lt' lt) (fun W1 W2 hb h1 => (hb.block tb lt).trans h1) (enter_while1_tab _ _ _) fun W hW => ?_
  refine (while1_tab tb pb fb cb k k s W (h.below hW h.lt) ((hW.block tb lt).trans ht) ((hW.cell (p := ⟨pb, 0, none⟩) (World.block_lt_of_cell? w _ hp)).trans hp) ((hW.cell (p := ⟨fb, 0, none⟩) (World.block_lt_of_cell? w _ hf)).trans hf) hk hs n1 n2 n3).mono ?_
  rintro e w' ⟨rfl, h1, h2⟩
  exact ⟨⟨_, rfl⟩, h1, h2⟩

set_option maxHeartbeats 1000000 in
theorem while_tab (cb k : Nat) (s : ByteArray) (w : World) (h : Cur w cb s k) (hk : k ≤ s.size) (hs : s.size ≤ 9223372036854775807) :
    Calls Try.prog 38 #[cptr cb, fn_tab] w fun e w' => e = .returned (.string (s.extract k (scan tabB s k))) ∧ Mv w.heap.size [cb] w w' ∧ Cur w' cb s (scan tabB s k) := by
  have hq := eq_fn_nil
  have hmf := make_func
  have c1 := h.c1
  have lc := h.lt
  have lc1 : cb < w.heap.size + 1 := by omega
  have lc2 : cb < w.heap.size + 1 + 1 := by omega
  have HC := Lib.hid h
  clear h
  go_enter Try.func38, Try.ntmps38
  go_wp2
  go_region
  have hW : Below w.heap.size w ((((w.alloc (.cells #[cptr cb] 58)).alloc (.cells #[fn_tab] 75)).alloc (.cells #[.int .i64 k] 3)).drew) :=
    ((((Below.refl _ _).alloc (Nat.le_refl _) _).alloc (by simp) _).alloc (by simp; omega) _).drew
  have hc3 := HC.out.below hW lc
  have ht3 : ((((w.alloc (.cells #[cptr cb] 58)).alloc (.cells #[fn_tab] 75)).alloc (.cells #[.int .i64 k] 3)).drew).heap[w.heap.size + 1 + 1]? = some (.cells #[.int .i64 k] 3 (0, 0)) := by
    have := Blk.new ((w.alloc (.cells #[cptr cb] 58)).alloc (.cells #[fn_tab] 75)) 3 #[.int .i64 k]
    have h0 : (((w.alloc (.cells #[cptr cb] 58)).alloc (.cells #[fn_tab] 75)).alloc (.cells #[.int .i64 k] 3)).heap[w.heap.size + 1 + 1]? = some (.cells #[.int .i64 k] 3 (0, 0)) := by simpa [Blk] using this
    exact h0
  go_wp2_with fail
  refine (catch_while1_tab (w.heap.size + 1 + 1) w.heap.size (w.heap.size + 1) cb k s _ hc3 ht3 (by simp [go_sem]) (by simp [go_sem]) hk hs (by omega) (by omega) (by omega)).mono ?_
  rintro e w1 ⟨rfl, hm, ht1⟩
  have hz := hm.size
  simp at hz
  have e0 : w1.cell? ⟨w.heap.size, 0, none⟩ = some (cptr cb) := by rw [hm.cell (by simp; omega) (by simp; omega)]; simp [go_sem]
  have e1 : w1.cell? ⟨w.heap.size + 1 + 1, 0, none⟩ = some (.int .i64 (scan tabB s k : Nat)) := cell_of_one ht1
  have hc4 : Cur w1 cb s k := hc3.mv hm (by simp; omega) (by simp; omega)
  have d1 := hc4.c1
  have z1 := hc4.frozen 1
  have hc5 : Cur (w1.setCell ⟨cb, 1, none⟩ (.int .i64 k)) cb s k := hc4.set k
  have HP := Lib.hid (passTo_any cb k (scan tabB s k) s _ hc5 (scan_ge _ _ _) (scan_le _ _ _ hk) hs)
  have HM := Lib.hid (hW.trans (hm.below (B' := w.heap.size) (by simp; omega) (by simp; omega)))
  have HC4 := Lib.hid hc4
  have ncb : (⟨w.heap.size, 0, none⟩ : Addr) ≠ ⟨cb, 1, none⟩ := by simp
  have ncb2 : (⟨w.heap.size + 1 + 1, 0, none⟩ : Addr) ≠ ⟨cb, 1, none⟩ := by simp
  clear hW hc3 ht3 hm ht1 hc4 hc5 hq hmf
  go_wp2_with (go_at_call 56; refine HP.out.mono ?_; rintro e w2 ⟨rfl, hw2⟩; have HW2 := Lib.hid hw2; clear hw2)
  go_ret
  have hset : Cur ((w1.setCell ⟨cb, 1, none⟩ (.int .i64 k)).setCell ⟨cb, 1, none⟩ (.int .i64 (scan tabB s k : Nat))) cb s (scan tabB s k) := (HC4.out.set k).set _
  refine ⟨rfl, ?_, ?_⟩
  · rw [HW2.out]
    exact ((Mv.of_below HM.out _).setCell (.inl (by simp)) _).setCell (.inl (by simp)) _
  · rw [HW2.out]
    exact hset

end Go.Proofs.Ytighgoefmccagaa
namespace Go.Proofs.Ytighgoefmccagaa
open Go.RowKit

theorem peek0_ok (cb k : Nat) (s : ByteArray) (w : World) (h : Cur w cb s k) (hs : s.size ≤ 9223372036854775807) (hk : k < s.size) :
    Calls Try.prog 42 #[cptr cb, .int .i64 0] w fun e w' => e = .returned (.tuple #[.int .u8 (s[k].toNat : Int), .bool true]) ∧ ∃ m, w' = w.drewN m := by
  have := peek_ok cb k 0 s w h hs (by omega)
  simpa using this
theorem peek0_far (cb k : Nat) (s : ByteArray) (w : World) (h : Cur w cb s k) (hk : k = s.size) (hs : s.size ≤ 9223372036854775807) :
    Calls Try.prog 42 #[cptr cb, .int .i64 0] w fun e w' => e = .returned (.tuple #[.int .u8 0, .bool false]) ∧ ∃ m, w' = w.drewN m :=
  peek_far cb k s 0 w h (by omega) hs (by omega) (by omega)

theorem bytes_join {s : ByteArray} {a b c : Nat} (h1 : a ≤ b) (h2 : b ≤ c) : (s.extract a b).data.toList ++ (s.extract b c).data.toList = (s.extract a c).data.toList := by
  rw [← ByteArray.toList_data_append]
  rw [ByteArray.extract_append_extract, Nat.min_eq_left h1, Nat.max_eq_right h2]
theorem bytes_back (s : ByteArray) : (⟨s.data.toList.toArray⟩ : ByteArray) = s := by
  cases s; simp

set_option maxHeartbeats 2000000 in
theorem takePiece_any (cb k1 : Nat) (s : ByteArray) (w : World) (h : Cur w cb s k1) (hk1 : k1 ≤ s.size) (hs : s.size ≤ 35184372088832) :
    Calls Try.prog 30 #[cptr cb] w fun e w' => e = .returned (.string (piece s k1)) ∧ Mv w.heap.size [cb] w w' ∧ Cur w' cb s (pTo s k1) := by
  have hs' : s.size ≤ 9223372036854775807 := by omega
  have lc := h.lt
  have HW : Hid (Calls Try.prog 38 #[cptr cb, fn_tab] w fun e w' => e = .returned (.string (s.extract k1 (pFrom s k1))) ∧ Mv w.heap.size [cb] w w' ∧ Cur w' cb s (pFrom s k1)) := while_tab cb k1 s w h hk1 hs'
  have hf := pFrom_le hk1
  have HP := Lib.hid (show pTo s k1 = pEnd s (pFrom s k1) from rfl)
  have HQ := Lib.hid (show piece s k1 = cutP tabB (s.extract (pFrom s k1) (pEnd s (pFrom s k1))) from rfl)
  obtain ⟨k0, hk0⟩ : ∃ k0, k0 = pFrom s k1 := ⟨_, rfl⟩
  rw [← hk0] at HW hf HP HQ
  clear h hk0
  go_enter Try.func30, Try.ntmps30
  go_wp2_with fail
  refine HW.out.mono ?_
  rintro e w1 ⟨rfl, m1, c1⟩
  have HN := Lib.hid (Bld.new w1)
  have hz := m1.size
  have lc1 : cb < w1.heap.size := by omega
  have HM1 := Lib.hid m1
  have HC1 := Lib.hid c1
  clear m1 c1 HW hz
  go_wp2
  go_loopw [8] (fun _ wr => ∃ (k : Nat), k0 ≤ k ∧ k ≤ s.size ∧ Cur wr cb s k ∧ Bld w1.heap.size w1.heap.size (s.extract k0 k).data.toList wr ∧ Mv w.heap.size [cb] w wr ∧ w1.heap.size ≤ wr.heap.size ∧ pEnd s k = pEnd s k0) (fun _ wr => s.size - curAt wr cb)
  case atStart => exact ⟨k0, Nat.le_refl _, hf, HC1.out.alloc _, by rw [bytes_extract_none]; exact HN.out, HM1.out.alloc HM1.out.size _, by simp, rfl⟩
  case round =>
    obtain ⟨k, hk0, hk, hc, hb, hm, hz, hp⟩ := hrel
    have hge := runP_ge s k
    have hle := runP_le s k hk
    have HU : Hid (Calls Try.prog 41 #[cptr cb, .string ⟨#[34, 44]⟩] wr fun e w' => e = .returned (.string (s.extract k (runP s k))) ∧ Mv wr.heap.size [cb] wr w' ∧ Cur w' cb s (runP s k)) := until_any cb k s stopP wr hc hk hs' (by rw [stopP_size]; omega)
    obtain ⟨j, hj⟩ : ∃ j, j = runP s k := ⟨_, rfl⟩
    have HJ := Lib.hid (fun h : runP s k < s.size => runP_at hk h)
    have HE1 := Lib.hid (fun h : runP s k = s.size => (pEnd_end hk h).symm.trans hp)
    have HE2 := Lib.hid (fun (h : runP s k < s.size) (e : s[runP s k].toNat = 44) => (pEnd_comma hk h e).symm.trans hp)
    have HE3 := Lib.hid (fun (h : runP s k < s.size) (e : s[runP s k].toNat = 34) => (pEnd_quote hk h e).symm.trans hp)
    rw [← hj] at hge hle HU HJ HE1 HE2 HE3
    clear hj hp
    have hx : (s.extract k0 k).data.toList.length + (s.extract k j).size ≤ 140737488355328 := by simp; omega
    have HWS := Lib.hid (fun W h1 h2 => writeString_any w1.heap.size w1.heap.size (s.extract k0 k).data.toList (s.extract k j) W h1 hx h2)
    rw [bytes_join hk0 hge] at HWS
    have HX := Lib.hid (show (s.extract k0 j).data.toList.length ≤ s.size from by simp; omega)
    have HBK := Lib.hid (bytes_back (s.extract k0 j))
    have HJN := Lib.hid (fun c (h : j ≤ c) => bytes_join (s := s) (a := k0) (b := j) (c := c) (by omega) h)
    obtain ⟨l2, hl2⟩ : ∃ l2, l2 = (s.extract k0 j).data.toList := ⟨_, rfl⟩
    rw [← hl2] at HWS HX HBK HJN
    obtain ⟨x, hxx⟩ : ∃ x, x = s.extract k j := ⟨_, rfl⟩
    rw [← hxx] at HU HWS
    have HM := Lib.hid hm
    have HB := Lib.hid hb
    have HA := Lib.hid (curAt_of hc)
    have HZ := Lib.hid hz
    clear hx hb hm hc hl2 hxx hz
    go_wp2_with fail
    refine HU.out.mono ?_
    rintro e w2 ⟨rfl, m2, c2⟩
    have HB2 := Lib.hid (HB.out.mv m2 (by simpa using lc1))
    have HM2 := Lib.hid (HM.out.chain m2 (Nat.le_refl _))
    have HZ2 := Lib.hid (Nat.le_trans HZ.out m2.size)
    have HC2 := Lib.hid c2
    clear m2 c2
    go_wp2_with fail
    refine (HWS.out _ HB2.out HZ2.out).mono ?_
    rintro e w3 ⟨rfl, b3, m3⟩
    have HB3 := Lib.hid b3
    have HM3 := Lib.hid (HM2.out.trans (Mv.of_below (m3.mono (B' := w.heap.size) (by have := HM1.out.size; omega)) [cb]))
    have HZ3 := Lib.hid (Nat.le_trans HZ2.out m3.size)
    have HC3 := Lib.hid (Blk.below HC2.out m3 lc1)
    have HEN : Hid (∀ W, Calls Try.prog 43 #[.string ⟨l2.toArray⟩] W fun e w' => e = .returned (.string (cutP tabB (s.extract k0 j))) ∧ W = w') := fun W => by
      rw [HBK.out]
      exact ends_any (s.extract k0 j) W (by simp; omega)
    clear b3 m3 HB2 HM2 HC2 HU HWS HBK
    by_cases hjs : j = s.size
    · have HQ1 := hjs.trans (HE1.out hjs)
      have HPC := Lib.hid (show piece s k1 = cutP tabB (s.extract k0 j) from by rw [HQ.out, ← HQ1])
      have HPT := Lib.hid (show pTo s k1 = j from by rw [HP.out, ← HQ1])
      clear HQ1
      have HK := Lib.hid (fun W (hW : Cur W cb s j) => peek0_far cb j s W hW hjs hs')
      clear hjs
      go_wp2_with fail
      refine (HK.out _ HC3.out).mono ?_
      rintro e w4 ⟨rfl, i4⟩
      have m4 : Mv w3.heap.size [cb] w3 w4 := Mv.idle i4
      have HB4 := Lib.hid (HB3.out.mv m4 (by simpa using lc1))
      have HM4 := Lib.hid (HM3.out.chain m4 (Nat.le_refl _))
      have HZ4 := Lib.hid (Nat.le_trans HZ3.out m4.size)
      have HC4 : Hid (Cur w4 cb s j) := by obtain ⟨n, rfl⟩ := i4; exact Blk.drewN HC3.out n
      clear i4 m4
      go_wp2_with fail
      refine (string_any _ _ l2 _ HB4.out HZ4.out).mono ?_
      rintro e w5 ⟨rfl, _, m5⟩
      have HM5 := Lib.hid (HM4.out.trans (Mv.of_below (m5.mono (B' := w.heap.size) (by have := HM1.out.size; omega)) [cb]))
      have HC5 := Lib.hid (Blk.below HC4.out m5 lc1)
      clear m5
      go_wp2_with fail
      refine (HEN.out _).mono ?_
      rintro e w6 ⟨rfl, rfl⟩
      go_wp2
      go_ret
      exact ⟨by rw [HPC.out]; rfl, HM5.out, by rw [HPT.out]; exact HC5.out⟩
    · have hlt : j < s.size := by omega
      have HK := Lib.hid (fun W (hW : Cur W cb s j) => peek0_ok cb j s W hW hs' hlt)
      clear hjs
      by_cases hq : s[j].toNat = 44
      · have HQ1 := HE2.out hlt hq
        have HPC := Lib.hid (show piece s k1 = cutP tabB (s.extract k0 j) from by rw [HQ.out, ← HQ1])
        have HPT := Lib.hid (show pTo s k1 = j from by rw [HP.out, ← HQ1])
        clear HQ1
        have d1 : ((s[j].toNat : Int) == 44) = true := by rw [hq]; rfl
        clear hq
        go_wp2_with fail
        refine (HK.out _ HC3.out).mono ?_
        rintro e w4 ⟨rfl, i4⟩
        have m4 : Mv w3.heap.size [cb] w3 w4 := Mv.idle i4
        have HB4 := Lib.hid (HB3.out.mv m4 (by simpa using lc1))
        have HM4 := Lib.hid (HM3.out.chain m4 (Nat.le_refl _))
        have HZ4 := Lib.hid (Nat.le_trans HZ3.out m4.size)
        have HC4 : Hid (Cur w4 cb s j) := by obtain ⟨n, rfl⟩ := i4; exact Blk.drewN HC3.out n
        clear i4 m4
        go_wp2_with fail
        refine (string_any _ _ l2 _ HB4.out HZ4.out).mono ?_
        rintro e w5 ⟨rfl, _, m5⟩
        have HM5 := Lib.hid (HM4.out.trans (Mv.of_below (m5.mono (B' := w.heap.size) (by have := HM1.out.size; omega)) [cb]))
        have HC5 := Lib.hid (Blk.below HC4.out m5 lc1)
        clear m5
        go_wp2_with fail
        refine (HEN.out _).mono ?_
        rintro e w6 ⟨rfl, rfl⟩
        go_wp2
        go_ret
        exact ⟨by rw [HPC.out]; rfl, HM5.out, by rw [HPT.out]; exact HC5.out⟩
      · have hs34 : s[j].toNat = 34 := by rcases HJ.out hlt with h | h; exact h; exact absurd h hq
        have d1 : ((s[j].toNat : Int) == 44) = false := by rw [hs34]; rfl
        have HQ1 := Lib.hid (HE3.out hlt hs34)
        have HCO := Lib.hid (fun W (hW : Cur W cb s j) => collect_all cb j s W hW hlt hs34 (by omega))
        have hqle := quoS_le (s := s) (k := j + 1) (by omega)
        obtain ⟨m, hm⟩ : ∃ m, m = j + 1 + (quoS s (j + 1)).2 := ⟨_, rfl⟩
        rw [← hm] at HQ1 HCO hqle
        have hjm : j < m := by omega
        have HJ2 := Lib.hid (HJN.out m (by omega))
        have HZZ := Lib.hid (show (s.extract j m).size = m - j from by simp; omega)
        have HL2 := Lib.hid (show l2.length + (s.extract j m).size ≤ 140737488355328 from by have := HX.out; simp; omega)
        obtain ⟨y, hy⟩ : ∃ y, y = s.extract j m := ⟨_, rfl⟩
        rw [← hy] at HCO HJ2 HL2
        clear hq hs34 hm hy
        go_wp2_with fail
        refine (HK.out _ HC3.out).mono ?_
        rintro e w4 ⟨rfl, i4⟩
        have m4 : Mv w3.heap.size [cb] w3 w4 := Mv.idle i4
        have HB4 := Lib.hid (HB3.out.mv m4 (by simpa using lc1))
        have HM4 := Lib.hid (HM3.out.chain m4 (Nat.le_refl _))
        have HZ4 := Lib.hid (Nat.le_trans HZ3.out m4.size)
        have HC4 : Hid (Cur w4 cb s j) := by obtain ⟨n, rfl⟩ := i4; exact Blk.drewN HC3.out n
        clear i4 m4
        go_wp2_with fail
        refine (HCO.out _ HC4.out).mono ?_
        rintro e w5 ⟨rfl, m5, c5⟩
        have HB5 := Lib.hid (HB4.out.mv m5 (by simpa using lc1))
        have HM5 := Lib.hid (HM4.out.chain m5 (Nat.le_refl _))
        have HZ5 := Lib.hid (Nat.le_trans HZ4.out m5.size)
        have HC5 := Lib.hid c5
        clear m5 c5
        go_wp2_with fail
        refine (writeString_any _ _ l2 y _ HB5.out HL2.out HZ5.out).mono ?_
        rintro e w6 ⟨rfl, b6, m6⟩
        have HB6 := Lib.hid b6
        have HM6 := Lib.hid (HM5.out.trans (Mv.of_below (m6.mono (B' := w.heap.size) (by have := HM1.out.size; omega)) [cb]))
        have HZ6 := Lib.hid (Nat.le_trans HZ5.out m6.size)
        have HC6 := Lib.hid (Blk.below HC5.out m6 lc1)
        clear b6 m6
        go_wp2
        go_roundw
        case rel => exact ⟨m, by omega, hqle, HC6.out, by rw [← HJ2.out]; exact HB6.out, HM6.out, HZ6.out, HQ1.out⟩
        case measure => rw [HA.out, curAt_of HC6.out]; omega

theorem own_mv {W W' : World} {base : Nat} {e : TypeId} {size : Nat} {v : Value} {n : Nat} {xs : List Value} {r : List Nat} (h : W.ownsRow base e size v n xs) (hm : Mv W.heap.size r W W') (hr : ∀ x ∈ r, v.ownBlock ≠ some x) : W'.ownsRow base e size v n xs := by
  refine ⟨h.1, ?_⟩
  rcases h.2 with hn | ⟨g, cap, cur, rfl, hb, hg, rest⟩
  · exact .inl hn
  · exact .inr ⟨g, cap, cur, rfl, hb, (hm.block g (Array.getElem?_eq_some_iff.1 hg).1 (fun hx => hr g hx rfl)).trans hg, rest⟩
theorem own_slice {W : World} {base : Nat} {e : TypeId} {size : Nat} {v : Value} {n : Nat} {xs : List Value} (h : W.ownsRow base e size v n xs) : ∃ ao n' cap, v = .slice ao n' cap := by
  rcases h.2 with ⟨hv, _⟩ | ⟨g, cap, cur, hv, _⟩
  · exact ⟨_, _, _, hv⟩
  · exact ⟨_, _, _, hv⟩

theorem Try.info9 : (Try.prog.info? 9).map (fun i => (i.zero, i.size, i.bytes)) = some (some (.string ⟨#[]⟩), 1, 16) := by kernel_rfl

/-- Texts as cells. -/
def strs (l : List ByteArray) : List Value := l.map Value.string
/-- A slice of new memory that holds these texts. -/
def NewStrs (l : List ByteArray) (w : World) (e : Ending) (w' : World) : Prop := ∃ v, e = .returned v ∧ w'.ownsRow w.heap.size 9 1 v l.length (strs l) ∧ Below w.heap.size w w'

theorem skip_comma_yes (cb k : Nat) (s : ByteArray) (w : World) (h : Cur w cb s k) (hk : k < s.size) (hq : s[k].toNat = 44) (hs : s.size ≤ 9223372036854775807) :
    Calls Try.prog 31 #[cptr cb, .string ⟨#[44]⟩] w fun e w' => e = .returned (.bool true) ∧ ∃ m, w' = (w.drewN m).setCell ⟨cb, 1, none⟩ (.int .i64 (k + 1 : Nat)) :=
  skip_yes cb k s ⟨#[44]⟩ w h (by omega) hs (by show 1 ≤ _; omega) (by rw [prefB_one hk, hq]; rfl) (by show k + 1 ≤ _; omega)
theorem skip_comma_no (cb k : Nat) (s : ByteArray) (w : World) (h : Cur w cb s k) (hk : k = s.size) (hs : s.size ≤ 9223372036854775807) :
    Calls Try.prog 31 #[cptr cb, .string ⟨#[44]⟩] w fun e w' => e = .returned (.bool false) ∧ ∃ m, w' = w.drewN m :=
  skip_no cb k s ⟨#[44]⟩ w h (by omega) hs (by show 1 ≤ _; omega) (prefB_none (by omega) _)

set_option maxHeartbeats 2000000 in
theorem split_any (s : ByteArray) (w : World) (hs : s.size ≤ 1099511627776) :
    Calls Try.prog 18 #[.string s] w (NewStrs (splitL s 0) w) := by
  have hs' : s.size ≤ 9223372036854775807 := by omega
  obtain ⟨i0, hi, hz0, hz1, hz2⟩ := info_parts Try.info9
  have HC0 := Lib.hid (show Cur (w.alloc (.cells #[.string s, .int .i64 0] 73)) w.heap.size s 0 from Blk.new w 73 #[.string s, .int .i64 0])
  go_enter Try.func18, Try.ntmps18
  go_wp2_with fail
  refine (new_any s w).mono ?_
  rintro e w1 ⟨rfl, rfl⟩
  go_wp2
  go_loopw [3] (fun v wr => ∃ (k : Nat) (ps : List ByteArray), k ≤ s.size ∧ ps.length ≤ k ∧ wr.ownsRow w.heap.size 9 1 v ps.length (strs ps) ∧ Cur wr w.heap.size s k ∧ Below w.heap.size w wr ∧ ps ++ splitL s k = splitL s 0) (fun _ wr => s.size - curAt wr w.heap.size)
  case atStart => exact ⟨0, [], Nat.zero_le _, Nat.zero_le _, World.ownsRow_nil _ _ _ _, HC0.out, (Below.refl _ _).alloc (Nat.le_refl _) _, rfl⟩
  case round =>
    obtain ⟨k, ps, hk, hl, hown, hc, hm, ht⟩ := hrel
    have hto := pTo_le hk
    have htg := pTo_ge hk
    have HTP := Lib.hid (fun W (hW : Cur W w.heap.size s k) => takePiece_any w.heap.size k s W hW hk (by omega))
    have HA := Lib.hid (curAt_of hc)
    have HAT := Lib.hid (fun h : pTo s k < s.size => pEnd_at (pFrom_le hk) h)
    have HMO := Lib.hid (fun h : pTo s k < s.size => splitL_more hk h)
    have HLA := Lib.hid (fun h : pTo s k = s.size => splitL_last hk h)
    have HAT2 : Hid (∀ h : pTo s k < s.size, s[pTo s k].toNat = 44) := HAT.out
    obtain ⟨j, hj⟩ : ∃ j, j = pTo s k := ⟨_, rfl⟩
    obtain ⟨x, hx⟩ : ∃ x, x = piece s k := ⟨_, rfl⟩
    rw [← hj] at hto htg HTP HMO HLA HAT2
    rw [← hx] at HTP HMO HLA
    have hne := Lib.ownBlock_ne hown hc (by decide)
    have HO := Lib.hid hown
    have HC := Lib.hid hc
    have HM := Lib.hid hm
    have HT := Lib.hid ht
    obtain ⟨ao, n', cap, rfl⟩ := own_slice hown
    have HNE := Lib.hid hne
    clear hown hc hm ht hj hx HAT hne
    go_wp2_with fail
    refine (HTP.out _ HC.out).mono ?_
    rintro e w2 ⟨rfl, m2, c2⟩
    have HO2 := Lib.hid (own_mv HO.out m2 (by simpa using HNE.out))
    have HM2 := Lib.hid ((HM.out.trans ((m2.mono (B' := w.heap.size) HM.out.size (fun x hx => .inl hx)).below (Nat.le_refl _) (by simp))))
    have HC2 := Lib.hid c2
    clear m2 c2
    go_wp2_with (at_builtin; refine wpList_append_own _ rfl _ _ 25 rfl w.heap.size 9 i0 (.string ⟨#[]⟩) 1 16 Try.underlying25 hi hz0 hz1 hz2 rfl (by decide) _ _ _ rfl (HO2.out.alloc _) ⟨w2.heap.size, 0, none⟩ 1 1 [.string x] rfl rfl ?c1 ?c2 ?c3 ?c4 ?c5 ?_)
    case c1 =>
      intro j u hj
      match j, hj with
      | 0, hj => simp at hj; subst hj; simp [Addr.add]
    case c2 => intro u hu; simp at hu; subst hu; rfl
    case c3 => unfold maxLen; omega
    case c4 => omega
    case c5 => have := HM2.out.size; simp; omega
    intro v' w3 hown' hgrow _
    have HO3 := Lib.hid (show w3.ownsRow w.heap.size 9 1 v' (ps ++ [x]).length (strs (ps ++ [x])) from by simpa [strs] using hown')
    have HM3 := Lib.hid (Below.grown (HM2.out.alloc HM2.out.size _) hgrow (by have := HM2.out.size; simp; omega) (fun g hg => (HO2.out.lt g hg).1))
    have HC3 : Hid (Cur w3 w.heap.size s j) := (hgrow.block w.heap.size (by have := Blk.lt HC2.out; simp; omega) (fun e => HNE.out e.symm)).trans (Blk.alloc HC2.out _)
    obtain ⟨ao', n2, cap', rfl⟩ := own_slice hown'
    clear hown' hgrow HO2 HM2 HC2
    by_cases hjs : j = s.size
    · have HS := Lib.hid (fun W (hW : Cur W w.heap.size s j) => skip_comma_no w.heap.size j s W hW hjs hs')
      have HL := Lib.hid (show ps ++ [x] = splitL s 0 from by rw [← HT.out, HLA.out hjs])
      clear hjs
      go_wp2_with fail
      refine (HS.out _ HC3.out).mono ?_
      rintro e w4 ⟨rfl, i4⟩
      have m4 : Mv w3.heap.size [] w3 w4 := Mv.idle i4
      have HO4 := Lib.hid (own_mv HO3.out m4 (by simp))
      have HM4 := Lib.hid (HM3.out.trans ((m4.mono (B' := w.heap.size) HM3.out.size (fun x hx => .inl hx)).below (Nat.le_refl _) (by simp)))
      clear i4 m4
      go_wp2
      go_ret
      exact ⟨_, rfl, by rw [← HL.out]; exact HO4.out, HM4.out⟩
    · have hlt : j < s.size := by omega
      have HS := Lib.hid (fun W (hW : Cur W w.heap.size s j) (e : s[j].toNat = 44) => skip_comma_yes w.heap.size j s W hW hlt e hs')
      have HL := Lib.hid (show (ps ++ [x]) ++ splitL s (j + 1) = splitL s 0 from by rw [← HT.out, HMO.out hlt]; simp)
      clear hjs
      go_wp2_with fail
      refine (HS.out _ HC3.out (HAT2.out hlt)).mono ?_
      rintro e w4 ⟨rfl, i4⟩
      obtain ⟨m4, c4⟩ := Mv.put HC3.out i4
      have hne3 := Lib.ownBlock_ne HO3.out HC3.out (by decide)
      have HO4 := Lib.hid (own_mv HO3.out m4 (by simpa using hne3))
      have HM4 := Lib.hid (HM3.out.trans ((m4.mono (B' := w.heap.size) HM3.out.size (fun x hx => .inl hx)).below (Nat.le_refl _) (by simp)))
      have HC4 := Lib.hid c4
      clear i4 m4 c4 hne3
      go_wp2
      go_roundw
      case rel => exact ⟨j + 1, ps ++ [x], by omega, by simp; omega, HO4.out, HC4.out, HM4.out, HL.out⟩
      case measure => rw [HA.out, curAt_of HC4.out]; omega

end Go.Proofs.Ytighgoefmccagaa
