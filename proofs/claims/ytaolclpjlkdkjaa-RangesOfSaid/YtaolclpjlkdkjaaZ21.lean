/-
  What Clean, isBad and isNamed of package header answer, and the document's Fine. Conditions: a name is as long as a length can be, a value has less than 4294967281 bytes.
  Which headers are bad, or of a name: IndexFunc and ContainsFunc of the library over package header's functions; Good and Has. Condition: texts are shorter than a mebibyte, headers no more than that.
  What package header's loop over the headers of a name is handed: they, one behind the other. Conditions: texts are shorter than a mebibyte; the loop's body keeps what lies below a block, but for one.
-/
import Derived.Test.YtaolclpjlkdkjaaZ19
import Derived.Test.YtaolclpjlkdkjaaZ2
import Derived.Test.YtaolclpjlkdkjaaZ20
import Derived.Test.YtaolclpjlkdkjaaZ8
import Derived.Test.YtaolclpjlkdkjaaZ6
import Derived.Test.YtaolclpjlkdkjaaZ3
import Derived.Test.YtaolclpjlkdkjaaZ1
import Derived.Test.YtaolclpjlkdkjaaZ4
import Derived.Test.YtaolclpjlkdkjaaRows
import Derived.WalkKit
import Derived.Laws.RangeAny
import Derived.Laws.Runes
import Derived.Lib.OthersKept
import Derived.Deep.LoopGhost
import Derived.BigQuiet
import Derived.IntWalk
import Derived.WalkSpells
import Derived.WalkLawsBesides
import Derived.Laws.IdiomStrings
import Derived.LoopTactic
import Derived.Lib.Hide
import Derived.Outline
import Derived.RangeFuncNested
import Derived.RangeFuncBound
import Derived.RangeFuncCalls
import Derived.RangeFuncLeaves
import Derived.Shelf.Abstract
import Derived.Shelf.RegionOpen
import Derived.OwnWalkIn
import Derived.TacticsInMore
import Derived.LoopNIn
import Derived.LoopIn
namespace Go.Proofs.Ytaolclpjlkdkjaa
open Go.RowKit

/-- A world behind w in which a header lies in the block behind w's. -/
def HdAt (w : World) (cs : Array Value) (W : World) : Prop := Below w.heap.size w W ∧ Blk W w.heap.size 60 cs
theorem HdAt.drew {w W : World} {cs : Array Value} (h : HdAt w cs W) : HdAt w cs W.drew := ⟨h.1.drew, h.2⟩
theorem HdAt.new (w : World) (cs : Array Value) : HdAt w cs (w.alloc (.cells cs 60)) := ⟨(Below.refl _ _).alloc (Nat.le_refl _) _, Blk.new _ _ _⟩

end Go.Proofs.Ytaolclpjlkdkjaa
namespace Go.Proofs.Ytaolclpjlkdkjaa
open Go.RowKit

/-- These headers lie behind A. -/
def HdIn (w : World) (A : Option Addr) (l : List Prm) : Prop := ∀ i (h : i < l.length), ∃ a : Addr, A = some a ∧ a.block < w.heap.size ∧
  w.cell? (a.add (i * 2)) = some (.string l[i].n) ∧ w.cell? ⟨(a.add (i * 2)).block, (a.add (i * 2)).off + 1, none⟩ = some (.string l[i].v)
theorem HdIn.below {w w' : World} {A : Option Addr} {l : List Prm} (h : HdIn w A l) (hb : Below w.heap.size w w') : HdIn w' A l := fun i hi => by
  obtain ⟨a, e, hl, h0, h1⟩ := h i hi
  have hl2 : (a.add (i * 2)).block < w.heap.size := by rw [madd_block]; exact hl
  exact ⟨a, e, by have := hb.size; omega, (hb.cell hl2).trans h0, (hb.cell (p := ⟨(a.add (i * 2)).block, (a.add (i * 2)).off + 1, none⟩) hl2).trans h1⟩
theorem HdIn.ps {w : World} {A : Option Addr} {l : List Prm} (h : PsIn w A l) : HdIn w A l := fun i hi => by
  obtain ⟨g, e, hl, h0, h1⟩ := h i hi
  have ea : (⟨g, 0, none⟩ : Addr).add (i * 2) = ⟨g, i * 2, none⟩ := by cases i <;> simp [Addr.add]
  refine ⟨_, e, hl, ?_, ?_⟩
  · rw [ea]; exact h0
  · rw [ea]; exact h1
/-- The function that tells whether a header is of the name that lies in block nb. -/
abbrev namedV (nb : Nat) : Value := .func (.func 86) #[] #[.pointer (some ⟨nb, 0, none⟩)]
set_option maxHeartbeats 400000 in
theorem isNamed_any (name : ByteArray) (w : World) :
    Calls Try.prog 75 #[.string name] w fun e w' => e = .returned (namedV w.heap.size) ∧ w' = w.alloc (.cells #[.string name] 9) := by
  have hmf := make_func
  go_enter Try.func75, Try.ntmps75
  go_wp2
  go_ret
  exact ⟨rfl, rfl⟩

set_option maxHeartbeats 400000 in
theorem isNamed1_any (nb : Nat) (name n v : ByteArray) (w : World) (h : w.cell? ⟨nb, 0, none⟩ = some (.string name)) (hn : n.size ≤ 9223372036854775807) (hm : name.size ≤ 9223372036854775807) :
    Calls Try.prog 86 #[.agg #[.string n, .string v], .pointer (some ⟨nb, 0, none⟩)] w fun e w' => e = .returned (.bool (hasN name ⟨n, v⟩)) ∧ Below w.heap.size w w' := by
  have HS := Lib.hid (fun W => same_any n name W hn hm)
  have HE : Hid (hasN name ⟨n, v⟩ = sameB n name) := rfl
  rw [HE.out]
  clear HE
  generalize sameB n name = b at *
  have hlt : nb < w.heap.size := World.block_lt_of_cell? w _ h
  have HD0 := Lib.hid (HdAt.new w #[.string n, .string v])
  have cn : (w.alloc (.cells #[.string n, .string v] 60)).cell? ⟨nb, 0, none⟩ = some (.string name) := (World.cell?_alloc_lt w _ _ hlt).trans h
  clear h
  go_enter Try.func86, Try.ntmps86
  go_wp2_with (go_at_call 64; (with_reducible refine (HS.out _).mono ?_); rintro e w1 ⟨rfl, q, rfl⟩)
  go_ret
  exact ⟨rfl, Below.drewN' HD0.out.1 _⟩

end Go.Proofs.Ytaolclpjlkdkjaa
namespace Go.Proofs.Ytaolclpjlkdkjaa
open Go.RowKit Go.Shelf
attribute [local go_sem] Oper.semAt_some

/-- What a round keeps: all below block B but block L. -/
def KeepsU (B L : Nat) (W W' : World) : Prop := ∀ g, g < B → g ≠ L → W'.heap[g]? = W.heap[g]?
theorem keepsU_t {B L : Nat} {X Y Z : World} (h : KeepsU B L X Y) (k : KeepsU B L Y Z) : KeepsU B L X Z := fun g h1 h2 => (k g h1 h2).trans (h g h1 h2)
theorem keepsU_b {B L : Nat} (W : World) (l : Nat) (o o' : Obj) (hB : B ≤ l) (_ : W.heap[l]? = some o) (_ : o.isCells = false) (_ : o.isWalk = false) : KeepsU B L W (W.putObj l o') := fun g h1 _ => World.putObj_heap_other (by omega)
theorem keepsU_below {B L : Nat} {W W' : World} (h : Below B W W') : KeepsU B L W W' := fun g h1 _ => h.block g h1
theorem keepsU_mv {B L : Nat} {W W' : World} (h : Mv B [L] W W') : KeepsU B L W W' := fun g h1 h2 => h.block g h1 (by simpa using h2)
theorem Blk.ku {B L : Nat} {W W' : World} {g : Nat} {T : TypeId} {cs : Array Value} (h : Blk W g T cs) (k : KeepsU B L W W') (hg : g < B) (hL : g ≠ L) : Blk W' g T cs := (k g hg hL).trans h
theorem HdIn.ku {B L : Nat} {W W' : World} {A : Option Addr} {l : List Prm} (h : HdIn W A l) (k : KeepsU B L W W') (hA : ∀ a, A = some a → 0 < l.length → a.block < B ∧ a.block ≠ L) : HdIn W' A l := fun i hi => by
  obtain ⟨a, e, hl, h0, h1⟩ := h i hi
  have hb := hA a e (by omega)
  have e1 := k a.block hb.1 hb.2
  refine ⟨a, e, ?_, ?_, ?_⟩
  · rcases Nat.lt_or_ge a.block W'.heap.size with h2 | h2
    · exact h2
    · rw [Array.getElem?_eq_none h2, Array.getElem?_eq_getElem hl] at e1
      cases e1
  · refine (World.cell?_of_block (w := W) ?_).trans h0
    rw [madd_block]; exact e1
  · refine (World.cell?_of_block (w := W) (a := ⟨(a.add (i * 2)).block, (a.add (i * 2)).off + 1, none⟩) ?_).trans h1
    show W'.heap[(a.add (i * 2)).block]? = W.heap[(a.add (i * 2)).block]?
    rw [madd_block]; exact e1
theorem abidesA_step {β : Type} {B : Nat} {J : β → World → Prop} (h : AbidesFrom B J) {x : β} {W W' : World} (hj : J x W) (hb : Below W.heap.size W W') : J x W' :=
  h x W W' none hj ⟨hb.os, hb.tape, hb.output, hb.size, fun i hi _ => hb.block i hi⟩ (fun r e => by cases e)

theorem HdIn.lt {w : World} {A : Option Addr} {l : List Prm} (h : HdIn w A l) : ∀ a, A = some a → 0 < l.length → a.block < w.heap.size := fun a e hl => by
  obtain ⟨a', e', h1, _⟩ := h 0 hl
  rw [e] at e'
  cases e'
  exact h1

abbrev encH (p : Prm) : Array Value := #[.agg #[.string p.n, .string p.v]]

theorem filt_yes {q : Prm → Bool} {l : List Prm} {k : Nat} (hk : k < l.length) (h : q l[k] = true) : (l.take (k + 1)).filter q = (l.take k).filter q ++ [l[k]] := by
  rw [List.take_succ_eq_append_getElem hk, List.filter_append]
  simp [h]
theorem filt_no {q : Prm → Bool} {l : List Prm} {k : Nat} (hk : k < l.length) (h : q l[k] = false) : (l.take (k + 1)).filter q = (l.take k).filter q := by
  rw [List.take_succ_eq_append_getElem hk, List.filter_append]
  simp [h]
theorem filt_len (q : Prm → Bool) (l : List Prm) (k : Nat) (hk : k < l.length) : ((l.take k).filter q).length < l.length :=
  Nat.lt_of_le_of_lt (Nat.le_trans List.filter_sublist.length_le (List.length_take_le _ _)) hk

set_option maxHeartbeats 4000000 in
set_option maxRecDepth 100000 in
/-- The iterator, for every loop body that keeps what is not its own. -/
theorem named1_in (n : Nat) (hn : 1 ≤ n) (l Lb Fb Nb L B B0 c : Nat) (name : ByteArray) (A : Option Addr) (ps : List Prm) (hm : name.size ≤ 1048576) (ha : AllIn 1048576 ps) (hl : ps.length ≤ 1048576) (J Jx : List Prm → World → Prop) (hJ : AbidesFrom B0 J)
    (hY : ∀ pre x W, J pre W → pre.length < ps.length → YieldAt Fence.wide (n - 1) Try.prog l (encH x) W fun e W' =>
      (e = .returned (.bool true) ∧ J (pre ++ [x]) W' ∧ KeepsU B L W W') ∨ (e = .returned (.bool false) ∧ Jx (pre ++ [x]) W'))
    (W : World) (hLb : Blk W Lb 37 #[.slice A ps.length c]) (hFb : Blk W Fb 99 #[namedV Nb]) (hNb : Blk W Nb 9 #[.string name]) (hP : HdIn W A ps)
    (hF : Fb < B ∧ Fb ≠ L) (hN : Nb < B ∧ Nb ≠ L) (hA : ∀ a, A = some a → 0 < ps.length → a.block < B ∧ a.block ≠ L) (h0 : J [] W) :
    CallsIn Fence.wide n Try.prog 76 #[.func (.yield l) #[] #[], .pointer (some ⟨Lb, 0, none⟩), .pointer (some ⟨Fb, 0, none⟩)] W fun e W' => (∃ v, e = .returned v) ∧
      ((∃ xs, xs = ps.filter (hasN name) ∧ J xs W') ∨ (∃ pre, True ∧ Jx pre W')) := by
  have HY := Lib.hid hY
  have HJ := Lib.hid hJ
  have H0 := Lib.hid h0
  have HP := Lib.hid hP
  have HA := Lib.hid ha
  have HAA := Lib.hid hA
  have HFb := Lib.hid hFb
  have HNb := Lib.hid hNb
  have cL := hLb.cell 0
  clear hY hJ h0 hP ha hA hFb hNb hLb
  refine callsIn_of_wp Try.func76 rfl trivial ?_ rfl
  simp only [Try.ntmps76, List.size_toArray, List.length_cons, List.length_nil, Nat.reduceAdd, Nat.reduceSub, Array.replicate_succ, Array.replicate_zero, List.push_toArray, List.append_toArray, List.nil_append, List.cons_append]
  gi_wp2
  gi_loopw [8] (fun i wr => ∃ k : Nat, k ≤ ps.length ∧ i = .int .i64 (k : Nat) ∧ Hid (J ((ps.take k).filter (hasN name)) wr) ∧ Hid (Blk wr Fb 99 #[namedV Nb]) ∧ Hid (Blk wr Nb 9 #[.string name]) ∧ Hid (HdIn wr A ps)) (fun i _ => ps.length - (intOf i).toNat)
  case atStart => exact ⟨0, by omega, rfl, H0, HFb, HNb, HP⟩
  case round =>
    obtain ⟨k, hk, rfl, HJk, HF2, HN2, HP2⟩ := hrel
    clear HFb HNb HP H0 cL
    by_cases hlt : k < ps.length
    · obtain ⟨a, rfl, hal, c0, c1⟩ := HP2.out k hlt
      have hsz := HA.out.at_ hlt
      have HLN := Lib.hid (filt_len (hasN name) ps k hlt)
      have HYK := Lib.hid (fun W hj => HY.out ((ps.take k).filter (hasN name)) ps[k] W hj HLN.out)
      have HL1 := Lib.hid (show hasN name ps[k] = true → _ from filt_yes hlt)
      have HL2 := Lib.hid (show hasN name ps[k] = false → _ from filt_no hlt)
      obtain ⟨p, hp⟩ : ∃ p, ps[k] = p := ⟨_, rfl⟩
      rw [hp] at c0 c1 hsz HYK HL1 HL2
      clear hp
      obtain ⟨pn, pv⟩ := p
      simp only at c0 c1 hsz
      have HC := Lib.hid (fun W (h : W.cell? ⟨Nb, 0, none⟩ = some (.string name)) => callsIn_wide (n := n - 1).2 (isNamed1_any Nb name pn pv W h (by omega) (by omega)))
      have b0 : Below wr.heap.size wr (wr.alloc (.cells #[.string pn, .string pv] 60)) := (Below.refl _ _).alloc (Nat.le_refl _) _
      have cF : (wr.alloc (.cells #[.string pn, .string pv] 60)).cell? ⟨Fb, 0, none⟩ = some (namedV Nb) := (HF2.out.below b0 HF2.out.lt).cell 0
      have cN : (wr.alloc (.cells #[.string pn, .string pv] 60)).cell? ⟨Nb, 0, none⟩ = some (.string name) := (HN2.out.below b0 HN2.out.lt).cell 0
      have HB0 := Lib.hid b0
      have hFl := HF2.out.lt
      clear b0
      cases hb : hasN name ⟨pn, pv⟩
      · rw [hb] at HC
        have HL := Lib.hid (HL2.out hb)
        clear hb HL1 HL2 HYK HY
        gi_wp2_with (first | (with_reducible refine And.intro ?_ ?_; focus (intro f h; cases h)) | (refine ⟨trivial, ?_⟩; gi_at_call 86; refine (HC.out _ cN).mono ?_; rintro e w3 ⟨rfl, b3⟩; have HB3 := Lib.hid (HB0.out.trans (b3.mono (by simp))); clear b3))
        go_roundw
        case rel => exact ⟨k + 1, by omega, by go_num, by rw [HL.out]; exact abidesA_step HJ.out HJk.out HB3.out, HF2.out.below HB3.out HF2.out.lt, HN2.out.below HB3.out HN2.out.lt, HP2.out.below HB3.out⟩
        case measure => simp [intOf]; omega
      · rw [hb] at HC
        have HL := Lib.hid (HL1.out hb)
        clear hb HL1 HL2 HY
        have HX0 := Lib.hid (Blk.new wr 60 #[.string pn, .string pv])
        gi_wp2_with (first | (with_reducible refine And.intro ?_ ?_; focus (intro f h; cases h)) | (refine ⟨trivial, ?_⟩; gi_at_call 86; refine (HC.out _ cN).mono ?_; rintro e w3 ⟨rfl, b3⟩; have HB3 := Lib.hid (HB0.out.trans (b3.mono (by simp))); have x0 : w3.cell? ⟨wr.heap.size, 0, none⟩ = some (.string pn) := (HX0.out.below b3 (by simp)).cell 0; have x1 : w3.cell? ⟨wr.heap.size, 1, none⟩ = some (.string pv) := (HX0.out.below b3 (by simp)).cell 1; clear b3; obtain ⟨f2, t2, a2, y2, hy2, hR2⟩ := HYK.out w3 (abidesA_step HJ.out HJk.out HB3.out); dsimp only [encH] at hy2))
        refine hR2.mono ?_
        rintro e W3 (⟨rfl, hJ3, hk3⟩ | ⟨rfl, hx3⟩)
        · have HF3 := Lib.hid ((HF2.out.below HB3.out HF2.out.lt).ku hk3 hF.1 hF.2)
          have HN3 := Lib.hid ((HN2.out.below HB3.out HN2.out.lt).ku hk3 hN.1 hN.2)
          have HP3 := Lib.hid ((HP2.out.below HB3.out).ku hk3 HAA.out)
          have HJ3 := Lib.hid hJ3
          clear hk3 hJ3
          gi_wp2
          go_roundw
          case rel => exact ⟨k + 1, by omega, by go_num, by rw [HL.out]; exact HJ3.out, HF3, HN3, HP3⟩
          case measure => simp [intOf]; omega
        · gi_wp2
          refine bodyPost_ret (results_none rfl _ _ _) rfl ?_
          exact ⟨⟨_, rfl⟩, .inr ⟨_, trivial, hx3⟩⟩
    · obtain rfl : k = ps.length := by omega
      have HE := Lib.hid (show (ps.take ps.length).filter (hasN name) = ps.filter (hasN name) from by rw [List.take_length])
      gi_wp2
      go_end0
      exact ⟨⟨_, rfl⟩, .inl ⟨_, rfl, by rw [← HE.out]; exact HJk.out⟩⟩

theorem blk_own {β : Type} (B : Nat) (t : TypeId) (cs : Array Value) : Own (fun (_ : β) W => Blk W B t cs) := fun s X Y row hs hg hrow =>
  (hg.block B (Blk.lt hs) (fun e' => by obtain ⟨o, ho, hc⟩ := hrow B e'.symm; rw [show X.heap[B]? = _ from hs] at ho; cases ho; cases hc)).trans hs

/-- A list that grows in a box: nothing below its row's base has turned but the box. -/
theorem boxed_mv {W w1 : World} {base L : Nat} {e : TypeId} {size : Nat} {v v' : Value} {k : Nat} {xs : List Value} {tmp : Obj} (hrow : W.ownsRow base e size v k xs) (hb : base ≤ W.heap.size) (hgrow : (W.alloc tmp).grownBy w1 v.ownBlock) : Mv base [L] W (w1.setCell ⟨L, 0, none⟩ v') := by
  have h1 : Mv base [L] W (W.alloc tmp) := (Mv.refl _ _ _).alloc hb _
  have h2 : Mv base [L] (W.alloc tmp) w1 := ⟨hgrow.os, hgrow.tape, hgrow.output, hgrow.size, fun k hk _ => hgrow.block k (by simp; omega) (fun e => by have := (hrow.lt k e.symm).1; omega)⟩
  exact (h1.trans h2).setCell (.inl (by simp)) _

end Go.Proofs.Ytaolclpjlkdkjaa
