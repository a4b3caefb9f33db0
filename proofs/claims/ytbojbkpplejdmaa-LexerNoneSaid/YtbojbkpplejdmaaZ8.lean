/-
  What package json's enter, leave, beginName and follow do with a machine. Conditions: what is open is told of in the machine's cells, and is no deeper than it may be.
  What package json's follow, begin, between, inText, escaped, inCode, inWord, inNumber and take do with a machine: what one byte makes of where reading stands (stepJ). Conditions: what is open is told of in the machine's cells, and is no deeper than it may be.
  What package json's between, inText, escaped, inCode, inWord, inNumber and take do with a machine: what one byte makes of where reading stands (stepJ). Conditions: what is open is told of in the machine's cells, and is no deeper than it may be.
-/
import Derived.Test.YtbojbkpplejdmaaZ7
namespace Go.Proofs.Ytbojbkpplejdmaa
open Go.RowKit

/-- What a machine's step, the step behind a text, the digits left and the word's rest are, where reading stands so. -/
def Reg (p : Pj) (st : List Bool) (sp tn lf : Int) (rs : ByteArray) : Prop :=
  match p with
  | .v => sp = if st.isEmpty then 0 else 1
  | .a => sp = 2 ∧ st.head? = some false
  | .o => sp = 4 ∧ st.head? = some true
  | .k => sp = 3 ∧ st.head? = some true
  | .c => sp = 5 ∧ st.head? = some true
  | .e => sp = 6
  | .q key n => tn = (if key then 5 else 6) ∧ (key = true → st.head? = some true) ∧ (match n with | 0 => sp = 7 | 1 => sp = 8 | m + 2 => sp = 9 ∧ lf = ((m + 1 : Nat) : Int) ∧ m ≤ 3)
  | .n i => match i with | 0 => sp = 11 | 1 => sp = 13 | 2 => sp = 12 | 3 => sp = 14 | 4 => sp = 15 | 5 => sp = 16 | 6 => sp = 17 | 7 => sp = 18 | _ => False
  | .w x l => sp = 10 ∧ rs = ⟨(x :: l).toArray⟩
/-- A machine behind a byte. -/
def MacS (w : World) (mb D : Nat) (sn pl : Int) (r : Sj) : Prop :=
  ∃ (sp tn lf : Int) (rs : ByteArray) (dp : Nat) (E : List Value), Mac w mb D sn pl sp tn lf rs dp E ∧ E.length = 200 ∧ dp ≤ D ∧ match r with
    | .go p st => Reg p st sp tn lf rs ∧ dp = st.length ∧ EndsIs st E
    | .no => sp = 19
    | .de => sp = 20
def Ste (w w' : World) (mb D : Nat) (sn pl : Int) (r : Sj) : Prop := Mv w.heap.size [mb] w w' ∧ MacS w' mb D sn pl r
/-- A machine at a step with so much open. -/
structure Was (w : World) (mb D : Nat) (sn pl sp tn lf : Int) (rs : ByteArray) (st : List Bool) (E : List Value) : Prop where
  mac : Mac w mb D sn pl sp tn lf rs st.length E
  len : E.length = 200
  ends : EndsIs st E
  deep : st.length ≤ D
  most : D ≤ 200
section
variable {w w' : World} {mb D : Nat} {sn pl sp tn lf : Int} {rs : ByteArray} {st : List Bool} {E : List Value}
theorem Was.go {p : Pj} (h : Was w mb D sn pl sp tn lf rs st E) (hr : Reg p st sp tn lf rs) : MacS w mb D sn pl (.go p st) :=
  ⟨sp, tn, lf, rs, st.length, E, h.mac, h.len, h.deep, hr, rfl, h.ends⟩
theorem Was.no (h : Was w mb D sn pl 19 tn lf rs st E) : MacS w mb D sn pl .no :=
  ⟨19, tn, lf, rs, st.length, E, h.mac, h.len, h.deep, rfl⟩
theorem Was.de (h : Was w mb D sn pl 20 tn lf rs st E) : MacS w mb D sn pl .de :=
  ⟨20, tn, lf, rs, st.length, E, h.mac, h.len, h.deep, rfl⟩
theorem Was.s3 (h : Was w mb D sn pl sp tn lf rs st E) (x : Int) : Was (w.setCell ⟨mb, 3, none⟩ (.int .i64 x)) mb D sn pl x tn lf rs st E := ⟨Mac.s3 h.mac x, h.len, h.ends, h.deep, h.most⟩
theorem Was.s4 (h : Was w mb D sn pl sp tn lf rs st E) (x : Int) : Was (w.setCell ⟨mb, 4, none⟩ (.int .i64 x)) mb D sn pl sp x lf rs st E := ⟨Mac.s4 h.mac x, h.len, h.ends, h.deep, h.most⟩
theorem Was.s5 (h : Was w mb D sn pl sp tn lf rs st E) (x : Int) : Was (w.setCell ⟨mb, 5, none⟩ (.int .i64 x)) mb D sn pl sp tn x rs st E := ⟨Mac.s5 h.mac x, h.len, h.ends, h.deep, h.most⟩
theorem Was.s6 (h : Was w mb D sn pl sp tn lf rs st E) (x : ByteArray) : Was (w.setCell ⟨mb, 6, none⟩ (.string x)) mb D sn pl sp tn lf x st E := ⟨Mac.s6 h.mac x, h.len, h.ends, h.deep, h.most⟩
theorem Was.drewN (h : Was w mb D sn pl sp tn lf rs st E) (n : Nat) : Was (w.drewN n) mb D sn pl sp tn lf rs st E := ⟨Blk.drewN h.mac n, h.len, h.ends, h.deep, h.most⟩
theorem Was.drew (h : Was w mb D sn pl sp tn lf rs st E) : Was w.drew mb D sn pl sp tn lf rs st E := ⟨Blk.drew h.mac, h.len, h.ends, h.deep, h.most⟩
end
/-- The machine's block alone is written. -/
theorem mv0 (w : World) (mb : Nat) : Mv w.heap.size [mb] w w := Mv.refl _ _ _
theorem Mv.put1 {w w' : World} {mb : Nat} (h : Mv w.heap.size [mb] w w') (o : Nat) (x : Value) : Mv w.heap.size [mb] w (w'.setCell ⟨mb, o, none⟩ x) := h.setCell (p := ⟨mb, o, none⟩) (Or.inl (List.mem_singleton.2 rfl)) x

set_option maxHeartbeats 1000000 in
set_option maxRecDepth 10000 in
theorem enter_ok {w : World} {mb D : Nat} {sn pl sp tn lf : Int} {rs : ByteArray} {st : List Bool} {E : List Value} (h : Was w mb D sn pl sp tn lf rs st E) (t : Bool) (k : Int) (hlt : st.length < D) :
    Calls Try.prog 77 #[mptr mb, .int .u8 ((shutB t).toNat : Int), .int .i64 k] w fun e w' => e = .returned (.tuple #[]) ∧ Mv w.heap.size [mb] w w' ∧ ∃ E', Was w' mb D sn pl k tn lf rs (t :: st) E' := by
  obtain ⟨hm, hl, he, hd, hD⟩ := h
  obtain ⟨x, hx⟩ : ∃ x, E[st.length]? = some x := ⟨_, List.getElem?_eq_getElem (by omega)⟩
  have c0 := hm.c0
  have c3 := hm.c3
  have c7 := hm.c7
  have z3 := Blk.frozen hm 3
  have z7 := Blk.frozen hm 7
  have zE := Blk.frozen hm (8 + st.length)
  have cE := (hm.cE st.length).trans hx
  have HM := Lib.hid hm
  have HE := Lib.hid (he.push (t := t) (by omega))
  have HL := Lib.hid (show (E.set st.length (.int .u8 ((shutB t).toNat : Int))).length = 200 by simp [hl])
  clear hm hl he hx
  have b0 : decide (D ≤ st.length) = false := by rw [decide_eq_false_iff_not]; omega
  have b1 : (st.length : Int) < 200 := by omega
  have b2 : (0 : Int) ≤ (st.length : Int) := by omega
  have B4 : Hid ((t :: st).length ≤ D) := Lib.hid hlt
  have B5 : Hid (D ≤ 200) := Lib.hid hD
  have B6 : Hid (((t :: st).length : Int) = (st.length : Int) + 1) := Lib.hid (by simp)
  clear hlt hd hD
  generalize st.length = d at *
  go_enter Try.func77, Try.ntmps77
  go_wp2
  go_quiet (fail)
  go_wp2
  go_region
  go_wp2
  go_end0
  refine ⟨rfl, (((mv0 w mb).drewN _).put1 _ _).put1 _ _ |>.put1 _ _, _, ⟨?_, HL.out, HE.out, B4.out, B5.out⟩⟩
  rw [B6.out]
  exact (((Mac.sE (Blk.drewN HM.out _) d _).s7 _).s3 _)

set_option maxHeartbeats 1000000 in
set_option maxRecDepth 10000 in
theorem enter_deep {w : World} {mb D : Nat} {sn pl sp tn lf : Int} {rs : ByteArray} {st : List Bool} {E : List Value} (h : Was w mb D sn pl sp tn lf rs st E) (x k : Int) (hlt : D ≤ st.length) :
    Calls Try.prog 77 #[mptr mb, .int .u8 x, .int .i64 k] w fun e w' => e = .returned (.tuple #[]) ∧ Ste w w' mb D sn pl .de := by
  have c0 := h.mac.c0
  have c3 := h.mac.c3
  have c7 := h.mac.c7
  have z3 := Blk.frozen h.mac 3
  have H := Lib.hid h
  have b0 : decide (D ≤ st.length) = true := by rw [decide_eq_true_iff]; omega
  clear h hlt
  generalize st.length = d at *
  go_enter Try.func77, Try.ntmps77
  go_wp2
  go_quiet (fail)
  go_wp2
  refine bodyPost_ret (results_none rfl _ _ _) rfl ?_
  exact ⟨rfl, ((mv0 w mb).drewN _).put1 _ _, ((H.out.drewN _).s3 20).de⟩

theorem bE (b c : UInt8) : (b == c) = ((b.toNat : Int) == (c.toNat : Int)) := by
  rw [Bool.eq_iff_iff, beq_iff_eq, beq_iff_eq]
  exact ⟨fun h => by rw [h], fun h => UInt8.toNat_inj.1 (by omega)⟩
/-- What ends what is innermost open. -/
def lvB (st : List Bool) (b : UInt8) : Bool := match st with
  | [] => false
  | t :: _ => b == shutB t
set_option maxHeartbeats 1000000 in
set_option maxRecDepth 10000 in
theorem leave_yes {w : World} {mb D : Nat} {sn pl sp tn lf : Int} {rs : ByteArray} {t : Bool} {st : List Bool} {E : List Value} (h : Was w mb D sn pl sp tn lf rs (t :: st) E) :
    Calls Try.prog 60 #[mptr mb, .int .u8 ((shutB t).toNat : Int)] w fun e w' => e = .returned (.bool true) ∧ Mv w.heap.size [mb] w w' ∧ Was w' mb D sn pl 6 tn lf rs st E := by
  obtain ⟨hm, hl, he, hd, hD⟩ := h
  have hd2 : st.length + 1 ≤ D := hd
  have B6 : ((t :: st).length : Int) = (st.length : Int) + 1 := by simp
  have c3 := hm.c3
  have c7 := hm.c7
  rw [B6] at c7
  have z3 := Blk.frozen hm 3
  have z7 := Blk.frozen hm 7
  have cE := (hm.cE st.length).trans he.1
  have HM := Lib.hid hm
  have HE := Lib.hid he.2
  have HL := Lib.hid hl
  have B4 : Hid (st.length ≤ D) := Lib.hid (by omega)
  have B5 : Hid (D ≤ 200) := Lib.hid hD
  have b0 : (((st.length : Nat) : Int) + 1 == 0) = false := by rw [beq_eq_false_iff_ne]; omega
  have b1 : (st.length : Int) < 200 := by omega
  have b2 : (0 : Int) ≤ (st.length : Int) := by omega
  clear hm hl he hd hd2 hD B6
  generalize hq : st.length = d at *
  generalize ((shutB t).toNat : Int) = x at *
  go_enter Try.func60, Try.ntmps60
  go_wp2
  go_quiet (fail)
  go_wp2
  go_ret
  refine ⟨rfl, ((mv0 w mb).drewN _).put1 _ _ |>.put1 _ _, ⟨?_, HL.out, HE.out, by rw [hq]; exact B4.out, B5.out⟩⟩
  rw [hq]
  exact ((Mac.s7 (Blk.drewN HM.out _) _).s3 _)

set_option maxHeartbeats 1000000 in
set_option maxRecDepth 10000 in
theorem leave_no {w : World} {mb D : Nat} {sn pl sp tn lf : Int} {rs : ByteArray} {st : List Bool} {E : List Value} (h : Was w mb D sn pl sp tn lf rs st E) (b : UInt8) (hb : lvB st b = false) :
    Calls Try.prog 60 #[mptr mb, .int .u8 (b.toNat : Int)] w fun e w' => e = .returned (.bool false) ∧ ∃ n, w' = w.drewN n := by
  obtain ⟨hm, hl, he, hd, hD⟩ := h
  cases st with
  | nil =>
    have c7 := hm.c7
    rw [show (([] : List Bool).length : Int) = 0 from rfl] at c7
    clear hm hl he hd hD hb
    go_enter Try.func60, Try.ntmps60
    go_wp2
    go_quiet (fail)
    go_wp2
    go_ret
    exact ⟨rfl, _, rfl⟩
  | cons t st =>
    have hd2 : st.length + 1 ≤ D := hd
    have B6 : ((t :: st).length : Int) = (st.length : Int) + 1 := by simp
    have c7 := hm.c7
    rw [B6] at c7
    have cE := (hm.cE st.length).trans he.1
    have b0 : (((st.length : Nat) : Int) + 1 == 0) = false := by rw [beq_eq_false_iff_ne]; omega
    have b1 : (st.length : Int) < 200 := by omega
    have b2 : (0 : Int) ≤ (st.length : Int) := by omega
    have b3 : (((shutB t).toNat : Int) != (b.toNat : Int)) = true := by
      have hne : b ≠ shutB t := by simpa [lvB] using hb
      rw [bne_iff_ne]
      intro e
      exact hne (UInt8.toNat_inj.1 (by omega))
    clear hm hl he hd hd2 hD B6 hb
    generalize st.length = d at *
    generalize ((shutB t).toNat : Int) = x at *
    go_enter Try.func60, Try.ntmps60
    go_wp2
    go_quiet (fail)
    go_wp2
    go_ret
    exact ⟨rfl, _, rfl⟩

set_option maxHeartbeats 1000000 in
theorem beginName_any {w : World} {mb D : Nat} {sn pl sp tn lf : Int} {rs : ByteArray} {st : List Bool} {E : List Value} (h : Was w mb D sn pl sp tn lf rs st E) (b : UInt8) (hs : st.head? = some true) :
    Calls Try.prog 61 #[mptr mb, .int .u8 (b.toNat : Int)] w fun e w' => e = .returned (.tuple #[]) ∧ Ste w w' mb D sn pl (if b == 34 then .go (.q true 0) st else .no) := by
  have c3 := h.mac.c3
  have c4 := h.mac.c4
  have z3 := Blk.frozen h.mac 3
  have z4 := Blk.frozen h.mac 4
  have H := Lib.hid h
  have HS := Lib.hid hs
  have e : (b == 34) = ((b.toNat : Int) == 34) := bE b 34
  rw [e]
  clear h hs e
  cases h0 : ((b.toNat : Int) == 34)
  · go_enter Try.func61, Try.ntmps61
    go_wp2
    go_end0
    exact ⟨rfl, (mv0 w mb).put1 _ _, (H.out.s3 19).no⟩
  · go_enter Try.func61, Try.ntmps61
    go_wp2
    go_end0
    exact ⟨rfl, (((mv0 w mb).put1 _ _).put1 _ _).put1 _ _, (((H.out.s3 19).s3 7).s4 5).go ⟨rfl, fun _ => HS.out, rfl⟩⟩
end Go.Proofs.Ytbojbkpplejdmaa
namespace Go.Proofs.Ytbojbkpplejdmaa
open Go.RowKit

def folJ (st : List Bool) (b : UInt8) : Sj := match st with
  | [] => .no
  | t :: r => if b == shutB t then .go .e r else if b == 44 then .go (if t then .k else .v) st else .no
theorem beh_fol {st : List Bool} {b : UInt8} (hw : whiB b = false) : behJ st b = folJ st b := by
  unfold behJ folJ
  rw [hw, if_neg (by decide)]
  rfl

set_option maxHeartbeats 1000000 in
set_option maxRecDepth 10000 in
theorem follow_any {w : World} {mb D : Nat} {sn pl sp tn lf : Int} {rs : ByteArray} {st : List Bool} {E : List Value} (h : Was w mb D sn pl sp tn lf rs st E) (b : UInt8) :
    Calls Try.prog 62 #[mptr mb, .int .u8 (b.toNat : Int)] w fun e w' => e = .returned (.tuple #[]) ∧ Ste w w' mb D sn pl (folJ st b) := by
  cases hy : lvB st b
  · have HN := Lib.hid (leave_no h b hy)
    have H := Lib.hid h
    have z3 := Blk.frozen h.mac 3
    have c3 := h.mac.c3
    cases st with
    | nil =>
      have c7 := h.mac.c7
      rw [show (([] : List Bool).length : Int) = 0 from rfl] at c7
      clear h hy
      go_enter Try.func62, Try.ntmps62
      go_wp2_with (go_at_call 60; (with_reducible refine HN.out.mono ?_); rintro e w1 ⟨rfl, n, rfl⟩)
      go_end0
      exact ⟨rfl, ((mv0 w mb).drewN _).put1 _ _, ((H.out.drewN _).s3 19).no⟩
    | cons t r =>
      have c7 := h.mac.c7
      rw [show ((t :: r).length : Int) = (r.length : Int) + 1 from by simp] at c7
      have cE := (h.mac.cE r.length).trans h.ends.1
      have hd : r.length + 1 ≤ D := h.deep
      have hD := h.most
      have b0 : decide ((0 : Int) < ((r.length : Nat) : Int) + 1) = true := by rw [decide_eq_true_iff]; omega
      have b1 : (r.length : Int) < 200 := by omega
      have b2 : (0 : Int) ≤ (r.length : Int) := by omega
      have e : folJ (t :: r) b = if b == 44 then .go (if t then .k else .v) (t :: r) else .no := if_neg (by rw [show (b == shutB t) = false from hy]; decide)
      rw [e, show (b == 44) = ((b.toNat : Int) == 44) from bE b 44]
      clear h hy e hd hD
      generalize r.length = d at *
      cases h4 : ((b.toNat : Int) == 44)
      · go_enter Try.func62, Try.ntmps62
        go_wp2_with (go_at_call 60; (with_reducible refine HN.out.mono ?_); rintro e w1 ⟨rfl, n, rfl⟩)
        go_end0
        exact ⟨rfl, ((mv0 w mb).drewN _).put1 _ _, ((H.out.drewN _).s3 19).no⟩
      · cases t with
        | false =>
          rw [show ((shutB false).toNat : Int) = 93 from rfl] at cE
          go_enter Try.func62, Try.ntmps62
          go_wp2_with (go_at_call 60; (with_reducible refine HN.out.mono ?_); rintro e w1 ⟨rfl, n, rfl⟩)
          go_quiet (fail)
          go_wp2
          go_end0
          refine ⟨rfl, ?_, ?_⟩
          · first | exact ((((mv0 w mb).drewN _).put1 _ _).put1 _ _).drewN _ | exact (((((mv0 w mb).drewN _).put1 _ _).put1 _ _).drewN _)
          · exact (((((H.out.drewN _).s3 19).s3 1)).drewN _).go (p := .v) rfl
        | true =>
          rw [show ((shutB true).toNat : Int) = 125 from rfl] at cE
          go_enter Try.func62, Try.ntmps62
          go_wp2_with (go_at_call 60; (with_reducible refine HN.out.mono ?_); rintro e w1 ⟨rfl, n, rfl⟩)
          go_quiet (fail)
          go_wp2
          go_end0
          refine ⟨rfl, ?_, ?_⟩
          · exact (((((mv0 w mb).drewN _).put1 _ _).put1 _ _).drewN _).put1 _ _
          · exact ((((((H.out.drewN _).s3 19).s3 1)).drewN _).s3 3).go (p := .k) ⟨rfl, rfl⟩
  · cases st with
    | nil => cases hy
    | cons t r =>
      have hb : b = shutB t := by simpa [lvB] using hy
      subst hb
      have HY := Lib.hid (leave_yes h)
      have e : folJ (t :: r) (shutB t) = .go .e r := if_pos (by rw [show (shutB t == shutB t) = true from hy])
      rw [e]
      clear h hy e
      go_enter Try.func62, Try.ntmps62
      go_wp2_with (go_at_call 60; (with_reducible refine HY.out.mono ?_); rintro e w1 ⟨rfl, hm, hw⟩)
      refine bodyPost_ret (results_none rfl _ _ _) rfl ?_
      exact ⟨rfl, hm, hw.go rfl⟩

/-! The first byte of a value. -/
theorem begin_num {sp : Int} {b : UInt8} (hs : sp = 0 ∨ sp = 1 ∨ sp = 2) : numZ sp b = if b == 48 then 12 else if digB b then 13 else 19 := by
  have e48 : (b == 48) = ((b.toNat : Int) == 48) := bE b 48
  have d48 : (b == 48) = true → digB b = true := fun h => by rw [show b = 48 from by simpa using h]; rfl
  unfold numZ digZ fulZ
  rw [e48] at d48 ⊢
  rcases hs with rfl | rfl | rfl <;> cases h : digB b <;> cases h2 : ((b.toNat : Int) == 48) <;> simp_all
theorem begJ_rest {D : Nat} {st : List Bool} {b : UInt8} (h1 : (b == 91) = false) (h2 : (b == 123) = false) (h3 : (b == 34) = false) (h4 : (b == 116) = false) (h5 : (b == 102) = false) (h6 : (b == 110) = false) (h7 : (b == 45) = false) :
    begJ D st b = if b == 48 then .go (.n 2) st else if digB b then .go (.n 1) st else .no := by
  unfold begJ
  rw [h1, h2, h3, h4, h5, h6, h7]
  rfl

set_option maxHeartbeats 1000000 in
set_option maxRecDepth 10000 in
theorem begin_open {w : World} {mb D : Nat} {sn pl sp tn lf : Int} {rs : ByteArray} {st : List Bool} {E : List Value} (h : Was w mb D sn pl sp tn lf rs st E) (b : UInt8) (hb : b = 91 ∨ b = 123) :
    Calls Try.prog 59 #[mptr mb, .int .u8 (b.toNat : Int)] w fun e w' => e = .returned (.tuple #[]) ∧ Ste w w' mb D sn pl (begJ D st b) := by
  rcases hb with rfl | rfl
  · rw [show begJ D st 91 = if st.length < D then .go .a (false :: st) else .de from rfl]
    show Calls Try.prog 59 #[mptr mb, .int .u8 91] w _
    by_cases hl : st.length < D
    · rw [if_pos hl]
      have HE : Hid (Calls Try.prog 77 #[mptr mb, .int .u8 93, .int .i64 2] w fun e w' => e = .returned (.tuple #[]) ∧ Mv w.heap.size [mb] w w' ∧ ∃ E', Was w' mb D sn pl 2 tn lf rs (false :: st) E') := Lib.hid (enter_ok h false 2 hl)
      clear h hl
      go_enter Try.func59, Try.ntmps59
      go_wp2_with (go_at_call 77; (with_reducible refine HE.out.mono ?_); rintro e w1 ⟨rfl, hm, E', hw⟩)
      go_end0
      exact ⟨rfl, hm, hw.go ⟨rfl, rfl⟩⟩
    · rw [if_neg hl]
      have HE := Lib.hid (enter_deep h 93 2 (by omega))
      clear h hl
      go_enter Try.func59, Try.ntmps59
      go_wp2_with (go_at_call 77; (with_reducible refine HE.out.mono ?_); rintro e w1 ⟨rfl, hm⟩)
      go_end0
      exact ⟨rfl, hm⟩
  · rw [show begJ D st 123 = if st.length < D then .go .o (true :: st) else .de from rfl]
    show Calls Try.prog 59 #[mptr mb, .int .u8 123] w _
    by_cases hl : st.length < D
    · rw [if_pos hl]
      have HE : Hid (Calls Try.prog 77 #[mptr mb, .int .u8 125, .int .i64 4] w fun e w' => e = .returned (.tuple #[]) ∧ Mv w.heap.size [mb] w w' ∧ ∃ E', Was w' mb D sn pl 4 tn lf rs (true :: st) E') := Lib.hid (enter_ok h true 4 hl)
      clear h hl
      go_enter Try.func59, Try.ntmps59
      go_wp2_with (go_at_call 77; (with_reducible refine HE.out.mono ?_); rintro e w1 ⟨rfl, hm, E', hw⟩)
      go_end0
      exact ⟨rfl, hm, hw.go ⟨rfl, rfl⟩⟩
    · rw [if_neg hl]
      have HE := Lib.hid (enter_deep h 125 4 (by omega))
      clear h hl
      go_enter Try.func59, Try.ntmps59
      go_wp2_with (go_at_call 77; (with_reducible refine HE.out.mono ?_); rintro e w1 ⟨rfl, hm⟩)
      go_end0
      exact ⟨rfl, hm⟩
set_option maxHeartbeats 1000000 in
set_option maxRecDepth 10000 in
theorem begin_one {w : World} {mb D : Nat} {sn pl sp tn lf : Int} {rs : ByteArray} {st : List Bool} {E : List Value} (h : Was w mb D sn pl sp tn lf rs st E) (b : UInt8) (hb : b = 34 ∨ b = 45 ∨ b = 116 ∨ b = 102 ∨ b = 110) :
    Calls Try.prog 59 #[mptr mb, .int .u8 (b.toNat : Int)] w fun e w' => e = .returned (.tuple #[]) ∧ Ste w w' mb D sn pl (begJ D st b) := by
  have c3 := h.mac.c3
  have c4 := h.mac.c4
  have c6 := h.mac.c6
  have z3 := Blk.frozen h.mac 3
  have z4 := Blk.frozen h.mac 4
  have z6 := Blk.frozen h.mac 6
  have H := Lib.hid h
  clear h
  rcases hb with rfl | rfl | rfl | rfl | rfl
  · rw [show begJ D st 34 = .go (.q false 0) st from rfl]
    show Calls Try.prog 59 #[mptr mb, .int .u8 34] w _
    go_enter Try.func59, Try.ntmps59
    go_wp2
    go_end0
    exact ⟨rfl, ((mv0 w mb).put1 _ _).put1 _ _, ((H.out.s3 7).s4 6).go ⟨rfl, fun e => (by cases e), rfl⟩⟩
  · rw [show begJ D st 45 = .go (.n 0) st from rfl]
    show Calls Try.prog 59 #[mptr mb, .int .u8 45] w _
    go_enter Try.func59, Try.ntmps59
    go_wp2
    go_end0
    exact ⟨rfl, (mv0 w mb).put1 _ _, (H.out.s3 11).go (p := .n 0) rfl⟩
  · rw [show begJ D st 116 = .go (.w 114 [117, 101]) st from rfl]
    show Calls Try.prog 59 #[mptr mb, .int .u8 116] w _
    go_enter Try.func59, Try.ntmps59
    go_wp2
    go_end0
    exact ⟨rfl, ((mv0 w mb).put1 _ _).put1 _ _, ((H.out.s3 10).s6 _).go (p := .w 114 [117, 101]) ⟨rfl, rfl⟩⟩
  · rw [show begJ D st 102 = .go (.w 97 [108, 115, 101]) st from rfl]
    show Calls Try.prog 59 #[mptr mb, .int .u8 102] w _
    go_enter Try.func59, Try.ntmps59
    go_wp2
    go_end0
    exact ⟨rfl, ((mv0 w mb).put1 _ _).put1 _ _, ((H.out.s3 10).s6 _).go (p := .w 97 [108, 115, 101]) ⟨rfl, rfl⟩⟩
  · rw [show begJ D st 110 = .go (.w 117 [108, 108]) st from rfl]
    show Calls Try.prog 59 #[mptr mb, .int .u8 110] w _
    go_enter Try.func59, Try.ntmps59
    go_wp2
    go_end0
    exact ⟨rfl, ((mv0 w mb).put1 _ _).put1 _ _, ((H.out.s3 10).s6 _).go (p := .w 117 [108, 108]) ⟨rfl, rfl⟩⟩
set_option maxHeartbeats 1000000 in
set_option maxRecDepth 10000 in
theorem begin_rest {w : World} {mb D : Nat} {sn pl sp tn lf : Int} {rs : ByteArray} {st : List Bool} {E : List Value} (h : Was w mb D sn pl sp tn lf rs st E) (b : UInt8) (hs : sp = 0 ∨ sp = 1 ∨ sp = 2)
    (h1 : (b == 91) = false) (h2 : (b == 123) = false) (h3 : (b == 34) = false) (h4 : (b == 116) = false) (h5 : (b == 102) = false) (h6 : (b == 110) = false) (h7 : (b == 45) = false) :
    Calls Try.prog 59 #[mptr mb, .int .u8 (b.toNat : Int)] w fun e w' => e = .returned (.tuple #[]) ∧ Ste w w' mb D sn pl (begJ D st b) := by
  have c3 := h.mac.c3
  have z3 := Blk.frozen h.mac 3
  have H := Lib.hid h
  have HN := Lib.hid (fun W => jnumber_any sp b W)
  rw [begin_num hs] at HN
  obtain ⟨q, hq⟩ : ∃ q, q = begJ D st b := ⟨_, rfl⟩
  rw [← hq]
  rw [begJ_rest h1 h2 h3 h4 h5 h6 h7] at hq
  have HQ := Lib.hid hq
  clear hq
  rw [show (b == 91) = ((b.toNat : Int) == 91) from bE b 91] at h1
  rw [show (b == 123) = ((b.toNat : Int) == 123) from bE b 123] at h2
  rw [show (b == 34) = ((b.toNat : Int) == 34) from bE b 34] at h3
  rw [show (b == 116) = ((b.toNat : Int) == 116) from bE b 116] at h4
  rw [show (b == 102) = ((b.toNat : Int) == 102) from bE b 102] at h5
  rw [show (b == 110) = ((b.toNat : Int) == 110) from bE b 110] at h6
  rw [show (b == 45) = ((b.toNat : Int) == 45) from bE b 45] at h7
  clear h hs
  obtain ⟨x, hx⟩ : ∃ x : Int, x = if b == 48 then 12 else if digB b then 13 else 19 := ⟨_, rfl⟩
  rw [← hx] at HN
  have HX := Lib.hid hx
  clear hx
  go_enter Try.func59, Try.ntmps59
  go_wp2_with (go_at_call 57; (with_reducible refine (HN.out _).mono ?_); rintro e w1 ⟨rfl, rfl⟩)
  go_end0
  refine ⟨rfl, ?_, ?_⟩
  · exact (mv0 w mb).put1 _ _
  · have hw := H.out.s3 x
    have hx := HX.out
    rw [HQ.out]
    cases e1 : (b == 48) <;> cases e2 : digB b <;> rw [e1, e2] at hx <;> (simp at hx; subst hx)
    · exact hw.no
    · exact hw.go (p := .n 1) rfl
    · exact hw.go (p := .n 2) rfl
    · exact hw.go (p := .n 2) rfl
theorem begin_any {w : World} {mb D : Nat} {sn pl sp tn lf : Int} {rs : ByteArray} {st : List Bool} {E : List Value} (h : Was w mb D sn pl sp tn lf rs st E) (b : UInt8) (hs : sp = 0 ∨ sp = 1 ∨ sp = 2) :
    Calls Try.prog 59 #[mptr mb, .int .u8 (b.toNat : Int)] w fun e w' => e = .returned (.tuple #[]) ∧ Ste w w' mb D sn pl (begJ D st b) := by
  by_cases e1 : b = 91
  · exact begin_open h b (Or.inl e1)
  by_cases e2 : b = 123
  · exact begin_open h b (Or.inr e2)
  by_cases e3 : b = 34
  · exact begin_one h b (Or.inl e3)
  by_cases e4 : b = 45
  · exact begin_one h b (Or.inr (Or.inl e4))
  by_cases e5 : b = 116
  · exact begin_one h b (Or.inr (Or.inr (Or.inl e5)))
  by_cases e6 : b = 102
  · exact begin_one h b (Or.inr (Or.inr (Or.inr (Or.inl e6))))
  by_cases e7 : b = 110
  · exact begin_one h b (Or.inr (Or.inr (Or.inr (Or.inr e7))))
  exact begin_rest h b hs (beq_eq_false_iff_ne.2 e1) (beq_eq_false_iff_ne.2 e2) (beq_eq_false_iff_ne.2 e3) (beq_eq_false_iff_ne.2 e5) (beq_eq_false_iff_ne.2 e6) (beq_eq_false_iff_ne.2 e7) (beq_eq_false_iff_ne.2 e4)
end Go.Proofs.Ytbojbkpplejdmaa
namespace Go.Proofs.Ytbojbkpplejdmaa
open Go.RowKit

theorem head_cons {t : Bool} {st : List Bool} (h : st.head? = some t) : ∃ r, st = t :: r := by
  cases st with
  | nil => cases h
  | cons a r => exact ⟨r, by rw [show a = t from by simpa using h]⟩
theorem Reg.key {key : Bool} {n : Nat} {st : List Bool} {sp tn lf : Int} {rs : ByteArray} (h : Reg (.q key n) st sp tn lf rs) : tn = (if key then 5 else 6) ∧ (key = true → st.head? = some true) := ⟨h.1, h.2.1⟩

set_option maxHeartbeats 1000000 in
theorem between_white {w : World} {mb D : Nat} {sn pl : Int} (b : UInt8) (hw : whiB b = true) {r : Sj} (h : MacS w mb D sn pl r) :
    Calls Try.prog 46 #[mptr mb, .int .u8 (b.toNat : Int)] w fun e w' => e = .returned (.tuple #[]) ∧ Ste w w' mb D sn pl r := by
  have HW := Lib.hid (fun W => white_any b W)
  rw [hw] at HW
  have H := Lib.hid h
  clear h hw
  go_enter Try.func46, Try.ntmps46
  go_wp2_with (go_at_call 58; (with_reducible refine (HW.out _).mono ?_); rintro e w1 ⟨rfl, rfl⟩)
  refine bodyPost_ret (results_none rfl _ _ _) rfl ?_
  exact ⟨rfl, mv0 w mb, H.out⟩
set_option maxHeartbeats 1000000 in
theorem between_value {w : World} {mb D : Nat} {sn pl sp tn lf : Int} {rs : ByteArray} {st : List Bool} {E : List Value} (h : Was w mb D sn pl sp tn lf rs st E) (b : UInt8) (hw : whiB b = false) (hs : sp = 0 ∨ sp = 1) :
    Calls Try.prog 46 #[mptr mb, .int .u8 (b.toNat : Int)] w fun e w' => e = .returned (.tuple #[]) ∧ Ste w w' mb D sn pl (begJ D st b) := by
  have HW := Lib.hid (fun W => white_any b W)
  rw [hw] at HW
  have c3 := h.mac.c3
  have HB := Lib.hid (begin_any h b (by omega))
  clear h hw
  rcases hs with rfl | rfl
  all_goals
    go_enter Try.func46, Try.ntmps46
    go_wp2_with (first
      | (go_at_call 58; (with_reducible refine (HW.out _).mono ?_); rintro e w1 ⟨rfl, rfl⟩)
      | (go_at_call 59; (with_reducible refine HB.out.mono ?_); rintro e w1 ⟨rfl, hm⟩))
    go_end0
    exact ⟨rfl, hm⟩
theorem Ste.drewN {w w' : World} {mb D : Nat} {sn pl : Int} {r : Sj} {n : Nat} (h : Ste (w.drewN n) w' mb D sn pl r) : Ste w w' mb D sn pl r := ⟨((mv0 w mb).drewN n).trans h.1, h.2⟩
set_option maxHeartbeats 1000000 in
theorem between_first {w : World} {mb D : Nat} {sn pl tn lf : Int} {rs : ByteArray} {st : List Bool} {E : List Value} (h : Was w mb D sn pl 2 tn lf rs (false :: st) E) (b : UInt8) (hw : whiB b = false) :
    Calls Try.prog 46 #[mptr mb, .int .u8 (b.toNat : Int)] w fun e w' => e = .returned (.tuple #[]) ∧ Ste w w' mb D sn pl (if b == 93 then .go .e st else begJ D (false :: st) b) := by
  have HW := Lib.hid (fun W => white_any b W)
  rw [hw] at HW
  have c3 := h.mac.c3
  obtain ⟨q, hq⟩ : ∃ q : Sj, q = if b == 93 then .go .e st else begJ D (false :: st) b := ⟨_, rfl⟩
  rw [← hq]
  cases hb : (b == 93)
  · rw [hb] at hq
    have e : q = begJ D (false :: st) b := hq
    subst e
    have HL := Lib.hid (leave_no h b hb)
    have HB := Lib.hid (fun n => begin_any (h.drewN n) b (Or.inr (Or.inr rfl)))
    clear h hw hq hb
    go_enter Try.func46, Try.ntmps46
    go_wp2_with (first
      | (go_at_call 58; (with_reducible refine (HW.out _).mono ?_); rintro e w1 ⟨rfl, rfl⟩)
      | (go_at_call 60; (with_reducible refine HL.out.mono ?_); rintro e w1 ⟨rfl, n, rfl⟩)
      | (go_at_call 59; (with_reducible refine (HB.out _).mono ?_); rintro e w1 ⟨rfl, hm⟩))
    go_end0
    exact ⟨rfl, hm.drewN⟩
  · rw [hb] at hq
    have e : q = .go .e st := hq
    subst e
    have hb2 : b = shutB false := eq_of_beq hb
    subst hb2
    have HL := Lib.hid (leave_yes h)
    clear h hw hq hb
    go_enter Try.func46, Try.ntmps46
    go_wp2_with (first
      | (go_at_call 58; (with_reducible refine (HW.out _).mono ?_); rintro e w1 ⟨rfl, rfl⟩)
      | (go_at_call 60; (with_reducible refine HL.out.mono ?_); rintro e w1 ⟨rfl, hm, hk⟩))
    go_end0
    exact ⟨rfl, hm, hk.go rfl⟩
set_option maxHeartbeats 1000000 in
theorem between_firstName {w : World} {mb D : Nat} {sn pl tn lf : Int} {rs : ByteArray} {st : List Bool} {E : List Value} (h : Was w mb D sn pl 4 tn lf rs (true :: st) E) (b : UInt8) (hw : whiB b = false) :
    Calls Try.prog 46 #[mptr mb, .int .u8 (b.toNat : Int)] w fun e w' => e = .returned (.tuple #[]) ∧ Ste w w' mb D sn pl (if b == 125 then .go .e st else if b == 34 then .go (.q true 0) (true :: st) else .no) := by
  have HW := Lib.hid (fun W => white_any b W)
  rw [hw] at HW
  have c3 := h.mac.c3
  obtain ⟨q, hq⟩ : ∃ q : Sj, q = if b == 125 then .go .e st else if b == 34 then .go (.q true 0) (true :: st) else .no := ⟨_, rfl⟩
  rw [← hq]
  cases hb : (b == 125)
  · rw [hb] at hq
    have e : q = if b == 34 then .go (.q true 0) (true :: st) else .no := hq
    have HL := Lib.hid (leave_no h b hb)
    have HB := Lib.hid (fun n => beginName_any (h.drewN n) b rfl)
    rw [← e] at HB
    clear h hw hq hb e
    go_enter Try.func46, Try.ntmps46
    go_wp2_with (first
      | (go_at_call 58; (with_reducible refine (HW.out _).mono ?_); rintro e w1 ⟨rfl, rfl⟩)
      | (go_at_call 60; (with_reducible refine HL.out.mono ?_); rintro e w1 ⟨rfl, n, rfl⟩)
      | (go_at_call 61; (with_reducible refine (HB.out _).mono ?_); rintro e w1 ⟨rfl, hm⟩))
    go_end0
    exact ⟨rfl, hm.drewN⟩
  · rw [hb] at hq
    have e : q = .go .e st := hq
    subst e
    have hb2 : b = shutB true := eq_of_beq hb
    subst hb2
    have HL := Lib.hid (leave_yes h)
    clear h hw hq hb
    go_enter Try.func46, Try.ntmps46
    go_wp2_with (first
      | (go_at_call 58; (with_reducible refine (HW.out _).mono ?_); rintro e w1 ⟨rfl, rfl⟩)
      | (go_at_call 60; (with_reducible refine HL.out.mono ?_); rintro e w1 ⟨rfl, hm, hk⟩))
    go_end0
    exact ⟨rfl, hm, hk.go rfl⟩
set_option maxHeartbeats 1000000 in
theorem between_name {w : World} {mb D : Nat} {sn pl tn lf : Int} {rs : ByteArray} {st : List Bool} {E : List Value} (h : Was w mb D sn pl 3 tn lf rs st E) (b : UInt8) (hw : whiB b = false) (hs : st.head? = some true) :
    Calls Try.prog 46 #[mptr mb, .int .u8 (b.toNat : Int)] w fun e w' => e = .returned (.tuple #[]) ∧ Ste w w' mb D sn pl (if b == 34 then .go (.q true 0) st else .no) := by
  have HW := Lib.hid (fun W => white_any b W)
  rw [hw] at HW
  have c3 := h.mac.c3
  have HB := Lib.hid (beginName_any h b hs)
  obtain ⟨q, hq⟩ : ∃ q : Sj, q = if b == 34 then .go (.q true 0) st else .no := ⟨_, rfl⟩
  rw [← hq] at HB ⊢
  clear h hw hq hs
  go_enter Try.func46, Try.ntmps46
  go_wp2_with (first
    | (go_at_call 58; (with_reducible refine (HW.out _).mono ?_); rintro e w1 ⟨rfl, rfl⟩)
    | (go_at_call 61; (with_reducible refine HB.out.mono ?_); rintro e w1 ⟨rfl, hm⟩))
  go_end0
  exact ⟨rfl, hm⟩
set_option maxHeartbeats 1000000 in
theorem between_colon {w : World} {mb D : Nat} {sn pl tn lf : Int} {rs : ByteArray} {st : List Bool} {E : List Value} (h : Was w mb D sn pl 5 tn lf rs (true :: st) E) (b : UInt8) (hw : whiB b = false) :
    Calls Try.prog 46 #[mptr mb, .int .u8 (b.toNat : Int)] w fun e w' => e = .returned (.tuple #[]) ∧ Ste w w' mb D sn pl (if b == 58 then .go .v (true :: st) else .no) := by
  have HW := Lib.hid (fun W => white_any b W)
  rw [hw] at HW
  have c3 := h.mac.c3
  have z3 := Blk.frozen h.mac 3
  have H := Lib.hid h
  rw [show (b == 58) = ((b.toNat : Int) == 58) from bE b 58]
  clear h hw
  cases h0 : ((b.toNat : Int) == 58)
  · go_enter Try.func46, Try.ntmps46
    go_wp2_with (go_at_call 58; (with_reducible refine (HW.out _).mono ?_); rintro e w1 ⟨rfl, rfl⟩)
    go_end0
    exact ⟨rfl, (mv0 w mb).put1 _ _, (H.out.s3 19).no⟩
  · go_enter Try.func46, Try.ntmps46
    go_wp2_with (go_at_call 58; (with_reducible refine (HW.out _).mono ?_); rintro e w1 ⟨rfl, rfl⟩)
    go_end0
    exact ⟨rfl, ((mv0 w mb).put1 _ _).put1 _ _, ((H.out.s3 19).s3 1).go (p := .v) rfl⟩
set_option maxHeartbeats 1000000 in
theorem between_behind {w : World} {mb D : Nat} {sn pl tn lf : Int} {rs : ByteArray} {st : List Bool} {E : List Value} (h : Was w mb D sn pl 6 tn lf rs st E) (b : UInt8) :
    Calls Try.prog 46 #[mptr mb, .int .u8 (b.toNat : Int)] w fun e w' => e = .returned (.tuple #[]) ∧ Ste w w' mb D sn pl (behJ st b) := by
  cases hw : whiB b
  · have HW := Lib.hid (fun W => white_any b W)
    rw [hw] at HW
    have c3 := h.mac.c3
    have HF := Lib.hid (follow_any h b)
    rw [beh_fol hw]
    generalize folJ st b = q at *
    clear h hw
    go_enter Try.func46, Try.ntmps46
    go_wp2_with (first
      | (go_at_call 58; (with_reducible refine (HW.out _).mono ?_); rintro e w1 ⟨rfl, rfl⟩)
      | (go_at_call 62; (with_reducible refine HF.out.mono ?_); rintro e w1 ⟨rfl, hm⟩))
    go_end0
    exact ⟨rfl, hm⟩
  · rw [show behJ st b = .go .e st from by unfold behJ; rw [hw]; rfl]
    exact between_white b hw (h.go rfl)

theorem between_any {w : World} {mb D : Nat} {sn pl sp tn lf : Int} {rs : ByteArray} {st : List Bool} {E : List Value} {p : Pj} (h : Was w mb D sn pl sp tn lf rs st E) (hr : Reg p st sp tn lf rs) (hp : calmJ p = true) (b : UInt8) :
    Calls Try.prog 46 #[mptr mb, .int .u8 (b.toNat : Int)] w fun e w' => e = .returned (.tuple #[]) ∧ Ste w w' mb D sn pl (stepJ D p st b) := by
  cases hw : whiB b with
  | true =>
    have e : stepJ D p st b = .go p st := by
      cases p with
      | v => exact if_pos hw
      | a => exact if_pos hw
      | o => exact if_pos hw
      | k => exact if_pos hw
      | c => exact if_pos hw
      | e => exact if_pos hw
      | q _ _ => cases hp
      | n _ => cases hp
      | w _ _ => cases hp
    rw [e]
    exact between_white b hw (h.go hr)
  | false =>
    cases p with
    | v =>
      have e : stepJ D .v st b = begJ D st b := by show (if whiB b then _ else _) = _; rw [hw]; exact if_neg (by decide)
      rw [e]
      refine between_value h b hw ?_
      have hr' : sp = if st.isEmpty then 0 else 1 := hr
      cases h2 : st.isEmpty <;> rw [h2] at hr'
      · exact Or.inr hr'
      · exact Or.inl hr'
    | a =>
      obtain ⟨rfl, hs⟩ := hr
      obtain ⟨r, rfl⟩ := head_cons hs
      have e : stepJ D .a (false :: r) b = if b == 93 then .go .e r else begJ D (false :: r) b := by show (if whiB b then _ else _) = _; rw [hw]; exact if_neg (by decide)
      rw [e]
      exact between_first h b hw
    | o =>
      obtain ⟨rfl, hs⟩ := hr
      obtain ⟨r, rfl⟩ := head_cons hs
      have e : stepJ D .o (true :: r) b = if b == 125 then .go .e r else if b == 34 then .go (.q true 0) (true :: r) else .no := by show (if whiB b then _ else _) = _; rw [hw]; exact if_neg (by decide)
      rw [e]
      exact between_firstName h b hw
    | k =>
      obtain ⟨rfl, hs⟩ := hr
      have e : stepJ D .k st b = if b == 34 then .go (.q true 0) st else .no := by show (if whiB b then _ else _) = _; rw [hw]; exact if_neg (by decide)
      rw [e]
      exact between_name h b hw hs
    | c =>
      obtain ⟨rfl, hs⟩ := hr
      obtain ⟨r, rfl⟩ := head_cons hs
      have e : stepJ D .c (true :: r) b = if b == 58 then .go .v (true :: r) else .no := by show (if whiB b then _ else _) = _; rw [hw]; exact if_neg (by decide)
      rw [e]
      exact between_colon h b hw
    | e =>
      have hr' : sp = 6 := hr
      subst hr'
      exact between_behind h b
    | q _ _ => cases hp
    | n _ => cases hp
    | w _ _ => cases hp
end Go.Proofs.Ytbojbkpplejdmaa
