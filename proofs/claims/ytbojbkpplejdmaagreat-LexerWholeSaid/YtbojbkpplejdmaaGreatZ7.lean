/-
  What package json's follow, begin, between, inText, escaped, inCode, inWord, inNumber and take do with a machine: what one byte makes of where reading stands (stepJ). Conditions: what is open is told of in the machine's cells, and is no deeper than it may be.
  What package json's between, inText, escaped, inCode, inWord, inNumber and take do with a machine: what one byte makes of where reading stands (stepJ). Conditions: what is open is told of in the machine's cells, and is no deeper than it may be.
  What package json's inText, escaped, inCode, inWord, inNumber and take do with a machine: what one byte makes of where reading stands (stepJ). Conditions: what is open is told of in the machine's cells, and is no deeper than it may be.
-/
import Derived.Test.YtbojbkpplejdmaaGreatZ6
namespace Go.Proofs.YtbojbkpplejdmaaGreat
open Go.RowKit

def folJ (st : List Bool) (b : UInt8) : Sj := match st with
  | [] => .no
  | t :: r => if b == shutB t then .go .e r else if b == 44 then .go (if t then .k else .v) st else .no
theorem beh_fol {st : List Bool} {b : UInt8} (hw : whiB b = false) : behJ st b = folJ st b := by
  unfold behJ folJ
  rw [hw, if_neg (by decide)]
  rfl

set_option maxHeartbeats 1000000 in
set_option maxRecDepth 10000 in
theorem follow_any {w : World} {mb D : Nat} {sn pl sp tn lf : Int} {rs : ByteArray} {st : List Bool} {E : List Value} (h : Was w mb D sn pl sp tn lf rs st E) (b : UInt8) :
    Calls Tryz.prog 84 #[mptr mb, .int .u8 (b.toNat : Int)] w fun e w' => e = .returned (.tuple #[]) ∧ Ste w w' mb D sn pl (folJ st b) := by
  cases hy : lvB st b
  · have HN := Lib.hid (leave_no h b hy)
    have H := Lib.hid h
    have z3 := Blk.frozen h.mac 3
    have c3 := h.mac.c3
    cases st with
    | nil =>
      have c7 := h.mac.c7
      rw [show (([] : List Bool).length : Int) = 0 from rfl] at c7
      clear h hy
      go_enter Tryz.func84, Tryz.ntmps84
      go_wp2_with (go_at_call 82; (with_reducible refine HN.out.mono ?_); rintro e w1 ⟨rfl, n, rfl⟩)
      go_end0
      exact ⟨rfl, ((mv0 w mb).drewN _).put1 _ _, ((H.out.drewN _).s3 19).no⟩
    | cons t r =>
      have c7 := h.mac.c7
      rw [show ((t :: r).length : Int) = (r.length : Int) + 1 from by simp] at c7
      have cE := (h.mac.cE r.length).trans h.ends.1
      have hd : r.length + 1 ≤ D := h.deep
      have hD := h.most
      have b0 : decide ((0 : Int) < ((r.length : Nat) : Int) + 1) = true := by rw [decide_eq_true_iff]; omega
      have b1 : (r.length : Int) < 200 := by omega
      have b2 : (0 : Int) ≤ (r.length : Int) := by omega
      have e : folJ (t :: r) b = if b == 44 then .go (if t then .k else .v) (t :: r) else .no := if_neg (by rw [show (b == shutB t) = false from hy]; decide)
      rw [e, show (b == 44) = ((b.toNat : Int) == 44) from bE b 44]
      clear h hy e hd hD
      generalize r.length = d at *
      cases h4 : ((b.toNat : Int) == 44)
      · go_enter Tryz.func84, Tryz.ntmps84
        go_wp2_with (go_at_call 82; (with_reducible refine HN.out.mono ?_); rintro e w1 ⟨rfl, n, rfl⟩)
        go_end0
        exact ⟨rfl, ((mv0 w mb).drewN _).put1 _ _, ((H.out.drewN _).s3 19).no⟩
      · cases t with
        | false =>
          rw [show ((shutB false).toNat : Int) = 93 from rfl] at cE
          go_enter Tryz.func84, Tryz.ntmps84
          go_wp2_with (go_at_call 82; (with_reducible refine HN.out.mono ?_); rintro e w1 ⟨rfl, n, rfl⟩)
          go_quiet (fail)
          go_wp2
          go_end0
          refine ⟨rfl, ?_, ?_⟩
          · first | exact ((((mv0 w mb).drewN _).put1 _ _).put1 _ _).drewN _ | exact (((((mv0 w mb).drewN _).put1 _ _).put1 _ _).drewN _)
          · exact (((((H.out.drewN _).s3 19).s3 1)).drewN _).go (p := .v) rfl
        | true =>
          rw [show ((shutB true).toNat : Int) = 125 from rfl] at cE
          go_enter Tryz.func84, Tryz.ntmps84
          go_wp2_with (go_at_call 82; (with_reducible refine HN.out.mono ?_); rintro e w1 ⟨rfl, n, rfl⟩)
          go_quiet (fail)
          go_wp2
          go_end0
          refine ⟨rfl, ?_, ?_⟩
          · exact (((((mv0 w mb).drewN _).put1 _ _).put1 _ _).drewN _).put1 _ _
          · exact ((((((H.out.drewN _).s3 19).s3 1)).drewN _).s3 3).go (p := .k) ⟨rfl, rfl⟩
  · cases st with
    | nil => cases hy
    | cons t r =>
      have hb : b = shutB t := by simpa [lvB] using hy
      subst hb
      have HY := Lib.hid (leave_yes h)
      have e : folJ (t :: r) (shutB t) = .go .e r := if_pos (by rw [show (shutB t == shutB t) = true from hy])
      rw [e]
      clear h hy e
      go_enter Tryz.func84, Tryz.ntmps84
      go_wp2_with (go_at_call 82; (with_reducible refine HY.out.mono ?_); rintro e w1 ⟨rfl, hm, hw⟩)
      refine bodyPost_ret (results_none rfl _ _ _) rfl ?_
      exact ⟨rfl, hm, hw.go rfl⟩

/-! The first byte of a value. -/
theorem begin_num {sp : Int} {b : UInt8} (hs : sp = 0 ∨ sp = 1 ∨ sp = 2) : numZ sp b = if b == 48 then 12 else if digB b then 13 else 19 := by
  have e48 : (b == 48) = ((b.toNat : Int) == 48) := bE b 48
  have d48 : (b == 48) = true → digB b = true := fun h => by rw [show b = 48 from by simpa using h]; rfl
  unfold numZ digZ fulZ
  rw [e48] at d48 ⊢
  rcases hs with rfl | rfl | rfl <;> cases h : digB b <;> cases h2 : ((b.toNat : Int) == 48) <;> simp_all
theorem begJ_rest {D : Nat} {st : List Bool} {b : UInt8} (h1 : (b == 91) = false) (h2 : (b == 123) = false) (h3 : (b == 34) = false) (h4 : (b == 116) = false) (h5 : (b == 102) = false) (h6 : (b == 110) = false) (h7 : (b == 45) = false) :
    begJ D st b = if b == 48 then .go (.n 2) st else if digB b then .go (.n 1) st else .no := by
  unfold begJ
  rw [h1, h2, h3, h4, h5, h6, h7]
  rfl

set_option maxHeartbeats 1000000 in
set_option maxRecDepth 10000 in
theorem begin_open {w : World} {mb D : Nat} {sn pl sp tn lf : Int} {rs : ByteArray} {st : List Bool} {E : List Value} (h : Was w mb D sn pl sp tn lf rs st E) (b : UInt8) (hb : b = 91 ∨ b = 123) :
    Calls Tryz.prog 81 #[mptr mb, .int .u8 (b.toNat : Int)] w fun e w' => e = .returned (.tuple #[]) ∧ Ste w w' mb D sn pl (begJ D st b) := by
  rcases hb with rfl | rfl
  · rw [show begJ D st 91 = if st.length < D then .go .a (false :: st) else .de from rfl]
    show Calls Tryz.prog 81 #[mptr mb, .int .u8 91] w _
    by_cases hl : st.length < D
    · rw [if_pos hl]
      have HE : Hid (Calls Tryz.prog 99 #[mptr mb, .int .u8 93, .int .i64 2] w fun e w' => e = .returned (.tuple #[]) ∧ Mv w.heap.size [mb] w w' ∧ ∃ E', Was w' mb D sn pl 2 tn lf rs (false :: st) E') := Lib.hid (enter_ok h false 2 hl)
      clear h hl
      go_enter Tryz.func81, Tryz.ntmps81
      go_wp2_with (go_at_call 99; (with_reducible refine HE.out.mono ?_); rintro e w1 ⟨rfl, hm, E', hw⟩)
      go_end0
      exact ⟨rfl, hm, hw.go ⟨rfl, rfl⟩⟩
    · rw [if_neg hl]
      have HE := Lib.hid (enter_deep h 93 2 (by omega))
      clear h hl
      go_enter Tryz.func81, Tryz.ntmps81
      go_wp2_with (go_at_call 99; (with_reducible refine HE.out.mono ?_); rintro e w1 ⟨rfl, hm⟩)
      go_end0
      exact ⟨rfl, hm⟩
  · rw [show begJ D st 123 = if st.length < D then .go .o (true :: st) else .de from rfl]
    show Calls Tryz.prog 81 #[mptr mb, .int .u8 123] w _
    by_cases hl : st.length < D
    · rw [if_pos hl]
      have HE : Hid (Calls Tryz.prog 99 #[mptr mb, .int .u8 125, .int .i64 4] w fun e w' => e = .returned (.tuple #[]) ∧ Mv w.heap.size [mb] w w' ∧ ∃ E', Was w' mb D sn pl 4 tn lf rs (true :: st) E') := Lib.hid (enter_ok h true 4 hl)
      clear h hl
      go_enter Tryz.func81, Tryz.ntmps81
      go_wp2_with (go_at_call 99; (with_reducible refine HE.out.mono ?_); rintro e w1 ⟨rfl, hm, E', hw⟩)
      go_end0
      exact ⟨rfl, hm, hw.go ⟨rfl, rfl⟩⟩
    · rw [if_neg hl]
      have HE := Lib.hid (enter_deep h 125 4 (by omega))
      clear h hl
      go_enter Tryz.func81, Tryz.ntmps81
      go_wp2_with (go_at_call 99; (with_reducible refine HE.out.mono ?_); rintro e w1 ⟨rfl, hm⟩)
      go_end0
      exact ⟨rfl, hm⟩
set_option maxHeartbeats 1000000 in
set_option maxRecDepth 10000 in
theorem begin_one {w : World} {mb D : Nat} {sn pl sp tn lf : Int} {rs : ByteArray} {st : List Bool} {E : List Value} (h : Was w mb D sn pl sp tn lf rs st E) (b : UInt8) (hb : b = 34 ∨ b = 45 ∨ b = 116 ∨ b = 102 ∨ b = 110) :
    Calls Tryz.prog 81 #[mptr mb, .int .u8 (b.toNat : Int)] w fun e w' => e = .returned (.tuple #[]) ∧ Ste w w' mb D sn pl (begJ D st b) := by
  have c3 := h.mac.c3
  have c4 := h.mac.c4
  have c6 := h.mac.c6
  have z3 := Blk.frozen h.mac 3
  have z4 := Blk.frozen h.mac 4
  have z6 := Blk.frozen h.mac 6
  have H := Lib.hid h
  clear h
  rcases hb with rfl | rfl | rfl | rfl | rfl
  · rw [show begJ D st 34 = .go (.q false 0) st from rfl]
    show Calls Tryz.prog 81 #[mptr mb, .int .u8 34] w _
    go_enter Tryz.func81, Tryz.ntmps81
    go_wp2
    go_end0
    exact ⟨rfl, ((mv0 w mb).put1 _ _).put1 _ _, ((H.out.s3 7).s4 6).go ⟨rfl, fun e => (by cases e), rfl⟩⟩
  · rw [show begJ D st 45 = .go (.n 0) st from rfl]
    show Calls Tryz.prog 81 #[mptr mb, .int .u8 45] w _
    go_enter Tryz.func81, Tryz.ntmps81
    go_wp2
    go_end0
    exact ⟨rfl, (mv0 w mb).put1 _ _, (H.out.s3 11).go (p := .n 0) rfl⟩
  · rw [show begJ D st 116 = .go (.w 114 [117, 101]) st from rfl]
    show Calls Tryz.prog 81 #[mptr mb, .int .u8 116] w _
    go_enter Tryz.func81, Tryz.ntmps81
    go_wp2
    go_end0
    exact ⟨rfl, ((mv0 w mb).put1 _ _).put1 _ _, ((H.out.s3 10).s6 _).go (p := .w 114 [117, 101]) ⟨rfl, rfl⟩⟩
  · rw [show begJ D st 102 = .go (.w 97 [108, 115, 101]) st from rfl]
    show Calls Tryz.prog 81 #[mptr mb, .int .u8 102] w _
    go_enter Tryz.func81, Tryz.ntmps81
    go_wp2
    go_end0
    exact ⟨rfl, ((mv0 w mb).put1 _ _).put1 _ _, ((H.out.s3 10).s6 _).go (p := .w 97 [108, 115, 101]) ⟨rfl, rfl⟩⟩
  · rw [show begJ D st 110 = .go (.w 117 [108, 108]) st from rfl]
    show Calls Tryz.prog 81 #[mptr mb, .int .u8 110] w _
    go_enter Tryz.func81, Tryz.ntmps81
    go_wp2
    go_end0
    exact ⟨rfl, ((mv0 w mb).put1 _ _).put1 _ _, ((H.out.s3 10).s6 _).go (p := .w 117 [108, 108]) ⟨rfl, rfl⟩⟩
set_option maxHeartbeats 1000000 in
set_option maxRecDepth 10000 in
theorem begin_rest {w : World} {mb D : Nat} {sn pl sp tn lf : Int} {rs : ByteArray} {st : List Bool} {E : List Value} (h : Was w mb D sn pl sp tn lf rs st E) (b : UInt8) (hs : sp = 0 ∨ sp = 1 ∨ sp = 2)
    (h1 : (b == 91) = false) (h2 : (b == 123) = false) (h3 : (b == 34) = false) (h4 : (b == 116) = false) (h5 : (b == 102) = false) (h6 : (b == 110) = false) (h7 : (b == 45) = false) :
    Calls Tryz.prog 81 #[mptr mb, .int .u8 (b.toNat : Int)] w fun e w' => e = .returned (.tuple #[]) ∧ Ste w w' mb D sn pl (begJ D st b) := by
  have c3 := h.mac.c3
  have z3 := Blk.frozen h.mac 3
  have H := Lib.hid h
  have HN := Lib.hid (fun W => jnumber_any sp b W)
  rw [begin_num hs] at HN
  obtain ⟨q, hq⟩ : ∃ q, q = begJ D st b := ⟨_, rfl⟩
  rw [← hq]
  rw [begJ_rest h1 h2 h3 h4 h5 h6 h7] at hq
  have HQ := Lib.hid hq
  clear hq
  rw [show (b == 91) = ((b.toNat : Int) == 91) from bE b 91] at h1
  rw [show (b == 123) = ((b.toNat : Int) == 123) from bE b 123] at h2
  rw [show (b == 34) = ((b.toNat : Int) == 34) from bE b 34] at h3
  rw [show (b == 116) = ((b.toNat : Int) == 116) from bE b 116] at h4
  rw [show (b == 102) = ((b.toNat : Int) == 102) from bE b 102] at h5
  rw [show (b == 110) = ((b.toNat : Int) == 110) from bE b 110] at h6
  rw [show (b == 45) = ((b.toNat : Int) == 45) from bE b 45] at h7
  clear h hs
  obtain ⟨x, hx⟩ : ∃ x : Int, x = if b == 48 then 12 else if digB b then 13 else 19 := ⟨_, rfl⟩
  rw [← hx] at HN
  have HX := Lib.hid hx
  clear hx
  go_enter Tryz.func81, Tryz.ntmps81
  go_wp2_with (go_at_call 79; (with_reducible refine (HN.out _).mono ?_); rintro e w1 ⟨rfl, rfl⟩)
  go_end0
  refine ⟨rfl, ?_, ?_⟩
  · exact (mv0 w mb).put1 _ _
  · have hw := H.out.s3 x
    have hx := HX.out
    rw [HQ.out]
    cases e1 : (b == 48) <;> cases e2 : digB b <;> rw [e1, e2] at hx <;> (simp at hx; subst hx)
    · exact hw.no
    · exact hw.go (p := .n 1) rfl
    · exact hw.go (p := .n 2) rfl
    · exact hw.go (p := .n 2) rfl
theorem begin_any {w : World} {mb D : Nat} {sn pl sp tn lf : Int} {rs : ByteArray} {st : List Bool} {E : List Value} (h : Was w mb D sn pl sp tn lf rs st E) (b : UInt8) (hs : sp = 0 ∨ sp = 1 ∨ sp = 2) :
    Calls Tryz.prog 81 #[mptr mb, .int .u8 (b.toNat : Int)] w fun e w' => e = .returned (.tuple #[]) ∧ Ste w w' mb D sn pl (begJ D st b) := by
  by_cases e1 : b = 91
  · exact begin_open h b (Or.inl e1)
  by_cases e2 : b = 123
  · exact begin_open h b (Or.inr e2)
  by_cases e3 : b = 34
  · exact begin_one h b (Or.inl e3)
  by_cases e4 : b = 45
  · exact begin_one h b (Or.inr (Or.inl e4))
  by_cases e5 : b = 116
  · exact begin_one h b (Or.inr (Or.inr (Or.inl e5)))
  by_cases e6 : b = 102
  · exact begin_one h b (Or.inr (Or.inr (Or.inr (Or.inl e6))))
  by_cases e7 : b = 110
  · exact begin_one h b (Or.inr (Or.inr (Or.inr (Or.inr e7))))
  exact begin_rest h b hs (beq_eq_false_iff_ne.2 e1) (beq_eq_false_iff_ne.2 e2) (beq_eq_false_iff_ne.2 e3) (beq_eq_false_iff_ne.2 e5) (beq_eq_false_iff_ne.2 e6) (beq_eq_false_iff_ne.2 e7) (beq_eq_false_iff_ne.2 e4)
end Go.Proofs.YtbojbkpplejdmaaGreat
namespace Go.Proofs.YtbojbkpplejdmaaGreat
open Go.RowKit

theorem head_cons {t : Bool} {st : List Bool} (h : st.head? = some t) : ∃ r, st = t :: r := by
  cases st with
  | nil => cases h
  | cons a r => exact ⟨r, by rw [show a = t from by simpa using h]⟩
theorem Reg.key {key : Bool} {n : Nat} {st : List Bool} {sp tn lf : Int} {rs : ByteArray} (h : Reg (.q key n) st sp tn lf rs) : tn = (if key then 5 else 6) ∧ (key = true → st.head? = some true) := ⟨h.1, h.2.1⟩

set_option maxHeartbeats 1000000 in
theorem between_white {w : World} {mb D : Nat} {sn pl : Int} (b : UInt8) (hw : whiB b = true) {r : Sj} (h : MacS w mb D sn pl r) :
    Calls Tryz.prog 68 #[mptr mb, .int .u8 (b.toNat : Int)] w fun e w' => e = .returned (.tuple #[]) ∧ Ste w w' mb D sn pl r := by
  have HW := Lib.hid (fun W => white_any b W)
  rw [hw] at HW
  have H := Lib.hid h
  clear h hw
  go_enter Tryz.func68, Tryz.ntmps68
  go_wp2_with (go_at_call 80; (with_reducible refine (HW.out _).mono ?_); rintro e w1 ⟨rfl, rfl⟩)
  refine bodyPost_ret (results_none rfl _ _ _) rfl ?_
  exact ⟨rfl, mv0 w mb, H.out⟩
set_option maxHeartbeats 1000000 in
theorem between_value {w : World} {mb D : Nat} {sn pl sp tn lf : Int} {rs : ByteArray} {st : List Bool} {E : List Value} (h : Was w mb D sn pl sp tn lf rs st E) (b : UInt8) (hw : whiB b = false) (hs : sp = 0 ∨ sp = 1) :
    Calls Tryz.prog 68 #[mptr mb, .int .u8 (b.toNat : Int)] w fun e w' => e = .returned (.tuple #[]) ∧ Ste w w' mb D sn pl (begJ D st b) := by
  have HW := Lib.hid (fun W => white_any b W)
  rw [hw] at HW
  have c3 := h.mac.c3
  have HB := Lib.hid (begin_any h b (by omega))
  clear h hw
  rcases hs with rfl | rfl
  all_goals
    go_enter Tryz.func68, Tryz.ntmps68
    go_wp2_with (first
      | (go_at_call 80; (with_reducible refine (HW.out _).mono ?_); rintro e w1 ⟨rfl, rfl⟩)
      | (go_at_call 81; (with_reducible refine HB.out.mono ?_); rintro e w1 ⟨rfl, hm⟩))
    go_end0
    exact ⟨rfl, hm⟩
theorem Ste.drewN {w w' : World} {mb D : Nat} {sn pl : Int} {r : Sj} {n : Nat} (h : Ste (w.drewN n) w' mb D sn pl r) : Ste w w' mb D sn pl r := ⟨((mv0 w mb).drewN n).trans h.1, h.2⟩
set_option maxHeartbeats 1000000 in
theorem between_first {w : World} {mb D : Nat} {sn pl tn lf : Int} {rs : ByteArray} {st : List Bool} {E : List Value} (h : Was w mb D sn pl 2 tn lf rs (false :: st) E) (b : UInt8) (hw : whiB b = false) :
    Calls Tryz.prog 68 #[mptr mb, .int .u8 (b.toNat : Int)] w fun e w' => e = .returned (.tuple #[]) ∧ Ste w w' mb D sn pl (if b == 93 then .go .e st else begJ D (false :: st) b) := by
  have HW := Lib.hid (fun W => white_any b W)
  rw [hw] at HW
  have c3 := h.mac.c3
  obtain ⟨q, hq⟩ : ∃ q : Sj, q = if b == 93 then .go .e st else begJ D (false :: st) b := ⟨_, rfl⟩
  rw [← hq]
  cases hb : (b == 93)
  · rw [hb] at hq
    have e : q = begJ D (false :: st) b := hq
    subst e
    have HL := Lib.hid (leave_no h b hb)
    have HB := Lib.hid (fun n => begin_any (h.drewN n) b (Or.inr (Or.inr rfl)))
    clear h hw hq hb
    go_enter Tryz.func68, Tryz.ntmps68
    go_wp2_with (first
      | (go_at_call 80; (with_reducible refine (HW.out _).mono ?_); rintro e w1 ⟨rfl, rfl⟩)
      | (go_at_call 82; (with_reducible refine HL.out.mono ?_); rintro e w1 ⟨rfl, n, rfl⟩)
      | (go_at_call 81; (with_reducible refine (HB.out _).mono ?_); rintro e w1 ⟨rfl, hm⟩))
    go_end0
    exact ⟨rfl, hm.drewN⟩
  · rw [hb] at hq
    have e : q = .go .e st := hq
    subst e
    have hb2 : b = shutB false := eq_of_beq hb
    subst hb2
    have HL := Lib.hid (leave_yes h)
    clear h hw hq hb
    go_enter Tryz.func68, Tryz.ntmps68
    go_wp2_with (first
      | (go_at_call 80; (with_reducible refine (HW.out _).mono ?_); rintro e w1 ⟨rfl, rfl⟩)
      | (go_at_call 82; (with_reducible refine HL.out.mono ?_); rintro e w1 ⟨rfl, hm, hk⟩))
    go_end0
    exact ⟨rfl, hm, hk.go rfl⟩
set_option maxHeartbeats 1000000 in
theorem between_firstName {w : World} {mb D : Nat} {sn pl tn lf : Int} {rs : ByteArray} {st : List Bool} {E : List Value} (h : Was w mb D sn pl 4 tn lf rs (true :: st) E) (b : UInt8) (hw : whiB b = false) :
    Calls Tryz.prog 68 #[mptr mb, .int .u8 (b.toNat : Int)] w fun e w' => e = .returned (.tuple #[]) ∧ Ste w w' mb D sn pl (if b == 125 then .go .e st else if b == 34 then .go (.q true 0) (true :: st) else .no) := by
  have HW := Lib.hid (fun W => white_any b W)
  rw [hw] at HW
  have c3 := h.mac.c3
  obtain ⟨q, hq⟩ : ∃ q : Sj, q = if b == 125 then .go .e st else if b == 34 then .go (.q true 0) (true :: st) else .no := ⟨_, rfl⟩
  rw [← hq]
  cases hb : (b == 125)
  · rw [hb] at hq
    have e : q = if b == 34 then .go (.q true 0) (true :: st) else .no := hq
    have HL := Lib.hid (leave_no h b hb)
    have HB := Lib.hid (fun n => beginName_any (h.drewN n) b rfl)
    rw [← e] at HB
    clear h hw hq hb e
    go_enter Tryz.func68, Tryz.ntmps68
    go_wp2_with (first
      | (go_at_call 80; (with_reducible refine (HW.out _).mono ?_); rintro e w1 ⟨rfl, rfl⟩)
      | (go_at_call 82; (with_reducible refine HL.out.mono ?_); rintro e w1 ⟨rfl, n, rfl⟩)
      | (go_at_call 83; (with_reducible refine (HB.out _).mono ?_); rintro e w1 ⟨rfl, hm⟩))
    go_end0
    exact ⟨rfl, hm.drewN⟩
  · rw [hb] at hq
    have e : q = .go .e st := hq
    subst e
    have hb2 : b = shutB true := eq_of_beq hb
    subst hb2
    have HL := Lib.hid (leave_yes h)
    clear h hw hq hb
    go_enter Tryz.func68, Tryz.ntmps68
    go_wp2_with (first
      | (go_at_call 80; (with_reducible refine (HW.out _).mono ?_); rintro e w1 ⟨rfl, rfl⟩)
      | (go_at_call 82; (with_reducible refine HL.out.mono ?_); rintro e w1 ⟨rfl, hm, hk⟩))
    go_end0
    exact ⟨rfl, hm, hk.go rfl⟩
set_option maxHeartbeats 1000000 in
theorem between_name {w : World} {mb D : Nat} {sn pl tn lf : Int} {rs : ByteArray} {st : List Bool} {E : List Value} (h : Was w mb D sn pl 3 tn lf rs st E) (b : UInt8) (hw : whiB b = false) (hs : st.head? = some true) :
    Calls Tryz.prog 68 #[mptr mb, .int .u8 (b.toNat : Int)] w fun e w' => e = .returned (.tuple #[]) ∧ Ste w w' mb D sn pl (if b == 34 then .go (.q true 0) st else .no) := by
  have HW := Lib.hid (fun W => white_any b W)
  rw [hw] at HW
  have c3 := h.mac.c3
  have HB := Lib.hid (beginName_any h b hs)
  obtain ⟨q, hq⟩ : ∃ q : Sj, q = if b == 34 then .go (.q true 0) st else .no := ⟨_, rfl⟩
  rw [← hq] at HB ⊢
  clear h hw hq hs
  go_enter Tryz.func68, Tryz.ntmps68
  go_wp2_with (first
    | (go_at_call 80; (with_reducible refine (HW.out _).mono ?_); rintro e w1 ⟨rfl, rfl⟩)
    | (go_at_call 83; (with_reducible refine HB.out.mono ?_); rintro e w1 ⟨rfl, hm⟩))
  go_end0
  exact ⟨rfl, hm⟩
set_option maxHeartbeats 1000000 in
theorem between_colon {w : World} {mb D : Nat} {sn pl tn lf : Int} {rs : ByteArray} {st : List Bool} {E : List Value} (h : Was w mb D sn pl 5 tn lf rs (true :: st) E) (b : UInt8) (hw : whiB b = false) :
    Calls Tryz.prog 68 #[mptr mb, .int .u8 (b.toNat : Int)] w fun e w' => e = .returned (.tuple #[]) ∧ Ste w w' mb D sn pl (if b == 58 then .go .v (true :: st) else .no) := by
  have HW := Lib.hid (fun W => white_any b W)
  rw [hw] at HW
  have c3 := h.mac.c3
  have z3 := Blk.frozen h.mac 3
  have H := Lib.hid h
  rw [show (b == 58) = ((b.toNat : Int) == 58) from bE b 58]
  clear h hw
  cases h0 : ((b.toNat : Int) == 58)
  · go_enter Tryz.func68, Tryz.ntmps68
    go_wp2_with (go_at_call 80; (with_reducible refine (HW.out _).mono ?_); rintro e w1 ⟨rfl, rfl⟩)
    go_end0
    exact ⟨rfl, (mv0 w mb).put1 _ _, (H.out.s3 19).no⟩
  · go_enter Tryz.func68, Tryz.ntmps68
    go_wp2_with (go_at_call 80; (with_reducible refine (HW.out _).mono ?_); rintro e w1 ⟨rfl, rfl⟩)
    go_end0
    exact ⟨rfl, ((mv0 w mb).put1 _ _).put1 _ _, ((H.out.s3 19).s3 1).go (p := .v) rfl⟩
set_option maxHeartbeats 1000000 in
theorem between_behind {w : World} {mb D : Nat} {sn pl tn lf : Int} {rs : ByteArray} {st : List Bool} {E : List Value} (h : Was w mb D sn pl 6 tn lf rs st E) (b : UInt8) :
    Calls Tryz.prog 68 #[mptr mb, .int .u8 (b.toNat : Int)] w fun e w' => e = .returned (.tuple #[]) ∧ Ste w w' mb D sn pl (behJ st b) := by
  cases hw : whiB b
  · have HW := Lib.hid (fun W => white_any b W)
    rw [hw] at HW
    have c3 := h.mac.c3
    have HF := Lib.hid (follow_any h b)
    rw [beh_fol hw]
    generalize folJ st b = q at *
    clear h hw
    go_enter Tryz.func68, Tryz.ntmps68
    go_wp2_with (first
      | (go_at_call 80; (with_reducible refine (HW.out _).mono ?_); rintro e w1 ⟨rfl, rfl⟩)
      | (go_at_call 84; (with_reducible refine HF.out.mono ?_); rintro e w1 ⟨rfl, hm⟩))
    go_end0
    exact ⟨rfl, hm⟩
  · rw [show behJ st b = .go .e st from by unfold behJ; rw [hw]; rfl]
    exact between_white b hw (h.go rfl)

theorem between_any {w : World} {mb D : Nat} {sn pl sp tn lf : Int} {rs : ByteArray} {st : List Bool} {E : List Value} {p : Pj} (h : Was w mb D sn pl sp tn lf rs st E) (hr : Reg p st sp tn lf rs) (hp : calmJ p = true) (b : UInt8) :
    Calls Tryz.prog 68 #[mptr mb, .int .u8 (b.toNat : Int)] w fun e w' => e = .returned (.tuple #[]) ∧ Ste w w' mb D sn pl (stepJ D p st b) := by
  cases hw : whiB b with
  | true =>
    have e : stepJ D p st b = .go p st := by
      cases p with
      | v => exact if_pos hw
      | a => exact if_pos hw
      | o => exact if_pos hw
      | k => exact if_pos hw
      | c => exact if_pos hw
      | e => exact if_pos hw
      | q _ _ => cases hp
      | n _ => cases hp
      | w _ _ => cases hp
    rw [e]
    exact between_white b hw (h.go hr)
  | false =>
    cases p with
    | v =>
      have e : stepJ D .v st b = begJ D st b := by show (if whiB b then _ else _) = _; rw [hw]; exact if_neg (by decide)
      rw [e]
      refine between_value h b hw ?_
      have hr' : sp = if st.isEmpty then 0 else 1 := hr
      cases h2 : st.isEmpty <;> rw [h2] at hr'
      · exact Or.inr hr'
      · exact Or.inl hr'
    | a =>
      obtain ⟨rfl, hs⟩ := hr
      obtain ⟨r, rfl⟩ := head_cons hs
      have e : stepJ D .a (false :: r) b = if b == 93 then .go .e r else begJ D (false :: r) b := by show (if whiB b then _ else _) = _; rw [hw]; exact if_neg (by decide)
      rw [e]
      exact between_first h b hw
    | o =>
      obtain ⟨rfl, hs⟩ := hr
      obtain ⟨r, rfl⟩ := head_cons hs
      have e : stepJ D .o (true :: r) b = if b == 125 then .go .e r else if b == 34 then .go (.q true 0) (true :: r) else .no := by show (if whiB b then _ else _) = _; rw [hw]; exact if_neg (by decide)
      rw [e]
      exact between_firstName h b hw
    | k =>
      obtain ⟨rfl, hs⟩ := hr
      have e : stepJ D .k st b = if b == 34 then .go (.q true 0) st else .no := by show (if whiB b then _ else _) = _; rw [hw]; exact if_neg (by decide)
      rw [e]
      exact between_name h b hw hs
    | c =>
      obtain ⟨rfl, hs⟩ := hr
      obtain ⟨r, rfl⟩ := head_cons hs
      have e : stepJ D .c (true :: r) b = if b == 58 then .go .v (true :: r) else .no := by show (if whiB b then _ else _) = _; rw [hw]; exact if_neg (by decide)
      rw [e]
      exact between_colon h b hw
    | e =>
      have hr' : sp = 6 := hr
      subst hr'
      exact between_behind h b
    | q _ _ => cases hp
    | n _ => cases hp
    | w _ _ => cases hp
end Go.Proofs.YtbojbkpplejdmaaGreat
namespace Go.Proofs.YtbojbkpplejdmaaGreat
open Go.RowKit

/-! Within a text. -/
theorem step_quo0 {D : Nat} {key : Bool} {st : List Bool} {b : UInt8} : stepJ D (.q key 0) st b = if b == 34 then .go (if key then .c else .e) st else if b == 92 then .go (.q key 1) st else if decide (b.toNat < 32) then .no else .go (.q key 0) st := by
  cases h : (b == 34) with
  | true =>
    rw [quo_end D key st (n := 0) (by simpa using h)]
    rfl
  | false =>
    rw [quo_in D key st (n := 0) (by simpa using h)]
    cases h2 : (b == 92) with
    | true =>
      have e : b = 92 := eq_of_beq h2
      subst e
      rfl
    | false =>
      show (match (if decide (b.toNat < 32) then none else if b == 92 then some 1 else some 0) with | some m => Sj.go (.q key m) st | none => .no) = _
      rw [h2]
      cases h3 : decide (b.toNat < 32) <;> rfl
theorem step_quo1 {D : Nat} {key : Bool} {st : List Bool} {b : UInt8} : stepJ D (.q key 1) st b = if b == 117 then .go (.q key 5) st else if escJ b then .go (.q key 0) st else .no := by
  rw [quo_in D key st (n := 1) rfl]
  show (match (if b == 117 then some 5 else if escJ b then some 0 else none) with | some m => Sj.go (.q key m) st | none => .no) = _
  cases h : (b == 117) <;> cases h2 : escJ b <;> rfl
theorem step_quo2 {D m : Nat} {key : Bool} {st : List Bool} {b : UInt8} : stepJ D (.q key (m + 2)) st b = if decide (0 ≤ hexB b) then .go (.q key (if m = 0 then 0 else m + 1)) st else .no := by
  rw [quo_in D key st (n := m + 2) rfl]
  show (match (if decide (0 ≤ hexB b) then some (if m = 0 then 0 else m + 1) else none) with | some m => Sj.go (.q key m) st | none => .no) = _
  cases decide (0 ≤ hexB b) <;> rfl

set_option maxHeartbeats 1000000 in
theorem inText_any {w : World} {mb D : Nat} {sn pl sp tn lf : Int} {rs : ByteArray} {st : List Bool} {E : List Value} {key : Bool} (h : Was w mb D sn pl sp tn lf rs st E) (hr : Reg (.q key 0) st sp tn lf rs) (b : UInt8) :
    Calls Tryz.prog 63 #[mptr mb, .int .u8 (b.toNat : Int)] w fun e w' => e = .returned (.tuple #[]) ∧ Ste w w' mb D sn pl (stepJ D (.q key 0) st b) := by
  have c3 := h.mac.c3
  have c4 := h.mac.c4
  have z3 := Blk.frozen h.mac 3
  have H := Lib.hid h
  have HR := Lib.hid hr
  rw [step_quo0]
  rw [show (b == 34) = ((b.toNat : Int) == 34) from bE b 34, show (b == 92) = ((b.toNat : Int) == 92) from bE b 92]
  have e3 : decide (b.toNat < 32) = decide ((b.toNat : Int) < 32) := by rw [decide_eq_decide]; omega
  rw [e3]
  clear h hr e3
  cases h0 : ((b.toNat : Int) == 34)
  · cases h1 : ((b.toNat : Int) == 92)
    · cases h2 : decide ((b.toNat : Int) < 32)
      · go_enter Tryz.func63, Tryz.ntmps63
        go_wp2
        go_end0
        exact ⟨rfl, mv0 w mb, H.out.go HR.out⟩
      · go_enter Tryz.func63, Tryz.ntmps63
        go_wp2
        go_end0
        exact ⟨rfl, (mv0 w mb).put1 _ _, (H.out.s3 19).no⟩
    · go_enter Tryz.func63, Tryz.ntmps63
      go_wp2
      go_end0
      exact ⟨rfl, (mv0 w mb).put1 _ _, (H.out.s3 8).go ⟨HR.out.1, HR.out.2.1, rfl⟩⟩
  · obtain ⟨q, hq⟩ : ∃ q : Pj, q = if key then .c else .e := ⟨_, rfl⟩
    rw [← hq]
    have HQ := Lib.hid hq
    clear hq
    go_enter Tryz.func63, Tryz.ntmps63
    go_wp2
    go_end0
    refine ⟨rfl, (mv0 w mb).put1 _ _, ?_⟩
    cases key with
    | true =>
      have e : q = .c := HQ.out
      subst e
      exact (H.out.s3 tn).go (p := .c) ⟨HR.out.1, HR.out.2.1 rfl⟩
    | false =>
      have e : q = .e := HQ.out
      subst e
      exact (H.out.s3 tn).go (p := .e) HR.out.1

theorem escJ_eq (b : UInt8) : escJ b = ((b.toNat : Int) == 34 || ((b.toNat : Int) == 92 || ((b.toNat : Int) == 47 || ((b.toNat : Int) == 98 || ((b.toNat : Int) == 102 || ((b.toNat : Int) == 110 || ((b.toNat : Int) == 114 || (b.toNat : Int) == 116))))))) := by
  have := bytes_all (p := fun b => escJ b == ((b.toNat : Int) == 34 || ((b.toNat : Int) == 92 || ((b.toNat : Int) == 47 || ((b.toNat : Int) == 98 || ((b.toNat : Int) == 102 || ((b.toNat : Int) == 110 || ((b.toNat : Int) == 114 || (b.toNat : Int) == 116)))))))) (by kernel_rfl) b
  exact eq_of_beq this
set_option maxHeartbeats 1000000 in
theorem escaped_any {w : World} {mb D : Nat} {sn pl sp tn lf : Int} {rs : ByteArray} {st : List Bool} {E : List Value} {key : Bool} (h : Was w mb D sn pl sp tn lf rs st E) (hr : Reg (.q key 1) st sp tn lf rs) (b : UInt8) :
    Calls Tryz.prog 64 #[mptr mb, .int .u8 (b.toNat : Int)] w fun e w' => e = .returned (.tuple #[]) ∧ Ste w w' mb D sn pl (stepJ D (.q key 1) st b) := by
  have c3 := h.mac.c3
  have c5 := h.mac.c5
  have z3 := Blk.frozen h.mac 3
  have z5 := Blk.frozen h.mac 5
  have H := Lib.hid h
  have HR := Lib.hid hr
  obtain ⟨q, hq⟩ : ∃ q, q = stepJ D (.q key 1) st b := ⟨_, rfl⟩
  rw [← hq]
  rw [step_quo1, show (b == 117) = ((b.toNat : Int) == 117) from bE b 117, escJ_eq b] at hq
  have HQ := Lib.hid hq
  clear h hr hq
  cases h0 : ((b.toNat : Int) == 34)
  case' false => cases h1 : ((b.toNat : Int) == 92)
  case' false.false => cases h2 : ((b.toNat : Int) == 47)
  case' false.false.false => cases h3 : ((b.toNat : Int) == 98)
  case' false.false.false.false => cases h4 : ((b.toNat : Int) == 102)
  case' false.false.false.false.false => cases h5 : ((b.toNat : Int) == 110)
  case' false.false.false.false.false.false => cases h6 : ((b.toNat : Int) == 114)
  case' false.false.false.false.false.false.false => cases h7 : ((b.toNat : Int) == 116)
  case' false.false.false.false.false.false.false.false => cases h8 : ((b.toNat : Int) == 117)
  case false.false.false.false.false.false.false.false.false =>
    have e : q = .no := by rw [HQ.out, h0, h1, h2, h3, h4, h5, h6, h7, h8]; rfl
    subst e
    clear HQ
    go_enter Tryz.func64, Tryz.ntmps64
    go_wp2
    go_end0
    exact ⟨rfl, (mv0 w mb).put1 _ _, (H.out.s3 19).no⟩
  case false.false.false.false.false.false.false.false.true =>
    have e : q = .go (.q key 5) st := by rw [HQ.out, h8]; rfl
    subst e
    clear HQ
    go_enter Tryz.func64, Tryz.ntmps64
    go_wp2
    go_end0
    exact ⟨rfl, ((mv0 w mb).put1 _ _).put1 _ _, ((H.out.s3 9).s5 4).go (p := .q key 5) ⟨HR.out.1, HR.out.2.1, rfl, rfl, by decide⟩⟩
  all_goals
    have h9 : ((b.toNat : Int) == 117) = false := by
      simp only [beq_iff_eq, beq_eq_false_iff_ne] at *
      omega
    have e : q = .go (.q key 0) st := by
      rw [HQ.out, h9]
      simp only [*, Bool.true_or, Bool.or_true, if_true, if_false, Bool.false_eq_true]
    subst e
    clear HQ
    go_enter Tryz.func64, Tryz.ntmps64
    go_wp2
    go_end0
    exact ⟨rfl, (mv0 w mb).put1 _ _, (H.out.s3 7).go (p := .q key 0) ⟨HR.out.1, HR.out.2.1, rfl⟩⟩

set_option maxHeartbeats 1000000 in
theorem inCode_any {w : World} {mb D : Nat} {sn pl sp tn lf : Int} {rs : ByteArray} {st : List Bool} {E : List Value} {key : Bool} {m : Nat} (h : Was w mb D sn pl sp tn lf rs st E) (hr : Reg (.q key (m + 2)) st sp tn lf rs) (b : UInt8) :
    Calls Tryz.prog 65 #[mptr mb, .int .u8 (b.toNat : Int)] w fun e w' => e = .returned (.tuple #[]) ∧ Ste w w' mb D sn pl (stepJ D (.q key (m + 2)) st b) := by
  obtain ⟨hr1, hr2, rfl, rfl, hm⟩ := hr
  have c3 := h.mac.c3
  have c5 := h.mac.c5
  rw [show ((m + 1 : Nat) : Int) = (m : Int) + 1 from by omega] at c5
  have z3 := Blk.frozen h.mac 3
  have z5 := Blk.frozen h.mac 5
  have H := Lib.hid h
  have HX := Lib.hid (fun W => hex_any b W)
  rw [step_quo2]
  unfold hexV at HX
  have HR := Lib.hid hr2
  clear h hr2
  by_cases hx : 0 ≤ hexB b
  · rw [if_pos hx] at HX
    rw [if_pos (decide_eq_true hx)]
    clear hx
    generalize hexB b = x at *
    by_cases h0 : m = 0
    · subst h0
      rw [if_pos rfl]
      go_enter Tryz.func65, Tryz.ntmps65
      go_wp2_with (go_at_call 78; (with_reducible refine (HX.out _).mono ?_); rintro e w1 ⟨rfl, rfl⟩)
      go_end0
      exact ⟨rfl, ((mv0 w mb).put1 _ _).put1 _ _, ((H.out.s5 _).s3 7).go (p := .q key 0) ⟨hr1, HR.out, rfl⟩⟩
    · obtain ⟨n, rfl⟩ := Nat.exists_eq_succ_of_ne_zero h0
      rw [if_neg h0]
      have b0 : (((n + 1 : Nat) : Int) == 0) = false := by rw [beq_eq_false_iff_ne]; omega
      have HM := Lib.hid (show n ≤ 3 by omega)
      have hm2 : ((n + 1 : Nat) : Int) ≤ 3 := by omega
      have hm0 : 0 ≤ ((n + 1 : Nat) : Int) := by omega
      clear hm h0
      generalize hk : ((n + 1 : Nat) : Int) = k at *
      go_enter Tryz.func65, Tryz.ntmps65
      go_wp2_with (go_at_call 78; (with_reducible refine (HX.out _).mono ?_); rintro e w1 ⟨rfl, rfl⟩)
      go_end0
      exact ⟨rfl, (mv0 w mb).put1 _ _, (H.out.s5 _).go (p := .q key (n + 2)) ⟨hr1, HR.out, rfl, hk.symm, HM.out⟩⟩
  · rw [if_neg hx] at HX
    rw [if_neg (by simpa using hx)]
    clear hx
    go_enter Tryz.func65, Tryz.ntmps65
    go_wp2_with (go_at_call 78; (with_reducible refine (HX.out _).mono ?_); rintro e w1 ⟨rfl, rfl⟩)
    refine bodyPost_ret (results_none rfl _ _ _) rfl ?_
    exact ⟨rfl, (mv0 w mb).put1 _ _, (H.out.s3 19).no⟩

/-! Within a word. -/
def worP (l : List UInt8) : Pj := match l with | [] => .e | y :: r => .w y r
theorem step_wor {D : Nat} {st : List Bool} {x b : UInt8} {l : List UInt8} : stepJ D (.w x l) st b = if b == x then .go (worP l) st else .no := rfl
theorem rest_tail (x : UInt8) (l : List UInt8) : (⟨(x :: l).toArray⟩ : ByteArray).extract 1 (⟨(x :: l).toArray⟩ : ByteArray).size = ⟨l.toArray⟩ := by
  apply ByteArray.ext
  apply Array.toList_inj.1
  rw [ByteArray.data_extract, Array.toList_extract]
  simp [ByteArray.size]
set_option maxHeartbeats 1000000 in
theorem inWord_any {w : World} {mb D : Nat} {sn pl sp tn lf : Int} {rs : ByteArray} {st : List Bool} {E : List Value} {x : UInt8} {l : List UInt8} (h : Was w mb D sn pl sp tn lf rs st E) (hr : Reg (.w x l) st sp tn lf rs) (b : UInt8) (hl : l.length ≤ 1000) :
    Calls Tryz.prog 66 #[mptr mb, .int .u8 (b.toNat : Int)] w fun e w' => e = .returned (.tuple #[]) ∧ Ste w w' mb D sn pl (stepJ D (.w x l) st b) := by
  obtain ⟨rfl, hrs⟩ := hr
  have c3 := h.mac.c3
  have c6 := h.mac.c6
  have z3 := Blk.frozen h.mac 3
  have z6 := Blk.frozen h.mac 6
  have H := Lib.hid h
  have h0 : 0 < rs.size := by rw [hrs]; simp [ByteArray.size]
  have hs : rs.size ≤ 9223372036854775807 := by rw [hrs]; simp [ByteArray.size]; omega
  have hx : rs[0] = x := by simp only [hrs]; rfl
  obtain ⟨u, hu⟩ : ∃ u : ByteArray, u = ⟨l.toArray⟩ := ⟨_, rfl⟩
  have ht : rs.extract 1 rs.size = u := by rw [hrs, hu]; exact rest_tail x l
  have hq : u.toList = l := by rw [hu, ByteArray.toList_eq]
  rw [step_wor, bE b x]
  have HU := Lib.hid hu
  clear h hrs hu
  cases hb : ((b.toNat : Int) == (x.toNat : Int))
  · have hb2 : ((b.toNat : Int) != (x.toNat : Int)) = true := by unfold bne; rw [hb]; rfl
    clear hq ht
    go_enter Tryz.func66, Tryz.ntmps66
    go_wp2
    refine bodyPost_ret (results_none rfl _ _ _) rfl ?_
    exact ⟨rfl, (mv0 w mb).put1 _ _, (H.out.s3 19).no⟩
  · have hb2 : ((b.toNat : Int) != (x.toNat : Int)) = false := by unfold bne; rw [hb]; rfl
    cases l with
    | nil =>
      have hq2 : (u.toList == []) = true := by rw [hq]; rfl
      clear hq
      go_enter Tryz.func66, Tryz.ntmps66
      go_wp2
      go_end0
      exact ⟨rfl, ((mv0 w mb).put1 _ _).put1 _ _, ((H.out.s6 u).s3 6).go (p := .e) rfl⟩
    | cons y r =>
      have hq2 : (u.toList == []) = false := by rw [hq]; rfl
      clear hq
      go_enter Tryz.func66, Tryz.ntmps66
      go_wp2
      go_end0
      exact ⟨rfl, (mv0 w mb).put1 _ _, (H.out.s6 u).go (p := .w y r) ⟨rfl, HU.out⟩⟩
end Go.Proofs.YtbojbkpplejdmaaGreat
