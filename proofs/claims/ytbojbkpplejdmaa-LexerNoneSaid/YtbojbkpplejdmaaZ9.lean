/-
  What package json's inText, escaped, inCode, inWord, inNumber and take do with a machine: what one byte makes of where reading stands (stepJ). Conditions: what is open is told of in the machine's cells, and is no deeper than it may be.
  What package json's inNumber and take do with a machine: what one byte makes of where reading stands (stepJ). Conditions: what is open is told of in the machine's cells, and is no deeper than it may be.
  What package json's take does with a machine: what one byte makes of where reading stands (stepJ). Conditions: what is open is told of in the machine's cells, and is no deeper than it may be.
-/
import Derived.Test.YtbojbkpplejdmaaZ8
namespace Go.Proofs.Ytbojbkpplejdmaa
open Go.RowKit

/-! Within a text. -/
theorem step_quo0 {D : Nat} {key : Bool} {st : List Bool} {b : UInt8} : stepJ D (.q key 0) st b = if b == 34 then .go (if key then .c else .e) st else if b == 92 then .go (.q key 1) st else if decide (b.toNat < 32) then .no else .go (.q key 0) st := by
  cases h : (b == 34) with
  | true =>
    rw [quo_end D key st (n := 0) (by simpa using h)]
    rfl
  | false =>
    rw [quo_in D key st (n := 0) (by simpa using h)]
    cases h2 : (b == 92) with
    | true =>
      have e : b = 92 := eq_of_beq h2
      subst e
      rfl
    | false =>
      show (match (if decide (b.toNat < 32) then none else if b == 92 then some 1 else some 0) with | some m => Sj.go (.q key m) st | none => .no) = _
      rw [h2]
      cases h3 : decide (b.toNat < 32) <;> rfl
theorem step_quo1 {D : Nat} {key : Bool} {st : List Bool} {b : UInt8} : stepJ D (.q key 1) st b = if b == 117 then .go (.q key 5) st else if escJ b then .go (.q key 0) st else .no := by
  rw [quo_in D key st (n := 1) rfl]
  show (match (if b == 117 then some 5 else if escJ b then some 0 else none) with | some m => Sj.go (.q key m) st | none => .no) = _
  cases h : (b == 117) <;> cases h2 : escJ b <;> rfl
theorem step_quo2 {D m : Nat} {key : Bool} {st : List Bool} {b : UInt8} : stepJ D (.q key (m + 2)) st b = if decide (0 ≤ hexB b) then .go (.q key (if m = 0 then 0 else m + 1)) st else .no := by
  rw [quo_in D key st (n := m + 2) rfl]
  show (match (if decide (0 ≤ hexB b) then some (if m = 0 then 0 else m + 1) else none) with | some m => Sj.go (.q key m) st | none => .no) = _
  cases decide (0 ≤ hexB b) <;> rfl

set_option maxHeartbeats 1000000 in
theorem inText_any {w : World} {mb D : Nat} {sn pl sp tn lf : Int} {rs : ByteArray} {st : List Bool} {E : List Value} {key : Bool} (h : Was w mb D sn pl sp tn lf rs st E) (hr : Reg (.q key 0) st sp tn lf rs) (b : UInt8) :
    Calls Try.prog 41 #[mptr mb, .int .u8 (b.toNat : Int)] w fun e w' => e = .returned (.tuple #[]) ∧ Ste w w' mb D sn pl (stepJ D (.q key 0) st b) := by
  have c3 := h.mac.c3
  have c4 := h.mac.c4
  have z3 := Blk.frozen h.mac 3
  have H := Lib.hid h
  have HR := Lib.hid hr
  rw [step_quo0]
  rw [show (b == 34) = ((b.toNat : Int) == 34) from bE b 34, show (b == 92) = ((b.toNat : Int) == 92) from bE b 92]
  have e3 : decide (b.toNat < 32) = decide ((b.toNat : Int) < 32) := by rw [decide_eq_decide]; omega
  rw [e3]
  clear h hr e3
  cases h0 : ((b.toNat : Int) == 34)
  · cases h1 : ((b.toNat : Int) == 92)
    · cases h2 : decide ((b.toNat : Int) < 32)
      · go_enter Try.func41, Try.ntmps41
        go_wp2
        go_end0
        exact ⟨rfl, mv0 w mb, H.out.go HR.out⟩
      · go_enter Try.func41, Try.ntmps41
        go_wp2
        go_end0
        exact ⟨rfl, (mv0 w mb).put1 _ _, (H.out.s3 19).no⟩
    · go_enter Try.func41, Try.ntmps41
      go_wp2
      go_end0
      exact ⟨rfl, (mv0 w mb).put1 _ _, (H.out.s3 8).go ⟨HR.out.1, HR.out.2.1, rfl⟩⟩
  · obtain ⟨q, hq⟩ : ∃ q : Pj, q = if key then .c else .e := ⟨_, rfl⟩
    rw [← hq]
    have HQ := Lib.hid hq
    clear hq
    go_enter Try.func41, Try.ntmps41
    go_wp2
    go_end0
    refine ⟨rfl, (mv0 w mb).put1 _ _, ?_⟩
    cases key with
    | true =>
      have e : q = .c := HQ.out
      subst e
      exact (H.out.s3 tn).go (p := .c) ⟨HR.out.1, HR.out.2.1 rfl⟩
    | false =>
      have e : q = .e := HQ.out
      subst e
      exact (H.out.s3 tn).go (p := .e) HR.out.1

theorem escJ_eq (b : UInt8) : escJ b = ((b.toNat : Int) == 34 || ((b.toNat : Int) == 92 || ((b.toNat : Int) == 47 || ((b.toNat : Int) == 98 || ((b.toNat : Int) == 102 || ((b.toNat : Int) == 110 || ((b.toNat : Int) == 114 || (b.toNat : Int) == 116))))))) := by
  have := bytes_all (p := fun b => escJ b == ((b.toNat : Int) == 34 || ((b.toNat : Int) == 92 || ((b.toNat : Int) == 47 || ((b.toNat : Int) == 98 || ((b.toNat : Int) == 102 || ((b.toNat : Int) == 110 || ((b.toNat : Int) == 114 || (b.toNat : Int) == 116)))))))) (by kernel_rfl) b
  exact eq_of_beq this
set_option maxHeartbeats 1000000 in
theorem escaped_any {w : World} {mb D : Nat} {sn pl sp tn lf : Int} {rs : ByteArray} {st : List Bool} {E : List Value} {key : Bool} (h : Was w mb D sn pl sp tn lf rs st E) (hr : Reg (.q key 1) st sp tn lf rs) (b : UInt8) :
    Calls Try.prog 42 #[mptr mb, .int .u8 (b.toNat : Int)] w fun e w' => e = .returned (.tuple #[]) ∧ Ste w w' mb D sn pl (stepJ D (.q key 1) st b) := by
  have c3 := h.mac.c3
  have c5 := h.mac.c5
  have z3 := Blk.frozen h.mac 3
  have z5 := Blk.frozen h.mac 5
  have H := Lib.hid h
  have HR := Lib.hid hr
  obtain ⟨q, hq⟩ : ∃ q, q = stepJ D (.q key 1) st b := ⟨_, rfl⟩
  rw [← hq]
  rw [step_quo1, show (b == 117) = ((b.toNat : Int) == 117) from bE b 117, escJ_eq b] at hq
  have HQ := Lib.hid hq
  clear h hr hq
  cases h0 : ((b.toNat : Int) == 34)
  case' false => cases h1 : ((b.toNat : Int) == 92)
  case' false.false => cases h2 : ((b.toNat : Int) == 47)
  case' false.false.false => cases h3 : ((b.toNat : Int) == 98)
  case' false.false.false.false => cases h4 : ((b.toNat : Int) == 102)
  case' false.false.false.false.false => cases h5 : ((b.toNat : Int) == 110)
  case' false.false.false.false.false.false => cases h6 : ((b.toNat : Int) == 114)
  case' false.false.false.false.false.false.false => cases h7 : ((b.toNat : Int) == 116)
  case' false.false.false.false.false.false.false.false => cases h8 : ((b.toNat : Int) == 117)
  case false.false.false.false.false.false.false.false.false =>
    have e : q = .no := by rw [HQ.out, h0, h1, h2, h3, h4, h5, h6, h7, h8]; rfl
    subst e
    clear HQ
    go_enter Try.func42, Try.ntmps42
    go_wp2
    go_end0
    exact ⟨rfl, (mv0 w mb).put1 _ _, (H.out.s3 19).no⟩
  case false.false.false.false.false.false.false.false.true =>
    have e : q = .go (.q key 5) st := by rw [HQ.out, h8]; rfl
    subst e
    clear HQ
    go_enter Try.func42, Try.ntmps42
    go_wp2
    go_end0
    exact ⟨rfl, ((mv0 w mb).put1 _ _).put1 _ _, ((H.out.s3 9).s5 4).go (p := .q key 5) ⟨HR.out.1, HR.out.2.1, rfl, rfl, by decide⟩⟩
  all_goals
    have h9 : ((b.toNat : Int) == 117) = false := by
      simp only [beq_iff_eq, beq_eq_false_iff_ne] at *
      omega
    have e : q = .go (.q key 0) st := by
      rw [HQ.out, h9]
      simp only [*, Bool.true_or, Bool.or_true, if_true, if_false, Bool.false_eq_true]
    subst e
    clear HQ
    go_enter Try.func42, Try.ntmps42
    go_wp2
    go_end0
    exact ⟨rfl, (mv0 w mb).put1 _ _, (H.out.s3 7).go (p := .q key 0) ⟨HR.out.1, HR.out.2.1, rfl⟩⟩

set_option maxHeartbeats 1000000 in
theorem inCode_any {w : World} {mb D : Nat} {sn pl sp tn lf : Int} {rs : ByteArray} {st : List Bool} {E : List Value} {key : Bool} {m : Nat} (h : Was w mb D sn pl sp tn lf rs st E) (hr : Reg (.q key (m + 2)) st sp tn lf rs) (b : UInt8) :
    Calls Try.prog 43 #[mptr mb, .int .u8 (b.toNat : Int)] w fun e w' => e = .returned (.tuple #[]) ∧ Ste w w' mb D sn pl (stepJ D (.q key (m + 2)) st b) := by
  obtain ⟨hr1, hr2, rfl, rfl, hm⟩ := hr
  have c3 := h.mac.c3
  have c5 := h.mac.c5
  rw [show ((m + 1 : Nat) : Int) = (m : Int) + 1 from by omega] at c5
  have z3 := Blk.frozen h.mac 3
  have z5 := Blk.frozen h.mac 5
  have H := Lib.hid h
  have HX := Lib.hid (fun W => hex_any b W)
  rw [step_quo2]
  unfold hexV at HX
  have HR := Lib.hid hr2
  clear h hr2
  by_cases hx : 0 ≤ hexB b
  · rw [if_pos hx] at HX
    rw [if_pos (decide_eq_true hx)]
    clear hx
    generalize hexB b = x at *
    by_cases h0 : m = 0
    · subst h0
      rw [if_pos rfl]
      go_enter Try.func43, Try.ntmps43
      go_wp2_with (go_at_call 56; (with_reducible refine (HX.out _).mono ?_); rintro e w1 ⟨rfl, rfl⟩)
      go_end0
      exact ⟨rfl, ((mv0 w mb).put1 _ _).put1 _ _, ((H.out.s5 _).s3 7).go (p := .q key 0) ⟨hr1, HR.out, rfl⟩⟩
    · obtain ⟨n, rfl⟩ := Nat.exists_eq_succ_of_ne_zero h0
      rw [if_neg h0]
      have b0 : (((n + 1 : Nat) : Int) == 0) = false := by rw [beq_eq_false_iff_ne]; omega
      have HM := Lib.hid (show n ≤ 3 by omega)
      have hm2 : ((n + 1 : Nat) : Int) ≤ 3 := by omega
      have hm0 : 0 ≤ ((n + 1 : Nat) : Int) := by omega
      clear hm h0
      generalize hk : ((n + 1 : Nat) : Int) = k at *
      go_enter Try.func43, Try.ntmps43
      go_wp2_with (go_at_call 56; (with_reducible refine (HX.out _).mono ?_); rintro e w1 ⟨rfl, rfl⟩)
      go_end0
      exact ⟨rfl, (mv0 w mb).put1 _ _, (H.out.s5 _).go (p := .q key (n + 2)) ⟨hr1, HR.out, rfl, hk.symm, HM.out⟩⟩
  · rw [if_neg hx] at HX
    rw [if_neg (by simpa using hx)]
    clear hx
    go_enter Try.func43, Try.ntmps43
    go_wp2_with (go_at_call 56; (with_reducible refine (HX.out _).mono ?_); rintro e w1 ⟨rfl, rfl⟩)
    refine bodyPost_ret (results_none rfl _ _ _) rfl ?_
    exact ⟨rfl, (mv0 w mb).put1 _ _, (H.out.s3 19).no⟩

/-! Within a word. -/
def worP (l : List UInt8) : Pj := match l with | [] => .e | y :: r => .w y r
theorem step_wor {D : Nat} {st : List Bool} {x b : UInt8} {l : List UInt8} : stepJ D (.w x l) st b = if b == x then .go (worP l) st else .no := rfl
theorem rest_tail (x : UInt8) (l : List UInt8) : (⟨(x :: l).toArray⟩ : ByteArray).extract 1 (⟨(x :: l).toArray⟩ : ByteArray).size = ⟨l.toArray⟩ := by
  apply ByteArray.ext
  apply Array.toList_inj.1
  rw [ByteArray.data_extract, Array.toList_extract]
  simp [ByteArray.size]
set_option maxHeartbeats 1000000 in
theorem inWord_any {w : World} {mb D : Nat} {sn pl sp tn lf : Int} {rs : ByteArray} {st : List Bool} {E : List Value} {x : UInt8} {l : List UInt8} (h : Was w mb D sn pl sp tn lf rs st E) (hr : Reg (.w x l) st sp tn lf rs) (b : UInt8) (hl : l.length ≤ 1000) :
    Calls Try.prog 44 #[mptr mb, .int .u8 (b.toNat : Int)] w fun e w' => e = .returned (.tuple #[]) ∧ Ste w w' mb D sn pl (stepJ D (.w x l) st b) := by
  obtain ⟨rfl, hrs⟩ := hr
  have c3 := h.mac.c3
  have c6 := h.mac.c6
  have z3 := Blk.frozen h.mac 3
  have z6 := Blk.frozen h.mac 6
  have H := Lib.hid h
  have h0 : 0 < rs.size := by rw [hrs]; simp [ByteArray.size]
  have hs : rs.size ≤ 9223372036854775807 := by rw [hrs]; simp [ByteArray.size]; omega
  have hx : rs[0] = x := by simp only [hrs]; rfl
  obtain ⟨u, hu⟩ : ∃ u : ByteArray, u = ⟨l.toArray⟩ := ⟨_, rfl⟩
  have ht : rs.extract 1 rs.size = u := by rw [hrs, hu]; exact rest_tail x l
  have hq : u.toList = l := by rw [hu, ByteArray.toList_eq]
  rw [step_wor, bE b x]
  have HU := Lib.hid hu
  clear h hrs hu
  cases hb : ((b.toNat : Int) == (x.toNat : Int))
  · have hb2 : ((b.toNat : Int) != (x.toNat : Int)) = true := by unfold bne; rw [hb]; rfl
    clear hq ht
    go_enter Try.func44, Try.ntmps44
    go_wp2
    refine bodyPost_ret (results_none rfl _ _ _) rfl ?_
    exact ⟨rfl, (mv0 w mb).put1 _ _, (H.out.s3 19).no⟩
  · have hb2 : ((b.toNat : Int) != (x.toNat : Int)) = false := by unfold bne; rw [hb]; rfl
    cases l with
    | nil =>
      have hq2 : (u.toList == []) = true := by rw [hq]; rfl
      clear hq
      go_enter Try.func44, Try.ntmps44
      go_wp2
      go_end0
      exact ⟨rfl, ((mv0 w mb).put1 _ _).put1 _ _, ((H.out.s6 u).s3 6).go (p := .e) rfl⟩
    | cons y r =>
      have hq2 : (u.toList == []) = false := by rw [hq]; rfl
      clear hq
      go_enter Try.func44, Try.ntmps44
      go_wp2
      go_end0
      exact ⟨rfl, (mv0 w mb).put1 _ _, (H.out.s6 u).go (p := .w y r) ⟨rfl, HU.out⟩⟩
end Go.Proofs.Ytbojbkpplejdmaa
namespace Go.Proofs.Ytbojbkpplejdmaa
open Go.RowKit

def numS : Nat → Int
  | 0 => 11 | 1 => 13 | 2 => 12 | 3 => 14 | 4 => 15 | 5 => 16 | 6 => 17 | _ => 18
theorem reg_num {i : Nat} {st : List Bool} {sp tn lf : Int} {rs : ByteArray} (h : Reg (.n i) st sp tn lf rs) : sp = numS i ∧ i ≤ 7 := by
  match i, h with
  | 0, h => exact ⟨h, by decide⟩
  | 1, h => exact ⟨h, by decide⟩
  | 2, h => exact ⟨h, by decide⟩
  | 3, h => exact ⟨h, by decide⟩
  | 4, h => exact ⟨h, by decide⟩
  | 5, h => exact ⟨h, by decide⟩
  | 6, h => exact ⟨h, by decide⟩
  | 7, h => exact ⟨h, by decide⟩
  | _ + 8, h => exact h.elim
theorem num_reg {i : Nat} {st : List Bool} {tn lf : Int} {rs : ByteArray} (h : i ≤ 7) : Reg (.n i) st (numS i) tn lf rs := by
  match i, h with
  | 0, _ => rfl
  | 1, _ => rfl
  | 2, _ => rfl
  | 3, _ => rfl
  | 4, _ => rfl
  | 5, _ => rfl
  | 6, _ => rfl
  | 7, _ => rfl
theorem num_step {D : Nat} {st : List Bool} {b : UInt8} {i : Nat} (hi : i ≤ 7) :
    (numZ (numS i) b = 19 ∧ fulZ (numS i) = true ∧ stepJ D (.n i) st b = behJ st b) ∨ (numZ (numS i) b = 19 ∧ fulZ (numS i) = false ∧ stepJ D (.n i) st b = .no)
      ∨ (∃ j, j ≤ 7 ∧ (numZ (numS i) b == 19) = false ∧ numZ (numS i) b = numS j ∧ stepJ D (.n i) st b = .go (.n j) st) := by
  have d48 : (b == 48) = true → digB b = true := fun h => by rw [show b = 48 from eq_of_beq h]; rfl
  have d43 : (b == 43) = true → digB b = false := fun h => by rw [show b = 43 from eq_of_beq h]; rfl
  have d45 : (b == 45) = true → digB b = false := fun h => by rw [show b = 45 from eq_of_beq h]; rfl
  have d46 : (b == 46) = true → digB b = false := fun h => by rw [show b = 46 from eq_of_beq h]; rfl
  have dA : (b == 101) = true → digB b = false := fun h => by rw [show b = 101 from eq_of_beq h]; rfl
  have dB : (b == 69) = true → digB b = false := fun h => by rw [show b = 69 from eq_of_beq h]; rfl
  have e43 : ((b.toNat : Int) == 43) = (b == 43) := (bE b 43).symm
  have e45 : ((b.toNat : Int) == 45) = (b == 45) := (bE b 45).symm
  have e46 : ((b.toNat : Int) == 46) = (b == 46) := (bE b 46).symm
  have e48 : ((b.toNat : Int) == 48) = (b == 48) := (bE b 48).symm
  have eA : ((b.toNat : Int) == 101) = (b == 101) := (bE b 101).symm
  have eB : ((b.toNat : Int) == 69) = (b == 69) := (bE b 69).symm
  unfold numZ digZ
  rw [e43, e45, e46, e48, eA, eB]
  unfold stepJ
  clear e43 e45 e46 e48 eA eB
  match i, hi with
  | 0, _ =>
    dsimp only
    generalize (b == 48) = x1, (b == 43) = x2, (b == 45) = x3, (b == 46) = x4, (b == 101) = x5, (b == 69) = x6, digB b = x7 at *
    cases x7
    · cases x1 <;> first | (exact absurd (d48 rfl) (by decide)) | (refine Or.inr (Or.inl ⟨?_, by decide, rfl⟩); cases x2 <;> cases x3 <;> cases x4 <;> cases x5 <;> cases x6 <;> rfl)
    · cases x1
      · exact Or.inr (Or.inr ⟨1, by decide, rfl, rfl, rfl⟩)
      · exact Or.inr (Or.inr ⟨2, by decide, rfl, rfl, rfl⟩)
  | 1, _ =>
    dsimp only
    generalize (b == 48) = x1, (b == 43) = x2, (b == 45) = x3, (b == 46) = x4, (b == 101) = x5, (b == 69) = x6, digB b = x7 at *
    cases x7
    · cases x4
      · cases x5
        · cases x6
          · refine Or.inl ⟨?_, by decide, rfl⟩
            cases x2 <;> cases x3 <;> rfl
          · exact Or.inr (Or.inr ⟨5, by decide, rfl, rfl, rfl⟩)
        · exact Or.inr (Or.inr ⟨5, by decide, by cases x6 <;> rfl, by cases x6 <;> rfl, rfl⟩)
      · exact Or.inr (Or.inr ⟨3, by decide, rfl, rfl, rfl⟩)
    · exact Or.inr (Or.inr ⟨1, by decide, by cases x1 <;> rfl, by cases x1 <;> rfl, rfl⟩)
  | 2, _ =>
    dsimp only
    generalize (b == 48) = x1, (b == 43) = x2, (b == 45) = x3, (b == 46) = x4, (b == 101) = x5, (b == 69) = x6, digB b = x7 at *
    cases x4
    · cases x5
      · cases x6
        · refine Or.inl ⟨?_, by decide, rfl⟩
          cases x2 <;> cases x3 <;> cases x7 <;> rfl
        · rw [dB rfl]
          exact Or.inr (Or.inr ⟨5, by decide, rfl, rfl, rfl⟩)
      · rw [dA rfl]
        exact Or.inr (Or.inr ⟨5, by decide, by cases x6 <;> rfl, by cases x6 <;> rfl, rfl⟩)
    · rw [d46 rfl]
      exact Or.inr (Or.inr ⟨3, by decide, rfl, rfl, rfl⟩)
  | 3, _ =>
    dsimp only
    generalize (b == 48) = x1, (b == 43) = x2, (b == 45) = x3, (b == 46) = x4, (b == 101) = x5, (b == 69) = x6, digB b = x7 at *
    cases x7
    · refine Or.inr (Or.inl ⟨?_, by decide, rfl⟩)
      cases x2 <;> cases x3 <;> cases x4 <;> cases x5 <;> cases x6 <;> rfl
    · exact Or.inr (Or.inr ⟨4, by decide, by cases x1 <;> rfl, by cases x1 <;> rfl, rfl⟩)
  | 4, _ =>
    dsimp only
    generalize (b == 48) = x1, (b == 43) = x2, (b == 45) = x3, (b == 46) = x4, (b == 101) = x5, (b == 69) = x6, digB b = x7 at *
    cases x7
    · cases x5
      · cases x6
        · refine Or.inl ⟨?_, by decide, rfl⟩
          cases x2 <;> cases x3 <;> cases x4 <;> rfl
        · exact Or.inr (Or.inr ⟨5, by decide, by cases x4 <;> rfl, by cases x4 <;> rfl, rfl⟩)
      · exact Or.inr (Or.inr ⟨5, by decide, by cases x4 <;> cases x6 <;> rfl, by cases x4 <;> cases x6 <;> rfl, rfl⟩)
    · exact Or.inr (Or.inr ⟨4, by decide, by cases x1 <;> rfl, by cases x1 <;> rfl, rfl⟩)
  | 5, _ =>
    dsimp only
    generalize (b == 48) = x1, (b == 43) = x2, (b == 45) = x3, (b == 46) = x4, (b == 101) = x5, (b == 69) = x6, digB b = x7 at *
    cases x2
    · cases x3
      · cases x7
        · refine Or.inr (Or.inl ⟨?_, by decide, rfl⟩)
          cases x4 <;> cases x5 <;> cases x6 <;> rfl
        · exact Or.inr (Or.inr ⟨7, by decide, by cases x1 <;> rfl, by cases x1 <;> rfl, rfl⟩)
      · rw [d45 rfl]
        exact Or.inr (Or.inr ⟨6, by decide, by cases x4 <;> cases x5 <;> cases x6 <;> rfl, by cases x4 <;> cases x5 <;> cases x6 <;> rfl, rfl⟩)
    · rw [d43 rfl]
      exact Or.inr (Or.inr ⟨6, by decide, by cases x3 <;> cases x4 <;> cases x5 <;> cases x6 <;> rfl, by cases x3 <;> cases x4 <;> cases x5 <;> cases x6 <;> rfl, rfl⟩)
  | 6, _ =>
    dsimp only
    generalize (b == 48) = x1, (b == 43) = x2, (b == 45) = x3, (b == 46) = x4, (b == 101) = x5, (b == 69) = x6, digB b = x7 at *
    cases x7
    · refine Or.inr (Or.inl ⟨?_, by decide, rfl⟩)
      cases x2 <;> cases x3 <;> cases x4 <;> cases x5 <;> cases x6 <;> rfl
    · exact Or.inr (Or.inr ⟨7, by decide, by cases x1 <;> rfl, by cases x1 <;> rfl, rfl⟩)
  | 7, _ =>
    dsimp only
    generalize (b == 48) = x1, (b == 43) = x2, (b == 45) = x3, (b == 46) = x4, (b == 101) = x5, (b == 69) = x6, digB b = x7 at *
    cases x7
    · refine Or.inl ⟨?_, by decide, rfl⟩
      cases x2 <;> cases x3 <;> cases x4 <;> cases x5 <;> cases x6 <;> rfl
    · exact Or.inr (Or.inr ⟨7, by decide, by cases x1 <;> rfl, by cases x1 <;> rfl, rfl⟩)

set_option maxHeartbeats 1000000 in
theorem inNumber_any {w : World} {mb D : Nat} {sn pl sp tn lf : Int} {rs : ByteArray} {st : List Bool} {E : List Value} {i : Nat} (h : Was w mb D sn pl sp tn lf rs st E) (hr : Reg (.n i) st sp tn lf rs) (b : UInt8) :
    Calls Try.prog 45 #[mptr mb, .int .u8 (b.toNat : Int)] w fun e w' => e = .returned (.tuple #[]) ∧ Ste w w' mb D sn pl (stepJ D (.n i) st b) := by
  obtain ⟨rfl, hi⟩ := reg_num hr
  have c3 := h.mac.c3
  have z3 := Blk.frozen h.mac 3
  have H := Lib.hid h
  have HN := Lib.hid (fun W => jnumber_any (numS i) b W)
  have HF := Lib.hid (fun W => full_any (numS i) W)
  have HB := Lib.hid (between_behind (h.s3 6) b)
  clear h hr
  rcases num_step (D := D) (st := st) (b := b) hi with ⟨h1, h2, h3⟩ | ⟨h1, h2, h3⟩ | ⟨j, hj, h0, h1, h3⟩
  · rw [h1] at HN
    rw [h2] at HF
    rw [h3]
    clear h1 h2 h3 hi
    generalize numS i = x at *
    generalize behJ st b = q at *
    go_enter Try.func45, Try.ntmps45
    go_wp2_with (first
      | (go_at_call 57; (with_reducible refine (HN.out _).mono ?_); rintro e w1 ⟨rfl, rfl⟩)
      | (go_at_call 40; (with_reducible refine (HF.out _).mono ?_); rintro e w1 ⟨rfl, rfl⟩)
      | (go_at_call 46; (with_reducible refine HB.out.mono ?_); rintro e w1 ⟨rfl, hm⟩))
    refine bodyPost_ret (results_none rfl _ _ _) rfl ?_
    exact ⟨rfl, ((mv0 w mb).put1 3 (.int .i64 6)).trans (hm.1.mono (by simp [World.setCell]) (fun x hx => Or.inl hx)), hm.2⟩
  · rw [h1] at HN
    rw [h2] at HF
    rw [h3]
    clear h1 h2 h3 hi
    generalize numS i = x at *
    go_enter Try.func45, Try.ntmps45
    go_wp2_with (first
      | (go_at_call 57; (with_reducible refine (HN.out _).mono ?_); rintro e w1 ⟨rfl, rfl⟩)
      | (go_at_call 40; (with_reducible refine (HF.out _).mono ?_); rintro e w1 ⟨rfl, rfl⟩))
    go_end0
    exact ⟨rfl, (mv0 w mb).put1 _ _, (H.out.s3 19).no⟩
  · rw [h1] at h0 HN
    rw [h3]
    have HJ := Lib.hid (fun (tn lf : Int) (rs : ByteArray) => num_reg (st := st) (tn := tn) (lf := lf) (rs := rs) hj)
    clear h1 h3 hi hj
    generalize numS i = x at *
    generalize numS j = y at *
    go_enter Try.func45, Try.ntmps45
    go_wp2_with (first
      | (go_at_call 57; (with_reducible refine (HN.out _).mono ?_); rintro e w1 ⟨rfl, rfl⟩)
      | (go_at_call 40; (with_reducible refine (HF.out _).mono ?_); rintro e w1 ⟨rfl, rfl⟩))
    go_end0
    exact ⟨rfl, (mv0 w mb).put1 _ _, (H.out.s3 y).go (p := .n j) (HJ.out _ _ _)⟩
end Go.Proofs.Ytbojbkpplejdmaa
namespace Go.Proofs.Ytbojbkpplejdmaa
open Go.RowKit

theorem calm_step {p : Pj} {st : List Bool} {sp tn lf : Int} {rs : ByteArray} (hr : Reg p st sp tn lf rs) (hp : calmJ p = true) : sp = 0 ∨ sp = 1 ∨ sp = 2 ∨ sp = 3 ∨ sp = 4 ∨ sp = 5 ∨ sp = 6 := by
  cases p with
  | v =>
    have hr' : sp = if st.isEmpty then 0 else 1 := hr
    cases h2 : st.isEmpty <;> rw [h2] at hr'
    · exact Or.inr (Or.inl hr')
    · exact Or.inl hr'
  | a => exact Or.inr (Or.inr (Or.inl hr.1))
  | o => exact Or.inr (Or.inr (Or.inr (Or.inr (Or.inl hr.1))))
  | k => exact Or.inr (Or.inr (Or.inr (Or.inl hr.1)))
  | c => exact Or.inr (Or.inr (Or.inr (Or.inr (Or.inr (Or.inl hr.1)))))
  | e => exact Or.inr (Or.inr (Or.inr (Or.inr (Or.inr (Or.inr hr)))))
  | q _ _ => cases hp
  | n _ => cases hp
  | w _ _ => cases hp

set_option maxHeartbeats 1000000 in
theorem take_calm {w : World} {mb D : Nat} {sn pl sp tn lf : Int} {rs : ByteArray} {st : List Bool} {E : List Value} {p : Pj} (h : Was w mb D sn pl sp tn lf rs st E) (hr : Reg p st sp tn lf rs) (hp : calmJ p = true) (b : UInt8) :
    Calls Try.prog 37 #[mptr mb, .int .u8 (b.toNat : Int)] w fun e w' => e = .returned (.tuple #[]) ∧ Ste w w' mb D sn pl (stepJ D p st b) := by
  have hs := calm_step hr hp
  have c3 := h.mac.c3
  have HB := Lib.hid (between_any h hr hp b)
  generalize stepJ D p st b = q at *
  clear h hr hp
  rcases hs with rfl | rfl | rfl | rfl | rfl | rfl | rfl
  all_goals
    go_enter Try.func37, Try.ntmps37
    go_wp2_with (go_at_call 46; (with_reducible refine HB.out.mono ?_); rintro e w1 ⟨rfl, hm⟩)
    go_end0
    exact ⟨rfl, hm⟩
set_option maxHeartbeats 1000000 in
theorem take_text {w : World} {mb D : Nat} {sn pl sp tn lf : Int} {rs : ByteArray} {st : List Bool} {E : List Value} {key : Bool} {n : Nat} (h : Was w mb D sn pl sp tn lf rs st E) (hr : Reg (.q key n) st sp tn lf rs) (b : UInt8) :
    Calls Try.prog 37 #[mptr mb, .int .u8 (b.toNat : Int)] w fun e w' => e = .returned (.tuple #[]) ∧ Ste w w' mb D sn pl (stepJ D (.q key n) st b) := by
  have c3 := h.mac.c3
  match n, hr with
  | 0, hr =>
    have HB := Lib.hid (inText_any h hr b)
    have hs : sp = 7 := hr.2.2
    subst hs
    generalize stepJ D (.q key 0) st b = q at *
    clear h hr
    go_enter Try.func37, Try.ntmps37
    go_wp2_with (go_at_call 41; (with_reducible refine HB.out.mono ?_); rintro e w1 ⟨rfl, hm⟩)
    go_end0
    exact ⟨rfl, hm⟩
  | 1, hr =>
    have HB := Lib.hid (escaped_any h hr b)
    have hs : sp = 8 := hr.2.2
    subst hs
    generalize stepJ D (.q key 1) st b = q at *
    clear h hr
    go_enter Try.func37, Try.ntmps37
    go_wp2_with (go_at_call 42; (with_reducible refine HB.out.mono ?_); rintro e w1 ⟨rfl, hm⟩)
    go_end0
    exact ⟨rfl, hm⟩
  | m + 2, hr =>
    have HB := Lib.hid (inCode_any h hr b)
    have hs : sp = 9 := hr.2.2.1
    subst hs
    generalize stepJ D (.q key (m + 2)) st b = q at *
    clear h hr
    go_enter Try.func37, Try.ntmps37
    go_wp2_with (go_at_call 43; (with_reducible refine HB.out.mono ?_); rintro e w1 ⟨rfl, hm⟩)
    go_end0
    exact ⟨rfl, hm⟩
set_option maxHeartbeats 1000000 in
theorem take_word {w : World} {mb D : Nat} {sn pl sp tn lf : Int} {rs : ByteArray} {st : List Bool} {E : List Value} {x : UInt8} {l : List UInt8} (h : Was w mb D sn pl sp tn lf rs st E) (hr : Reg (.w x l) st sp tn lf rs) (b : UInt8) (hl : l.length ≤ 1000) :
    Calls Try.prog 37 #[mptr mb, .int .u8 (b.toNat : Int)] w fun e w' => e = .returned (.tuple #[]) ∧ Ste w w' mb D sn pl (stepJ D (.w x l) st b) := by
  have c3 := h.mac.c3
  have HB := Lib.hid (inWord_any h hr b hl)
  have hs : sp = 10 := hr.1
  subst hs
  generalize stepJ D (.w x l) st b = q at *
  clear h hr
  go_enter Try.func37, Try.ntmps37
  go_wp2_with (go_at_call 44; (with_reducible refine HB.out.mono ?_); rintro e w1 ⟨rfl, hm⟩)
  go_end0
  exact ⟨rfl, hm⟩
set_option maxHeartbeats 2000000 in
theorem take_number {w : World} {mb D : Nat} {sn pl sp tn lf : Int} {rs : ByteArray} {st : List Bool} {E : List Value} {i : Nat} (h : Was w mb D sn pl sp tn lf rs st E) (hr : Reg (.n i) st sp tn lf rs) (b : UInt8) :
    Calls Try.prog 37 #[mptr mb, .int .u8 (b.toNat : Int)] w fun e w' => e = .returned (.tuple #[]) ∧ Ste w w' mb D sn pl (stepJ D (.n i) st b) := by
  have c3 := h.mac.c3
  have HB := Lib.hid (inNumber_any h hr b)
  obtain ⟨hs, hi⟩ := reg_num hr
  have hc : sp = 11 ∨ sp = 12 ∨ sp = 13 ∨ sp = 14 ∨ sp = 15 ∨ sp = 16 ∨ sp = 17 ∨ sp = 18 := by
    match i, hi with
    | 0, _ => exact Or.inl hs
    | 1, _ => exact Or.inr (Or.inr (Or.inl hs))
    | 2, _ => exact Or.inr (Or.inl hs)
    | 3, _ => exact Or.inr (Or.inr (Or.inr (Or.inl hs)))
    | 4, _ => exact Or.inr (Or.inr (Or.inr (Or.inr (Or.inl hs))))
    | 5, _ => exact Or.inr (Or.inr (Or.inr (Or.inr (Or.inr (Or.inl hs)))))
    | 6, _ => exact Or.inr (Or.inr (Or.inr (Or.inr (Or.inr (Or.inr (Or.inl hs))))))
    | 7, _ => exact Or.inr (Or.inr (Or.inr (Or.inr (Or.inr (Or.inr (Or.inr hs))))))
  generalize stepJ D (.n i) st b = q at *
  clear h hr hs hi
  rcases hc with rfl | rfl | rfl | rfl | rfl | rfl | rfl | rfl
  all_goals
    go_enter Try.func37, Try.ntmps37
    go_wp2_with (go_at_call 45; (with_reducible refine HB.out.mono ?_); rintro e w1 ⟨rfl, hm⟩)
    go_end0
    exact ⟨rfl, hm⟩
/-- A word's rest is short. -/
def fewW : Pj → Bool
  | .w _ l => decide (l.length ≤ 1000)
  | _ => true
theorem take_any {w : World} {mb D : Nat} {sn pl sp tn lf : Int} {rs : ByteArray} {st : List Bool} {E : List Value} {p : Pj} (h : Was w mb D sn pl sp tn lf rs st E) (hr : Reg p st sp tn lf rs) (hf : fewW p = true) (b : UInt8) :
    Calls Try.prog 37 #[mptr mb, .int .u8 (b.toNat : Int)] w fun e w' => e = .returned (.tuple #[]) ∧ Ste w w' mb D sn pl (stepJ D p st b) := by
  cases p with
  | v => exact take_calm h hr rfl b
  | a => exact take_calm h hr rfl b
  | o => exact take_calm h hr rfl b
  | k => exact take_calm h hr rfl b
  | c => exact take_calm h hr rfl b
  | e => exact take_calm h hr rfl b
  | q _ _ => exact take_text h hr b
  | n _ => exact take_number h hr b
  | w _ _ => exact take_word h hr b (of_decide_eq_true hf)
theorem few_step {D : Nat} {p p' : Pj} {st st' : List Bool} {b : UInt8} (hf : fewW p = true) (h : stepJ D p st b = .go p' st') : fewW p' = true := by
  have hb : ∀ st b, behJ st b = .go p' st' → fewW p' = true := fun st b h => by
    unfold behJ at h
    repeat' split at h
    all_goals first
      | (cases h; done)
      | (injection h with h _; subst h; first | rfl | (split <;> rfl))
  have hg : ∀ st b, begJ D st b = .go p' st' → fewW p' = true := fun st b h => by
    unfold begJ at h
    repeat' split at h
    all_goals first
      | (cases h; done)
      | (injection h with h _; subst h; rfl)
  unfold stepJ at h
  repeat' split at h
  all_goals first
    | (cases h; done)
    | exact hb _ _ h
    | exact hg _ _ h
    | (injection h with h _; subst h; first | rfl | (split <;> rfl) | (have := of_decide_eq_true hf; exact decide_eq_true (by simp at this; omega)))
end Go.Proofs.Ytbojbkpplejdmaa
