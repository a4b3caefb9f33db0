/-
  What Same and Serial of package mime answer of types. Condition: texts are as long as a mebibyte, and parameters as many.
  A machine of layer 27 in memory: its cells (Mac), what is open (EndsIs), and what package json's New, stopped, State, Place, Begun, Depth and Seen answer. No condition.
  What package json's enter, leave, beginName and follow do with a machine. Conditions: what is open is told of in the machine's cells, and is no deeper than it may be.
-/
import Derived.Test.YtbojbkpplejdmaaGreatZ5
import Derived.Test.YtbojbkpplejdmaaGreatZ4
import Derived.StillTailTactics
import Derived.Deep.RegionWith
import Derived.Test.YtbojbkpplejdmaaGreatRows
import Derived.WalkKit
import Derived.WalkSpells
import Derived.WalkLawsBesides
import Derived.Laws.Externs
import Derived.Lib.Hide
import Derived.Lib.FrozenHead2
import Derived.LoopTactic
import Derived.BigQuiet
import Derived.OneCell
import Derived.OwnWalk
import Derived.Laws.IdiomStrings
import Derived.Laws.OwnMore
import Derived.Laws.BytesArg
import Derived.Maps.OwnSet
import Derived.Maps.AppendAt
import Derived.Laws.AppendOwn
import Derived.RegionTactic
import Derived.BigRegion
import Derived.Deep.QuietTactic
import Derived.Outline
import Derived.IntWalk
namespace Go.Proofs.YtbojbkpplejdmaaGreat
open Go.RowKit Go.Maps

theorem below_on {a w w' : World} (h : Below a.heap.size a w) (hb : Below w.heap.size w w') : Below a.heap.size a w' := h.trans (hb.mono h.size)

end Go.Proofs.YtbojbkpplejdmaaGreat
namespace Go.Proofs.YtbojbkpplejdmaaGreat
open Go.RowKit

/-- The cells of a machine. -/
def mcC (D sn pl sp tn lf : Int) (rs : ByteArray) (dp : Int) (E : List Value) : Array Value :=
  (.int .i64 D :: .int .i64 sn :: .int .i64 pl :: .int .i64 sp :: .int .i64 tn :: .int .i64 lf :: .string rs :: .int .i64 dp :: E).toArray
abbrev Mac (w : World) (mb : Nat) (D sn pl sp tn lf : Int) (rs : ByteArray) (dp : Int) (E : List Value) : Prop := Blk w mb 61 (mcC D sn pl sp tn lf rs dp E)
abbrev mptr (mb : Nat) : Value := .pointer (some ⟨mb, 0, none⟩)
section
variable {w : World} {mb : Nat} {D sn pl sp tn lf : Int} {rs : ByteArray} {dp : Int} {E : List Value}
theorem Mac.c0 (h : Mac w mb D sn pl sp tn lf rs dp E) : w.cell? ⟨mb, 0, none⟩ = some (.int .i64 D) := h.cell 0
theorem Mac.c1 (h : Mac w mb D sn pl sp tn lf rs dp E) : w.cell? ⟨mb, 1, none⟩ = some (.int .i64 sn) := h.cell 1
theorem Mac.c2 (h : Mac w mb D sn pl sp tn lf rs dp E) : w.cell? ⟨mb, 2, none⟩ = some (.int .i64 pl) := h.cell 2
theorem Mac.c3 (h : Mac w mb D sn pl sp tn lf rs dp E) : w.cell? ⟨mb, 3, none⟩ = some (.int .i64 sp) := h.cell 3
theorem Mac.c4 (h : Mac w mb D sn pl sp tn lf rs dp E) : w.cell? ⟨mb, 4, none⟩ = some (.int .i64 tn) := h.cell 4
theorem Mac.c5 (h : Mac w mb D sn pl sp tn lf rs dp E) : w.cell? ⟨mb, 5, none⟩ = some (.int .i64 lf) := h.cell 5
theorem Mac.c6 (h : Mac w mb D sn pl sp tn lf rs dp E) : w.cell? ⟨mb, 6, none⟩ = some (.string rs) := h.cell 6
theorem Mac.c7 (h : Mac w mb D sn pl sp tn lf rs dp E) : w.cell? ⟨mb, 7, none⟩ = some (.int .i64 dp) := h.cell 7
theorem Mac.cE (h : Mac w mb D sn pl sp tn lf rs dp E) (i : Nat) : w.cell? ⟨mb, 8 + i, none⟩ = E[i]? := by
  rw [h.cell, Nat.add_comm]
  unfold mcC
  rw [List.getElem?_toArray]
  rfl
theorem Mac.s1 (h : Mac w mb D sn pl sp tn lf rs dp E) (x : Int) : Mac (w.setCell ⟨mb, 1, none⟩ (.int .i64 x)) mb D x pl sp tn lf rs dp E := by
  have := h.set_ 1 (.int .i64 x)
  unfold mcC at this
  rw [List.setIfInBounds_toArray] at this
  exact this
theorem Mac.s2 (h : Mac w mb D sn pl sp tn lf rs dp E) (x : Int) : Mac (w.setCell ⟨mb, 2, none⟩ (.int .i64 x)) mb D sn x sp tn lf rs dp E := by
  have := h.set_ 2 (.int .i64 x)
  unfold mcC at this
  rw [List.setIfInBounds_toArray] at this
  exact this
theorem Mac.s3 (h : Mac w mb D sn pl sp tn lf rs dp E) (x : Int) : Mac (w.setCell ⟨mb, 3, none⟩ (.int .i64 x)) mb D sn pl x tn lf rs dp E := by
  have := h.set_ 3 (.int .i64 x)
  unfold mcC at this
  rw [List.setIfInBounds_toArray] at this
  exact this
theorem Mac.s4 (h : Mac w mb D sn pl sp tn lf rs dp E) (x : Int) : Mac (w.setCell ⟨mb, 4, none⟩ (.int .i64 x)) mb D sn pl sp x lf rs dp E := by
  have := h.set_ 4 (.int .i64 x)
  unfold mcC at this
  rw [List.setIfInBounds_toArray] at this
  exact this
theorem Mac.s5 (h : Mac w mb D sn pl sp tn lf rs dp E) (x : Int) : Mac (w.setCell ⟨mb, 5, none⟩ (.int .i64 x)) mb D sn pl sp tn x rs dp E := by
  have := h.set_ 5 (.int .i64 x)
  unfold mcC at this
  rw [List.setIfInBounds_toArray] at this
  exact this
theorem Mac.s6 (h : Mac w mb D sn pl sp tn lf rs dp E) (x : ByteArray) : Mac (w.setCell ⟨mb, 6, none⟩ (.string x)) mb D sn pl sp tn lf x dp E := by
  have := h.set_ 6 (.string x)
  unfold mcC at this
  rw [List.setIfInBounds_toArray] at this
  exact this
theorem Mac.s7 (h : Mac w mb D sn pl sp tn lf rs dp E) (x : Int) : Mac (w.setCell ⟨mb, 7, none⟩ (.int .i64 x)) mb D sn pl sp tn lf rs x E := by
  have := h.set_ 7 (.int .i64 x)
  unfold mcC at this
  rw [List.setIfInBounds_toArray] at this
  exact this
theorem Mac.sE (h : Mac w mb D sn pl sp tn lf rs dp E) (i : Nat) (x : Value) : Mac (w.setCell ⟨mb, 8 + i, none⟩ x) mb D sn pl sp tn lf rs dp (E.set i x) := by
  have := h.set_ (8 + i) x
  unfold mcC at this
  rw [List.setIfInBounds_toArray, Nat.add_comm 8 i] at this
  rw [Nat.add_comm 8 i]
  exact this
end

def shutB (t : Bool) : UInt8 := if t then 125 else 93
/-- What ends each one that is open, from without to within. -/
def EndsIs : List Bool → List Value → Prop
  | [], _ => True
  | t :: r, E => E[r.length]? = some (.int .u8 ((shutB t).toNat : Int)) ∧ EndsIs r E
theorem EndsIs.set {x : Value} : ∀ {st : List Bool} {E : List Value} {i : Nat}, EndsIs st E → st.length ≤ i → EndsIs st (E.set i x)
  | [], _, _, _, _ => trivial
  | t :: r, E, i, h, hi => by
    have hi' : r.length < i := hi
    exact ⟨by rw [List.getElem?_set_ne (by omega)]; exact h.1, EndsIs.set h.2 (by omega)⟩
theorem EndsIs.push {t : Bool} {st : List Bool} {E : List Value} (h : EndsIs st E) (hl : st.length < E.length) : EndsIs (t :: st) (E.set st.length (.int .u8 ((shutB t).toNat : Int))) :=
  ⟨by rw [List.getElem?_set_self hl], h.set (Nat.le_refl _)⟩

/-! What may end a number; the step behind a byte of one. -/
def fulZ (sp : Int) : Bool := sp == 12 || sp == 13 || sp == 15 || sp == 18
def digZ (sp : Int) (b : UInt8) : Int := if sp == 12 then 19 else if sp == 14 || sp == 15 then 15 else if sp == 16 || sp == 17 || sp == 18 then 18 else if sp != 13 && (b.toNat : Int) == 48 then 12 else 13
def numZ (sp : Int) (b : UInt8) : Int :=
  if digB b then digZ sp b else if (b.toNat : Int) == 46 && (sp == 12 || sp == 13) then 14
  else if ((b.toNat : Int) == 101 || (b.toNat : Int) == 69) && fulZ sp && sp != 18 then 16
  else if ((b.toNat : Int) == 43 || (b.toNat : Int) == 45) && sp == 16 then 17 else 19

set_option maxHeartbeats 400000 in
theorem full_any (sp : Int) (w : World) :
    Calls Tryz.prog 53 #[.int .i64 sp] w fun e w' => e = .returned (.bool (fulZ sp)) ∧ w = w' := by
  unfold fulZ
  cases h0 : (sp == 12) <;> cases h1 : (sp == 13) <;> cases h2 : (sp == 15) <;>
  · go_enter Tryz.func53, Tryz.ntmps53
    go_wp2
    go_ret
    exact ⟨rfl, rfl⟩

set_option maxHeartbeats 400000 in
theorem jdigit_any (sp : Int) (b : UInt8) (w : World) :
    Calls Tryz.prog 97 #[.int .i64 sp, .int .u8 (b.toNat : Int)] w fun e w' => e = .returned (.int .i64 (digZ sp b)) ∧ w = w' := by
  obtain ⟨v, hv⟩ : ∃ v, v = digZ sp b := ⟨_, rfl⟩
  rw [← hv]
  have HV := Lib.hid hv
  clear hv
  have hc : (sp == 12) = true ∨ ((sp == 12) = false ∧ (sp == 14) = true) ∨ ((sp == 12) = false ∧ (sp == 14) = false ∧ (sp == 15) = true) ∨ ((sp == 12) = false ∧ (sp == 14) = false ∧ (sp == 15) = false ∧ (sp == 16) = true)
      ∨ ((sp == 12) = false ∧ (sp == 14) = false ∧ (sp == 15) = false ∧ (sp == 16) = false ∧ (sp == 17) = true) ∨ ((sp == 12) = false ∧ (sp == 14) = false ∧ (sp == 15) = false ∧ (sp == 16) = false ∧ (sp == 17) = false ∧ (sp == 18) = true)
      ∨ ((sp == 12) = false ∧ (sp == 14) = false ∧ (sp == 15) = false ∧ (sp == 16) = false ∧ (sp == 17) = false ∧ (sp == 18) = false ∧ (sp != 13) = false)
      ∨ ((sp == 12) = false ∧ (sp == 14) = false ∧ (sp == 15) = false ∧ (sp == 16) = false ∧ (sp == 17) = false ∧ (sp == 18) = false ∧ (sp != 13) = true ∧ ((b.toNat : Int) == 48) = true)
      ∨ ((sp == 12) = false ∧ (sp == 14) = false ∧ (sp == 15) = false ∧ (sp == 16) = false ∧ (sp == 17) = false ∧ (sp == 18) = false ∧ (sp != 13) = true ∧ ((b.toNat : Int) == 48) = false) := by
    generalize (sp == 12) = a
    generalize (sp == 14) = c
    generalize (sp == 15) = d
    generalize (sp == 16) = f
    generalize (sp == 17) = g
    generalize (sp == 18) = i
    generalize (sp != 13) = j
    generalize ((b.toNat : Int) == 48) = k
    cases a <;> simp
    cases c <;> simp
    cases d <;> simp
    cases f <;> simp
    cases g <;> simp
    cases i <;> simp
    cases j <;> simp
  rcases hc with h0 | ⟨h0, h1⟩ | ⟨h0, h1, h2⟩ | ⟨h0, h1, h2, h3⟩ | ⟨h0, h1, h2, h3, h4⟩ | ⟨h0, h1, h2, h3, h4, h5⟩ | ⟨h0, h1, h2, h3, h4, h5, h6⟩ | ⟨h0, h1, h2, h3, h4, h5, h6, h7⟩ | ⟨h0, h1, h2, h3, h4, h5, h6, h7⟩
  all_goals
    go_enter Tryz.func97, Tryz.ntmps97
    go_wp2
    go_ret
    refine ⟨?_, rfl⟩
    rw [HV.out]
    unfold digZ
    simp only [*, Bool.or_true, Bool.true_or, Bool.or_false, Bool.and_true, Bool.and_false, if_true, if_false, Bool.false_eq_true]
    first | done | rfl
set_option maxHeartbeats 1000000 in
theorem jnumber_any (sp : Int) (b : UInt8) (w : World) :
    Calls Tryz.prog 79 #[.int .i64 sp, .int .u8 (b.toNat : Int)] w fun e w' => e = .returned (.int .i64 (numZ sp b)) ∧ w = w' := by
  obtain ⟨v, hv⟩ : ∃ v, v = numZ sp b := ⟨_, rfl⟩
  rw [← hv]
  have HV := Lib.hid hv
  clear hv
  have HD := Lib.hid (fun W => digit_any b W)
  have HJ := Lib.hid (fun W => jdigit_any sp b W)
  have HF := Lib.hid (fun W => full_any sp W)
  obtain ⟨d, hd⟩ : ∃ d, d = digB b := ⟨_, rfl⟩
  obtain ⟨z, hz⟩ : ∃ z, z = digZ sp b := ⟨_, rfl⟩
  obtain ⟨f, hf⟩ : ∃ f, f = fulZ sp := ⟨_, rfl⟩
  unfold numZ at HV
  simp only [← hd, ← hz, ← hf] at HV HD HJ HF
  clear hd hz hf
  have hb : (((b.toNat : Int) == 46) = true ∧ ((b.toNat : Int) == 101) = false ∧ ((b.toNat : Int) == 69) = false ∧ ((b.toNat : Int) == 43) = false ∧ ((b.toNat : Int) == 45) = false)
      ∨ (((b.toNat : Int) == 46) = false ∧ ((b.toNat : Int) == 101) = true ∧ ((b.toNat : Int) == 69) = false ∧ ((b.toNat : Int) == 43) = false ∧ ((b.toNat : Int) == 45) = false)
      ∨ (((b.toNat : Int) == 46) = false ∧ ((b.toNat : Int) == 101) = false ∧ ((b.toNat : Int) == 69) = true ∧ ((b.toNat : Int) == 43) = false ∧ ((b.toNat : Int) == 45) = false)
      ∨ (((b.toNat : Int) == 46) = false ∧ ((b.toNat : Int) == 101) = false ∧ ((b.toNat : Int) == 69) = false ∧ ((b.toNat : Int) == 43) = true ∧ ((b.toNat : Int) == 45) = false)
      ∨ (((b.toNat : Int) == 46) = false ∧ ((b.toNat : Int) == 101) = false ∧ ((b.toNat : Int) == 69) = false ∧ ((b.toNat : Int) == 43) = false ∧ ((b.toNat : Int) == 45) = true)
      ∨ (((b.toNat : Int) == 46) = false ∧ ((b.toNat : Int) == 101) = false ∧ ((b.toNat : Int) == 69) = false ∧ ((b.toNat : Int) == 43) = false ∧ ((b.toNat : Int) == 45) = false) := by
    simp only [beq_iff_eq, beq_eq_false_iff_ne, ne_eq]
    omega
  cases d
  case' false => rcases hb with ⟨h1, h2, h3, h4, h5⟩ | ⟨h1, h2, h3, h4, h5⟩ | ⟨h1, h2, h3, h4, h5⟩ | ⟨h1, h2, h3, h4, h5⟩ | ⟨h1, h2, h3, h4, h5⟩ | ⟨h1, h2, h3, h4, h5⟩
  case' false.inl => cases h6 : (sp == 12)
  case' false.inl.false => cases h7 : (sp == 13)
  case' false.inr.inl => cases f
  case' false.inr.inl.true => cases h7 : (sp == 18)
  case' false.inr.inr.inl => cases f
  case' false.inr.inr.inl.true => cases h7 : (sp == 18)
  case' false.inr.inr.inr.inl => cases h7 : (sp == 16)
  case' false.inr.inr.inr.inr.inl => cases h7 : (sp == 16)
  all_goals
    go_enter Tryz.func79, Tryz.ntmps79
    go_wp2_with (first
      | (go_at_call 86; (with_reducible refine (HD.out _).mono ?_); rintro e w1 ⟨rfl, rfl⟩)
      | (go_at_call 97; (with_reducible refine (HJ.out _).mono ?_); rintro e w1 ⟨rfl, rfl⟩)
      | (go_at_call 53; (with_reducible refine (HF.out _).mono ?_); rintro e w1 ⟨rfl, rfl⟩))
    go_ret
    refine ⟨?_, rfl⟩
    rw [HV.out]
    simp only [*, bne, Bool.or_true, Bool.true_or, Bool.or_false, Bool.and_true, Bool.false_and, Bool.and_false, Bool.not_true, Bool.not_false, if_true, if_false, Bool.false_eq_true]
    first | done | rfl

/-! What is told of a machine. -/
set_option maxHeartbeats 400000 in
theorem stopped_any {w : World} {mb : Nat} {D sn pl sp tn lf : Int} {rs : ByteArray} {dp : Int} {E : List Value} (h : Mac w mb D sn pl sp tn lf rs dp E) :
    Calls Tryz.prog 49 #[mptr mb] w fun e w' => e = .returned (.bool (sp == 19 || sp == 20)) ∧ w = w' := by
  have c3 := h.c3
  clear h
  cases h0 : (sp == 19) <;>
  · go_enter Tryz.func49, Tryz.ntmps49
    go_wp2
    go_ret
    exact ⟨rfl, rfl⟩
/-- The state that a step tells. -/
def staZ (sp dp : Int) : Int := if sp == 19 then 0 else if sp == 20 then 3 else if dp == 0 && (sp == 6 || fulZ sp) then 2 else 1
set_option maxHeartbeats 400000 in
theorem jstate_any {w : World} {mb : Nat} {D sn pl sp tn lf : Int} {rs : ByteArray} {dp : Int} {E : List Value} (h : Mac w mb D sn pl sp tn lf rs dp E) :
    Calls Tryz.prog 31 #[mptr mb] w fun e w' => e = .returned (.int .i64 (staZ sp dp)) ∧ w = w' := by
  have c3 := h.c3
  have c7 := h.c7
  clear h
  obtain ⟨v, hv⟩ : ∃ v, v = staZ sp dp := ⟨_, rfl⟩
  rw [← hv]
  have HV := Lib.hid hv
  clear hv
  have HF := Lib.hid (fun W => full_any sp W)
  obtain ⟨f, hf⟩ : ∃ f, f = fulZ sp := ⟨_, rfl⟩
  unfold staZ at HV
  simp only [← hf] at HV HF
  clear hf
  have hc : (sp == 19) = true ∨ ((sp == 19) = false ∧ (sp == 20) = true) ∨ ((sp == 19) = false ∧ (sp == 20) = false ∧ (dp == 0) = false) ∨ ((sp == 19) = false ∧ (sp == 20) = false ∧ (dp == 0) = true ∧ (sp == 6) = true)
      ∨ ((sp == 19) = false ∧ (sp == 20) = false ∧ (dp == 0) = true ∧ (sp == 6) = false ∧ f = true) ∨ ((sp == 19) = false ∧ (sp == 20) = false ∧ (dp == 0) = true ∧ (sp == 6) = false ∧ f = false) := by
    generalize (sp == 19) = a
    generalize (sp == 20) = b
    generalize (dp == 0) = c
    generalize (sp == 6) = d
    cases a <;> simp
    cases b <;> simp
    cases c <;> simp
    cases d <;> simp
  rcases hc with h0 | ⟨h0, h1⟩ | ⟨h0, h1, h2⟩ | ⟨h0, h1, h2, h3⟩ | ⟨h0, h1, h2, h3, rfl⟩ | ⟨h0, h1, h2, h3, rfl⟩
  all_goals
    go_enter Tryz.func31, Tryz.ntmps31
    go_wp2_with (go_at_call 53; (with_reducible refine (HF.out _).mono ?_); rintro e w1 ⟨rfl, rfl⟩)
    go_ret
    refine ⟨?_, rfl⟩
    rw [HV.out]
    simp only [*, Bool.or_true, Bool.true_or, Bool.or_false, Bool.and_true, Bool.false_and, Bool.and_false, if_true, if_false, Bool.false_eq_true]
    first | done | rfl

set_option maxHeartbeats 400000 in
theorem begun_any {w : World} {mb : Nat} {D sn pl sp tn lf : Int} {rs : ByteArray} {dp : Int} {E : List Value} (h : Mac w mb D sn pl sp tn lf rs dp E) :
    Calls Tryz.prog 30 #[mptr mb] w fun e w' => e = .returned (.bool (sp != 0)) ∧ w = w' := by
  have c3 := h.c3
  clear h
  go_enter Tryz.func30, Tryz.ntmps30
  go_wp2
  go_ret
  exact ⟨rfl, rfl⟩
end Go.Proofs.YtbojbkpplejdmaaGreat
namespace Go.Proofs.YtbojbkpplejdmaaGreat
open Go.RowKit

/-- What a machine's step, the step behind a text, the digits left and the word's rest are, where reading stands so. -/
def Reg (p : Pj) (st : List Bool) (sp tn lf : Int) (rs : ByteArray) : Prop :=
  match p with
  | .v => sp = if st.isEmpty then 0 else 1
  | .a => sp = 2 ∧ st.head? = some false
  | .o => sp = 4 ∧ st.head? = some true
  | .k => sp = 3 ∧ st.head? = some true
  | .c => sp = 5 ∧ st.head? = some true
  | .e => sp = 6
  | .q key n => tn = (if key then 5 else 6) ∧ (key = true → st.head? = some true) ∧ (match n with | 0 => sp = 7 | 1 => sp = 8 | m + 2 => sp = 9 ∧ lf = ((m + 1 : Nat) : Int) ∧ m ≤ 3)
  | .n i => match i with | 0 => sp = 11 | 1 => sp = 13 | 2 => sp = 12 | 3 => sp = 14 | 4 => sp = 15 | 5 => sp = 16 | 6 => sp = 17 | 7 => sp = 18 | _ => False
  | .w x l => sp = 10 ∧ rs = ⟨(x :: l).toArray⟩
/-- A machine behind a byte. -/
def MacS (w : World) (mb D : Nat) (sn pl : Int) (r : Sj) : Prop :=
  ∃ (sp tn lf : Int) (rs : ByteArray) (dp : Nat) (E : List Value), Mac w mb D sn pl sp tn lf rs dp E ∧ E.length = 200 ∧ dp ≤ D ∧ match r with
    | .go p st => Reg p st sp tn lf rs ∧ dp = st.length ∧ EndsIs st E
    | .no => sp = 19
    | .de => sp = 20
def Ste (w w' : World) (mb D : Nat) (sn pl : Int) (r : Sj) : Prop := Mv w.heap.size [mb] w w' ∧ MacS w' mb D sn pl r
/-- A machine at a step with so much open. -/
structure Was (w : World) (mb D : Nat) (sn pl sp tn lf : Int) (rs : ByteArray) (st : List Bool) (E : List Value) : Prop where
  mac : Mac w mb D sn pl sp tn lf rs st.length E
  len : E.length = 200
  ends : EndsIs st E
  deep : st.length ≤ D
  most : D ≤ 200
section
variable {w w' : World} {mb D : Nat} {sn pl sp tn lf : Int} {rs : ByteArray} {st : List Bool} {E : List Value}
theorem Was.go {p : Pj} (h : Was w mb D sn pl sp tn lf rs st E) (hr : Reg p st sp tn lf rs) : MacS w mb D sn pl (.go p st) :=
  ⟨sp, tn, lf, rs, st.length, E, h.mac, h.len, h.deep, hr, rfl, h.ends⟩
theorem Was.no (h : Was w mb D sn pl 19 tn lf rs st E) : MacS w mb D sn pl .no :=
  ⟨19, tn, lf, rs, st.length, E, h.mac, h.len, h.deep, rfl⟩
theorem Was.de (h : Was w mb D sn pl 20 tn lf rs st E) : MacS w mb D sn pl .de :=
  ⟨20, tn, lf, rs, st.length, E, h.mac, h.len, h.deep, rfl⟩
theorem Was.s3 (h : Was w mb D sn pl sp tn lf rs st E) (x : Int) : Was (w.setCell ⟨mb, 3, none⟩ (.int .i64 x)) mb D sn pl x tn lf rs st E := ⟨Mac.s3 h.mac x, h.len, h.ends, h.deep, h.most⟩
theorem Was.s4 (h : Was w mb D sn pl sp tn lf rs st E) (x : Int) : Was (w.setCell ⟨mb, 4, none⟩ (.int .i64 x)) mb D sn pl sp x lf rs st E := ⟨Mac.s4 h.mac x, h.len, h.ends, h.deep, h.most⟩
theorem Was.s5 (h : Was w mb D sn pl sp tn lf rs st E) (x : Int) : Was (w.setCell ⟨mb, 5, none⟩ (.int .i64 x)) mb D sn pl sp tn x rs st E := ⟨Mac.s5 h.mac x, h.len, h.ends, h.deep, h.most⟩
theorem Was.s6 (h : Was w mb D sn pl sp tn lf rs st E) (x : ByteArray) : Was (w.setCell ⟨mb, 6, none⟩ (.string x)) mb D sn pl sp tn lf x st E := ⟨Mac.s6 h.mac x, h.len, h.ends, h.deep, h.most⟩
theorem Was.drewN (h : Was w mb D sn pl sp tn lf rs st E) (n : Nat) : Was (w.drewN n) mb D sn pl sp tn lf rs st E := ⟨Blk.drewN h.mac n, h.len, h.ends, h.deep, h.most⟩
theorem Was.drew (h : Was w mb D sn pl sp tn lf rs st E) : Was w.drew mb D sn pl sp tn lf rs st E := ⟨Blk.drew h.mac, h.len, h.ends, h.deep, h.most⟩
end
/-- The machine's block alone is written. -/
theorem mv0 (w : World) (mb : Nat) : Mv w.heap.size [mb] w w := Mv.refl _ _ _
theorem Mv.put1 {w w' : World} {mb : Nat} (h : Mv w.heap.size [mb] w w') (o : Nat) (x : Value) : Mv w.heap.size [mb] w (w'.setCell ⟨mb, o, none⟩ x) := h.setCell (p := ⟨mb, o, none⟩) (Or.inl (List.mem_singleton.2 rfl)) x

set_option maxHeartbeats 1000000 in
set_option maxRecDepth 10000 in
theorem enter_ok {w : World} {mb D : Nat} {sn pl sp tn lf : Int} {rs : ByteArray} {st : List Bool} {E : List Value} (h : Was w mb D sn pl sp tn lf rs st E) (t : Bool) (k : Int) (hlt : st.length < D) :
    Calls Tryz.prog 99 #[mptr mb, .int .u8 ((shutB t).toNat : Int), .int .i64 k] w fun e w' => e = .returned (.tuple #[]) ∧ Mv w.heap.size [mb] w w' ∧ ∃ E', Was w' mb D sn pl k tn lf rs (t :: st) E' := by
  obtain ⟨hm, hl, he, hd, hD⟩ := h
  obtain ⟨x, hx⟩ : ∃ x, E[st.length]? = some x := ⟨_, List.getElem?_eq_getElem (by omega)⟩
  have c0 := hm.c0
  have c3 := hm.c3
  have c7 := hm.c7
  have z3 := Blk.frozen hm 3
  have z7 := Blk.frozen hm 7
  have zE := Blk.frozen hm (8 + st.length)
  have cE := (hm.cE st.length).trans hx
  have HM := Lib.hid hm
  have HE := Lib.hid (he.push (t := t) (by omega))
  have HL := Lib.hid (show (E.set st.length (.int .u8 ((shutB t).toNat : Int))).length = 200 by simp [hl])
  clear hm hl he hx
  have b0 : decide (D ≤ st.length) = false := by rw [decide_eq_false_iff_not]; omega
  have b1 : (st.length : Int) < 200 := by omega
  have b2 : (0 : Int) ≤ (st.length : Int) := by omega
  have B4 : Hid ((t :: st).length ≤ D) := Lib.hid hlt
  have B5 : Hid (D ≤ 200) := Lib.hid hD
  have B6 : Hid (((t :: st).length : Int) = (st.length : Int) + 1) := Lib.hid (by simp)
  clear hlt hd hD
  generalize st.length = d at *
  go_enter Tryz.func99, Tryz.ntmps99
  go_wp2
  go_quiet (fail)
  go_wp2
  go_region
  go_wp2
  go_end0
  refine ⟨rfl, (((mv0 w mb).drewN _).put1 _ _).put1 _ _ |>.put1 _ _, _, ⟨?_, HL.out, HE.out, B4.out, B5.out⟩⟩
  rw [B6.out]
  exact (((Mac.sE (Blk.drewN HM.out _) d _).s7 _).s3 _)

set_option maxHeartbeats 1000000 in
set_option maxRecDepth 10000 in
theorem enter_deep {w : World} {mb D : Nat} {sn pl sp tn lf : Int} {rs : ByteArray} {st : List Bool} {E : List Value} (h : Was w mb D sn pl sp tn lf rs st E) (x k : Int) (hlt : D ≤ st.length) :
    Calls Tryz.prog 99 #[mptr mb, .int .u8 x, .int .i64 k] w fun e w' => e = .returned (.tuple #[]) ∧ Ste w w' mb D sn pl .de := by
  have c0 := h.mac.c0
  have c3 := h.mac.c3
  have c7 := h.mac.c7
  have z3 := Blk.frozen h.mac 3
  have H := Lib.hid h
  have b0 : decide (D ≤ st.length) = true := by rw [decide_eq_true_iff]; omega
  clear h hlt
  generalize st.length = d at *
  go_enter Tryz.func99, Tryz.ntmps99
  go_wp2
  go_quiet (fail)
  go_wp2
  refine bodyPost_ret (results_none rfl _ _ _) rfl ?_
  exact ⟨rfl, ((mv0 w mb).drewN _).put1 _ _, ((H.out.drewN _).s3 20).de⟩

theorem bE (b c : UInt8) : (b == c) = ((b.toNat : Int) == (c.toNat : Int)) := by
  rw [Bool.eq_iff_iff, beq_iff_eq, beq_iff_eq]
  exact ⟨fun h => by rw [h], fun h => UInt8.toNat_inj.1 (by omega)⟩
/-- What ends what is innermost open. -/
def lvB (st : List Bool) (b : UInt8) : Bool := match st with
  | [] => false
  | t :: _ => b == shutB t
set_option maxHeartbeats 1000000 in
set_option maxRecDepth 10000 in
theorem leave_yes {w : World} {mb D : Nat} {sn pl sp tn lf : Int} {rs : ByteArray} {t : Bool} {st : List Bool} {E : List Value} (h : Was w mb D sn pl sp tn lf rs (t :: st) E) :
    Calls Tryz.prog 82 #[mptr mb, .int .u8 ((shutB t).toNat : Int)] w fun e w' => e = .returned (.bool true) ∧ Mv w.heap.size [mb] w w' ∧ Was w' mb D sn pl 6 tn lf rs st E := by
  obtain ⟨hm, hl, he, hd, hD⟩ := h
  have hd2 : st.length + 1 ≤ D := hd
  have B6 : ((t :: st).length : Int) = (st.length : Int) + 1 := by simp
  have c3 := hm.c3
  have c7 := hm.c7
  rw [B6] at c7
  have z3 := Blk.frozen hm 3
  have z7 := Blk.frozen hm 7
  have cE := (hm.cE st.length).trans he.1
  have HM := Lib.hid hm
  have HE := Lib.hid he.2
  have HL := Lib.hid hl
  have B4 : Hid (st.length ≤ D) := Lib.hid (by omega)
  have B5 : Hid (D ≤ 200) := Lib.hid hD
  have b0 : (((st.length : Nat) : Int) + 1 == 0) = false := by rw [beq_eq_false_iff_ne]; omega
  have b1 : (st.length : Int) < 200 := by omega
  have b2 : (0 : Int) ≤ (st.length : Int) := by omega
  clear hm hl he hd hd2 hD B6
  generalize hq : st.length = d at *
  generalize ((shutB t).toNat : Int) = x at *
  go_enter Tryz.func82, Tryz.ntmps82
  go_wp2
  go_quiet (fail)
  go_wp2
  go_ret
  refine ⟨rfl, ((mv0 w mb).drewN _).put1 _ _ |>.put1 _ _, ⟨?_, HL.out, HE.out, by rw [hq]; exact B4.out, B5.out⟩⟩
  rw [hq]
  exact ((Mac.s7 (Blk.drewN HM.out _) _).s3 _)

set_option maxHeartbeats 1000000 in
set_option maxRecDepth 10000 in
theorem leave_no {w : World} {mb D : Nat} {sn pl sp tn lf : Int} {rs : ByteArray} {st : List Bool} {E : List Value} (h : Was w mb D sn pl sp tn lf rs st E) (b : UInt8) (hb : lvB st b = false) :
    Calls Tryz.prog 82 #[mptr mb, .int .u8 (b.toNat : Int)] w fun e w' => e = .returned (.bool false) ∧ ∃ n, w' = w.drewN n := by
  obtain ⟨hm, hl, he, hd, hD⟩ := h
  cases st with
  | nil =>
    have c7 := hm.c7
    rw [show (([] : List Bool).length : Int) = 0 from rfl] at c7
    clear hm hl he hd hD hb
    go_enter Tryz.func82, Tryz.ntmps82
    go_wp2
    go_quiet (fail)
    go_wp2
    go_ret
    exact ⟨rfl, _, rfl⟩
  | cons t st =>
    have hd2 : st.length + 1 ≤ D := hd
    have B6 : ((t :: st).length : Int) = (st.length : Int) + 1 := by simp
    have c7 := hm.c7
    rw [B6] at c7
    have cE := (hm.cE st.length).trans he.1
    have b0 : (((st.length : Nat) : Int) + 1 == 0) = false := by rw [beq_eq_false_iff_ne]; omega
    have b1 : (st.length : Int) < 200 := by omega
    have b2 : (0 : Int) ≤ (st.length : Int) := by omega
    have b3 : (((shutB t).toNat : Int) != (b.toNat : Int)) = true := by
      have hne : b ≠ shutB t := by simpa [lvB] using hb
      rw [bne_iff_ne]
      intro e
      exact hne (UInt8.toNat_inj.1 (by omega))
    clear hm hl he hd hd2 hD B6 hb
    generalize st.length = d at *
    generalize ((shutB t).toNat : Int) = x at *
    go_enter Tryz.func82, Tryz.ntmps82
    go_wp2
    go_quiet (fail)
    go_wp2
    go_ret
    exact ⟨rfl, _, rfl⟩

set_option maxHeartbeats 1000000 in
theorem beginName_any {w : World} {mb D : Nat} {sn pl sp tn lf : Int} {rs : ByteArray} {st : List Bool} {E : List Value} (h : Was w mb D sn pl sp tn lf rs st E) (b : UInt8) (hs : st.head? = some true) :
    Calls Tryz.prog 83 #[mptr mb, .int .u8 (b.toNat : Int)] w fun e w' => e = .returned (.tuple #[]) ∧ Ste w w' mb D sn pl (if b == 34 then .go (.q true 0) st else .no) := by
  have c3 := h.mac.c3
  have c4 := h.mac.c4
  have z3 := Blk.frozen h.mac 3
  have z4 := Blk.frozen h.mac 4
  have H := Lib.hid h
  have HS := Lib.hid hs
  have e : (b == 34) = ((b.toNat : Int) == 34) := bE b 34
  rw [e]
  clear h hs e
  cases h0 : ((b.toNat : Int) == 34)
  · go_enter Tryz.func83, Tryz.ntmps83
    go_wp2
    go_end0
    exact ⟨rfl, (mv0 w mb).put1 _ _, (H.out.s3 19).no⟩
  · go_enter Tryz.func83, Tryz.ntmps83
    go_wp2
    go_end0
    exact ⟨rfl, (((mv0 w mb).put1 _ _).put1 _ _).put1 _ _, (((H.out.s3 19).s3 7).s4 5).go ⟨rfl, fun _ => HS.out, rfl⟩⟩
end Go.Proofs.YtbojbkpplejdmaaGreat
