/-
  What Collect of layer 4 does to a cursor, and what it answers. Conditions: the place lies in the text, which takes at most 2^47 bytes.
  What Same and Serial of package mime answer of types. Condition: texts are as long as a mebibyte, and parameters as many.
  A machine of layer 27 in memory: its cells (Mac), what is open (EndsIs), and what package json's New, stopped, State, Place, Begun, Depth and Seen answer. No condition.
-/
import Derived.Test.YtbojbkpplejdmaaZ1
import Derived.Test.YtbojbkpplejdmaaZ3
import Derived.Test.YtbojbkpplejdmaaZ2
import Derived.Test.YtbojbkpplejdmaaZ6
import Derived.Deep.RegionWith
import Derived.Test.YtbojbkpplejdmaaRows
import Derived.WalkKit
import Derived.WalkSpells
import Derived.WalkLawsBesides
import Derived.Defers
import Derived.Recover
import Derived.RegionTactic
import Derived.BigRegion
import Derived.Deep.QuietTactic
import Derived.BigQuiet
import Derived.Outline
import Derived.Deep.RegionHeld3
import Derived.StillTailTactics
import Derived.Lib.Hide
import Derived.IntWalk
import Derived.LoopTactic
import Derived.KernelRfl
import Derived.Laws.Externs
import Derived.Lib.FrozenHead2
import Derived.OneCell
import Derived.OwnWalk
import Derived.Laws.IdiomStrings
import Derived.Laws.OwnMore
import Derived.Laws.BytesArg
import Derived.Maps.OwnSet
import Derived.Maps.AppendAt
import Derived.Laws.AppendOwn
import Derived.Test.YtbojbkpplejdmaaZ4
namespace Go.Proofs.Ytbojbkpplejdmaa
open Go.RowKit

theorem Mv.chain {B : Nat} {r : List Nat} {a b c : World} (h : Mv B r a b) (k : Mv b.heap.size r b c) (hB : B ≤ a.heap.size) : Mv B r a c :=
  h.trans (k.mono (Nat.le_trans hB h.size) fun _ hx => .inl hx)
theorem Mv.idle {B : Nat} {r : List Nat} {w w' : World} (he : ∃ m, w' = w.drewN m) : Mv B r w w' := by
  obtain ⟨m, rfl⟩ := he
  exact (Mv.refl _ _ _).drewN m

end Go.Proofs.Ytbojbkpplejdmaa
namespace Go.Proofs.Ytbojbkpplejdmaa
open Go.RowKit Go.Maps

theorem below_on {a w w' : World} (h : Below a.heap.size a w) (hb : Below w.heap.size w w') : Below a.heap.size a w' := h.trans (hb.mono h.size)

end Go.Proofs.Ytbojbkpplejdmaa
namespace Go.Proofs.Ytbojbkpplejdmaa
open Go.RowKit

/-- The cells of a machine. -/
def mcC (D sn pl sp tn lf : Int) (rs : ByteArray) (dp : Int) (E : List Value) : Array Value :=
  (.int .i64 D :: .int .i64 sn :: .int .i64 pl :: .int .i64 sp :: .int .i64 tn :: .int .i64 lf :: .string rs :: .int .i64 dp :: E).toArray
abbrev Mac (w : World) (mb : Nat) (D sn pl sp tn lf : Int) (rs : ByteArray) (dp : Int) (E : List Value) : Prop := Blk w mb 59 (mcC D sn pl sp tn lf rs dp E)
abbrev mptr (mb : Nat) : Value := .pointer (some ⟨mb, 0, none⟩)
section
variable {w : World} {mb : Nat} {D sn pl sp tn lf : Int} {rs : ByteArray} {dp : Int} {E : List Value}
theorem Mac.c0 (h : Mac w mb D sn pl sp tn lf rs dp E) : w.cell? ⟨mb, 0, none⟩ = some (.int .i64 D) := h.cell 0
theorem Mac.c1 (h : Mac w mb D sn pl sp tn lf rs dp E) : w.cell? ⟨mb, 1, none⟩ = some (.int .i64 sn) := h.cell 1
theorem Mac.c2 (h : Mac w mb D sn pl sp tn lf rs dp E) : w.cell? ⟨mb, 2, none⟩ = some (.int .i64 pl) := h.cell 2
theorem Mac.c3 (h : Mac w mb D sn pl sp tn lf rs dp E) : w.cell? ⟨mb, 3, none⟩ = some (.int .i64 sp) := h.cell 3
theorem Mac.c4 (h : Mac w mb D sn pl sp tn lf rs dp E) : w.cell? ⟨mb, 4, none⟩ = some (.int .i64 tn) := h.cell 4
theorem Mac.c5 (h : Mac w mb D sn pl sp tn lf rs dp E) : w.cell? ⟨mb, 5, none⟩ = some (.int .i64 lf) := h.cell 5
theorem Mac.c6 (h : Mac w mb D sn pl sp tn lf rs dp E) : w.cell? ⟨mb, 6, none⟩ = some (.string rs) := h.cell 6
theorem Mac.c7 (h : Mac w mb D sn pl sp tn lf rs dp E) : w.cell? ⟨mb, 7, none⟩ = some (.int .i64 dp) := h.cell 7
theorem Mac.cE (h : Mac w mb D sn pl sp tn lf rs dp E) (i : Nat) : w.cell? ⟨mb, 8 + i, none⟩ = E[i]? := by
  rw [h.cell, Nat.add_comm]
  unfold mcC
  rw [List.getElem?_toArray]
  rfl
theorem Mac.s1 (h : Mac w mb D sn pl sp tn lf rs dp E) (x : Int) : Mac (w.setCell ⟨mb, 1, none⟩ (.int .i64 x)) mb D x pl sp tn lf rs dp E := by
  have := h.set_ 1 (.int .i64 x)
  unfold mcC at this
  rw [List.setIfInBounds_toArray] at this
  exact this
theorem Mac.s2 (h : Mac w mb D sn pl sp tn lf rs dp E) (x : Int) : Mac (w.setCell ⟨mb, 2, none⟩ (.int .i64 x)) mb D sn x sp tn lf rs dp E := by
  have := h.set_ 2 (.int .i64 x)
  unfold mcC at this
  rw [List.setIfInBounds_toArray] at this
  exact this
theorem Mac.s3 (h : Mac w mb D sn pl sp tn lf rs dp E) (x : Int) : Mac (w.setCell ⟨mb, 3, none⟩ (.int .i64 x)) mb D sn pl x tn lf rs dp E := by
  have := h.set_ 3 (.int .i64 x)
  unfold mcC at this
  rw [List.setIfInBounds_toArray] at this
  exact this
theorem Mac.s4 (h : Mac w mb D sn pl sp tn lf rs dp E) (x : Int) : Mac (w.setCell ⟨mb, 4, none⟩ (.int .i64 x)) mb D sn pl sp x lf rs dp E := by
  have := h.set_ 4 (.int .i64 x)
  unfold mcC at this
  rw [List.setIfInBounds_toArray] at this
  exact this
theorem Mac.s5 (h : Mac w mb D sn pl sp tn lf rs dp E) (x : Int) : Mac (w.setCell ⟨mb, 5, none⟩ (.int .i64 x)) mb D sn pl sp tn x rs dp E := by
  have := h.set_ 5 (.int .i64 x)
  unfold mcC at this
  rw [List.setIfInBounds_toArray] at this
  exact this
theorem Mac.s6 (h : Mac w mb D sn pl sp tn lf rs dp E) (x : ByteArray) : Mac (w.setCell ⟨mb, 6, none⟩ (.string x)) mb D sn pl sp tn lf x dp E := by
  have := h.set_ 6 (.string x)
  unfold mcC at this
  rw [List.setIfInBounds_toArray] at this
  exact this
theorem Mac.s7 (h : Mac w mb D sn pl sp tn lf rs dp E) (x : Int) : Mac (w.setCell ⟨mb, 7, none⟩ (.int .i64 x)) mb D sn pl sp tn lf rs x E := by
  have := h.set_ 7 (.int .i64 x)
  unfold mcC at this
  rw [List.setIfInBounds_toArray] at this
  exact this
theorem Mac.sE (h : Mac w mb D sn pl sp tn lf rs dp E) (i : Nat) (x : Value) : Mac (w.setCell ⟨mb, 8 + i, none⟩ x) mb D sn pl sp tn lf rs dp (E.set i x) := by
  have := h.set_ (8 + i) x
  unfold mcC at this
  rw [List.setIfInBounds_toArray, Nat.add_comm 8 i] at this
  rw [Nat.add_comm 8 i]
  exact this
end

def shutB (t : Bool) : UInt8 := if t then 125 else 93
/-- What ends each one that is open, from without to within. -/
def EndsIs : List Bool → List Value → Prop
  | [], _ => True
  | t :: r, E => E[r.length]? = some (.int .u8 ((shutB t).toNat : Int)) ∧ EndsIs r E
theorem EndsIs.set {x : Value} : ∀ {st : List Bool} {E : List Value} {i : Nat}, EndsIs st E → st.length ≤ i → EndsIs st (E.set i x)
  | [], _, _, _, _ => trivial
  | t :: r, E, i, h, hi => by
    have hi' : r.length < i := hi
    exact ⟨by rw [List.getElem?_set_ne (by omega)]; exact h.1, EndsIs.set h.2 (by omega)⟩
theorem EndsIs.push {t : Bool} {st : List Bool} {E : List Value} (h : EndsIs st E) (hl : st.length < E.length) : EndsIs (t :: st) (E.set st.length (.int .u8 ((shutB t).toNat : Int))) :=
  ⟨by rw [List.getElem?_set_self hl], h.set (Nat.le_refl _)⟩

/-! What may end a number; the step behind a byte of one. -/
def fulZ (sp : Int) : Bool := sp == 12 || sp == 13 || sp == 15 || sp == 18
def digZ (sp : Int) (b : UInt8) : Int := if sp == 12 then 19 else if sp == 14 || sp == 15 then 15 else if sp == 16 || sp == 17 || sp == 18 then 18 else if sp != 13 && (b.toNat : Int) == 48 then 12 else 13
def numZ (sp : Int) (b : UInt8) : Int :=
  if digB b then digZ sp b else if (b.toNat : Int) == 46 && (sp == 12 || sp == 13) then 14
  else if ((b.toNat : Int) == 101 || (b.toNat : Int) == 69) && fulZ sp && sp != 18 then 16
  else if ((b.toNat : Int) == 43 || (b.toNat : Int) == 45) && sp == 16 then 17 else 19

set_option maxHeartbeats 400000 in
theorem full_any (sp : Int) (w : World) :
    Calls Try.prog 40 #[.int .i64 sp] w fun e w' => e = .returned (.bool (fulZ sp)) ∧ w = w' := by
  unfold fulZ
  cases h0 : (sp == 12) <;> cases h1 : (sp == 13) <;> cases h2 : (sp == 15) <;>
  · go_enter Try.func40, Try.ntmps40
    go_wp2
    go_ret
    exact ⟨rfl, rfl⟩

set_option maxHeartbeats 400000 in
theorem jdigit_any (sp : Int) (b : UInt8) (w : World) :
    Calls Try.prog 75 #[.int .i64 sp, .int .u8 (b.toNat : Int)] w fun e w' => e = .returned (.int .i64 (digZ sp b)) ∧ w = w' := by
  obtain ⟨v, hv⟩ : ∃ v, v = digZ sp b := ⟨_, rfl⟩
  rw [← hv]
  have HV := Lib.hid hv
  clear hv
  have hc : (sp == 12) = true ∨ ((sp == 12) = false ∧ (sp == 14) = true) ∨ ((sp == 12) = false ∧ (sp == 14) = false ∧ (sp == 15) = true) ∨ ((sp == 12) = false ∧ (sp == 14) = false ∧ (sp == 15) = false ∧ (sp == 16) = true)
      ∨ ((sp == 12) = false ∧ (sp == 14) = false ∧ (sp == 15) = false ∧ (sp == 16) = false ∧ (sp == 17) = true) ∨ ((sp == 12) = false ∧ (sp == 14) = false ∧ (sp == 15) = false ∧ (sp == 16) = false ∧ (sp == 17) = false ∧ (sp == 18) = true)
      ∨ ((sp == 12) = false ∧ (sp == 14) = false ∧ (sp == 15) = false ∧ (sp == 16) = false ∧ (sp == 17) = false ∧ (sp == 18) = false ∧ (sp != 13) = false)
      ∨ ((sp == 12) = false ∧ (sp == 14) = false ∧ (sp == 15) = false ∧ (sp == 16) = false ∧ (sp == 17) = false ∧ (sp == 18) = false ∧ (sp != 13) = true ∧ ((b.toNat : Int) == 48) = true)
      ∨ ((sp == 12) = false ∧ (sp == 14) = false ∧ (sp == 15) = false ∧ (sp == 16) = false ∧ (sp == 17) = false ∧ (sp == 18) = false ∧ (sp != 13) = true ∧ ((b.toNat : Int) == 48) = false) := by
    generalize (sp == 12) = a
    generalize (sp == 14) = c
    generalize (sp == 15) = d
    generalize (sp == 16) = f
    generalize (sp == 17) = g
    generalize (sp == 18) = i
    generalize (sp != 13) = j
    generalize ((b.toNat : Int) == 48) = k
    cases a <;> simp
    cases c <;> simp
    cases d <;> simp
    cases f <;> simp
    cases g <;> simp
    cases i <;> simp
    cases j <;> simp
  rcases hc with h0 | ⟨h0, h1⟩ | ⟨h0, h1, h2⟩ | ⟨h0, h1, h2, h3⟩ | ⟨h0, h1, h2, h3, h4⟩ | ⟨h0, h1, h2, h3, h4, h5⟩ | ⟨h0, h1, h2, h3, h4, h5, h6⟩ | ⟨h0, h1, h2, h3, h4, h5, h6, h7⟩ | ⟨h0, h1, h2, h3, h4, h5, h6, h7⟩
  all_goals
    go_enter Try.func75, Try.ntmps75
    go_wp2
    go_ret
    refine ⟨?_, rfl⟩
    rw [HV.out]
    unfold digZ
    simp only [*, Bool.or_true, Bool.true_or, Bool.or_false, Bool.and_true, Bool.and_false, if_true, if_false, Bool.false_eq_true]
    first | done | rfl
set_option maxHeartbeats 1000000 in
theorem jnumber_any (sp : Int) (b : UInt8) (w : World) :
    Calls Try.prog 57 #[.int .i64 sp, .int .u8 (b.toNat : Int)] w fun e w' => e = .returned (.int .i64 (numZ sp b)) ∧ w = w' := by
  obtain ⟨v, hv⟩ : ∃ v, v = numZ sp b := ⟨_, rfl⟩
  rw [← hv]
  have HV := Lib.hid hv
  clear hv
  have HD := Lib.hid (fun W => digit_any b W)
  have HJ := Lib.hid (fun W => jdigit_any sp b W)
  have HF := Lib.hid (fun W => full_any sp W)
  obtain ⟨d, hd⟩ : ∃ d, d = digB b := ⟨_, rfl⟩
  obtain ⟨z, hz⟩ : ∃ z, z = digZ sp b := ⟨_, rfl⟩
  obtain ⟨f, hf⟩ : ∃ f, f = fulZ sp := ⟨_, rfl⟩
  unfold numZ at HV
  simp only [← hd, ← hz, ← hf] at HV HD HJ HF
  clear hd hz hf
  have hb : (((b.toNat : Int) == 46) = true ∧ ((b.toNat : Int) == 101) = false ∧ ((b.toNat : Int) == 69) = false ∧ ((b.toNat : Int) == 43) = false ∧ ((b.toNat : Int) == 45) = false)
      ∨ (((b.toNat : Int) == 46) = false ∧ ((b.toNat : Int) == 101) = true ∧ ((b.toNat : Int) == 69) = false ∧ ((b.toNat : Int) == 43) = false ∧ ((b.toNat : Int) == 45) = false)
      ∨ (((b.toNat : Int) == 46) = false ∧ ((b.toNat : Int) == 101) = false ∧ ((b.toNat : Int) == 69) = true ∧ ((b.toNat : Int) == 43) = false ∧ ((b.toNat : Int) == 45) = false)
      ∨ (((b.toNat : Int) == 46) = false ∧ ((b.toNat : Int) == 101) = false ∧ ((b.toNat : Int) == 69) = false ∧ ((b.toNat : Int) == 43) = true ∧ ((b.toNat : Int) == 45) = false)
      ∨ (((b.toNat : Int) == 46) = false ∧ ((b.toNat : Int) == 101) = false ∧ ((b.toNat : Int) == 69) = false ∧ ((b.toNat : Int) == 43) = false ∧ ((b.toNat : Int) == 45) = true)
      ∨ (((b.toNat : Int) == 46) = false ∧ ((b.toNat : Int) == 101) = false ∧ ((b.toNat : Int) == 69) = false ∧ ((b.toNat : Int) == 43) = false ∧ ((b.toNat : Int) == 45) = false) := by
    simp only [beq_iff_eq, beq_eq_false_iff_ne, ne_eq]
    omega
  cases d
  case' false => rcases hb with ⟨h1, h2, h3, h4, h5⟩ | ⟨h1, h2, h3, h4, h5⟩ | ⟨h1, h2, h3, h4, h5⟩ | ⟨h1, h2, h3, h4, h5⟩ | ⟨h1, h2, h3, h4, h5⟩ | ⟨h1, h2, h3, h4, h5⟩
  case' false.inl => cases h6 : (sp == 12)
  case' false.inl.false => cases h7 : (sp == 13)
  case' false.inr.inl => cases f
  case' false.inr.inl.true => cases h7 : (sp == 18)
  case' false.inr.inr.inl => cases f
  case' false.inr.inr.inl.true => cases h7 : (sp == 18)
  case' false.inr.inr.inr.inl => cases h7 : (sp == 16)
  case' false.inr.inr.inr.inr.inl => cases h7 : (sp == 16)
  all_goals
    go_enter Try.func57, Try.ntmps57
    go_wp2_with (first
      | (go_at_call 64; (with_reducible refine (HD.out _).mono ?_); rintro e w1 ⟨rfl, rfl⟩)
      | (go_at_call 75; (with_reducible refine (HJ.out _).mono ?_); rintro e w1 ⟨rfl, rfl⟩)
      | (go_at_call 40; (with_reducible refine (HF.out _).mono ?_); rintro e w1 ⟨rfl, rfl⟩))
    go_ret
    refine ⟨?_, rfl⟩
    rw [HV.out]
    simp only [*, bne, Bool.or_true, Bool.true_or, Bool.or_false, Bool.and_true, Bool.false_and, Bool.and_false, Bool.not_true, Bool.not_false, if_true, if_false, Bool.false_eq_true]
    first | done | rfl

/-! What is told of a machine. -/
set_option maxHeartbeats 400000 in
theorem stopped_any {w : World} {mb : Nat} {D sn pl sp tn lf : Int} {rs : ByteArray} {dp : Int} {E : List Value} (h : Mac w mb D sn pl sp tn lf rs dp E) :
    Calls Try.prog 36 #[mptr mb] w fun e w' => e = .returned (.bool (sp == 19 || sp == 20)) ∧ w = w' := by
  have c3 := h.c3
  clear h
  cases h0 : (sp == 19) <;>
  · go_enter Try.func36, Try.ntmps36
    go_wp2
    go_ret
    exact ⟨rfl, rfl⟩
/-- The state that a step tells. -/
def staZ (sp dp : Int) : Int := if sp == 19 then 0 else if sp == 20 then 3 else if dp == 0 && (sp == 6 || fulZ sp) then 2 else 1
set_option maxHeartbeats 400000 in
theorem jstate_any {w : World} {mb : Nat} {D sn pl sp tn lf : Int} {rs : ByteArray} {dp : Int} {E : List Value} (h : Mac w mb D sn pl sp tn lf rs dp E) :
    Calls Try.prog 32 #[mptr mb] w fun e w' => e = .returned (.int .i64 (staZ sp dp)) ∧ w = w' := by
  have c3 := h.c3
  have c7 := h.c7
  clear h
  obtain ⟨v, hv⟩ : ∃ v, v = staZ sp dp := ⟨_, rfl⟩
  rw [← hv]
  have HV := Lib.hid hv
  clear hv
  have HF := Lib.hid (fun W => full_any sp W)
  obtain ⟨f, hf⟩ : ∃ f, f = fulZ sp := ⟨_, rfl⟩
  unfold staZ at HV
  simp only [← hf] at HV HF
  clear hf
  have hc : (sp == 19) = true ∨ ((sp == 19) = false ∧ (sp == 20) = true) ∨ ((sp == 19) = false ∧ (sp == 20) = false ∧ (dp == 0) = false) ∨ ((sp == 19) = false ∧ (sp == 20) = false ∧ (dp == 0) = true ∧ (sp == 6) = true)
      ∨ ((sp == 19) = false ∧ (sp == 20) = false ∧ (dp == 0) = true ∧ (sp == 6) = false ∧ f = true) ∨ ((sp == 19) = false ∧ (sp == 20) = false ∧ (dp == 0) = true ∧ (sp == 6) = false ∧ f = false) := by
    generalize (sp == 19) = a
    generalize (sp == 20) = b
    generalize (dp == 0) = c
    generalize (sp == 6) = d
    cases a <;> simp
    cases b <;> simp
    cases c <;> simp
    cases d <;> simp
  rcases hc with h0 | ⟨h0, h1⟩ | ⟨h0, h1, h2⟩ | ⟨h0, h1, h2, h3⟩ | ⟨h0, h1, h2, h3, rfl⟩ | ⟨h0, h1, h2, h3, rfl⟩
  all_goals
    go_enter Try.func32, Try.ntmps32
    go_wp2_with (go_at_call 40; (with_reducible refine (HF.out _).mono ?_); rintro e w1 ⟨rfl, rfl⟩)
    go_ret
    refine ⟨?_, rfl⟩
    rw [HV.out]
    simp only [*, Bool.or_true, Bool.true_or, Bool.or_false, Bool.and_true, Bool.false_and, Bool.and_false, if_true, if_false, Bool.false_eq_true]
    first | done | rfl

set_option maxHeartbeats 400000 in
theorem begun_any {w : World} {mb : Nat} {D sn pl sp tn lf : Int} {rs : ByteArray} {dp : Int} {E : List Value} (h : Mac w mb D sn pl sp tn lf rs dp E) :
    Calls Try.prog 31 #[mptr mb] w fun e w' => e = .returned (.bool (sp != 0)) ∧ w = w' := by
  have c3 := h.c3
  clear h
  go_enter Try.func31, Try.ntmps31
  go_wp2
  go_ret
  exact ⟨rfl, rfl⟩
end Go.Proofs.Ytbojbkpplejdmaa
