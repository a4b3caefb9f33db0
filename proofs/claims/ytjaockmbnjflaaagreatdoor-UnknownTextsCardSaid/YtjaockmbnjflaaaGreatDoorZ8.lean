/-
  What package trap's Throw, Check and Catch do to the world, for whatever place and code, and over whatever function value. No condition.
  What package cursor's New, At, Left, End, Peek, Take, Next, Rest, Back and U32 do, over a cursor of its own block, and over none. Conditions: the place lies in the text, and the text is no longer than a length can be.
  What Lower, Prefix, HasPrefix and Has answer, and what Skip does to a cursor. Conditions: lengths as they can be.
-/
import Derived.Test.YtjaockmbnjflaaaGreatDoorRows
import Derived.Test.YtjaockmbnjflaaaGreatDoorZ3
import Derived.WalkKit
import Derived.WalkSpells
import Derived.WalkLawsBesides
import Derived.Defers
import Derived.Recover
import Derived.RegionTactic
import Derived.BigRegion
import Derived.Deep.QuietTactic
import Derived.BigQuiet
import Derived.Outline
import Derived.Deep.RegionHeld3
import Derived.StillTailTactics
import Derived.Lib.Hide
import Derived.IntWalk
import Derived.Test.YtjaockmbnjflaaaGreatDoorZ1
import Derived.LoopTactic
namespace Go.Proofs.YtjaockmbnjflaaaGreatDoor
open Go.RowKit


/-- The code that is thrown. -/
def tc (c : Int) : Int := if c = 0 then 1 else c
theorem tc_of {c : Int} (h : c ≠ 0) : tc c = c := by simp [tc, h]
abbrev flt (a c : Int) : Value := .agg #[.int .i64 a, .int .i64 c]
abbrev pnc (a c : Int) : Ending := .panicked [{ v := .iface 110 (.agg #[.int .i64 a, .int .i64 c]), recovered := false }]

set_option maxHeartbeats 400000 in
theorem throw_zero (a : Int) (w : World) :
    Calls Tryz.prog 155 #[.int .i64 a, .int .i64 0] w fun e w' => e = pnc a 1 ∧ w = w' := by
  go_enter Tryz.func155, Tryz.ntmps155
  go_wp2
  simp [bodyPost, pnc]

set_option maxHeartbeats 400000 in
theorem throw_some (a c : Int) (hc : (c == 0) = false) (w : World) :
    Calls Tryz.prog 155 #[.int .i64 a, .int .i64 c] w fun e w' => e = pnc a c ∧ w = w' := by
  go_enter Tryz.func155, Tryz.ntmps155
  go_wp2
  simp [bodyPost, pnc]

theorem throw_any (a c : Int) (w : World) :
    Calls Tryz.prog 155 #[.int .i64 a, .int .i64 c] w fun e w' => e = pnc a (tc c) ∧ w = w' := by
  by_cases h : c = 0
  · subst h; exact throw_zero a w
  · rw [tc_of h]; exact throw_some a c (by simp [h]) w

set_option maxHeartbeats 400000 in
theorem check_ok (a c : Int) (w : World) :
    Calls Tryz.prog 148 #[.bool true, .int .i64 a, .int .i64 c] w fun e w' => e = .returned (.tuple #[]) ∧ w = w' := by
  go_enter Tryz.func148, Tryz.ntmps148
  go_wp2
  go_end0
  exact ⟨rfl, rfl⟩

set_option maxHeartbeats 400000 in
theorem check_not (a c : Int) (w : World) :
    Calls Tryz.prog 148 #[.bool false, .int .i64 a, .int .i64 c] w fun e w' => e = pnc a (tc c) ∧ w = w' := by
  go_enter Tryz.func148, Tryz.ntmps148
  go_wp2_with (go_at_call 155; refine (throw_any _ _ _).mono ?_; rintro e w' ⟨rfl, rfl⟩)
  exact ⟨rfl, rfl, rfl⟩

abbrev flc (a c : Int) : Obj := .cells #[.int .i64 a, .int .i64 c] 110
set_option maxHeartbeats 400000 in
theorem faultOf_fault (a c : Int) (w : World) :
    Calls Tryz.prog 154 #[.iface 110 (.agg #[.int .i64 a, .int .i64 c])] w fun e w' => e = .returned (.agg #[.int .i64 a, .int .i64 c]) ∧ w' = (w.alloc (flc a c)).alloc (flc a c) := by
  have hta : ∀ w : World, (Instr.typeAssert (.iface 110 (.agg #[.int .i64 a, .int .i64 c])) 20 110 true).run Tryz.prog w = .ok (.tuple #[.agg #[.int .i64 a, .int .i64 c], .bool true]) w := fun _ => by kernel_rfl
  go_enter Tryz.func154, Tryz.ntmps154
  go_wp2
  exact bodyPost_ret (v := .agg #[.int .i64 a, .int .i64 c]) (by simp [results, Tryz.results154, go_sem]) rfl ⟨rfl, rfl⟩

theorem closure_idle (p q : Addr) (w : World) (hc : w.cell? p = some (.bool false)) :
    CallsD Tryz.prog 153 #[.pointer (some p), .pointer (some q)] .returning w fun e u' w' =>
      e = .returned (.tuple #[]) ∧ u' = .returning ∧ w' = w := by
  refine callsD_of_wpS Tryz.func153 rfl fun c₀ cs hu => ?_
  refine wpS_of_wp ?_
  go_wp2
  cases c₀
  simp_all [bodyPostS, results, Tryz.results153]

theorem closure_takes (p : Addr) (b : Nat) (a c : Int) (v0 v1 : Value) (w : World) (hc : w.cell? p = some (.bool true)) (hb : b < w.heap.size)
    (h0 : w.cell? ⟨b, 0, none⟩ = some v0) (h1 : w.cell? ⟨b, 1, none⟩ = some v1) (z0 : w.frozen? ⟨b, 0, none⟩ = false) (z1 : w.frozen? ⟨b, 1, none⟩ = false) :
    CallsD Tryz.prog 153 #[.pointer (some p), .pointer (some ⟨b, 0, none⟩)] (.panicking [{ v := .iface 110 (.agg #[.int .i64 a, .int .i64 c]), recovered := false }]) w fun e u' w' =>
      e = .returned (.tuple #[]) ∧ u' = .panicking [{ v := .iface 110 (.agg #[.int .i64 a, .int .i64 c]), recovered := true }] ∧
        w' = (((w.alloc (flc a c)).alloc (flc a c)).setCell ⟨b, 0, none⟩ (.int .i64 a)).setCell ⟨b, 1, none⟩ (.int .i64 c) := by
  have hb' : b < (w.alloc (flc a c)).heap.size := by simp; omega
  have k0 : ((w.alloc (flc a c)).alloc (flc a c)).cell? ⟨b, 0, none⟩ = some v0 := by rw [World.cell?_alloc_past _ _ _ hb', World.cell?_alloc_past _ _ _ hb]; exact h0
  have k1 : ((w.alloc (flc a c)).alloc (flc a c)).cell? ⟨b, 1, none⟩ = some v1 := by rw [World.cell?_alloc_past _ _ _ hb', World.cell?_alloc_past _ _ _ hb]; exact h1
  have f0 : ((w.alloc (flc a c)).alloc (flc a c)).frozen? ⟨b, 0, none⟩ = false := by rw [World.frozen?_alloc_past _ _ _ hb', World.frozen?_alloc_past _ _ _ hb]; exact z0
  have f1 : ((w.alloc (flc a c)).alloc (flc a c)).frozen? ⟨b, 1, none⟩ = false := by rw [World.frozen?_alloc_past _ _ _ hb', World.frozen?_alloc_past _ _ _ hb]; exact z1
  clear h0 h1 z0 z1
  refine callsD_of_wpS Tryz.func153 rfl fun c₀ cs hu => ?_
  apply wpS_seq
  apply wpS_region
  simp [wpOpsS, go_sem, hc, Tryz.ntmps153, Exit.thenS]
  refine wpS_cond (t := true) (by simp [Act.eval, Array.replicate]) ?_
  simp only [if_true]
  apply wpS_region
  simp [wpOpsS, go_sem, recoverD, hu]
  refine (faultOf_fault a c _).mono ?_
  rintro e w'' ⟨rfl, rfl⟩
  simp [go_sem, k0, k1, f0, f1]
  simp [bodyPostS, results, Tryz.results153]

theorem eq_func_nil (fn : Fn) (fi ca : Array Value) (w : World) : (binOp .eql 1 (.func fn fi ca) .nilFunc).run Tryz.prog w = .ok (.bool false) w := by kernel_rfl
theorem make_func (fn : Fn) (first cap : Array Value) (w : World) : (Instr.makeFunc fn first cap).run Tryz.prog w = .ok (.func fn first cap) w := rfl

/-- What Catch's own two variables are, while f runs. -/
abbrev cw (w : World) : World := (w.alloc (flc 0 0)).alloc (.cells #[.bool true] 4)
structure Keeps (n : Nat) (w1 : World) : Prop where
  c0 : w1.cell? ⟨n, 0, none⟩ = some (.int .i64 0)
  c1 : w1.cell? ⟨n, 1, none⟩ = some (.int .i64 0)
  c2 : w1.cell? ⟨n + 1, 0, none⟩ = some (.bool true)
  z0 : w1.frozen? ⟨n, 0, none⟩ = false
  z1 : w1.frozen? ⟨n, 1, none⟩ = false
  z2 : w1.frozen? ⟨n + 1, 0, none⟩ = false
  size : n + 1 < w1.heap.size

set_option maxHeartbeats 400000 in
theorem catch_returns (g : FuncId) (fi ca : Array Value) (w : World) (Q : World → Prop) (hQ : ∀ w1, Q w1 → Keeps w.heap.size w1)
    (hen : ∀ w : World, (callFunc g (fi ++ ca)).run Tryz.prog w = .ok (.enter g (fi ++ ca)) w)
    (hb : Calls Tryz.prog g (fi ++ ca) (cw w) fun e w1 => (∃ v, e = .returned v) ∧ Q w1) :
    Calls Tryz.prog 146 #[.func (.func g) fi ca] w fun e w' => e = .returned (.tuple #[flt 0 0, .bool false]) ∧
      ∃ w1, Q w1 ∧ w' = ((w1.setCell ⟨w.heap.size, 0, none⟩ (.int .i64 0)).setCell ⟨w.heap.size, 1, none⟩ (.int .i64 0)).setCell ⟨w.heap.size + 1, 0, none⟩ (.bool false) := by
  have hmf := make_func
  have heq := eq_func_nil
  go_enter_defers Tryz.func146, Tryz.ntmps146
  go_wp2_with fail
  refine Calls.mono hb ?_
  rintro e w1 ⟨⟨v, rfl⟩, hq⟩
  obtain ⟨c0, c1, c2, z0, z1, z2, hsz⟩ := hQ w1 hq
  clear hmf heq hen hQ hb
  go_wp2
  have ne1 : (⟨w.heap.size + 1, 0, none⟩ : Addr) ≠ ⟨w.heap.size, 0, none⟩ := by simp
  have ne2 : (⟨w.heap.size + 1, 0, none⟩ : Addr) ≠ ⟨w.heap.size, 1, none⟩ := by simp
  have ne3 : (⟨w.heap.size, 0, none⟩ : Addr) ≠ ⟨w.heap.size, 1, none⟩ := by simp
  have e0 : (((w1.setCell ⟨w.heap.size, 0, none⟩ (.int .i64 0)).setCell ⟨w.heap.size, 1, none⟩ (.int .i64 0)).setCell ⟨w.heap.size + 1, 0, none⟩ (.bool false)).cell? ⟨w.heap.size, 0, none⟩ = some (.int .i64 0) := by
    rw [World.cell?_setCell_other _ _ _ _ ne1, World.cell?_setCell_other _ _ _ _ ne3.symm, World.cell?_setCell_same (h := c0)]
  have e1 : (((w1.setCell ⟨w.heap.size, 0, none⟩ (.int .i64 0)).setCell ⟨w.heap.size, 1, none⟩ (.int .i64 0)).setCell ⟨w.heap.size + 1, 0, none⟩ (.bool false)).cell? ⟨w.heap.size, 1, none⟩ = some (.int .i64 0) := by
    rw [World.cell?_setCell_other _ _ _ _ ne2, World.cell?_setCell_same _ _ _ (h := (World.cell?_setCell_other _ _ _ _ ne3).trans c1)]
  have e2 : (((w1.setCell ⟨w.heap.size, 0, none⟩ (.int .i64 0)).setCell ⟨w.heap.size, 1, none⟩ (.int .i64 0)).setCell ⟨w.heap.size + 1, 0, none⟩ (.bool false)).cell? ⟨w.heap.size + 1, 0, none⟩ = some (.bool false) :=
    World.cell?_setCell_same _ _ _ (h := (World.cell?_setCell_other _ _ _ _ ne2.symm).trans ((World.cell?_setCell_other _ _ _ _ ne1.symm).trans c2))
  generalize hwf : ((w1.setCell ⟨w.heap.size, 0, none⟩ (.int .i64 0)).setCell ⟨w.heap.size, 1, none⟩ (.int .i64 0)).setCell ⟨w.heap.size + 1, 0, none⟩ (.bool false) = wf at *
  refine leaves_cons (f := 153) (args := #[.pointer (some ⟨w.heap.size + 1, 0, none⟩), .pointer (some ⟨w.heap.size, 0, none⟩)]) (by simp) (by simp [go_sem]) ?_
  refine (closure_idle ⟨w.heap.size + 1, 0, none⟩ ⟨w.heap.size, 0, none⟩ _ ?_).mono ?_
  · exact e2
  rintro e u' w'' ⟨rfl, rfl, rfl⟩
  simp [Leaves, settle, results, Tryz.results146, go_sem, e0, e1, e2]
  exact ⟨w1, hq, hwf.symm⟩

set_option maxHeartbeats 400000 in
theorem catch_throws (g : FuncId) (fi ca : Array Value) (w : World) (a c : Int) (Q : World → Prop) (hQ : ∀ w1, Q w1 → Keeps w.heap.size w1)
    (hen : ∀ w : World, (callFunc g (fi ++ ca)).run Tryz.prog w = .ok (.enter g (fi ++ ca)) w)
    (hb : Calls Tryz.prog g (fi ++ ca) (cw w) fun e w1 => e = pnc a c ∧ Q w1) :
    Calls Tryz.prog 146 #[.func (.func g) fi ca] w fun e w' => e = .returned (.tuple #[flt a c, .bool true]) ∧
      ∃ w1, Q w1 ∧ w' = (((w1.alloc (flc a c)).alloc (flc a c)).setCell ⟨w.heap.size, 0, none⟩ (.int .i64 a)).setCell ⟨w.heap.size, 1, none⟩ (.int .i64 c) := by
  have hmf := make_func
  have heq := eq_func_nil
  go_enter_defers Tryz.func146, Tryz.ntmps146
  go_wp2_with fail
  refine Calls.mono hb ?_
  rintro e w1 ⟨rfl, hq⟩
  obtain ⟨c0, c1, c2, z0, z1, z2, hsz⟩ := hQ w1 hq
  clear hmf heq hen hQ hb
  go_wp2
  have ne1 : (⟨w.heap.size + 1, 0, none⟩ : Addr) ≠ ⟨w.heap.size, 0, none⟩ := by simp
  have ne2 : (⟨w.heap.size + 1, 0, none⟩ : Addr) ≠ ⟨w.heap.size, 1, none⟩ := by simp
  have ne3 : (⟨w.heap.size, 0, none⟩ : Addr) ≠ ⟨w.heap.size, 1, none⟩ := by simp
  have hp0 : w.heap.size < w1.heap.size := by omega
  have hp1 : w.heap.size < (w1.alloc (flc a c)).heap.size := by simp; omega
  have hp2 : w.heap.size + 1 < (w1.alloc (flc a c)).heap.size := by simp; omega
  have k0 : ((w1.alloc (flc a c)).alloc (flc a c)).cell? ⟨w.heap.size, 0, none⟩ = some (.int .i64 0) := by rw [World.cell?_alloc_past _ _ _ hp1, World.cell?_alloc_past _ _ _ hp0]; exact c0
  have k1 : ((w1.alloc (flc a c)).alloc (flc a c)).cell? ⟨w.heap.size, 1, none⟩ = some (.int .i64 0) := by rw [World.cell?_alloc_past _ _ _ hp1, World.cell?_alloc_past _ _ _ hp0]; exact c1
  have k2 : ((w1.alloc (flc a c)).alloc (flc a c)).cell? ⟨w.heap.size + 1, 0, none⟩ = some (.bool true) := by rw [World.cell?_alloc_past _ _ _ hp2, World.cell?_alloc_past _ _ _ hsz]; exact c2
  have e0 : ((((w1.alloc (flc a c)).alloc (flc a c)).setCell ⟨w.heap.size, 0, none⟩ (.int .i64 a)).setCell ⟨w.heap.size, 1, none⟩ (.int .i64 c)).cell? ⟨w.heap.size, 0, none⟩ = some (.int .i64 a) := by
    rw [World.cell?_setCell_other _ _ _ _ ne3.symm, World.cell?_setCell_same (h := k0)]
  have e1 : ((((w1.alloc (flc a c)).alloc (flc a c)).setCell ⟨w.heap.size, 0, none⟩ (.int .i64 a)).setCell ⟨w.heap.size, 1, none⟩ (.int .i64 c)).cell? ⟨w.heap.size, 1, none⟩ = some (.int .i64 c) :=
    World.cell?_setCell_same _ _ _ (h := (World.cell?_setCell_other _ _ _ _ ne3).trans k1)
  have e2 : ((((w1.alloc (flc a c)).alloc (flc a c)).setCell ⟨w.heap.size, 0, none⟩ (.int .i64 a)).setCell ⟨w.heap.size, 1, none⟩ (.int .i64 c)).cell? ⟨w.heap.size + 1, 0, none⟩ = some (.bool true) := by
    rw [World.cell?_setCell_other _ _ _ _ ne2.symm, World.cell?_setCell_other _ _ _ _ ne1.symm]; exact k2
  refine leaves_cons (f := 153) (args := #[.pointer (some ⟨w.heap.size + 1, 0, none⟩), .pointer (some ⟨w.heap.size, 0, none⟩)]) (by simp) (by simp [go_sem]) ?_
  refine (closure_takes ⟨w.heap.size + 1, 0, none⟩ w.heap.size a c _ _ _ c2 (by omega) c0 c1 z0 z1).mono ?_
  clear k0 k1 k2 c0 c1 c2 z0 z1 z2
  rintro e u' w'' ⟨rfl, rfl, hwf⟩
  rw [← hwf] at e0 e1 e2
  simp [Leaves, settle, results, Tryz.results146, go_sem, e0, e1, e2]
  exact ⟨w1, hq, hwf⟩

/-- What runs within Catch leaves Catch's two variables alone, where it turns rows of r alone. -/
theorem keeps_mv (w w1 : World) (r : List Nat) (hr : ∀ x ∈ r, x < w.heap.size) (h : Mv (w.heap.size + 2) r (cw w) w1) : Keeps w.heap.size w1 := by
  have hs := h.size
  simp at hs
  have n0 : w.heap.size ∉ r := fun hm => by have := hr _ hm; omega
  have n1 : w.heap.size + 1 ∉ r := fun hm => by have := hr _ hm; omega
  refine ⟨?_, ?_, ?_, ?_, ?_, ?_, by omega⟩
  · rw [h.cell (by simp) n0]; simp [go_sem]
  · rw [h.cell (by simp) n0]; simp [go_sem]
  · rw [h.cell (by simp) n1]; simp [go_sem]
  · rw [h.frozen (by simp) n0]; simp [go_sem]
  · rw [h.frozen (by simp) n0]; simp [go_sem]
  · rw [h.frozen (by simp) n1]; simp [go_sem]

theorem cw_below (w : World) : Below w.heap.size w (cw w) := ((Below.refl _ _).alloc (Nat.le_refl _) _).alloc (by simp) _

/-- Catch over a function value that returns, turns rows of r alone, and leaves R, which is known of older memory alone. -/
theorem catch_mv_returns (g : FuncId) (fi ca : Array Value) (w : World) (r : List Nat) (R : World → Prop) (hr : ∀ x ∈ r, x < w.heap.size)
    (hR : ∀ W1 W2, Below w.heap.size W1 W2 → R W1 → R W2) (hen : ∀ w : World, (callFunc g (fi ++ ca)).run Tryz.prog w = .ok (.enter g (fi ++ ca)) w)
    (hf : ∀ W, Below w.heap.size w W → Calls Tryz.prog g (fi ++ ca) W fun e w1 => (∃ v, e = .returned v) ∧ Mv W.heap.size r W w1 ∧ R w1) :
    Calls Tryz.prog 146 #[.func (.func g) fi ca] w fun e w' => e = .returned (.tuple #[flt 0 0, .bool false]) ∧ Mv w.heap.size r w w' ∧ R w' := by
  refine (catch_returns g fi ca w (fun w1 => Mv (w.heap.size + 2) r (cw w) w1 ∧ R w1) (fun w1 h => keeps_mv w w1 r hr h.1) hen ((hf _ (cw_below w)).mono ?_)).mono ?_
  · rintro e w1 ⟨h1, h2, h3⟩
    exact ⟨h1, h2.mono (by simp) fun x hx => .inl hx, h3⟩
  · rintro e w' ⟨rfl, w1, ⟨h, hq⟩, rfl⟩
    have hb : Below w.heap.size w1 (((w1.setCell ⟨w.heap.size, 0, none⟩ (.int .i64 0)).setCell ⟨w.heap.size, 1, none⟩ (.int .i64 0)).setCell ⟨w.heap.size + 1, 0, none⟩ (.bool false)) :=
      (((Below.refl _ _).setCell (by simp) _).setCell (by simp) _).setCell (by simp) _
    exact ⟨rfl, ((Mv.of_below (cw_below w) r).trans (h.mono (by omega) fun x hx => .inl hx)).trans (Mv.of_below hb r), hR _ _ hb hq⟩

theorem catch_mv_throws (g : FuncId) (fi ca : Array Value) (w : World) (a c : Int) (r : List Nat) (R : World → Prop) (hr : ∀ x ∈ r, x < w.heap.size)
    (hR : ∀ W1 W2, Below w.heap.size W1 W2 → R W1 → R W2) (hen : ∀ w : World, (callFunc g (fi ++ ca)).run Tryz.prog w = .ok (.enter g (fi ++ ca)) w)
    (hf : ∀ W, Below w.heap.size w W → Calls Tryz.prog g (fi ++ ca) W fun e w1 => e = pnc a c ∧ Mv W.heap.size r W w1 ∧ R w1) :
    Calls Tryz.prog 146 #[.func (.func g) fi ca] w fun e w' => e = .returned (.tuple #[flt a c, .bool true]) ∧ Mv w.heap.size r w w' ∧ R w' := by
  refine (catch_throws g fi ca w a c (fun w1 => Mv (w.heap.size + 2) r (cw w) w1 ∧ R w1) (fun w1 h => keeps_mv w w1 r hr h.1) hen ((hf _ (cw_below w)).mono ?_)).mono ?_
  · rintro e w1 ⟨h1, h2, h3⟩
    exact ⟨h1, h2.mono (by simp) fun x hx => .inl hx, h3⟩
  · rintro e w' ⟨rfl, w1, ⟨h, hq⟩, rfl⟩
    have hs := h.size
    simp at hs
    have hb : Below w.heap.size w1 ((((w1.alloc (flc a c)).alloc (flc a c)).setCell ⟨w.heap.size, 0, none⟩ (.int .i64 a)).setCell ⟨w.heap.size, 1, none⟩ (.int .i64 c)) :=
      ((((Below.refl _ _).alloc (by omega) _).alloc (by simp; omega) _).setCell (by simp) _).setCell (by simp) _
    exact ⟨rfl, ((Mv.of_below (cw_below w) r).trans (h.mono (by omega) fun x hx => .inl hx)).trans (Mv.of_below hb r), hR _ _ hb hq⟩

end Go.Proofs.YtjaockmbnjflaaaGreatDoor
namespace Go.Proofs.YtjaockmbnjflaaaGreatDoor
open Go.RowKit

/-- A cursor: its text, and how many bytes are gone by. -/
abbrev Cur (w : World) (cb : Nat) (s : ByteArray) (k : Nat) : Prop := Blk w cb 129 #[.string s, .int .i64 k]
abbrev cptr (cb : Nat) : Value := .pointer (some ⟨cb, 0, none⟩)

theorem Cur.c0 {w : World} {cb k : Nat} {s : ByteArray} (h : Cur w cb s k) : w.cell? ⟨cb, 0, none⟩ = some (.string s) := h.cell 0
theorem Cur.c1 {w : World} {cb k : Nat} {s : ByteArray} (h : Cur w cb s k) : w.cell? ⟨cb, 1, none⟩ = some (.int .i64 k) := h.cell 1
theorem Cur.set {w : World} {cb k : Nat} {s : ByteArray} (h : Cur w cb s k) (j : Nat) : Cur (w.setCell ⟨cb, 1, none⟩ (.int .i64 j)) cb s j := h.set_ 1 _

set_option maxHeartbeats 400000 in
theorem new_any (s : ByteArray) (w : World) :
    Calls Tryz.prog 130 #[.string s] w fun e w' => e = .returned (cptr w.heap.size) ∧ w' = w.alloc (.cells #[.string s, .int .i64 0] 129) := by
  go_enter Tryz.func130, Tryz.ntmps130
  go_wp2
  go_ret
  exact ⟨rfl, rfl⟩

set_option maxHeartbeats 400000 in
theorem left_any (cb k : Nat) (s : ByteArray) (w : World) (h : Cur w cb s k) (hk : k ≤ s.size) (hs : s.size ≤ 9223372036854775807) :
    Calls Tryz.prog 149 #[cptr cb] w fun e w' => e = .returned (.int .i64 ((s.size : Int) - (k : Int))) ∧ ∃ n, w' = w.drewN n := by
  have c0 := h.c0
  have c1 := h.c1
  clear h
  go_enter Tryz.func149, Tryz.ntmps149
  go_wp2
  go_quiet (fail)
  go_wp2
  go_ret
  exact ⟨rfl, _, rfl⟩

set_option maxHeartbeats 400000 in
theorem passTo_any (cb k j : Nat) (s : ByteArray) (w : World) (h : Cur w cb s k) (hk : k ≤ j) (hj : j ≤ s.size) (_hs : s.size ≤ 9223372036854775807) :
    Calls Tryz.prog 150 #[cptr cb, .int .i64 j] w fun e w' => e = .returned (.string (s.extract k j)) ∧ w' = w.setCell ⟨cb, 1, none⟩ (.int .i64 j) := by
  have c0 := h.c0
  have c1 := h.c1
  have z1 := h.frozen 1
  clear h
  go_enter Tryz.func150, Tryz.ntmps150
  go_wp2
  go_ret
  exact ⟨rfl, rfl⟩

/-- Some draws further. -/
def Drawn (w w' : World) : Prop := ∃ m, w' = w.drewN m
theorem Drawn.refl (w : World) : Drawn w w := ⟨0, rfl⟩
theorem Drawn.one (w : World) : Drawn w w.drew := ⟨1, rfl⟩
theorem Drawn.more {w w' : World} (h : Drawn w w') (n : Nat) : Drawn w (w'.drewN n) := by
  obtain ⟨m, rfl⟩ := h; exact ⟨m + n, by rw [World.drewN_drewN]⟩
theorem Drawn.below {w w' : World} (h : Drawn w w') : Below w.heap.size w w' := by
  obtain ⟨m, rfl⟩ := h; exact Below.drewN' (Below.refl _ _) m

set_option maxHeartbeats 400000 in
theorem take_far (cb k : Nat) (s : ByteArray) (n : Int) (w : World) (h : Cur w cb s k) (hk : k ≤ s.size) (hs : s.size ≤ 9223372036854775807) (h0 : 0 ≤ n) (h1 : (s.size : Int) - k < n) :
    Calls Tryz.prog 141 #[cptr cb, .int .i64 n] w fun e w' => e = pnc k 8 ∧ Drawn w w' := by
  have c1 := h.c1
  have hd : decide (n ≤ (s.size : Int) - (k : Int)) = false := by simp; omega
  have hd0 : decide (0 ≤ n) = true := by simpa using h0
  go_enter Tryz.func141, Tryz.ntmps141
  go_wp2_with (go_at_call 148; refine (check_ok _ _ _).mono ?_; rintro e w1 ⟨rfl, rfl⟩)
  refine wp_region_held_drew (S := fun w' => Cur w' cb s k ∧ Drawn w w') (by kernel_rfl) ⟨h, Drawn.one w⟩ (fun hHeld => ?_)
  refine wpAnyH_take (i := 0) (oi := ⟨some 15, _, _, _, _, _⟩) (v := ?_) rfl (by kernel_rfl) (by kernel_rfl) (by kernel_rfl) (fun _ _ _ h => h) (Or.inl ⟨by rfl, ?_⟩) hHeld ?_
  rotate_left
  focus (intro wq hSw; go_simp; try with_reducible rfl; done)
  simp only [Act.put, List.setIfInBounds_toArray, List.set_cons_zero, List.set_cons_succ]
  refine wpAnyH_take (i := 1) (oi := ⟨some 16, _, _, _, _, _⟩) (v := ?_) rfl (by kernel_rfl) (by kernel_rfl) (by kernel_rfl) (fun _ _ _ h => h) (Or.inl ⟨by rfl, ?_⟩) hHeld ?_
  rotate_left
  focus (intro wq hSw; go_simp; try with_reducible rfl; done)
  simp only [Act.put, List.setIfInBounds_toArray, List.set_cons_zero, List.set_cons_succ]
  refine wpAnyH_take (i := 4) (oi := ⟨some 19, _, _, _, _, _⟩) (v := ?_) rfl (by kernel_rfl) (by kernel_rfl) (by kernel_rfl) (fun _ _ _ h => h) (Or.inl ⟨by rfl, ?_⟩) hHeld ?_
  rotate_left
  focus (intro wq hSw; go_simp; try with_reducible rfl; done)
  simp only [Act.put, List.setIfInBounds_toArray, List.set_cons_zero, List.set_cons_succ]
  refine wpAnyH_take (i := 5) (oi := ⟨some 20, _, _, _, _, _⟩) (v := ?_) rfl (by kernel_rfl) (by kernel_rfl) (by kernel_rfl) (fun _ _ _ h => h) (Or.inl ⟨by rfl, ?_⟩) hHeld ?_
  rotate_left
  focus (intro wq hSw; go_simp; try with_reducible rfl; done)
  simp only [Act.put, List.setIfInBounds_toArray, List.set_cons_zero, List.set_cons_succ]
  refine wpAnyH_take (i := 6) (oi := ⟨some 21, _, _, _, _, _⟩) (v := ?_) rfl (by kernel_rfl) (by kernel_rfl) (by kernel_rfl) (fun _ _ _ h => h) (Or.inl ⟨by rfl, ?_⟩) hHeld ?_
  rotate_left
  focus (intro wq hSw; go_simp; try with_reducible rfl; done)
  simp only [Act.put, List.setIfInBounds_toArray, List.set_cons_zero, List.set_cons_succ]
  refine wpAnyH_take (i := 7) (oi := ⟨some 22, _, _, _, _, _⟩) (v := ?_) rfl (by kernel_rfl) (by kernel_rfl) (by kernel_rfl) (fun _ _ _ h => h) (Or.inl ⟨by rfl, ?_⟩) hHeld ?_
  rotate_left
  focus (intro wq hSw; have cq := hSw.1.c1; go_simp; try with_reducible rfl; done)
  simp only [Act.put, List.setIfInBounds_toArray, List.set_cons_zero, List.set_cons_succ]
  refine wpAnyH_ready (rs := [2]) (by kernel_rfl) (by simp) ?_
  refine AllReadyH.cons rfl (fun K hK => ?_) AllReadyH.nil
  go_simp
  refine (left_any cb k s _ hHeld.1 hk hs).mono ?_
  rintro e w4 ⟨rfl, m, rfl⟩
  refine hK.out _ _ ⟨hHeld.1.drewN m, hHeld.2.more m⟩ (fun hHeld => ?_)
  clear hK K
  refine wpAnyH_take (i := 3) (oi := ⟨some 18, _, _, _, _, _⟩) (v := ?_) rfl (by kernel_rfl) (by kernel_rfl) (by kernel_rfl) (fun _ _ _ h => h) (Or.inl ⟨by rfl, ?_⟩) hHeld ?_
  rotate_left
  focus (intro wq hSw; go_simp; try with_reducible rfl; done)
  simp only [Act.put, List.setIfInBounds_toArray, List.set_cons_zero, List.set_cons_succ]
  refine wpAnyH_ready (rs := [8]) (by kernel_rfl) (by simp) ?_
  refine AllReadyH.cons rfl (fun K hK => ?_) AllReadyH.nil
  go_simp
  refine (check_not _ _ _).mono ?_
  rintro e w4 ⟨rfl, rfl⟩
  exact ⟨rfl, rfl, by simpa only [World.drewN_drew] using hHeld.2⟩

set_option maxHeartbeats 400000 in
theorem take_ok (cb k n : Nat) (s : ByteArray) (w : World) (h : Cur w cb s k) (hk : k + n ≤ s.size) (hs : s.size ≤ 9223372036854775807) :
    Calls Tryz.prog 141 #[cptr cb, .int .i64 n] w fun e w' => e = .returned (.string (s.extract k (k + n))) ∧ ∃ m, w' = (w.drewN m).setCell ⟨cb, 1, none⟩ (.int .i64 (k + n : Nat)) := by
  have c1 := h.c1
  have hd : decide ((n : Int) ≤ (s.size : Int) - (k : Int)) = true := by simp; omega
  have hd0 : decide (0 ≤ (n : Int)) = true := by simp
  have hp : ∀ w2 : World, Cur w2 cb s k → Calls Tryz.prog 150 #[cptr cb, .int .i64 ((k : Int) + (n : Int))] w2 fun e w' => e = .returned (.string (s.extract k (k + n))) ∧ w' = w2.setCell ⟨cb, 1, none⟩ (.int .i64 (k + n : Nat)) :=
    fun w2 h2 => by have := passTo_any cb k (k + n) s w2 h2 (by omega) (by omega) hs; simpa using this
  have HP := Lib.hid hp
  clear hp
  go_enter Tryz.func141, Tryz.ntmps141
  go_wp2_with (go_at_call 148; refine (check_ok _ _ _).mono ?_; rintro e w1 ⟨rfl, rfl⟩)
  go_quiet ((first | (go_at_call 149; exact Calls.quiet_of (left_any cb k s _ (by exact h) (by omega) hs)) | (go_at_call 148; exact Calls.quiet_of_same ((check_ok _ _ _).mono fun _ _ h => ⟨h.1, h.2.symm⟩))))
  go_wp2_with (go_at_call 150; refine (HP.out _ (by exact h)).mono ?_; rintro e w1 ⟨rfl, rfl⟩)
  go_ret
  exact ⟨rfl, _, rfl⟩

end Go.Proofs.YtjaockmbnjflaaaGreatDoor
namespace Go.Proofs.YtjaockmbnjflaaaGreatDoor
open Go.RowKit

set_option maxHeartbeats 400000 in
theorem prefix_any (s p : ByteArray) (w : World) (_hs : s.size ≤ 9223372036854775807) (_hp : p.size ≤ 9223372036854775807) :
    Calls Tryz.prog 29 #[.string s, .string p] w fun e w' => e = .returned (.bool (prefB s p)) ∧ w = w' := by
  by_cases h1 : p.size ≤ s.size
  · have d1 : decide (p.size ≤ s.size) = true := by simpa using h1
    have e : prefB s p = ((s.extract 0 p.size).toList == p.toList) := by unfold prefB; rw [d1]; rfl
    rw [e]
    clear e
    go_enter Tryz.func29, Tryz.ntmps29
    go_wp2
    go_ret
    exact ⟨rfl, rfl⟩
  · have d1 : decide (p.size ≤ s.size) = false := by simpa using h1
    have e : prefB s p = false := by unfold prefB; rw [d1]; rfl
    rw [e]
    clear e
    go_enter Tryz.func29, Tryz.ntmps29
    go_wp2
    go_ret
    exact ⟨rfl, rfl⟩

set_option maxHeartbeats 400000 in
theorem hasPrefix0_any (s p : ByteArray) (w : World) (_hs : s.size ≤ 9223372036854775807) (_hp : p.size ≤ 9223372036854775807) :
    Calls Tryz.prog 58 #[.string s, .string p] w fun e w' => e = .returned (.bool (prefB s p)) ∧ w = w' := by
  by_cases h1 : p.size ≤ s.size
  · have d1 : decide (p.size ≤ s.size) = true := by simpa using h1
    have e : prefB s p = ((s.extract 0 p.size).toList == p.toList) := by unfold prefB; rw [d1]; rfl
    rw [e]
    clear e
    go_enter Tryz.func58, Tryz.ntmps58
    go_wp2
    go_ret
    exact ⟨rfl, rfl⟩
  · have d1 : decide (p.size ≤ s.size) = false := by simpa using h1
    have e : prefB s p = false := by unfold prefB; rw [d1]; rfl
    rw [e]
    clear e
    go_enter Tryz.func58, Tryz.ntmps58
    go_wp2
    go_ret
    exact ⟨rfl, rfl⟩

set_option maxHeartbeats 400000 in
theorem hasPrefix_any (s p : ByteArray) (w : World) (hs : s.size ≤ 9223372036854775807) (hp : p.size ≤ 9223372036854775807) :
    Calls Tryz.prog 35 #[.string s, .string p] w fun e w' => e = .returned (.bool (prefB s p)) ∧ w = w' := by
  go_enter Tryz.func35, Tryz.ntmps35
  go_wp2_with (go_at_call 58; refine (hasPrefix0_any s p _ hs hp).mono ?_; rintro e w' ⟨rfl, rfl⟩)
  go_ret
  exact ⟨rfl, rfl⟩

end Go.Proofs.YtjaockmbnjflaaaGreatDoor
