/-
  What package trap's Throw, Check and Catch do to the world, for whatever place and code. No condition.
-/
import Derived.Test.YtnifdponeccdgaaRows
import Derived.WalkKit
import Derived.WalkSpells
import Derived.WalkLawsBesides
import Derived.Defers
import Derived.Recover
namespace Go.Proofs.Ytnifdponeccdgaa
open Go.RowKit

/-- The code that is thrown. -/
def tc (c : Int) : Int := if c = 0 then 1 else c
abbrev flt (a c : Int) : Value := .agg #[.int .i64 a, .int .i64 c]
abbrev pnc (a c : Int) : Ending := .panicked [{ v := .iface 26 (.agg #[.int .i64 a, .int .i64 c]), recovered := false }]

set_option maxHeartbeats 400000 in
theorem throw_zero (a : Int) (w : World) :
    Calls Try.prog 23 #[.int .i64 a, .int .i64 0] w fun e w' => e = pnc a 1 ∧ w' = w := by
  go_enter Try.func23, Try.ntmps23
  go_wp2
  simp [bodyPost, pnc]

set_option maxHeartbeats 400000 in
theorem throw_some (a c : Int) (hc : (c == 0) = false) (w : World) :
    Calls Try.prog 23 #[.int .i64 a, .int .i64 c] w fun e w' => e = pnc a c ∧ w' = w := by
  go_enter Try.func23, Try.ntmps23
  go_wp2
  simp [bodyPost, pnc]

set_option maxHeartbeats 400000 in
theorem do_idle (a c n : Int) (w : World) :
    Calls Try.prog 10 #[.agg #[.int .i64 a, .int .i64 c, .bool false, .int .i64 n]] w fun e w' => e = .returned (.tuple #[]) ∧ w' = w.alloc (.cells #[.int .i64 a, .int .i64 c, .bool false, .int .i64 n] 24) := by
  go_enter Try.func10, Try.ntmps10
  go_wp2
  go_end0
  exact ⟨rfl, rfl⟩

set_option maxHeartbeats 400000 in
theorem do_fails (a c n : Int) (w : World) :
    Calls Try.prog 10 #[.agg #[.int .i64 a, .int .i64 c, .bool true, .int .i64 n]] w fun e w' => e = pnc a (tc c) ∧ w' = w.alloc (.cells #[.int .i64 a, .int .i64 c, .bool true, .int .i64 n] 24) := by
  by_cases hc : c = 0
  · subst hc
    go_enter Try.func10, Try.ntmps10
    go_wp2_with (go_at_call 23; refine (throw_zero _ _).mono ?_; rintro e w' ⟨rfl, rfl⟩)
    simp [bodyPost, pnc, tc]
  · have h : tc c = c := by simp [tc, hc]
    rw [h]
    have hc' : (c == 0) = false := by simp [hc]
    clear h hc
    go_enter Try.func10, Try.ntmps10
    go_wp2_with (go_at_call 23; refine (throw_some _ _ hc' _).mono ?_; rintro e w' ⟨rfl, rfl⟩)
    simp [bodyPost, pnc]

abbrev flc (a c : Int) : Obj := .cells #[.int .i64 a, .int .i64 c] 26
set_option maxHeartbeats 400000 in
theorem faultOf_fault (a c : Int) (w : World) :
    Calls Try.prog 22 #[.iface 26 (.agg #[.int .i64 a, .int .i64 c])] w fun e w' => e = .returned (.agg #[.int .i64 a, .int .i64 c]) ∧ w' = (w.alloc (flc a c)).alloc (flc a c) := by
  have hta : ∀ w : World, (Instr.typeAssert (.iface 26 (.agg #[.int .i64 a, .int .i64 c])) 20 26 true).run Try.prog w = .ok (.tuple #[.agg #[.int .i64 a, .int .i64 c], .bool true]) w := fun _ => by kernel_rfl
  go_enter Try.func22, Try.ntmps22
  go_wp2
  exact bodyPost_ret (v := .agg #[.int .i64 a, .int .i64 c]) (by simp [results, Try.results22, go_sem]) rfl ⟨rfl, rfl⟩

theorem closure_idle (p q : Addr) (w : World) (hc : w.cell? p = some (.bool false)) :
    CallsD Try.prog 21 #[.pointer (some p), .pointer (some q)] .returning w fun e u' w' =>
      e = .returned (.tuple #[]) ∧ u' = .returning ∧ w' = w := by
  refine callsD_of_wpS Try.func21 rfl fun c₀ cs hu => ?_
  refine wpS_of_wp ?_
  go_wp2
  cases c₀
  simp_all [bodyPostS, results, Try.results21]

theorem closure_takes (p : Addr) (b : Nat) (a c : Int) (v0 v1 : Value) (w : World) (hc : w.cell? p = some (.bool true)) (hb : b < w.heap.size)
    (h0 : w.cell? ⟨b, 0, none⟩ = some v0) (h1 : w.cell? ⟨b, 1, none⟩ = some v1) (z0 : w.frozen? ⟨b, 0, none⟩ = false) (z1 : w.frozen? ⟨b, 1, none⟩ = false) :
    CallsD Try.prog 21 #[.pointer (some p), .pointer (some ⟨b, 0, none⟩)] (.panicking [{ v := .iface 26 (.agg #[.int .i64 a, .int .i64 c]), recovered := false }]) w fun e u' w' =>
      e = .returned (.tuple #[]) ∧ u' = .panicking [{ v := .iface 26 (.agg #[.int .i64 a, .int .i64 c]), recovered := true }] ∧
        w' = (((w.alloc (flc a c)).alloc (flc a c)).setCell ⟨b, 0, none⟩ (.int .i64 a)).setCell ⟨b, 1, none⟩ (.int .i64 c) := by
  have hb' : b < (w.alloc (flc a c)).heap.size := by simp; omega
  have k0 : ((w.alloc (flc a c)).alloc (flc a c)).cell? ⟨b, 0, none⟩ = some v0 := by rw [World.cell?_alloc_past _ _ _ hb', World.cell?_alloc_past _ _ _ hb]; exact h0
  have k1 : ((w.alloc (flc a c)).alloc (flc a c)).cell? ⟨b, 1, none⟩ = some v1 := by rw [World.cell?_alloc_past _ _ _ hb', World.cell?_alloc_past _ _ _ hb]; exact h1
  have f0 : ((w.alloc (flc a c)).alloc (flc a c)).frozen? ⟨b, 0, none⟩ = false := by rw [World.frozen?_alloc_past _ _ _ hb', World.frozen?_alloc_past _ _ _ hb]; exact z0
  have f1 : ((w.alloc (flc a c)).alloc (flc a c)).frozen? ⟨b, 1, none⟩ = false := by rw [World.frozen?_alloc_past _ _ _ hb', World.frozen?_alloc_past _ _ _ hb]; exact z1
  clear h0 h1 z0 z1
  refine callsD_of_wpS Try.func21 rfl fun c₀ cs hu => ?_
  apply wpS_seq
  apply wpS_region
  simp [wpOpsS, go_sem, hc, Try.ntmps21, Exit.thenS]
  refine wpS_cond (t := true) (by simp [Act.eval, Array.replicate]) ?_
  simp only [if_true]
  apply wpS_region
  simp [wpOpsS, go_sem, recoverD, hu]
  refine (faultOf_fault a c _).mono ?_
  rintro e w'' ⟨rfl, rfl⟩
  simp [go_sem, k0, k1, f0, f1]
  simp [bodyPostS, results, Try.results21]

theorem eq_nil_nil (w : World) : (binOp .eql 1 .nilFunc .nilFunc).run Try.prog w = .ok (.bool true) w := by kernel_rfl
theorem eq_func_nil (fn : Fn) (fi ca : Array Value) (w : World) : (binOp .eql 1 (.func fn fi ca) .nilFunc).run Try.prog w = .ok (.bool false) w := by kernel_rfl
theorem make_func (fn : Fn) (first cap : Array Value) (w : World) : (Instr.makeFunc fn first cap).run Try.prog w = .ok (.func fn first cap) w := rfl

set_option maxHeartbeats 400000 in
theorem catch_nil (w : World) :
    Calls Try.prog 9 #[.nilFunc] w fun e w' => e = .returned (.tuple #[flt 0 1, .bool true]) ∧ w' = (w.alloc (flc 0 1)).alloc (.cells #[.bool true] 4) := by
  have hmf := make_func
  have heq := eq_nil_nil
  go_enter_defers Try.func9, Try.ntmps9
  go_wp2
  simp [bodyPostD, Leaves, results, Try.results9, go_sem]

/-- What Catch's own two variables are, while f runs. -/
abbrev cw (w : World) : World := (w.alloc (flc 0 0)).alloc (.cells #[.bool true] 4)
structure Keeps (n : Nat) (w1 : World) : Prop where
  c0 : w1.cell? ⟨n, 0, none⟩ = some (.int .i64 0)
  c1 : w1.cell? ⟨n, 1, none⟩ = some (.int .i64 0)
  c2 : w1.cell? ⟨n + 1, 0, none⟩ = some (.bool true)
  z0 : w1.frozen? ⟨n, 0, none⟩ = false
  z1 : w1.frozen? ⟨n, 1, none⟩ = false
  z2 : w1.frozen? ⟨n + 1, 0, none⟩ = false
  size : n + 1 < w1.heap.size

set_option maxHeartbeats 400000 in
theorem catch_returns (g : FuncId) (fi ca : Array Value) (w : World) (Q : World → Prop) (hQ : ∀ w1, Q w1 → Keeps w.heap.size w1)
    (hen : ∀ w : World, (callFunc g (fi ++ ca)).run Try.prog w = .ok (.enter g (fi ++ ca)) w)
    (hb : Calls Try.prog g (fi ++ ca) (cw w) fun e w1 => (∃ v, e = .returned v) ∧ Q w1) :
    Calls Try.prog 9 #[.func (.func g) fi ca] w fun e w' => e = .returned (.tuple #[flt 0 0, .bool false]) ∧
      ∃ w1, Q w1 ∧ w' = ((w1.setCell ⟨w.heap.size, 0, none⟩ (.int .i64 0)).setCell ⟨w.heap.size, 1, none⟩ (.int .i64 0)).setCell ⟨w.heap.size + 1, 0, none⟩ (.bool false) := by
  have hmf := make_func
  have heq := eq_func_nil
  go_enter_defers Try.func9, Try.ntmps9
  go_wp2_with fail
  refine Calls.mono hb ?_
  rintro e w1 ⟨⟨v, rfl⟩, hq⟩
  obtain ⟨c0, c1, c2, z0, z1, z2, hsz⟩ := hQ w1 hq
  clear hmf heq hen hQ hb
  go_wp2
  have ne1 : (⟨w.heap.size + 1, 0, none⟩ : Addr) ≠ ⟨w.heap.size, 0, none⟩ := by simp
  have ne2 : (⟨w.heap.size + 1, 0, none⟩ : Addr) ≠ ⟨w.heap.size, 1, none⟩ := by simp
  have ne3 : (⟨w.heap.size, 0, none⟩ : Addr) ≠ ⟨w.heap.size, 1, none⟩ := by simp
  have e0 : (((w1.setCell ⟨w.heap.size, 0, none⟩ (.int .i64 0)).setCell ⟨w.heap.size, 1, none⟩ (.int .i64 0)).setCell ⟨w.heap.size + 1, 0, none⟩ (.bool false)).cell? ⟨w.heap.size, 0, none⟩ = some (.int .i64 0) := by
    rw [World.cell?_setCell_other _ _ _ _ ne1, World.cell?_setCell_other _ _ _ _ ne3.symm, World.cell?_setCell_same (h := c0)]
  have e1 : (((w1.setCell ⟨w.heap.size, 0, none⟩ (.int .i64 0)).setCell ⟨w.heap.size, 1, none⟩ (.int .i64 0)).setCell ⟨w.heap.size + 1, 0, none⟩ (.bool false)).cell? ⟨w.heap.size, 1, none⟩ = some (.int .i64 0) := by
    rw [World.cell?_setCell_other _ _ _ _ ne2, World.cell?_setCell_same _ _ _ (h := (World.cell?_setCell_other _ _ _ _ ne3).trans c1)]
  have e2 : (((w1.setCell ⟨w.heap.size, 0, none⟩ (.int .i64 0)).setCell ⟨w.heap.size, 1, none⟩ (.int .i64 0)).setCell ⟨w.heap.size + 1, 0, none⟩ (.bool false)).cell? ⟨w.heap.size + 1, 0, none⟩ = some (.bool false) :=
    World.cell?_setCell_same _ _ _ (h := (World.cell?_setCell_other _ _ _ _ ne2.symm).trans ((World.cell?_setCell_other _ _ _ _ ne1.symm).trans c2))
  generalize hwf : ((w1.setCell ⟨w.heap.size, 0, none⟩ (.int .i64 0)).setCell ⟨w.heap.size, 1, none⟩ (.int .i64 0)).setCell ⟨w.heap.size + 1, 0, none⟩ (.bool false) = wf at *
  refine leaves_cons (f := 21) (args := #[.pointer (some ⟨w.heap.size + 1, 0, none⟩), .pointer (some ⟨w.heap.size, 0, none⟩)]) (by simp) (by simp [go_sem]) ?_
  refine (closure_idle ⟨w.heap.size + 1, 0, none⟩ ⟨w.heap.size, 0, none⟩ _ ?_).mono ?_
  · exact e2
  rintro e u' w'' ⟨rfl, rfl, rfl⟩
  simp [Leaves, settle, results, Try.results9, go_sem, e0, e1, e2]
  exact ⟨w1, hq, hwf.symm⟩

set_option maxHeartbeats 400000 in
theorem catch_throws (g : FuncId) (fi ca : Array Value) (w : World) (a c : Int) (Q : World → Prop) (hQ : ∀ w1, Q w1 → Keeps w.heap.size w1)
    (hen : ∀ w : World, (callFunc g (fi ++ ca)).run Try.prog w = .ok (.enter g (fi ++ ca)) w)
    (hb : Calls Try.prog g (fi ++ ca) (cw w) fun e w1 => e = pnc a c ∧ Q w1) :
    Calls Try.prog 9 #[.func (.func g) fi ca] w fun e w' => e = .returned (.tuple #[flt a c, .bool true]) ∧
      ∃ w1, Q w1 ∧ w' = (((w1.alloc (flc a c)).alloc (flc a c)).setCell ⟨w.heap.size, 0, none⟩ (.int .i64 a)).setCell ⟨w.heap.size, 1, none⟩ (.int .i64 c) := by
  have hmf := make_func
  have heq := eq_func_nil
  go_enter_defers Try.func9, Try.ntmps9
  go_wp2_with fail
  refine Calls.mono hb ?_
  rintro e w1 ⟨rfl, hq⟩
  obtain ⟨c0, c1, c2, z0, z1, z2, hsz⟩ := hQ w1 hq
  clear hmf heq hen hQ hb
  go_wp2
  have ne1 : (⟨w.heap.size + 1, 0, none⟩ : Addr) ≠ ⟨w.heap.size, 0, none⟩ := by simp
  have ne2 : (⟨w.heap.size + 1, 0, none⟩ : Addr) ≠ ⟨w.heap.size, 1, none⟩ := by simp
  have ne3 : (⟨w.heap.size, 0, none⟩ : Addr) ≠ ⟨w.heap.size, 1, none⟩ := by simp
  have hp0 : w.heap.size < w1.heap.size := by omega
  have hp1 : w.heap.size < (w1.alloc (flc a c)).heap.size := by simp; omega
  have hp2 : w.heap.size + 1 < (w1.alloc (flc a c)).heap.size := by simp; omega
  have k0 : ((w1.alloc (flc a c)).alloc (flc a c)).cell? ⟨w.heap.size, 0, none⟩ = some (.int .i64 0) := by rw [World.cell?_alloc_past _ _ _ hp1, World.cell?_alloc_past _ _ _ hp0]; exact c0
  have k1 : ((w1.alloc (flc a c)).alloc (flc a c)).cell? ⟨w.heap.size, 1, none⟩ = some (.int .i64 0) := by rw [World.cell?_alloc_past _ _ _ hp1, World.cell?_alloc_past _ _ _ hp0]; exact c1
  have k2 : ((w1.alloc (flc a c)).alloc (flc a c)).cell? ⟨w.heap.size + 1, 0, none⟩ = some (.bool true) := by rw [World.cell?_alloc_past _ _ _ hp2, World.cell?_alloc_past _ _ _ hsz]; exact c2
  have e0 : ((((w1.alloc (flc a c)).alloc (flc a c)).setCell ⟨w.heap.size, 0, none⟩ (.int .i64 a)).setCell ⟨w.heap.size, 1, none⟩ (.int .i64 c)).cell? ⟨w.heap.size, 0, none⟩ = some (.int .i64 a) := by
    rw [World.cell?_setCell_other _ _ _ _ ne3.symm, World.cell?_setCell_same (h := k0)]
  have e1 : ((((w1.alloc (flc a c)).alloc (flc a c)).setCell ⟨w.heap.size, 0, none⟩ (.int .i64 a)).setCell ⟨w.heap.size, 1, none⟩ (.int .i64 c)).cell? ⟨w.heap.size, 1, none⟩ = some (.int .i64 c) :=
    World.cell?_setCell_same _ _ _ (h := (World.cell?_setCell_other _ _ _ _ ne3).trans k1)
  have e2 : ((((w1.alloc (flc a c)).alloc (flc a c)).setCell ⟨w.heap.size, 0, none⟩ (.int .i64 a)).setCell ⟨w.heap.size, 1, none⟩ (.int .i64 c)).cell? ⟨w.heap.size + 1, 0, none⟩ = some (.bool true) := by
    rw [World.cell?_setCell_other _ _ _ _ ne2.symm, World.cell?_setCell_other _ _ _ _ ne1.symm]; exact k2
  refine leaves_cons (f := 21) (args := #[.pointer (some ⟨w.heap.size + 1, 0, none⟩), .pointer (some ⟨w.heap.size, 0, none⟩)]) (by simp) (by simp [go_sem]) ?_
  refine (closure_takes ⟨w.heap.size + 1, 0, none⟩ w.heap.size a c _ _ _ c2 (by omega) c0 c1 z0 z1).mono ?_
  clear k0 k1 k2 c0 c1 c2 z0 z1 z2
  rintro e u' w'' ⟨rfl, rfl, hwf⟩
  rw [← hwf] at e0 e1 e2
  simp [Leaves, settle, results, Try.results9, go_sem, e0, e1, e2]
  exact ⟨w1, hq, hwf⟩

/-- One that changes nothing older throws, or returns, within Catch. -/
theorem keeps_below (w w1 : World) (h : Below (w.heap.size + 2) (cw w) w1) : Keeps w.heap.size w1 := by
  have hs := h.size
  simp at hs
  refine ⟨?_, ?_, ?_, ?_, ?_, ?_, by omega⟩
  · rw [h.cell (by simp)]; simp [go_sem]
  · rw [h.cell (by simp)]; simp [go_sem]
  · rw [h.cell (by simp)]; simp [go_sem]
  · rw [h.frozen (by simp)]; simp [go_sem]
  · rw [h.frozen (by simp)]; simp [go_sem]
  · rw [h.frozen (by simp)]; simp [go_sem]

theorem enter_do (d : Value) (w : World) : (callFunc 10 (#[d] ++ #[])).run Try.prog w = .ok (.enter 10 (#[d] ++ #[])) w := by simp [go_sem]

abbrev deed (a c : Int) (f : Bool) (n : Int) : Value := .agg #[.int .i64 a, .int .i64 c, .bool f, .int .i64 n]

theorem catch_do_idle (a c n : Int) (w : World) :
    Calls Try.prog 9 #[.func (.func 10) #[.agg #[.int .i64 a, .int .i64 c, .bool false, .int .i64 n]] #[]] w fun e w' => e = .returned (.tuple #[.agg #[.int .i64 0, .int .i64 0], .bool false]) ∧ Below w.heap.size w w' := by
  refine (catch_returns 10 #[deed a c false n] #[] w (fun w1 => Below (w.heap.size + 2) (cw w) w1) (fun w1 h => keeps_below w w1 h) (enter_do _) ?_).mono ?_
  · refine (do_idle a c n (cw w)).mono ?_
    rintro e w1 ⟨rfl, rfl⟩
    exact ⟨⟨_, rfl⟩, (Below.refl _ _).alloc (by simp) _⟩
  · rintro e w' ⟨rfl, w1, h, rfl⟩
    refine ⟨rfl, ?_⟩
    exact ((((((Below.refl _ _).alloc (Nat.le_refl _) _).alloc (by simp) _).trans (h.mono (by omega))).setCell (by simp) _).setCell (by simp) _).setCell (by simp) _

theorem catch_do_fails (a c n : Int) (w : World) :
    Calls Try.prog 9 #[.func (.func 10) #[.agg #[.int .i64 a, .int .i64 c, .bool true, .int .i64 n]] #[]] w fun e w' => e = .returned (.tuple #[.agg #[.int .i64 a, .int .i64 (tc c)], .bool true]) ∧ Below w.heap.size w w' := by
  refine (catch_throws 10 #[deed a c true n] #[] w a (tc c) (fun w1 => Below (w.heap.size + 2) (cw w) w1) (fun w1 h => keeps_below w w1 h) (enter_do _) ?_).mono ?_
  · refine (do_fails a c n (cw w)).mono ?_
    rintro e w1 ⟨rfl, rfl⟩
    exact ⟨rfl, (Below.refl _ _).alloc (by simp) _⟩
  · rintro e w' ⟨rfl, w1, h, rfl⟩
    refine ⟨rfl, ?_⟩
    have hs := h.size
    simp at hs
    exact (((((((Below.refl _ _).alloc (Nat.le_refl _) _).alloc (by simp) _).trans (h.mono (by omega))).alloc (by omega) _).alloc (by simp; omega) _).setCell (by simp) _).setCell (by simp) _

end Go.Proofs.Ytnifdponeccdgaa
