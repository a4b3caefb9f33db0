/-
  What package class's functions of one byte answer, and those of the document's own answer. No condition.
  'Mv B r w w'': below block B nothing has turned but the blocks of r. Plain facts on worlds; no condition.
  What package trap's Throw, Check and Catch do to the world, for whatever place and code, and over whatever function value. No condition.
-/
import Derived.Test.YteeheehoaklnbaaRows
import Derived.Test.YteeheehoaklnbaaZ1
import Derived.WalkKit
import Derived.WalkSpells
import Derived.WalkLawsBesides
import Derived.Laws.Externs
import Derived.Below
import Derived.Deep.Draws
import Derived.Defers
import Derived.Recover
namespace Go.Proofs.Yteeheehoaklnbaa
open Go.RowKit

theorem dI (a : Nat) (b : UInt8) : decide (a ≤ b.toNat) = decide ((a : Int) ≤ (b.toNat : Int)) := by simp
theorem dJ (a : Nat) (b : UInt8) : decide (b.toNat ≤ a) = decide ((b.toNat : Int) ≤ (a : Int)) := by simp
theorem dE (a : Nat) (b : UInt8) : (b.toNat == a) = ((b.toNat : Int) == (a : Int)) := by
  rw [Bool.eq_iff_iff, beq_iff_eq, beq_iff_eq]
  omega

set_option maxHeartbeats 400000 in
theorem digit_any (b : UInt8) (w : World) :
    Calls Try.prog 47 #[.int .u8 (b.toNat : Int)] w fun e w' => e = .returned (.bool (digB b)) ∧ w = w' := by
  have e : digB b = (decide ((48 : Int) ≤ (b.toNat : Int)) && decide ((b.toNat : Int) ≤ 57)) := by unfold digB; rw [dI, dJ]; rfl
  rw [e]
  clear e
  cases h1 : decide ((48 : Int) ≤ (b.toNat : Int)) <;>
  · go_enter Try.func47, Try.ntmps47
    go_wp2
    go_ret
    exact ⟨rfl, rfl⟩

set_option maxHeartbeats 400000 in
theorem refDigit_any (b : UInt8) (w : World) :
    Calls Try.prog 27 #[.int .u8 (b.toNat : Int)] w fun e w' => e = .returned (.bool (digB b)) ∧ w = w' := by
  have e : digB b = (decide ((48 : Int) ≤ (b.toNat : Int)) && decide ((b.toNat : Int) ≤ 57)) := by unfold digB; rw [dI, dJ]; rfl
  rw [e]
  clear e
  cases h0 : decide ((48 : Int) ≤ (b.toNat : Int)) <;>
  · go_enter Try.func27, Try.ntmps27
    go_wp2
    go_ret
    exact ⟨rfl, rfl⟩

set_option maxHeartbeats 400000 in
theorem tab_any (b : UInt8) (w : World) :
    Calls Try.prog 38 #[.int .u8 (b.toNat : Int)] w fun e w' => e = .returned (.bool (tabB b)) ∧ w = w' := by
  have e : tabB b = ((b.toNat : Int) == 9 || (b.toNat : Int) == 32) := by unfold tabB; rw [dE, dE]; rfl
  rw [e]
  clear e
  cases h0 : ((b.toNat : Int) == 9) <;>
  · go_enter Try.func38, Try.ntmps38
    go_wp2
    go_ret
    exact ⟨rfl, rfl⟩

set_option maxHeartbeats 400000 in
theorem quoted_any (b : UInt8) (w : World) :
    Calls Try.prog 63 #[.int .u8 (b.toNat : Int)] w fun e w' => e = .returned (.bool (quoB b)) ∧ w = w' := by
  have e : quoB b = ((b.toNat : Int) == 9 || decide ((32 : Int) ≤ (b.toNat : Int)) && (b.toNat : Int) != 127) := by unfold quoB; unfold bne; rw [dE, dE, dI]; rfl
  rw [e]
  clear e
  cases h0 : ((b.toNat : Int) == 9) <;> cases h1 : decide ((32 : Int) ≤ (b.toNat : Int)) <;>
  · go_enter Try.func63, Try.ntmps63
    go_wp2
    go_ret
    exact ⟨rfl, rfl⟩

set_option maxHeartbeats 400000 in
theorem refQuoted_any (b : UInt8) (w : World) :
    Calls Try.prog 43 #[.int .u8 (b.toNat : Int)] w fun e w' => e = .returned (.bool (quoB b)) ∧ w = w' := by
  have e : quoB b = ((b.toNat : Int) == 9 || decide ((31 : Int) < (b.toNat : Int)) && (b.toNat : Int) != 127) := by have d : decide ((31 : Int) < (b.toNat : Int)) = decide (32 ≤ b.toNat) := (by rw [decide_eq_decide]; omega); rw [d]; unfold quoB; unfold bne; rw [dE, dE]; rfl
  rw [e]
  clear e
  cases h0 : ((b.toNat : Int) == 9) <;> cases h1 : decide ((31 : Int) < (b.toNat : Int)) <;>
  · go_enter Try.func43, Try.ntmps43
    go_wp2
    go_ret
    exact ⟨rfl, rfl⟩

set_option maxHeartbeats 400000 in
theorem refTab_any (b : UInt8) (w : World) :
    Calls Try.prog 29 #[.int .u8 (b.toNat : Int)] w fun e w' => e = .returned (.bool (tabB b)) ∧ w = w' := by
  rw [← tabB_has]
  go_enter Try.func29, Try.ntmps29
  go_wp2_with (go_at_call 42; refine (has_any _ b _ (of_decide_eq_true rfl)).mono ?_; rintro e w' ⟨rfl, rfl⟩)
  go_ret
  exact ⟨rfl, rfl⟩

end Go.Proofs.Yteeheehoaklnbaa
namespace Go.Proofs.Yteeheehoaklnbaa
open Go.RowKit

structure Mv (B : Nat) (r : List Nat) (w w' : World) : Prop where
  os : w'.os = w.os
  tape : w'.tape = w.tape
  output : w'.output = w.output
  size : w.heap.size ≤ w'.heap.size
  block : ∀ k, k < B → k ∉ r → w'.heap[k]? = w.heap[k]?

theorem Mv.refl (B : Nat) (r : List Nat) (w : World) : Mv B r w w := ⟨rfl, rfl, rfl, Nat.le_refl _, fun _ _ _ => rfl⟩
theorem Mv.trans {B : Nat} {r : List Nat} {a b c : World} (h : Mv B r a b) (k : Mv B r b c) : Mv B r a c :=
  ⟨k.os.trans h.os, k.tape.trans h.tape, k.output.trans h.output, Nat.le_trans h.size k.size, fun i hi hr => (k.block i hi hr).trans (h.block i hi hr)⟩
theorem Mv.mono {B B' : Nat} {r r' : List Nat} {w w' : World} (h : Mv B r w w') (hB : B' ≤ B) (hr : ∀ x ∈ r, x ∈ r' ∨ B' ≤ x) : Mv B' r' w w' :=
  ⟨h.os, h.tape, h.output, h.size, fun k hk hk' => h.block k (by omega) (fun hm => by rcases hr k hm with h1 | h1; exact hk' h1; omega)⟩
theorem Mv.of_below {B : Nat} {w w' : World} (h : Below B w w') (r : List Nat) : Mv B r w w' := ⟨h.os, h.tape, h.output, h.size, fun k hk _ => h.block k hk⟩
theorem Mv.below {B B' : Nat} {r : List Nat} {w w' : World} (h : Mv B r w w') (hB : B' ≤ B) (hr : ∀ x ∈ r, B' ≤ x) : Below B' w w' :=
  ⟨h.os, h.tape, h.output, h.size, fun k hk => h.block k (by omega) (fun hm => by have := hr k hm; omega)⟩
theorem Mv.drew {B : Nat} {r : List Nat} {a w : World} (h : Mv B r a w) : Mv B r a w.drew := ⟨h.os, h.tape, h.output, h.size, h.block⟩
theorem Mv.drewN {B : Nat} {r : List Nat} {a w : World} (h : Mv B r a w) (n : Nat) : Mv B r a (w.drewN n) := ⟨h.os, h.tape, h.output, h.size, h.block⟩
theorem Mv.alloc {B : Nat} {r : List Nat} {a w : World} (h : Mv B r a w) (hB : B ≤ w.heap.size) (o : Obj) : Mv B r a (w.alloc o) :=
  h.trans ⟨rfl, rfl, rfl, by simp, fun k hk _ => Below.heap_alloc _ _ _ (by omega)⟩
theorem Mv.setCell {B : Nat} {r : List Nat} {a w : World} (h : Mv B r a w) {p : Addr} (hp : p.block ∈ r ∨ B ≤ p.block) (u : Value) : Mv B r a (w.setCell p u) :=
  h.trans ⟨rfl, rfl, rfl, by simp [World.setCell], fun k hk hr => Below.heap_setCell _ _ _ _ (fun e => by subst e; rcases hp with h1 | h1; exact hr h1; omega)⟩
theorem Mv.cell {B : Nat} {r : List Nat} {w w' : World} (h : Mv B r w w') {p : Addr} (hp : p.block < B) (hr : p.block ∉ r) : w'.cell? p = w.cell? p := World.cell?_of_block (w := w) (h.block p.block hp hr)
theorem Mv.frozen {B : Nat} {r : List Nat} {w w' : World} (h : Mv B r w w') {p : Addr} (hp : p.block < B) (hr : p.block ∉ r) : w'.frozen? p = w.frozen? p := World.frozen?_of_block (w := w) (h.block p.block hp hr)
theorem Below.drewN' {B : Nat} {a w : World} (h : Below B a w) (n : Nat) : Below B a (w.drewN n) := ⟨h.os, h.tape, h.output, h.size, h.block⟩

/-- Block g is known whole. -/
def Blk (w : World) (g : Nat) (t : TypeId) (cs : Array Value) : Prop := w.heap[g]? = some (.cells cs t (0, 0))

section
variable {w w' : World} {g : Nat} {t : TypeId} {cs : Array Value}
theorem Blk.lt (h : Blk w g t cs) : g < w.heap.size := by
  rcases Nat.lt_or_ge g w.heap.size with hlt | hge
  · exact hlt
  · unfold Blk at h; rw [Array.getElem?_eq_none hge] at h; cases h
theorem Blk.cell (h : Blk w g t cs) (i : Nat) : w.cell? ⟨g, i, none⟩ = cs[i]? := by
  unfold Blk at h; simp [World.cell?, h]
theorem Blk.frozen (h : Blk w g t cs) (i : Nat) : w.frozen? ⟨g, i, none⟩ = false := by
  unfold Blk at h
  simp [World.frozen?, h]
theorem Blk.new (w : World) (t : TypeId) (cs : Array Value) : Blk (w.alloc (.cells cs t)) w.heap.size t cs := by
  unfold Blk
  show (w.heap.push _)[w.heap.size]? = _
  simp
theorem Blk.drew (h : Blk w g t cs) : Blk w.drew g t cs := h
theorem Blk.drewN (h : Blk w g t cs) (n : Nat) : Blk (w.drewN n) g t cs := h
theorem Blk.alloc (h : Blk w g t cs) (o : Obj) : Blk (w.alloc o) g t cs := (Below.heap_alloc w o g h.lt).trans h
theorem Blk.set_ (h : Blk w g t cs) (i : Nat) (u : Value) : Blk (w.setCell ⟨g, i, none⟩ u) g t (cs.setIfInBounds i u) := by
  unfold Blk at h ⊢
  simp [World.setCell, Array.getElem?_modify, h]
theorem Blk.far (h : Blk w g t cs) {p : Addr} (hp : g ≠ p.block) (u : Value) : Blk (w.setCell p u) g t cs := (Below.heap_setCell w p u g hp).trans h
theorem Blk.below {B : Nat} (h : Blk w g t cs) (hb : Below B w w') (hg : g < B) : Blk w' g t cs := (hb.block g hg).trans h
theorem Blk.mv {B : Nat} {r : List Nat} (h : Blk w g t cs) (hb : Mv B r w w') (hg : g < B) (hr : g ∉ r) : Blk w' g t cs := (hb.block g hg hr).trans h
end

end Go.Proofs.Yteeheehoaklnbaa
namespace Go.Proofs.Yteeheehoaklnbaa
open Go.RowKit


/-- The code that is thrown. -/
def tc (c : Int) : Int := if c = 0 then 1 else c
theorem tc_of {c : Int} (h : c ≠ 0) : tc c = c := by simp [tc, h]
abbrev flt (a c : Int) : Value := .agg #[.int .i64 a, .int .i64 c]
abbrev pnc (a c : Int) : Ending := .panicked [{ v := .iface 37 (.agg #[.int .i64 a, .int .i64 c]), recovered := false }]

set_option maxHeartbeats 400000 in
theorem throw_zero (a : Int) (w : World) :
    Calls Try.prog 62 #[.int .i64 a, .int .i64 0] w fun e w' => e = pnc a 1 ∧ w = w' := by
  go_enter Try.func62, Try.ntmps62
  go_wp2
  simp [bodyPost, pnc]

set_option maxHeartbeats 400000 in
theorem throw_some (a c : Int) (hc : (c == 0) = false) (w : World) :
    Calls Try.prog 62 #[.int .i64 a, .int .i64 c] w fun e w' => e = pnc a c ∧ w = w' := by
  go_enter Try.func62, Try.ntmps62
  go_wp2
  simp [bodyPost, pnc]

theorem throw_any (a c : Int) (w : World) :
    Calls Try.prog 62 #[.int .i64 a, .int .i64 c] w fun e w' => e = pnc a (tc c) ∧ w = w' := by
  by_cases h : c = 0
  · subst h; exact throw_zero a w
  · rw [tc_of h]; exact throw_some a c (by simp [h]) w

set_option maxHeartbeats 400000 in
theorem check_ok (a c : Int) (w : World) :
    Calls Try.prog 50 #[.bool true, .int .i64 a, .int .i64 c] w fun e w' => e = .returned (.tuple #[]) ∧ w = w' := by
  go_enter Try.func50, Try.ntmps50
  go_wp2
  go_end0
  exact ⟨rfl, rfl⟩

set_option maxHeartbeats 400000 in
theorem check_not (a c : Int) (w : World) :
    Calls Try.prog 50 #[.bool false, .int .i64 a, .int .i64 c] w fun e w' => e = pnc a (tc c) ∧ w = w' := by
  go_enter Try.func50, Try.ntmps50
  go_wp2_with (go_at_call 62; refine (throw_any _ _ _).mono ?_; rintro e w' ⟨rfl, rfl⟩)
  exact ⟨rfl, rfl, rfl⟩

abbrev flc (a c : Int) : Obj := .cells #[.int .i64 a, .int .i64 c] 37
set_option maxHeartbeats 400000 in
theorem faultOf_fault (a c : Int) (w : World) :
    Calls Try.prog 58 #[.iface 37 (.agg #[.int .i64 a, .int .i64 c])] w fun e w' => e = .returned (.agg #[.int .i64 a, .int .i64 c]) ∧ w' = (w.alloc (flc a c)).alloc (flc a c) := by
  have hta : ∀ w : World, (Instr.typeAssert (.iface 37 (.agg #[.int .i64 a, .int .i64 c])) 20 37 true).run Try.prog w = .ok (.tuple #[.agg #[.int .i64 a, .int .i64 c], .bool true]) w := fun _ => by kernel_rfl
  go_enter Try.func58, Try.ntmps58
  go_wp2
  exact bodyPost_ret (v := .agg #[.int .i64 a, .int .i64 c]) (by simp [results, Try.results58, go_sem]) rfl ⟨rfl, rfl⟩

theorem closure_idle (p q : Addr) (w : World) (hc : w.cell? p = some (.bool false)) :
    CallsD Try.prog 57 #[.pointer (some p), .pointer (some q)] .returning w fun e u' w' =>
      e = .returned (.tuple #[]) ∧ u' = .returning ∧ w' = w := by
  refine callsD_of_wpS Try.func57 rfl fun c₀ cs hu => ?_
  refine wpS_of_wp ?_
  go_wp2
  cases c₀
  simp_all [bodyPostS, results, Try.results57]

theorem closure_takes (p : Addr) (b : Nat) (a c : Int) (v0 v1 : Value) (w : World) (hc : w.cell? p = some (.bool true)) (hb : b < w.heap.size)
    (h0 : w.cell? ⟨b, 0, none⟩ = some v0) (h1 : w.cell? ⟨b, 1, none⟩ = some v1) (z0 : w.frozen? ⟨b, 0, none⟩ = false) (z1 : w.frozen? ⟨b, 1, none⟩ = false) :
    CallsD Try.prog 57 #[.pointer (some p), .pointer (some ⟨b, 0, none⟩)] (.panicking [{ v := .iface 37 (.agg #[.int .i64 a, .int .i64 c]), recovered := false }]) w fun e u' w' =>
      e = .returned (.tuple #[]) ∧ u' = .panicking [{ v := .iface 37 (.agg #[.int .i64 a, .int .i64 c]), recovered := true }] ∧
        w' = (((w.alloc (flc a c)).alloc (flc a c)).setCell ⟨b, 0, none⟩ (.int .i64 a)).setCell ⟨b, 1, none⟩ (.int .i64 c) := by
  have hb' : b < (w.alloc (flc a c)).heap.size := by simp; omega
  have k0 : ((w.alloc (flc a c)).alloc (flc a c)).cell? ⟨b, 0, none⟩ = some v0 := by rw [World.cell?_alloc_past _ _ _ hb', World.cell?_alloc_past _ _ _ hb]; exact h0
  have k1 : ((w.alloc (flc a c)).alloc (flc a c)).cell? ⟨b, 1, none⟩ = some v1 := by rw [World.cell?_alloc_past _ _ _ hb', World.cell?_alloc_past _ _ _ hb]; exact h1
  have f0 : ((w.alloc (flc a c)).alloc (flc a c)).frozen? ⟨b, 0, none⟩ = false := by rw [World.frozen?_alloc_past _ _ _ hb', World.frozen?_alloc_past _ _ _ hb]; exact z0
  have f1 : ((w.alloc (flc a c)).alloc (flc a c)).frozen? ⟨b, 1, none⟩ = false := by rw [World.frozen?_alloc_past _ _ _ hb', World.frozen?_alloc_past _ _ _ hb]; exact z1
  clear h0 h1 z0 z1
  refine callsD_of_wpS Try.func57 rfl fun c₀ cs hu => ?_
  apply wpS_seq
  apply wpS_region
  simp [wpOpsS, go_sem, hc, Try.ntmps57, Exit.thenS]
  refine wpS_cond (t := true) (by simp [Act.eval, Array.replicate]) ?_
  simp only [if_true]
  apply wpS_region
  simp [wpOpsS, go_sem, recoverD, hu]
  refine (faultOf_fault a c _).mono ?_
  rintro e w'' ⟨rfl, rfl⟩
  simp [go_sem, k0, k1, f0, f1]
  simp [bodyPostS, results, Try.results57]

theorem eq_func_nil (fn : Fn) (fi ca : Array Value) (w : World) : (binOp .eql 1 (.func fn fi ca) .nilFunc).run Try.prog w = .ok (.bool false) w := by kernel_rfl
theorem make_func (fn : Fn) (first cap : Array Value) (w : World) : (Instr.makeFunc fn first cap).run Try.prog w = .ok (.func fn first cap) w := rfl

/-- What Catch's own two variables are, while f runs. -/
abbrev cw (w : World) : World := (w.alloc (flc 0 0)).alloc (.cells #[.bool true] 4)
structure Keeps (n : Nat) (w1 : World) : Prop where
  c0 : w1.cell? ⟨n, 0, none⟩ = some (.int .i64 0)
  c1 : w1.cell? ⟨n, 1, none⟩ = some (.int .i64 0)
  c2 : w1.cell? ⟨n + 1, 0, none⟩ = some (.bool true)
  z0 : w1.frozen? ⟨n, 0, none⟩ = false
  z1 : w1.frozen? ⟨n, 1, none⟩ = false
  z2 : w1.frozen? ⟨n + 1, 0, none⟩ = false
  size : n + 1 < w1.heap.size

set_option maxHeartbeats 400000 in
theorem catch_returns (g : FuncId) (fi ca : Array Value) (w : World) (Q : World → Prop) (hQ : ∀ w1, Q w1 → Keeps w.heap.size w1)
    (hen : ∀ w : World, (callFunc g (fi ++ ca)).run Try.prog w = .ok (.enter g (fi ++ ca)) w)
    (hb : Calls Try.prog g (fi ++ ca) (cw w) fun e w1 => (∃ v, e = .returned v) ∧ Q w1) :
    Calls Try.prog 44 #[.func (.func g) fi ca] w fun e w' => e = .returned (.tuple #[flt 0 0, .bool false]) ∧
      ∃ w1, Q w1 ∧ w' = ((w1.setCell ⟨w.heap.size, 0, none⟩ (.int .i64 0)).setCell ⟨w.heap.size, 1, none⟩ (.int .i64 0)).setCell ⟨w.heap.size + 1, 0, none⟩ (.bool false) := by
  have hmf := make_func
  have heq := eq_func_nil
  go_enter_defers Try.func44, Try.ntmps44
  go_wp2_with fail
  refine Calls.mono hb ?_
  rintro e w1 ⟨⟨v, rfl⟩, hq⟩
  obtain ⟨c0, c1, c2, z0, z1, z2, hsz⟩ := hQ w1 hq
  clear hmf heq hen hQ hb
  go_wp2
  have ne1 : (⟨w.heap.size + 1, 0, none⟩ : Addr) ≠ ⟨w.heap.size, 0, none⟩ := by simp
  have ne2 : (⟨w.heap.size + 1, 0, none⟩ : Addr) ≠ ⟨w.heap.size, 1, none⟩ := by simp
  have ne3 : (⟨w.heap.size, 0, none⟩ : Addr) ≠ ⟨w.heap.size, 1, none⟩ := by simp
  have e0 : (((w1.setCell ⟨w.heap.size, 0, none⟩ (.int .i64 0)).setCell ⟨w.heap.size, 1, none⟩ (.int .i64 0)).setCell ⟨w.heap.size + 1, 0, none⟩ (.bool false)).cell? ⟨w.heap.size, 0, none⟩ = some (.int .i64 0) := by
    rw [World.cell?_setCell_other _ _ _ _ ne1, World.cell?_setCell_other _ _ _ _ ne3.symm, World.cell?_setCell_same (h := c0)]
  have e1 : (((w1.setCell ⟨w.heap.size, 0, none⟩ (.int .i64 0)).setCell ⟨w.heap.size, 1, none⟩ (.int .i64 0)).setCell ⟨w.heap.size + 1, 0, none⟩ (.bool false)).cell? ⟨w.heap.size, 1, none⟩ = some (.int .i64 0) := by
    rw [World.cell?_setCell_other _ _ _ _ ne2, World.cell?_setCell_same _ _ _ (h := (World.cell?_setCell_other _ _ _ _ ne3).trans c1)]
  have e2 : (((w1.setCell ⟨w.heap.size, 0, none⟩ (.int .i64 0)).setCell ⟨w.heap.size, 1, none⟩ (.int .i64 0)).setCell ⟨w.heap.size + 1, 0, none⟩ (.bool false)).cell? ⟨w.heap.size + 1, 0, none⟩ = some (.bool false) :=
    World.cell?_setCell_same _ _ _ (h := (World.cell?_setCell_other _ _ _ _ ne2.symm).trans ((World.cell?_setCell_other _ _ _ _ ne1.symm).trans c2))
  generalize hwf : ((w1.setCell ⟨w.heap.size, 0, none⟩ (.int .i64 0)).setCell ⟨w.heap.size, 1, none⟩ (.int .i64 0)).setCell ⟨w.heap.size + 1, 0, none⟩ (.bool false) = wf at *
  refine leaves_cons (f := 57) (args := #[.pointer (some ⟨w.heap.size + 1, 0, none⟩), .pointer (some ⟨w.heap.size, 0, none⟩)]) (by simp) (by simp [go_sem]) ?_
  refine (closure_idle ⟨w.heap.size + 1, 0, none⟩ ⟨w.heap.size, 0, none⟩ _ ?_).mono ?_
  · exact e2
  rintro e u' w'' ⟨rfl, rfl, rfl⟩
  simp [Leaves, settle, results, Try.results44, go_sem, e0, e1, e2]
  exact ⟨w1, hq, hwf.symm⟩

set_option maxHeartbeats 400000 in
theorem catch_throws (g : FuncId) (fi ca : Array Value) (w : World) (a c : Int) (Q : World → Prop) (hQ : ∀ w1, Q w1 → Keeps w.heap.size w1)
    (hen : ∀ w : World, (callFunc g (fi ++ ca)).run Try.prog w = .ok (.enter g (fi ++ ca)) w)
    (hb : Calls Try.prog g (fi ++ ca) (cw w) fun e w1 => e = pnc a c ∧ Q w1) :
    Calls Try.prog 44 #[.func (.func g) fi ca] w fun e w' => e = .returned (.tuple #[flt a c, .bool true]) ∧
      ∃ w1, Q w1 ∧ w' = (((w1.alloc (flc a c)).alloc (flc a c)).setCell ⟨w.heap.size, 0, none⟩ (.int .i64 a)).setCell ⟨w.heap.size, 1, none⟩ (.int .i64 c) := by
  have hmf := make_func
  have heq := eq_func_nil
  go_enter_defers Try.func44, Try.ntmps44
  go_wp2_with fail
  refine Calls.mono hb ?_
  rintro e w1 ⟨rfl, hq⟩
  obtain ⟨c0, c1, c2, z0, z1, z2, hsz⟩ := hQ w1 hq
  clear hmf heq hen hQ hb
  go_wp2
  have ne1 : (⟨w.heap.size + 1, 0, none⟩ : Addr) ≠ ⟨w.heap.size, 0, none⟩ := by simp
  have ne2 : (⟨w.heap.size + 1, 0, none⟩ : Addr) ≠ ⟨w.heap.size, 1, none⟩ := by simp
  have ne3 : (⟨w.heap.size, 0, none⟩ : Addr) ≠ ⟨w.heap.size, 1, none⟩ := by simp
  have hp0 : w.heap.size < w1.heap.size := by omega
  have hp1 : w.heap.size < (w1.alloc (flc a c)).heap.size := by simp; omega
  have hp2 : w.heap.size + 1 < (w1.alloc (flc a c)).heap.size := by simp; omega
  have k0 : ((w1.alloc (flc a c)).alloc (flc a c)).cell? ⟨w.heap.size, 0, none⟩ = some (.int .i64 0) := by rw [World.cell?_alloc_past _ _ _ hp1, World.cell?_alloc_past _ _ _ hp0]; exact c0
  have k1 : ((w1.alloc (flc a c)).alloc (flc a c)).cell? ⟨w.heap.size, 1, none⟩ = some (.int .i64 0) := by rw [World.cell?_alloc_past _ _ _ hp1, World.cell?_alloc_past _ _ _ hp0]; exact c1
  have k2 : ((w1.alloc (flc a c)).alloc (flc a c)).cell? ⟨w.heap.size + 1, 0, none⟩ = some (.bool true) := by rw [World.cell?_alloc_past _ _ _ hp2, World.cell?_alloc_past _ _ _ hsz]; exact c2
  have e0 : ((((w1.alloc (flc a c)).alloc (flc a c)).setCell ⟨w.heap.size, 0, none⟩ (.int .i64 a)).setCell ⟨w.heap.size, 1, none⟩ (.int .i64 c)).cell? ⟨w.heap.size, 0, none⟩ = some (.int .i64 a) := by
    rw [World.cell?_setCell_other _ _ _ _ ne3.symm, World.cell?_setCell_same (h := k0)]
  have e1 : ((((w1.alloc (flc a c)).alloc (flc a c)).setCell ⟨w.heap.size, 0, none⟩ (.int .i64 a)).setCell ⟨w.heap.size, 1, none⟩ (.int .i64 c)).cell? ⟨w.heap.size, 1, none⟩ = some (.int .i64 c) :=
    World.cell?_setCell_same _ _ _ (h := (World.cell?_setCell_other _ _ _ _ ne3).trans k1)
  have e2 : ((((w1.alloc (flc a c)).alloc (flc a c)).setCell ⟨w.heap.size, 0, none⟩ (.int .i64 a)).setCell ⟨w.heap.size, 1, none⟩ (.int .i64 c)).cell? ⟨w.heap.size + 1, 0, none⟩ = some (.bool true) := by
    rw [World.cell?_setCell_other _ _ _ _ ne2.symm, World.cell?_setCell_other _ _ _ _ ne1.symm]; exact k2
  refine leaves_cons (f := 57) (args := #[.pointer (some ⟨w.heap.size + 1, 0, none⟩), .pointer (some ⟨w.heap.size, 0, none⟩)]) (by simp) (by simp [go_sem]) ?_
  refine (closure_takes ⟨w.heap.size + 1, 0, none⟩ w.heap.size a c _ _ _ c2 (by omega) c0 c1 z0 z1).mono ?_
  clear k0 k1 k2 c0 c1 c2 z0 z1 z2
  rintro e u' w'' ⟨rfl, rfl, hwf⟩
  rw [← hwf] at e0 e1 e2
  simp [Leaves, settle, results, Try.results44, go_sem, e0, e1, e2]
  exact ⟨w1, hq, hwf⟩

/-- What runs within Catch leaves Catch's two variables alone, where it turns rows of r alone. -/
theorem keeps_mv (w w1 : World) (r : List Nat) (hr : ∀ x ∈ r, x < w.heap.size) (h : Mv (w.heap.size + 2) r (cw w) w1) : Keeps w.heap.size w1 := by
  have hs := h.size
  simp at hs
  have n0 : w.heap.size ∉ r := fun hm => by have := hr _ hm; omega
  have n1 : w.heap.size + 1 ∉ r := fun hm => by have := hr _ hm; omega
  refine ⟨?_, ?_, ?_, ?_, ?_, ?_, by omega⟩
  · rw [h.cell (by simp) n0]; simp [go_sem]
  · rw [h.cell (by simp) n0]; simp [go_sem]
  · rw [h.cell (by simp) n1]; simp [go_sem]
  · rw [h.frozen (by simp) n0]; simp [go_sem]
  · rw [h.frozen (by simp) n0]; simp [go_sem]
  · rw [h.frozen (by simp) n1]; simp [go_sem]

theorem cw_below (w : World) : Below w.heap.size w (cw w) := ((Below.refl _ _).alloc (Nat.le_refl _) _).alloc (by simp) _

/-- Catch over a function value that returns, turns rows of r alone, and leaves R, which is known of older memory alone. -/
theorem catch_mv_returns (g : FuncId) (fi ca : Array Value) (w : World) (r : List Nat) (R : World → Prop) (hr : ∀ x ∈ r, x < w.heap.size)
    (hR : ∀ W1 W2, Below w.heap.size W1 W2 → R W1 → R W2) (hen : ∀ w : World, (callFunc g (fi ++ ca)).run Try.prog w = .ok (.enter g (fi ++ ca)) w)
    (hf : ∀ W, Below w.heap.size w W → Calls Try.prog g (fi ++ ca) W fun e w1 => (∃ v, e = .returned v) ∧ Mv W.heap.size r W w1 ∧ R w1) :
    Calls Try.prog 44 #[.func (.func g) fi ca] w fun e w' => e = .returned (.tuple #[flt 0 0, .bool false]) ∧ Mv w.heap.size r w w' ∧ R w' := by
  refine (catch_returns g fi ca w (fun w1 => Mv (w.heap.size + 2) r (cw w) w1 ∧ R w1) (fun w1 h => keeps_mv w w1 r hr h.1) hen ((hf _ (cw_below w)).mono ?_)).mono ?_
  · rintro e w1 ⟨h1, h2, h3⟩
    exact ⟨h1, h2.mono (by simp) fun x hx => .inl hx, h3⟩
  · rintro e w' ⟨rfl, w1, ⟨h, hq⟩, rfl⟩
    have hb : Below w.heap.size w1 (((w1.setCell ⟨w.heap.size, 0, none⟩ (.int .i64 0)).setCell ⟨w.heap.size, 1, none⟩ (.int .i64 0)).setCell ⟨w.heap.size + 1, 0, none⟩ (.bool false)) :=
      (((Below.refl _ _).setCell (by simp) _).setCell (by simp) _).setCell (by simp) _
    exact ⟨rfl, ((Mv.of_below (cw_below w) r).trans (h.mono (by omega) fun x hx => .inl hx)).trans (Mv.of_below hb r), hR _ _ hb hq⟩

theorem catch_mv_throws (g : FuncId) (fi ca : Array Value) (w : World) (a c : Int) (r : List Nat) (R : World → Prop) (hr : ∀ x ∈ r, x < w.heap.size)
    (hR : ∀ W1 W2, Below w.heap.size W1 W2 → R W1 → R W2) (hen : ∀ w : World, (callFunc g (fi ++ ca)).run Try.prog w = .ok (.enter g (fi ++ ca)) w)
    (hf : ∀ W, Below w.heap.size w W → Calls Try.prog g (fi ++ ca) W fun e w1 => e = pnc a c ∧ Mv W.heap.size r W w1 ∧ R w1) :
    Calls Try.prog 44 #[.func (.func g) fi ca] w fun e w' => e = .returned (.tuple #[flt a c, .bool true]) ∧ Mv w.heap.size r w w' ∧ R w' := by
  refine (catch_throws g fi ca w a c (fun w1 => Mv (w.heap.size + 2) r (cw w) w1 ∧ R w1) (fun w1 h => keeps_mv w w1 r hr h.1) hen ((hf _ (cw_below w)).mono ?_)).mono ?_
  · rintro e w1 ⟨h1, h2, h3⟩
    exact ⟨h1, h2.mono (by simp) fun x hx => .inl hx, h3⟩
  · rintro e w' ⟨rfl, w1, ⟨h, hq⟩, rfl⟩
    have hs := h.size
    simp at hs
    have hb : Below w.heap.size w1 ((((w1.alloc (flc a c)).alloc (flc a c)).setCell ⟨w.heap.size, 0, none⟩ (.int .i64 a)).setCell ⟨w.heap.size, 1, none⟩ (.int .i64 c)) :=
      ((((Below.refl _ _).alloc (by omega) _).alloc (by simp; omega) _).setCell (by simp) _).setCell (by simp) _
    exact ⟨rfl, ((Mv.of_below (cw_below w) r).trans (h.mono (by omega) fun x hx => .inl hx)).trans (Mv.of_below hb r), hR _ _ hb hq⟩

end Go.Proofs.Yteeheehoaklnbaa
