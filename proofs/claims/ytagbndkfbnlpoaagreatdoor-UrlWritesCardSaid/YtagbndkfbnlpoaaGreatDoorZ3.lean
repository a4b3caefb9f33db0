/-
  'Mv B r w w'': below block B nothing has turned but the blocks of r. Plain facts on worlds; no condition.
  What package trap's Throw, Check and Catch do to the world, for whatever place and code, and over whatever function value. No condition.
  Plain facts for function values over captured variables: what is compared with nil, a number in a block of one. No condition.
-/
import Derived.Below
import Derived.Deep.Draws
import Derived.Test.YtagbndkfbnlpoaaGreatDoorRows
import Derived.WalkKit
import Derived.WalkSpells
import Derived.WalkLawsBesides
import Derived.Defers
import Derived.Recover
import Derived.OneCell
namespace Go.Proofs.YtagbndkfbnlpoaaGreatDoor
open Go.RowKit

structure Mv (B : Nat) (r : List Nat) (w w' : World) : Prop where
  os : w'.os = w.os
  tape : w'.tape = w.tape
  output : w'.output = w.output
  size : w.heap.size ≤ w'.heap.size
  block : ∀ k, k < B → k ∉ r → w'.heap[k]? = w.heap[k]?

theorem Mv.refl (B : Nat) (r : List Nat) (w : World) : Mv B r w w := ⟨rfl, rfl, rfl, Nat.le_refl _, fun _ _ _ => rfl⟩
theorem Mv.trans {B : Nat} {r : List Nat} {a b c : World} (h : Mv B r a b) (k : Mv B r b c) : Mv B r a c :=
  ⟨k.os.trans h.os, k.tape.trans h.tape, k.output.trans h.output, Nat.le_trans h.size k.size, fun i hi hr => (k.block i hi hr).trans (h.block i hi hr)⟩
theorem Mv.mono {B B' : Nat} {r r' : List Nat} {w w' : World} (h : Mv B r w w') (hB : B' ≤ B) (hr : ∀ x ∈ r, x ∈ r' ∨ B' ≤ x) : Mv B' r' w w' :=
  ⟨h.os, h.tape, h.output, h.size, fun k hk hk' => h.block k (by omega) (fun hm => by rcases hr k hm with h1 | h1; exact hk' h1; omega)⟩
theorem Mv.of_below {B : Nat} {w w' : World} (h : Below B w w') (r : List Nat) : Mv B r w w' := ⟨h.os, h.tape, h.output, h.size, fun k hk _ => h.block k hk⟩
theorem Mv.below {B B' : Nat} {r : List Nat} {w w' : World} (h : Mv B r w w') (hB : B' ≤ B) (hr : ∀ x ∈ r, B' ≤ x) : Below B' w w' :=
  ⟨h.os, h.tape, h.output, h.size, fun k hk => h.block k (by omega) (fun hm => by have := hr k hm; omega)⟩
theorem Mv.drew {B : Nat} {r : List Nat} {a w : World} (h : Mv B r a w) : Mv B r a w.drew := ⟨h.os, h.tape, h.output, h.size, h.block⟩
theorem Mv.drewN {B : Nat} {r : List Nat} {a w : World} (h : Mv B r a w) (n : Nat) : Mv B r a (w.drewN n) := ⟨h.os, h.tape, h.output, h.size, h.block⟩
theorem Mv.alloc {B : Nat} {r : List Nat} {a w : World} (h : Mv B r a w) (hB : B ≤ w.heap.size) (o : Obj) : Mv B r a (w.alloc o) :=
  h.trans ⟨rfl, rfl, rfl, by simp, fun k hk _ => Below.heap_alloc _ _ _ (by omega)⟩
theorem Mv.setCell {B : Nat} {r : List Nat} {a w : World} (h : Mv B r a w) {p : Addr} (hp : p.block ∈ r ∨ B ≤ p.block) (u : Value) : Mv B r a (w.setCell p u) :=
  h.trans ⟨rfl, rfl, rfl, by simp [World.setCell], fun k hk hr => Below.heap_setCell _ _ _ _ (fun e => by subst e; rcases hp with h1 | h1; exact hr h1; omega)⟩
theorem Mv.cell {B : Nat} {r : List Nat} {w w' : World} (h : Mv B r w w') {p : Addr} (hp : p.block < B) (hr : p.block ∉ r) : w'.cell? p = w.cell? p := World.cell?_of_block (w := w) (h.block p.block hp hr)
theorem Mv.frozen {B : Nat} {r : List Nat} {w w' : World} (h : Mv B r w w') {p : Addr} (hp : p.block < B) (hr : p.block ∉ r) : w'.frozen? p = w.frozen? p := World.frozen?_of_block (w := w) (h.block p.block hp hr)
theorem Below.drewN' {B : Nat} {a w : World} (h : Below B a w) (n : Nat) : Below B a (w.drewN n) := ⟨h.os, h.tape, h.output, h.size, h.block⟩

/-- Block g is known whole. -/
def Blk (w : World) (g : Nat) (t : TypeId) (cs : Array Value) : Prop := w.heap[g]? = some (.cells cs t (0, 0))

section
variable {w w' : World} {g : Nat} {t : TypeId} {cs : Array Value}
theorem Blk.lt (h : Blk w g t cs) : g < w.heap.size := by
  rcases Nat.lt_or_ge g w.heap.size with hlt | hge
  · exact hlt
  · unfold Blk at h; rw [Array.getElem?_eq_none hge] at h; cases h
theorem Blk.cell (h : Blk w g t cs) (i : Nat) : w.cell? ⟨g, i, none⟩ = cs[i]? := by
  unfold Blk at h; simp [World.cell?, h]
theorem Blk.frozen (h : Blk w g t cs) (i : Nat) : w.frozen? ⟨g, i, none⟩ = false := by
  unfold Blk at h
  simp [World.frozen?, h]
theorem Blk.new (w : World) (t : TypeId) (cs : Array Value) : Blk (w.alloc (.cells cs t)) w.heap.size t cs := by
  unfold Blk
  show (w.heap.push _)[w.heap.size]? = _
  simp
theorem Blk.drew (h : Blk w g t cs) : Blk w.drew g t cs := h
theorem Blk.drewN (h : Blk w g t cs) (n : Nat) : Blk (w.drewN n) g t cs := h
theorem Blk.alloc (h : Blk w g t cs) (o : Obj) : Blk (w.alloc o) g t cs := (Below.heap_alloc w o g h.lt).trans h
theorem Blk.set_ (h : Blk w g t cs) (i : Nat) (u : Value) : Blk (w.setCell ⟨g, i, none⟩ u) g t (cs.setIfInBounds i u) := by
  unfold Blk at h ⊢
  simp [World.setCell, Array.getElem?_modify, h]
theorem Blk.far (h : Blk w g t cs) {p : Addr} (hp : g ≠ p.block) (u : Value) : Blk (w.setCell p u) g t cs := (Below.heap_setCell w p u g hp).trans h
theorem Blk.below {B : Nat} (h : Blk w g t cs) (hb : Below B w w') (hg : g < B) : Blk w' g t cs := (hb.block g hg).trans h
theorem Blk.mv {B : Nat} {r : List Nat} (h : Blk w g t cs) (hb : Mv B r w w') (hg : g < B) (hr : g ∉ r) : Blk w' g t cs := (hb.block g hg hr).trans h
end

end Go.Proofs.YtagbndkfbnlpoaaGreatDoor
namespace Go.Proofs.YtagbndkfbnlpoaaGreatDoor
open Go.RowKit


abbrev flt (a c : Int) : Value := .agg #[.int .i64 a, .int .i64 c]
abbrev flc (a c : Int) : Obj := .cells #[.int .i64 a, .int .i64 c] 85
theorem closure_idle (p q : Addr) (w : World) (hc : w.cell? p = some (.bool false)) :
    CallsD Tryz.prog 93 #[.pointer (some p), .pointer (some q)] .returning w fun e u' w' =>
      e = .returned (.tuple #[]) ∧ u' = .returning ∧ w' = w := by
  refine callsD_of_wpS Tryz.func93 rfl fun c₀ cs hu => ?_
  refine wpS_of_wp ?_
  go_wp2
  cases c₀
  simp_all [bodyPostS, results, Tryz.results93]

theorem eq_func_nil (fn : Fn) (fi ca : Array Value) (w : World) : (binOp .eql 1 (.func fn fi ca) .nilFunc).run Tryz.prog w = .ok (.bool false) w := by kernel_rfl
theorem make_func (fn : Fn) (first cap : Array Value) (w : World) : (Instr.makeFunc fn first cap).run Tryz.prog w = .ok (.func fn first cap) w := rfl

/-- What Catch's own two variables are, while f runs. -/
abbrev cw (w : World) : World := (w.alloc (flc 0 0)).alloc (.cells #[.bool true] 4)
structure Keeps (n : Nat) (w1 : World) : Prop where
  c0 : w1.cell? ⟨n, 0, none⟩ = some (.int .i64 0)
  c1 : w1.cell? ⟨n, 1, none⟩ = some (.int .i64 0)
  c2 : w1.cell? ⟨n + 1, 0, none⟩ = some (.bool true)
  z0 : w1.frozen? ⟨n, 0, none⟩ = false
  z1 : w1.frozen? ⟨n, 1, none⟩ = false
  z2 : w1.frozen? ⟨n + 1, 0, none⟩ = false
  size : n + 1 < w1.heap.size

set_option maxHeartbeats 400000 in
theorem catch_returns (g : FuncId) (fi ca : Array Value) (w : World) (Q : World → Prop) (hQ : ∀ w1, Q w1 → Keeps w.heap.size w1)
    (hen : ∀ w : World, (callFunc g (fi ++ ca)).run Tryz.prog w = .ok (.enter g (fi ++ ca)) w)
    (hb : Calls Tryz.prog g (fi ++ ca) (cw w) fun e w1 => (∃ v, e = .returned v) ∧ Q w1) :
    Calls Tryz.prog 79 #[.func (.func g) fi ca] w fun e w' => e = .returned (.tuple #[flt 0 0, .bool false]) ∧
      ∃ w1, Q w1 ∧ w' = ((w1.setCell ⟨w.heap.size, 0, none⟩ (.int .i64 0)).setCell ⟨w.heap.size, 1, none⟩ (.int .i64 0)).setCell ⟨w.heap.size + 1, 0, none⟩ (.bool false) := by
  have hmf := make_func
  have heq := eq_func_nil
  go_enter_defers Tryz.func79, Tryz.ntmps79
  go_wp2_with fail
  refine Calls.mono hb ?_
  rintro e w1 ⟨⟨v, rfl⟩, hq⟩
  obtain ⟨c0, c1, c2, z0, z1, z2, hsz⟩ := hQ w1 hq
  clear hmf heq hen hQ hb
  go_wp2
  have ne1 : (⟨w.heap.size + 1, 0, none⟩ : Addr) ≠ ⟨w.heap.size, 0, none⟩ := by simp
  have ne2 : (⟨w.heap.size + 1, 0, none⟩ : Addr) ≠ ⟨w.heap.size, 1, none⟩ := by simp
  have ne3 : (⟨w.heap.size, 0, none⟩ : Addr) ≠ ⟨w.heap.size, 1, none⟩ := by simp
  have e0 : (((w1.setCell ⟨w.heap.size, 0, none⟩ (.int .i64 0)).setCell ⟨w.heap.size, 1, none⟩ (.int .i64 0)).setCell ⟨w.heap.size + 1, 0, none⟩ (.bool false)).cell? ⟨w.heap.size, 0, none⟩ = some (.int .i64 0) := by
    rw [World.cell?_setCell_other _ _ _ _ ne1, World.cell?_setCell_other _ _ _ _ ne3.symm, World.cell?_setCell_same (h := c0)]
  have e1 : (((w1.setCell ⟨w.heap.size, 0, none⟩ (.int .i64 0)).setCell ⟨w.heap.size, 1, none⟩ (.int .i64 0)).setCell ⟨w.heap.size + 1, 0, none⟩ (.bool false)).cell? ⟨w.heap.size, 1, none⟩ = some (.int .i64 0) := by
    rw [World.cell?_setCell_other _ _ _ _ ne2, World.cell?_setCell_same _ _ _ (h := (World.cell?_setCell_other _ _ _ _ ne3).trans c1)]
  have e2 : (((w1.setCell ⟨w.heap.size, 0, none⟩ (.int .i64 0)).setCell ⟨w.heap.size, 1, none⟩ (.int .i64 0)).setCell ⟨w.heap.size + 1, 0, none⟩ (.bool false)).cell? ⟨w.heap.size + 1, 0, none⟩ = some (.bool false) :=
    World.cell?_setCell_same _ _ _ (h := (World.cell?_setCell_other _ _ _ _ ne2.symm).trans ((World.cell?_setCell_other _ _ _ _ ne1.symm).trans c2))
  generalize hwf : ((w1.setCell ⟨w.heap.size, 0, none⟩ (.int .i64 0)).setCell ⟨w.heap.size, 1, none⟩ (.int .i64 0)).setCell ⟨w.heap.size + 1, 0, none⟩ (.bool false) = wf at *
  refine leaves_cons (f := 93) (args := #[.pointer (some ⟨w.heap.size + 1, 0, none⟩), .pointer (some ⟨w.heap.size, 0, none⟩)]) (by simp) (by simp [go_sem]) ?_
  refine (closure_idle ⟨w.heap.size + 1, 0, none⟩ ⟨w.heap.size, 0, none⟩ _ ?_).mono ?_
  · exact e2
  rintro e u' w'' ⟨rfl, rfl, rfl⟩
  simp [Leaves, settle, results, Tryz.results79, go_sem, e0, e1, e2]
  exact ⟨w1, hq, hwf.symm⟩

/-- What runs within Catch leaves Catch's two variables alone, where it turns rows of r alone. -/
theorem keeps_mv (w w1 : World) (r : List Nat) (hr : ∀ x ∈ r, x < w.heap.size) (h : Mv (w.heap.size + 2) r (cw w) w1) : Keeps w.heap.size w1 := by
  have hs := h.size
  simp at hs
  have n0 : w.heap.size ∉ r := fun hm => by have := hr _ hm; omega
  have n1 : w.heap.size + 1 ∉ r := fun hm => by have := hr _ hm; omega
  refine ⟨?_, ?_, ?_, ?_, ?_, ?_, by omega⟩
  · rw [h.cell (by simp) n0]; simp [go_sem]
  · rw [h.cell (by simp) n0]; simp [go_sem]
  · rw [h.cell (by simp) n1]; simp [go_sem]
  · rw [h.frozen (by simp) n0]; simp [go_sem]
  · rw [h.frozen (by simp) n0]; simp [go_sem]
  · rw [h.frozen (by simp) n1]; simp [go_sem]

theorem cw_below (w : World) : Below w.heap.size w (cw w) := ((Below.refl _ _).alloc (Nat.le_refl _) _).alloc (by simp) _

/-- Catch over a function value that returns, turns rows of r alone, and leaves R, which is known of older memory alone. -/
theorem catch_mv_returns (g : FuncId) (fi ca : Array Value) (w : World) (r : List Nat) (R : World → Prop) (hr : ∀ x ∈ r, x < w.heap.size)
    (hR : ∀ W1 W2, Below w.heap.size W1 W2 → R W1 → R W2) (hen : ∀ w : World, (callFunc g (fi ++ ca)).run Tryz.prog w = .ok (.enter g (fi ++ ca)) w)
    (hf : ∀ W, Below w.heap.size w W → Calls Tryz.prog g (fi ++ ca) W fun e w1 => (∃ v, e = .returned v) ∧ Mv W.heap.size r W w1 ∧ R w1) :
    Calls Tryz.prog 79 #[.func (.func g) fi ca] w fun e w' => e = .returned (.tuple #[flt 0 0, .bool false]) ∧ Mv w.heap.size r w w' ∧ R w' := by
  refine (catch_returns g fi ca w (fun w1 => Mv (w.heap.size + 2) r (cw w) w1 ∧ R w1) (fun w1 h => keeps_mv w w1 r hr h.1) hen ((hf _ (cw_below w)).mono ?_)).mono ?_
  · rintro e w1 ⟨h1, h2, h3⟩
    exact ⟨h1, h2.mono (by simp) fun x hx => .inl hx, h3⟩
  · rintro e w' ⟨rfl, w1, ⟨h, hq⟩, rfl⟩
    have hb : Below w.heap.size w1 (((w1.setCell ⟨w.heap.size, 0, none⟩ (.int .i64 0)).setCell ⟨w.heap.size, 1, none⟩ (.int .i64 0)).setCell ⟨w.heap.size + 1, 0, none⟩ (.bool false)) :=
      (((Below.refl _ _).setCell (by simp) _).setCell (by simp) _).setCell (by simp) _
    exact ⟨rfl, ((Mv.of_below (cw_below w) r).trans (h.mono (by omega) fun x hx => .inl hx)).trans (Mv.of_below hb r), hR _ _ hb hq⟩

end Go.Proofs.YtagbndkfbnlpoaaGreatDoor
namespace Go.Proofs.YtagbndkfbnlpoaaGreatDoor
open Go.RowKit

theorem eq_fn_nil (fn : Fn) (fi ca : Array Value) (w : World) : (binOp .eql 63 (.func fn fi ca) .nilFunc).run Tryz.prog w = .ok (.bool false) w := by kernel_rfl
theorem one_lt' {a n : Nat} (h1 : a < n) : ∀ x ∈ [a], x < n := fun x hx => by
  simp at hx
  omega

end Go.Proofs.YtagbndkfbnlpoaaGreatDoor
