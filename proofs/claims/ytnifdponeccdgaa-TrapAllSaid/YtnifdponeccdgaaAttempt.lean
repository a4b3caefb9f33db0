/-
  What trap's attempt tells of a function that answers a number, and of one that throws, in each of its two instances. Condition: the function itself changes nothing older.
-/
import Derived.Test.YtnifdponeccdgaaInner
import Derived.RegionTactic
import Derived.BigRegion
namespace Go.Proofs.Ytnifdponeccdgaa
open Go.RowKit

structure Sets (b : Nat) (v : Value) (W w' : World) : Prop where
  os : w'.os = W.os
  tape : w'.tape = W.tape
  output : w'.output = W.output
  size : W.heap.size ≤ w'.heap.size
  block : ∀ k, k < W.heap.size → k ≠ b → w'.heap[k]? = W.heap[k]?
  cell : w'.cell? ⟨b, 0, none⟩ = some v
  fro : w'.frozen? ⟨b, 0, none⟩ = false

theorem sets_cell {b : Nat} {v : Value} {W w' : World} (h : Sets b v W w') : (∀ k o, k < W.heap.size → k ≠ b → w'.cell? ⟨k, o, none⟩ = W.cell? ⟨k, o, none⟩) ∧ (∀ k o, k < W.heap.size → k ≠ b → w'.frozen? ⟨k, o, none⟩ = W.frozen? ⟨k, o, none⟩) :=
  ⟨fun k _ h1 h2 => World.cell?_of_block (h.block k h1 h2), fun k _ h1 h2 => World.frozen?_of_block (h.block k h1 h2)⟩

theorem sets_below {b : Nat} {v : Value} {W w' : World} (h : Sets b v W w') {B : Nat} (hB : B ≤ W.heap.size) (hb : B ≤ b) : Below B W w' :=
  ⟨h.os, h.tape, h.output, h.size, fun k hk => h.block k (by omega) (by omega)⟩

/-- Three cells of two blocks, written one behind the other. -/
theorem cells3 {w : World} {b b' : Nat} (hne : b ≠ b') {x0 y0 z0 : Value} (x y z : Value) (h0 : w.cell? ⟨b, 0, none⟩ = some x0) (h1 : w.cell? ⟨b', 0, none⟩ = some y0) (h2 : w.cell? ⟨b', 1, none⟩ = some z0) :
    (((w.setCell ⟨b, 0, none⟩ x).setCell ⟨b', 0, none⟩ y).setCell ⟨b', 1, none⟩ z).cell? ⟨b, 0, none⟩ = some x ∧
    (((w.setCell ⟨b, 0, none⟩ x).setCell ⟨b', 0, none⟩ y).setCell ⟨b', 1, none⟩ z).cell? ⟨b', 0, none⟩ = some y ∧
    (((w.setCell ⟨b, 0, none⟩ x).setCell ⟨b', 0, none⟩ y).setCell ⟨b', 1, none⟩ z).cell? ⟨b', 1, none⟩ = some z := by
  have n1 : (⟨b', 0, none⟩ : Addr) ≠ ⟨b, 0, none⟩ := by simp <;> omega
  have n2 : (⟨b', 1, none⟩ : Addr) ≠ ⟨b, 0, none⟩ := by simp
  have n3 : (⟨b', 1, none⟩ : Addr) ≠ ⟨b', 0, none⟩ := by simp
  refine ⟨?_, ?_, ?_⟩
  · rw [World.cell?_setCell_other _ _ _ _ n2, World.cell?_setCell_other _ _ _ _ n1]; exact World.cell?_setCell_same _ _ _ h0
  · rw [World.cell?_setCell_other _ _ _ _ n3]; exact World.cell?_setCell_same _ _ _ ((World.cell?_setCell_other _ _ _ _ n1.symm).trans h1)
  · exact World.cell?_setCell_same _ _ _ ((World.cell?_setCell_other _ _ _ _ n3.symm).trans ((World.cell?_setCell_other _ _ _ _ n2.symm).trans h2))

/-- Two cells of one block. -/
theorem cells2 {w : World} {b' : Nat} {y0 z0 : Value} (y z : Value) (h1 : w.cell? ⟨b', 0, none⟩ = some y0) (h2 : w.cell? ⟨b', 1, none⟩ = some z0) :
    ((w.setCell ⟨b', 0, none⟩ y).setCell ⟨b', 1, none⟩ z).cell? ⟨b', 0, none⟩ = some y ∧ ((w.setCell ⟨b', 0, none⟩ y).setCell ⟨b', 1, none⟩ z).cell? ⟨b', 1, none⟩ = some z := by
  have n3 : (⟨b', 1, none⟩ : Addr) ≠ ⟨b', 0, none⟩ := by simp
  refine ⟨?_, ?_⟩
  · rw [World.cell?_setCell_other _ _ _ _ n3]; exact World.cell?_setCell_same _ _ _ h1
  · exact World.cell?_setCell_same _ _ _ ((World.cell?_setCell_other _ _ _ _ n3.symm).trans h2)

theorem other2 {w : World} {b b' : Nat} (hne : b ≠ b') (y z : Value) (o : Nat) : ((w.setCell ⟨b', 0, none⟩ y).setCell ⟨b', 1, none⟩ z).cell? ⟨b, o, none⟩ = w.cell? ⟨b, o, none⟩ := by
  rw [World.cell?_setCell_other _ _ _ _ (by simp <;> omega), World.cell?_setCell_other _ _ _ _ (by simp <;> omega)]

/-- What attempt's end comes to, whatever it was that Catch told. -/
abbrev tell (v a c : Int) (f : Bool) : Ending := .returned (.tuple #[.int .i64 v, .agg #[.int .i64 a, .int .i64 c], .bool f])


theorem eq_func_nil_31 (fn : Fn) (fi ca : Array Value) (w : World) : (binOp .eql 31 (.func fn fi ca) .nilFunc).run Try.prog w = .ok (.bool false) w := by kernel_rfl
theorem enter_28 (a b : Value) (w : World) : (callFunc 28 (#[] ++ #[a, b])).run Try.prog w = .ok (.enter 28 (#[] ++ #[a, b])) w := by simp [go_sem]

set_option maxHeartbeats 400000 in
theorem closure28_returns (g : FuncId) (fi ca : Array Value) (p : Addr) (b : Nat) (x : Value) (v : Int) (w : World) (hp : w.cell? p = some (.func (.func g) fi ca)) (hb : w.cell? ⟨b, 0, none⟩ = some x) (hz : w.frozen? ⟨b, 0, none⟩ = false)
    (hen : ∀ w : World, (callFunc g (fi ++ ca)).run Try.prog w = .ok (.enter g (fi ++ ca)) w)
    (hf : ∀ w : World, Calls Try.prog g (fi ++ ca) w fun e w1 => e = .returned (.int .i64 v) ∧ Below w.heap.size w w1) :
    Calls Try.prog 28 #[.pointer (some p), .pointer (some ⟨b, 0, none⟩)] w fun e w' => e = .returned (.tuple #[]) ∧ ∃ w1, Below w.heap.size w w1 ∧ w' = w1.setCell ⟨b, 0, none⟩ (.int .i64 v) := by
  have hbb : b < w.heap.size := World.block_lt_of_cell? w ⟨b, 0, none⟩ hb
  go_enter Try.func28, Try.ntmps28
  go_wp2_with fail
  refine (hf w).mono ?_
  rintro e w1 ⟨rfl, hb1⟩
  have hb' : w1.cell? ⟨b, 0, none⟩ = some x := (hb1.cell (p := ⟨b, 0, none⟩) hbb).trans hb
  have hz' : w1.frozen? ⟨b, 0, none⟩ = false := (hb1.frozen (p := ⟨b, 0, none⟩) hbb).trans hz
  clear hen hf hp hb hz
  go_wp2
  go_end0
  exact ⟨rfl, w1, hb1, rfl⟩

set_option maxHeartbeats 400000 in
theorem closure28_throws (g : FuncId) (fi ca : Array Value) (p : Addr) (b : Nat) (a c : Int) (w : World) (hp : w.cell? p = some (.func (.func g) fi ca))
    (hen : ∀ w : World, (callFunc g (fi ++ ca)).run Try.prog w = .ok (.enter g (fi ++ ca)) w)
    (hf : ∀ w : World, Calls Try.prog g (fi ++ ca) w fun e w1 => e = pnc a c ∧ Below w.heap.size w w1) :
    Calls Try.prog 28 #[.pointer (some p), .pointer (some ⟨b, 0, none⟩)] w fun e w' => e = pnc a c ∧ Below w.heap.size w w' := by
  go_enter Try.func28, Try.ntmps28
  go_wp2_with fail
  refine (hf w).mono ?_
  rintro e w1 ⟨rfl, hb1⟩
  exact ⟨rfl, rfl, hb1⟩

/-- Catch over that closure: the variable at b is set, or nothing older turns. -/
theorem catch28_returns (g : FuncId) (fi ca : Array Value) (p : Addr) (b : Nat) (x : Value) (v : Int) (w : World) (hp : w.cell? p = some (.func (.func g) fi ca)) (hb : w.cell? ⟨b, 0, none⟩ = some x) (hz : w.frozen? ⟨b, 0, none⟩ = false)
    (hen : ∀ w : World, (callFunc g (fi ++ ca)).run Try.prog w = .ok (.enter g (fi ++ ca)) w)
    (hf : ∀ w : World, Calls Try.prog g (fi ++ ca) w fun e w1 => e = .returned (.int .i64 v) ∧ Below w.heap.size w w1) :
    Calls Try.prog 9 #[.func (.func 28) #[] #[.pointer (some p), .pointer (some ⟨b, 0, none⟩)]] w fun e w' => e = .returned (.tuple #[.agg #[.int .i64 0, .int .i64 0], .bool false]) ∧ Sets b (.int .i64 v) w w' := by
  have hbb : b < w.heap.size := World.block_lt_of_cell? w ⟨b, 0, none⟩ hb
  have hpb : p.block < w.heap.size := World.block_lt_of_cell? w p hp
  have hcw : Below w.heap.size w (cw w) := ((Below.refl _ _).alloc (Nat.le_refl _) _).alloc (by simp) _
  refine (catch_returns 28 #[] #[.pointer (some p), .pointer (some ⟨b, 0, none⟩)] w (fun w1 => ∃ w0, Below (w.heap.size + 2) (cw w) w0 ∧ w1 = w0.setCell ⟨b, 0, none⟩ (.int .i64 v)) ?_ (enter_28 _ _) ?_).mono ?_
  · rintro w1 ⟨w0, h, rfl⟩
    obtain ⟨k0, k1, k2, k3, k4, k5, k6⟩ := keeps_below w w0 h
    refine ⟨?_, ?_, ?_, ?_, ?_, ?_, by simpa [World.setCell] using k6⟩
    · rw [World.cell?_setCell_other _ _ _ _ (by simp <;> omega)]; exact k0
    · rw [World.cell?_setCell_other _ _ _ _ (by simp <;> omega)]; exact k1
    · rw [World.cell?_setCell_other _ _ _ _ (by simp <;> omega)]; exact k2
    · rw [World.frozen?_setCell]; exact k3
    · rw [World.frozen?_setCell]; exact k4
    · rw [World.frozen?_setCell]; exact k5
  · refine (closure28_returns g fi ca p b x v (cw w) ((hcw.cell hpb).trans hp) ((hcw.cell (p := ⟨b, 0, none⟩) hbb).trans hb) ((hcw.frozen (p := ⟨b, 0, none⟩) hbb).trans hz) hen hf).mono ?_
    rintro e w1 ⟨rfl, w0, h, rfl⟩
    exact ⟨⟨_, rfl⟩, w0, h.mono (by simp), rfl⟩
  · rintro e w' ⟨rfl, w1, ⟨w0, h, rfl⟩, rfl⟩
    refine ⟨rfl, ?_⟩
    have hs := h.size
    simp at hs
    have hw0 : Below w.heap.size w w0 := hcw.trans (h.mono (by omega))
    refine ⟨h.os, h.tape, h.output, by simp [World.setCell]; omega, ?_, ?_, ?_⟩
    · intro k hk hne
      rw [Below.heap_setCell _ _ _ _ (by simp; omega), Below.heap_setCell _ _ _ _ (by simp; omega), Below.heap_setCell _ _ _ _ (by simp; omega), Below.heap_setCell _ _ _ _ (by simpa using hne)]
      exact hw0.block k hk
    · rw [World.cell?_setCell_other _ _ _ _ (by simp <;> omega), World.cell?_setCell_other _ _ _ _ (by simp <;> omega), World.cell?_setCell_other _ _ _ _ (by simp <;> omega)]
      exact World.cell?_setCell_same _ _ _ ((hw0.cell (p := ⟨b, 0, none⟩) hbb).trans hb)
    · rw [World.frozen?_setCell, World.frozen?_setCell, World.frozen?_setCell, World.frozen?_setCell]
      exact (hw0.frozen (p := ⟨b, 0, none⟩) hbb).trans hz

theorem catch28_throws (g : FuncId) (fi ca : Array Value) (p : Addr) (b : Nat) (a c : Int) (w : World) (hp : w.cell? p = some (.func (.func g) fi ca))
    (hen : ∀ w : World, (callFunc g (fi ++ ca)).run Try.prog w = .ok (.enter g (fi ++ ca)) w)
    (hf : ∀ w : World, Calls Try.prog g (fi ++ ca) w fun e w1 => e = pnc a c ∧ Below w.heap.size w w1) :
    Calls Try.prog 9 #[.func (.func 28) #[] #[.pointer (some p), .pointer (some ⟨b, 0, none⟩)]] w fun e w' => e = .returned (.tuple #[.agg #[.int .i64 a, .int .i64 c], .bool true]) ∧ Below w.heap.size w w' := by
  have hpb : p.block < w.heap.size := World.block_lt_of_cell? w p hp
  have hcw : Below w.heap.size w (cw w) := ((Below.refl _ _).alloc (Nat.le_refl _) _).alloc (by simp) _
  refine (catch_throws 28 #[] #[.pointer (some p), .pointer (some ⟨b, 0, none⟩)] w a c (fun w1 => Below (w.heap.size + 2) (cw w) w1) (fun w1 h => keeps_below w w1 h) (enter_28 _ _) ?_).mono ?_
  · refine (closure28_throws g fi ca p b a c (cw w) ((hcw.cell hpb).trans hp) hen hf).mono ?_
    rintro e w1 ⟨rfl, h⟩
    exact ⟨rfl, h.mono (by simp)⟩
  · rintro e w' ⟨rfl, w1, h, rfl⟩
    refine ⟨rfl, ?_⟩
    have hs := h.size
    simp at hs
    exact (((((hcw.trans (h.mono (by omega)))).alloc (by omega) _).alloc (by simp; omega) _).setCell (by simp) _).setCell (by simp) _
theorem eq_nil_nil_31 (w : World) : (binOp .eql 31 .nilFunc .nilFunc).run Try.prog w = .ok (.bool true) w := by kernel_rfl

set_option maxHeartbeats 1000000 in
theorem attempt24_returns (g : FuncId) (fi ca : Array Value) (v : Int) (w : World)
    (hen : ∀ w : World, (callFunc g (fi ++ ca)).run Try.prog w = .ok (.enter g (fi ++ ca)) w)
    (hf : ∀ w : World, Calls Try.prog g (fi ++ ca) w fun e w1 => e = .returned (.int .i64 v) ∧ Below w.heap.size w w1) :
    Calls Try.prog 24 #[.func (.func g) fi ca] w fun e w' => e = tell v 0 0 false ∧ Below w.heap.size w w' := by
  have hmf := make_func
  have heq := eq_func_nil_31
  go_enter Try.func24, Try.ntmps24
  go_wp2_with fail
  refine (catch28_returns g fi ca ⟨w.heap.size, 0, none⟩ (w.heap.size + 1) (.int .i64 0) v _ (by simp [go_sem]) (by simp [go_sem]) (by simp [go_sem]) hen hf).mono ?_
  rintro e w1 ⟨rfl, hb1⟩
  clear hen hf hmf heq
  obtain ⟨hc, hfz⟩ := sets_cell hb1
  have hz := hb1.size
  simp at hz
  have c1 := hb1.cell
  have z1 := hb1.fro
  have c2 : w1.cell? ⟨w.heap.size + 1 + 1, 0, none⟩ = some (.int .i64 0) := by rw [hc _ _ (by simp) (by simp)]; simp [go_sem]
  have c3 : w1.cell? ⟨w.heap.size + 1 + 1, 1, none⟩ = some (.int .i64 0) := by rw [hc _ _ (by simp) (by simp)]; simp [go_sem]
  have z2 : w1.frozen? ⟨w.heap.size + 1 + 1, 0, none⟩ = false := by rw [hfz _ _ (by simp) (by simp)]; simp [go_sem]
  have z3 : w1.frozen? ⟨w.heap.size + 1 + 1, 1, none⟩ = false := by rw [hfz _ _ (by simp) (by simp)]; simp [go_sem]
  clear hc hfz
  have hb2 := sets_below hb1 (B := w.heap.size) (by simp; omega) (by omega)
  clear hb1
  go_wp2_with fail
  obtain ⟨e1, e2⟩ := cells2 (.int .i64 0) (.int .i64 0) c2 c3
  have e0 := (other2 (w := w1) (b := w.heap.size + 1) (b' := w.heap.size + 1 + 1) (by omega) (.int .i64 0) (.int .i64 0) 0).trans c1
  have hbw : Below w.heap.size w ((w1.setCell ⟨w.heap.size + 1 + 1, 0, none⟩ (.int .i64 0)).setCell ⟨w.heap.size + 1 + 1, 1, none⟩ (.int .i64 0)) :=
    (((((Below.refl _ _).alloc (Nat.le_refl _) _).alloc (by simp) _).alloc (by simp; omega) _).trans hb2 |>.setCell (by simp; omega) _).setCell (by simp; omega) _
  have f1 := (World.frozen?_setCell (w1.setCell ⟨w.heap.size + 1 + 1, 0, none⟩ (.int .i64 0)) ⟨w.heap.size + 1 + 1, 1, none⟩ ⟨w.heap.size + 1, 0, none⟩ (.int .i64 0)).trans ((World.frozen?_setCell _ _ _ _).trans z1)
  have f2 := (World.frozen?_setCell (w1.setCell ⟨w.heap.size + 1 + 1, 0, none⟩ (.int .i64 0)) ⟨w.heap.size + 1 + 1, 1, none⟩ ⟨w.heap.size + 1 + 1, 0, none⟩ (.int .i64 0)).trans ((World.frozen?_setCell _ _ _ _).trans z2)
  have f3 := (World.frozen?_setCell (w1.setCell ⟨w.heap.size + 1 + 1, 0, none⟩ (.int .i64 0)) ⟨w.heap.size + 1 + 1, 1, none⟩ ⟨w.heap.size + 1 + 1, 1, none⟩ (.int .i64 0)).trans ((World.frozen?_setCell _ _ _ _).trans z3)
  generalize ((w1.setCell ⟨w.heap.size + 1 + 1, 0, none⟩ (.int .i64 0)).setCell ⟨w.heap.size + 1 + 1, 1, none⟩ (.int .i64 0)) = w2 at *
  clear c1 c2 c3 z1 z2 z3 hz hb2
  obtain ⟨g0, g1, g2⟩ := cells3 (w := w2) (b := w.heap.size + 1) (b' := w.heap.size + 1 + 1) (by omega) (.int .i64 v) (.int .i64 0) (.int .i64 0) e0 e1 e2
  have G : Hid (_ ∧ _ ∧ _) := ⟨g0, g1, g2⟩
  clear g0 g1 g2
  go_region
  all_goals go_wp2
  obtain ⟨g0, g1, g2⟩ := G.out
  refine bodyPost_ret (v := .tuple #[.int .i64 v, .agg #[.int .i64 0, .int .i64 0], .bool false]) (by simp [results, Try.results24, go_sem, g0, g1, g2]) rfl ⟨rfl, ?_⟩
  exact (((hbw.setCell (by simp) _).setCell (by simp; omega) _).setCell (by simp; omega) _).drew

set_option maxHeartbeats 1000000 in
theorem attempt24_throws (g : FuncId) (fi ca : Array Value) (a c : Int) (w : World)
    (hen : ∀ w : World, (callFunc g (fi ++ ca)).run Try.prog w = .ok (.enter g (fi ++ ca)) w)
    (hf : ∀ w : World, Calls Try.prog g (fi ++ ca) w fun e w1 => e = pnc a c ∧ Below w.heap.size w w1) :
    Calls Try.prog 24 #[.func (.func g) fi ca] w fun e w' => e = tell 0 a c true ∧ Below w.heap.size w w' := by
  have hmf := make_func
  have heq := eq_func_nil_31
  go_enter Try.func24, Try.ntmps24
  go_wp2_with fail
  refine (catch28_throws g fi ca ⟨w.heap.size, 0, none⟩ (w.heap.size + 1) a c _ (by simp [go_sem]) hen hf).mono ?_
  rintro e w1 ⟨rfl, hb1⟩
  clear hen hf hmf heq
  obtain ⟨hc, hfz⟩ := bcell hb1
  have hz := hb1.size
  simp at hz
  have c1 : w1.cell? ⟨w.heap.size + 1, 0, none⟩ = some (.int .i64 0) := by rw [hc _ _ (by simp)]; simp [go_sem]
  have z1 : w1.frozen? ⟨w.heap.size + 1, 0, none⟩ = false := by rw [hfz _ _ (by simp)]; simp [go_sem]
  have c2 : w1.cell? ⟨w.heap.size + 1 + 1, 0, none⟩ = some (.int .i64 0) := by rw [hc _ _ (by simp)]; simp [go_sem]
  have c3 : w1.cell? ⟨w.heap.size + 1 + 1, 1, none⟩ = some (.int .i64 0) := by rw [hc _ _ (by simp)]; simp [go_sem]
  have z2 : w1.frozen? ⟨w.heap.size + 1 + 1, 0, none⟩ = false := by rw [hfz _ _ (by simp)]; simp [go_sem]
  have z3 : w1.frozen? ⟨w.heap.size + 1 + 1, 1, none⟩ = false := by rw [hfz _ _ (by simp)]; simp [go_sem]
  clear hc hfz
  have hb2 := hb1.mono (B' := w.heap.size) (by simp; omega)
  clear hb1
  go_wp2_with fail
  obtain ⟨e1, e2⟩ := cells2 (.int .i64 a) (.int .i64 c) c2 c3
  have e0 := (other2 (w := w1) (b := w.heap.size + 1) (b' := w.heap.size + 1 + 1) (by omega) (.int .i64 a) (.int .i64 c) 0).trans c1
  have hbw : Below w.heap.size w ((w1.setCell ⟨w.heap.size + 1 + 1, 0, none⟩ (.int .i64 a)).setCell ⟨w.heap.size + 1 + 1, 1, none⟩ (.int .i64 c)) :=
    (((((Below.refl _ _).alloc (Nat.le_refl _) _).alloc (by simp) _).alloc (by simp; omega) _).trans hb2 |>.setCell (by simp; omega) _).setCell (by simp; omega) _
  have f1 := (World.frozen?_setCell (w1.setCell ⟨w.heap.size + 1 + 1, 0, none⟩ (.int .i64 a)) ⟨w.heap.size + 1 + 1, 1, none⟩ ⟨w.heap.size + 1, 0, none⟩ (.int .i64 c)).trans ((World.frozen?_setCell _ _ _ _).trans z1)
  have f2 := (World.frozen?_setCell (w1.setCell ⟨w.heap.size + 1 + 1, 0, none⟩ (.int .i64 a)) ⟨w.heap.size + 1 + 1, 1, none⟩ ⟨w.heap.size + 1 + 1, 0, none⟩ (.int .i64 c)).trans ((World.frozen?_setCell _ _ _ _).trans z2)
  have f3 := (World.frozen?_setCell (w1.setCell ⟨w.heap.size + 1 + 1, 0, none⟩ (.int .i64 a)) ⟨w.heap.size + 1 + 1, 1, none⟩ ⟨w.heap.size + 1 + 1, 1, none⟩ (.int .i64 c)).trans ((World.frozen?_setCell _ _ _ _).trans z3)
  generalize ((w1.setCell ⟨w.heap.size + 1 + 1, 0, none⟩ (.int .i64 a)).setCell ⟨w.heap.size + 1 + 1, 1, none⟩ (.int .i64 c)) = w2 at *
  clear c1 c2 c3 z1 z2 z3 hz hb2
  obtain ⟨g0, g1, g2⟩ := cells3 (w := w2) (b := w.heap.size + 1) (b' := w.heap.size + 1 + 1) (by omega) (.int .i64 0) (.int .i64 a) (.int .i64 c) e0 e1 e2
  have G : Hid (_ ∧ _ ∧ _) := ⟨g0, g1, g2⟩
  clear g0 g1 g2
  go_region
  all_goals go_wp2
  obtain ⟨g0, g1, g2⟩ := G.out
  refine bodyPost_ret (v := .tuple #[.int .i64 0, .agg #[.int .i64 a, .int .i64 c], .bool true]) (by simp [results, Try.results24, go_sem, g0, g1, g2]) rfl ⟨rfl, ?_⟩
  exact (((hbw.setCell (by simp) _).setCell (by simp; omega) _).setCell (by simp; omega) _).drew

set_option maxHeartbeats 1000000 in
theorem attempt24_nil (w : World) :
    Calls Try.prog 24 #[.nilFunc] w fun e w' => e = tell 0 0 1 true ∧ Below w.heap.size w w' := by
  have heq := eq_nil_nil_31
  go_enter Try.func24, Try.ntmps24
  go_wp2_with fail
  refine (catch_nil _).mono ?_
  rintro e w1 ⟨rfl, hw⟩
  have hb1 : Below (((w.alloc (.cells #[.nilFunc] 31)).alloc (.cells #[.int .i64 0] 3)).alloc (.cells #[.int .i64 0, .int .i64 0] 26)).heap.size (((w.alloc (.cells #[.nilFunc] 31)).alloc (.cells #[.int .i64 0] 3)).alloc (.cells #[.int .i64 0, .int .i64 0] 26)) w1 := by
    rw [hw]; exact ((Below.refl _ _).alloc (Nat.le_refl _) _).alloc (by simp) _
  clear heq hw
  obtain ⟨hc, hfz⟩ := bcell hb1
  have hz := hb1.size
  simp at hz
  have c1 : w1.cell? ⟨w.heap.size + 1, 0, none⟩ = some (.int .i64 0) := by rw [hc _ _ (by simp)]; simp [go_sem]
  have z1 : w1.frozen? ⟨w.heap.size + 1, 0, none⟩ = false := by rw [hfz _ _ (by simp)]; simp [go_sem]
  have c2 : w1.cell? ⟨w.heap.size + 1 + 1, 0, none⟩ = some (.int .i64 0) := by rw [hc _ _ (by simp)]; simp [go_sem]
  have c3 : w1.cell? ⟨w.heap.size + 1 + 1, 1, none⟩ = some (.int .i64 0) := by rw [hc _ _ (by simp)]; simp [go_sem]
  have z2 : w1.frozen? ⟨w.heap.size + 1 + 1, 0, none⟩ = false := by rw [hfz _ _ (by simp)]; simp [go_sem]
  have z3 : w1.frozen? ⟨w.heap.size + 1 + 1, 1, none⟩ = false := by rw [hfz _ _ (by simp)]; simp [go_sem]
  clear hc hfz
  have hb2 := hb1.mono (B' := w.heap.size) (by simp; omega)
  clear hb1
  go_wp2_with fail
  obtain ⟨e1, e2⟩ := cells2 (.int .i64 0) (.int .i64 1) c2 c3
  have e0 := (other2 (w := w1) (b := w.heap.size + 1) (b' := w.heap.size + 1 + 1) (by omega) (.int .i64 0) (.int .i64 1) 0).trans c1
  have hbw : Below w.heap.size w ((w1.setCell ⟨w.heap.size + 1 + 1, 0, none⟩ (.int .i64 0)).setCell ⟨w.heap.size + 1 + 1, 1, none⟩ (.int .i64 1)) :=
    (((((Below.refl _ _).alloc (Nat.le_refl _) _).alloc (by simp) _).alloc (by simp; omega) _).trans hb2 |>.setCell (by simp; omega) _).setCell (by simp; omega) _
  have f1 := (World.frozen?_setCell (w1.setCell ⟨w.heap.size + 1 + 1, 0, none⟩ (.int .i64 0)) ⟨w.heap.size + 1 + 1, 1, none⟩ ⟨w.heap.size + 1, 0, none⟩ (.int .i64 1)).trans ((World.frozen?_setCell _ _ _ _).trans z1)
  have f2 := (World.frozen?_setCell (w1.setCell ⟨w.heap.size + 1 + 1, 0, none⟩ (.int .i64 0)) ⟨w.heap.size + 1 + 1, 1, none⟩ ⟨w.heap.size + 1 + 1, 0, none⟩ (.int .i64 1)).trans ((World.frozen?_setCell _ _ _ _).trans z2)
  have f3 := (World.frozen?_setCell (w1.setCell ⟨w.heap.size + 1 + 1, 0, none⟩ (.int .i64 0)) ⟨w.heap.size + 1 + 1, 1, none⟩ ⟨w.heap.size + 1 + 1, 1, none⟩ (.int .i64 1)).trans ((World.frozen?_setCell _ _ _ _).trans z3)
  generalize ((w1.setCell ⟨w.heap.size + 1 + 1, 0, none⟩ (.int .i64 0)).setCell ⟨w.heap.size + 1 + 1, 1, none⟩ (.int .i64 1)) = w2 at *
  clear c1 c2 c3 z1 z2 z3 hz hb2
  obtain ⟨g0, g1, g2⟩ := cells3 (w := w2) (b := w.heap.size + 1) (b' := w.heap.size + 1 + 1) (by omega) (.int .i64 0) (.int .i64 0) (.int .i64 1) e0 e1 e2
  have G : Hid (_ ∧ _ ∧ _) := ⟨g0, g1, g2⟩
  clear g0 g1 g2
  go_region
  all_goals go_wp2
  obtain ⟨g0, g1, g2⟩ := G.out
  refine bodyPost_ret (v := .tuple #[.int .i64 0, .agg #[.int .i64 0, .int .i64 1], .bool true]) (by simp [results, Try.results24, go_sem, g0, g1, g2]) rfl ⟨rfl, ?_⟩
  exact (((hbw.setCell (by simp) _).setCell (by simp; omega) _).setCell (by simp; omega) _).drew


theorem eq_func_nil_44 (fn : Fn) (fi ca : Array Value) (w : World) : (binOp .eql 44 (.func fn fi ca) .nilFunc).run Try.prog w = .ok (.bool false) w := by kernel_rfl
theorem enter_29 (a b : Value) (w : World) : (callFunc 29 (#[] ++ #[a, b])).run Try.prog w = .ok (.enter 29 (#[] ++ #[a, b])) w := by simp [go_sem]

set_option maxHeartbeats 400000 in
theorem closure29_returns (g : FuncId) (fi ca : Array Value) (p : Addr) (b : Nat) (x : Value) (v : Int) (w : World) (hp : w.cell? p = some (.func (.func g) fi ca)) (hb : w.cell? ⟨b, 0, none⟩ = some x) (hz : w.frozen? ⟨b, 0, none⟩ = false)
    (hen : ∀ w : World, (callFunc g (fi ++ ca)).run Try.prog w = .ok (.enter g (fi ++ ca)) w)
    (hf : ∀ w : World, Calls Try.prog g (fi ++ ca) w fun e w1 => e = .returned (.int .i64 v) ∧ Below w.heap.size w w1) :
    Calls Try.prog 29 #[.pointer (some p), .pointer (some ⟨b, 0, none⟩)] w fun e w' => e = .returned (.tuple #[]) ∧ ∃ w1, Below w.heap.size w w1 ∧ w' = w1.setCell ⟨b, 0, none⟩ (.int .i64 v) := by
  have hbb : b < w.heap.size := World.block_lt_of_cell? w ⟨b, 0, none⟩ hb
  go_enter Try.func29, Try.ntmps29
  go_wp2_with fail
  refine (hf w).mono ?_
  rintro e w1 ⟨rfl, hb1⟩
  have hb' : w1.cell? ⟨b, 0, none⟩ = some x := (hb1.cell (p := ⟨b, 0, none⟩) hbb).trans hb
  have hz' : w1.frozen? ⟨b, 0, none⟩ = false := (hb1.frozen (p := ⟨b, 0, none⟩) hbb).trans hz
  clear hen hf hp hb hz
  go_wp2
  go_end0
  exact ⟨rfl, w1, hb1, rfl⟩

set_option maxHeartbeats 400000 in
theorem closure29_throws (g : FuncId) (fi ca : Array Value) (p : Addr) (b : Nat) (a c : Int) (w : World) (hp : w.cell? p = some (.func (.func g) fi ca))
    (hen : ∀ w : World, (callFunc g (fi ++ ca)).run Try.prog w = .ok (.enter g (fi ++ ca)) w)
    (hf : ∀ w : World, Calls Try.prog g (fi ++ ca) w fun e w1 => e = pnc a c ∧ Below w.heap.size w w1) :
    Calls Try.prog 29 #[.pointer (some p), .pointer (some ⟨b, 0, none⟩)] w fun e w' => e = pnc a c ∧ Below w.heap.size w w' := by
  go_enter Try.func29, Try.ntmps29
  go_wp2_with fail
  refine (hf w).mono ?_
  rintro e w1 ⟨rfl, hb1⟩
  exact ⟨rfl, rfl, hb1⟩

/-- Catch over that closure: the variable at b is set, or nothing older turns. -/
theorem catch29_returns (g : FuncId) (fi ca : Array Value) (p : Addr) (b : Nat) (x : Value) (v : Int) (w : World) (hp : w.cell? p = some (.func (.func g) fi ca)) (hb : w.cell? ⟨b, 0, none⟩ = some x) (hz : w.frozen? ⟨b, 0, none⟩ = false)
    (hen : ∀ w : World, (callFunc g (fi ++ ca)).run Try.prog w = .ok (.enter g (fi ++ ca)) w)
    (hf : ∀ w : World, Calls Try.prog g (fi ++ ca) w fun e w1 => e = .returned (.int .i64 v) ∧ Below w.heap.size w w1) :
    Calls Try.prog 9 #[.func (.func 29) #[] #[.pointer (some p), .pointer (some ⟨b, 0, none⟩)]] w fun e w' => e = .returned (.tuple #[.agg #[.int .i64 0, .int .i64 0], .bool false]) ∧ Sets b (.int .i64 v) w w' := by
  have hbb : b < w.heap.size := World.block_lt_of_cell? w ⟨b, 0, none⟩ hb
  have hpb : p.block < w.heap.size := World.block_lt_of_cell? w p hp
  have hcw : Below w.heap.size w (cw w) := ((Below.refl _ _).alloc (Nat.le_refl _) _).alloc (by simp) _
  refine (catch_returns 29 #[] #[.pointer (some p), .pointer (some ⟨b, 0, none⟩)] w (fun w1 => ∃ w0, Below (w.heap.size + 2) (cw w) w0 ∧ w1 = w0.setCell ⟨b, 0, none⟩ (.int .i64 v)) ?_ (enter_29 _ _) ?_).mono ?_
  · rintro w1 ⟨w0, h, rfl⟩
    obtain ⟨k0, k1, k2, k3, k4, k5, k6⟩ := keeps_below w w0 h
    refine ⟨?_, ?_, ?_, ?_, ?_, ?_, by simpa [World.setCell] using k6⟩
    · rw [World.cell?_setCell_other _ _ _ _ (by simp <;> omega)]; exact k0
    · rw [World.cell?_setCell_other _ _ _ _ (by simp <;> omega)]; exact k1
    · rw [World.cell?_setCell_other _ _ _ _ (by simp <;> omega)]; exact k2
    · rw [World.frozen?_setCell]; exact k3
    · rw [World.frozen?_setCell]; exact k4
    · rw [World.frozen?_setCell]; exact k5
  · refine (closure29_returns g fi ca p b x v (cw w) ((hcw.cell hpb).trans hp) ((hcw.cell (p := ⟨b, 0, none⟩) hbb).trans hb) ((hcw.frozen (p := ⟨b, 0, none⟩) hbb).trans hz) hen hf).mono ?_
    rintro e w1 ⟨rfl, w0, h, rfl⟩
    exact ⟨⟨_, rfl⟩, w0, h.mono (by simp), rfl⟩
  · rintro e w' ⟨rfl, w1, ⟨w0, h, rfl⟩, rfl⟩
    refine ⟨rfl, ?_⟩
    have hs := h.size
    simp at hs
    have hw0 : Below w.heap.size w w0 := hcw.trans (h.mono (by omega))
    refine ⟨h.os, h.tape, h.output, by simp [World.setCell]; omega, ?_, ?_, ?_⟩
    · intro k hk hne
      rw [Below.heap_setCell _ _ _ _ (by simp; omega), Below.heap_setCell _ _ _ _ (by simp; omega), Below.heap_setCell _ _ _ _ (by simp; omega), Below.heap_setCell _ _ _ _ (by simpa using hne)]
      exact hw0.block k hk
    · rw [World.cell?_setCell_other _ _ _ _ (by simp <;> omega), World.cell?_setCell_other _ _ _ _ (by simp <;> omega), World.cell?_setCell_other _ _ _ _ (by simp <;> omega)]
      exact World.cell?_setCell_same _ _ _ ((hw0.cell (p := ⟨b, 0, none⟩) hbb).trans hb)
    · rw [World.frozen?_setCell, World.frozen?_setCell, World.frozen?_setCell, World.frozen?_setCell]
      exact (hw0.frozen (p := ⟨b, 0, none⟩) hbb).trans hz

theorem catch29_throws (g : FuncId) (fi ca : Array Value) (p : Addr) (b : Nat) (a c : Int) (w : World) (hp : w.cell? p = some (.func (.func g) fi ca))
    (hen : ∀ w : World, (callFunc g (fi ++ ca)).run Try.prog w = .ok (.enter g (fi ++ ca)) w)
    (hf : ∀ w : World, Calls Try.prog g (fi ++ ca) w fun e w1 => e = pnc a c ∧ Below w.heap.size w w1) :
    Calls Try.prog 9 #[.func (.func 29) #[] #[.pointer (some p), .pointer (some ⟨b, 0, none⟩)]] w fun e w' => e = .returned (.tuple #[.agg #[.int .i64 a, .int .i64 c], .bool true]) ∧ Below w.heap.size w w' := by
  have hpb : p.block < w.heap.size := World.block_lt_of_cell? w p hp
  have hcw : Below w.heap.size w (cw w) := ((Below.refl _ _).alloc (Nat.le_refl _) _).alloc (by simp) _
  refine (catch_throws 29 #[] #[.pointer (some p), .pointer (some ⟨b, 0, none⟩)] w a c (fun w1 => Below (w.heap.size + 2) (cw w) w1) (fun w1 h => keeps_below w w1 h) (enter_29 _ _) ?_).mono ?_
  · refine (closure29_throws g fi ca p b a c (cw w) ((hcw.cell hpb).trans hp) hen hf).mono ?_
    rintro e w1 ⟨rfl, h⟩
    exact ⟨rfl, h.mono (by simp)⟩
  · rintro e w' ⟨rfl, w1, h, rfl⟩
    refine ⟨rfl, ?_⟩
    have hs := h.size
    simp at hs
    exact (((((hcw.trans (h.mono (by omega)))).alloc (by omega) _).alloc (by simp; omega) _).setCell (by simp) _).setCell (by simp) _
theorem eq_nil_nil_44 (w : World) : (binOp .eql 44 .nilFunc .nilFunc).run Try.prog w = .ok (.bool true) w := by kernel_rfl

set_option maxHeartbeats 1000000 in
theorem attempt27_returns (g : FuncId) (fi ca : Array Value) (v : Int) (w : World)
    (hen : ∀ w : World, (callFunc g (fi ++ ca)).run Try.prog w = .ok (.enter g (fi ++ ca)) w)
    (hf : ∀ w : World, Calls Try.prog g (fi ++ ca) w fun e w1 => e = .returned (.int .i64 v) ∧ Below w.heap.size w w1) :
    Calls Try.prog 27 #[.func (.func g) fi ca] w fun e w' => e = tell v 0 0 false ∧ Below w.heap.size w w' := by
  have hmf := make_func
  have heq := eq_func_nil_44
  go_enter Try.func27, Try.ntmps27
  go_wp2_with fail
  refine (catch29_returns g fi ca ⟨w.heap.size, 0, none⟩ (w.heap.size + 1) (.int .i64 0) v _ (by simp [go_sem]) (by simp [go_sem]) (by simp [go_sem]) hen hf).mono ?_
  rintro e w1 ⟨rfl, hb1⟩
  clear hen hf hmf heq
  obtain ⟨hc, hfz⟩ := sets_cell hb1
  have hz := hb1.size
  simp at hz
  have c1 := hb1.cell
  have z1 := hb1.fro
  have c2 : w1.cell? ⟨w.heap.size + 1 + 1, 0, none⟩ = some (.int .i64 0) := by rw [hc _ _ (by simp) (by simp)]; simp [go_sem]
  have c3 : w1.cell? ⟨w.heap.size + 1 + 1, 1, none⟩ = some (.int .i64 0) := by rw [hc _ _ (by simp) (by simp)]; simp [go_sem]
  have z2 : w1.frozen? ⟨w.heap.size + 1 + 1, 0, none⟩ = false := by rw [hfz _ _ (by simp) (by simp)]; simp [go_sem]
  have z3 : w1.frozen? ⟨w.heap.size + 1 + 1, 1, none⟩ = false := by rw [hfz _ _ (by simp) (by simp)]; simp [go_sem]
  clear hc hfz
  have hb2 := sets_below hb1 (B := w.heap.size) (by simp; omega) (by omega)
  clear hb1
  go_wp2_with fail
  obtain ⟨e1, e2⟩ := cells2 (.int .i64 0) (.int .i64 0) c2 c3
  have e0 := (other2 (w := w1) (b := w.heap.size + 1) (b' := w.heap.size + 1 + 1) (by omega) (.int .i64 0) (.int .i64 0) 0).trans c1
  have hbw : Below w.heap.size w ((w1.setCell ⟨w.heap.size + 1 + 1, 0, none⟩ (.int .i64 0)).setCell ⟨w.heap.size + 1 + 1, 1, none⟩ (.int .i64 0)) :=
    (((((Below.refl _ _).alloc (Nat.le_refl _) _).alloc (by simp) _).alloc (by simp; omega) _).trans hb2 |>.setCell (by simp; omega) _).setCell (by simp; omega) _
  have f1 := (World.frozen?_setCell (w1.setCell ⟨w.heap.size + 1 + 1, 0, none⟩ (.int .i64 0)) ⟨w.heap.size + 1 + 1, 1, none⟩ ⟨w.heap.size + 1, 0, none⟩ (.int .i64 0)).trans ((World.frozen?_setCell _ _ _ _).trans z1)
  have f2 := (World.frozen?_setCell (w1.setCell ⟨w.heap.size + 1 + 1, 0, none⟩ (.int .i64 0)) ⟨w.heap.size + 1 + 1, 1, none⟩ ⟨w.heap.size + 1 + 1, 0, none⟩ (.int .i64 0)).trans ((World.frozen?_setCell _ _ _ _).trans z2)
  have f3 := (World.frozen?_setCell (w1.setCell ⟨w.heap.size + 1 + 1, 0, none⟩ (.int .i64 0)) ⟨w.heap.size + 1 + 1, 1, none⟩ ⟨w.heap.size + 1 + 1, 1, none⟩ (.int .i64 0)).trans ((World.frozen?_setCell _ _ _ _).trans z3)
  generalize ((w1.setCell ⟨w.heap.size + 1 + 1, 0, none⟩ (.int .i64 0)).setCell ⟨w.heap.size + 1 + 1, 1, none⟩ (.int .i64 0)) = w2 at *
  clear c1 c2 c3 z1 z2 z3 hz hb2
  obtain ⟨g0, g1, g2⟩ := cells3 (w := w2) (b := w.heap.size + 1) (b' := w.heap.size + 1 + 1) (by omega) (.int .i64 v) (.int .i64 0) (.int .i64 0) e0 e1 e2
  have G : Hid (_ ∧ _ ∧ _) := ⟨g0, g1, g2⟩
  clear g0 g1 g2
  go_region
  all_goals go_wp2
  obtain ⟨g0, g1, g2⟩ := G.out
  refine bodyPost_ret (v := .tuple #[.int .i64 v, .agg #[.int .i64 0, .int .i64 0], .bool false]) (by simp [results, Try.results27, go_sem, g0, g1, g2]) rfl ⟨rfl, ?_⟩
  exact (((hbw.setCell (by simp) _).setCell (by simp; omega) _).setCell (by simp; omega) _).drew

set_option maxHeartbeats 1000000 in
theorem attempt27_throws (g : FuncId) (fi ca : Array Value) (a c : Int) (w : World)
    (hen : ∀ w : World, (callFunc g (fi ++ ca)).run Try.prog w = .ok (.enter g (fi ++ ca)) w)
    (hf : ∀ w : World, Calls Try.prog g (fi ++ ca) w fun e w1 => e = pnc a c ∧ Below w.heap.size w w1) :
    Calls Try.prog 27 #[.func (.func g) fi ca] w fun e w' => e = tell 0 a c true ∧ Below w.heap.size w w' := by
  have hmf := make_func
  have heq := eq_func_nil_44
  go_enter Try.func27, Try.ntmps27
  go_wp2_with fail
  refine (catch29_throws g fi ca ⟨w.heap.size, 0, none⟩ (w.heap.size + 1) a c _ (by simp [go_sem]) hen hf).mono ?_
  rintro e w1 ⟨rfl, hb1⟩
  clear hen hf hmf heq
  obtain ⟨hc, hfz⟩ := bcell hb1
  have hz := hb1.size
  simp at hz
  have c1 : w1.cell? ⟨w.heap.size + 1, 0, none⟩ = some (.int .i64 0) := by rw [hc _ _ (by simp)]; simp [go_sem]
  have z1 : w1.frozen? ⟨w.heap.size + 1, 0, none⟩ = false := by rw [hfz _ _ (by simp)]; simp [go_sem]
  have c2 : w1.cell? ⟨w.heap.size + 1 + 1, 0, none⟩ = some (.int .i64 0) := by rw [hc _ _ (by simp)]; simp [go_sem]
  have c3 : w1.cell? ⟨w.heap.size + 1 + 1, 1, none⟩ = some (.int .i64 0) := by rw [hc _ _ (by simp)]; simp [go_sem]
  have z2 : w1.frozen? ⟨w.heap.size + 1 + 1, 0, none⟩ = false := by rw [hfz _ _ (by simp)]; simp [go_sem]
  have z3 : w1.frozen? ⟨w.heap.size + 1 + 1, 1, none⟩ = false := by rw [hfz _ _ (by simp)]; simp [go_sem]
  clear hc hfz
  have hb2 := hb1.mono (B' := w.heap.size) (by simp; omega)
  clear hb1
  go_wp2_with fail
  obtain ⟨e1, e2⟩ := cells2 (.int .i64 a) (.int .i64 c) c2 c3
  have e0 := (other2 (w := w1) (b := w.heap.size + 1) (b' := w.heap.size + 1 + 1) (by omega) (.int .i64 a) (.int .i64 c) 0).trans c1
  have hbw : Below w.heap.size w ((w1.setCell ⟨w.heap.size + 1 + 1, 0, none⟩ (.int .i64 a)).setCell ⟨w.heap.size + 1 + 1, 1, none⟩ (.int .i64 c)) :=
    (((((Below.refl _ _).alloc (Nat.le_refl _) _).alloc (by simp) _).alloc (by simp; omega) _).trans hb2 |>.setCell (by simp; omega) _).setCell (by simp; omega) _
  have f1 := (World.frozen?_setCell (w1.setCell ⟨w.heap.size + 1 + 1, 0, none⟩ (.int .i64 a)) ⟨w.heap.size + 1 + 1, 1, none⟩ ⟨w.heap.size + 1, 0, none⟩ (.int .i64 c)).trans ((World.frozen?_setCell _ _ _ _).trans z1)
  have f2 := (World.frozen?_setCell (w1.setCell ⟨w.heap.size + 1 + 1, 0, none⟩ (.int .i64 a)) ⟨w.heap.size + 1 + 1, 1, none⟩ ⟨w.heap.size + 1 + 1, 0, none⟩ (.int .i64 c)).trans ((World.frozen?_setCell _ _ _ _).trans z2)
  have f3 := (World.frozen?_setCell (w1.setCell ⟨w.heap.size + 1 + 1, 0, none⟩ (.int .i64 a)) ⟨w.heap.size + 1 + 1, 1, none⟩ ⟨w.heap.size + 1 + 1, 1, none⟩ (.int .i64 c)).trans ((World.frozen?_setCell _ _ _ _).trans z3)
  generalize ((w1.setCell ⟨w.heap.size + 1 + 1, 0, none⟩ (.int .i64 a)).setCell ⟨w.heap.size + 1 + 1, 1, none⟩ (.int .i64 c)) = w2 at *
  clear c1 c2 c3 z1 z2 z3 hz hb2
  obtain ⟨g0, g1, g2⟩ := cells3 (w := w2) (b := w.heap.size + 1) (b' := w.heap.size + 1 + 1) (by omega) (.int .i64 0) (.int .i64 a) (.int .i64 c) e0 e1 e2
  have G : Hid (_ ∧ _ ∧ _) := ⟨g0, g1, g2⟩
  clear g0 g1 g2
  go_region
  all_goals go_wp2
  obtain ⟨g0, g1, g2⟩ := G.out
  refine bodyPost_ret (v := .tuple #[.int .i64 0, .agg #[.int .i64 a, .int .i64 c], .bool true]) (by simp [results, Try.results27, go_sem, g0, g1, g2]) rfl ⟨rfl, ?_⟩
  exact (((hbw.setCell (by simp) _).setCell (by simp; omega) _).setCell (by simp; omega) _).drew

set_option maxHeartbeats 1000000 in
theorem attempt27_nil (w : World) :
    Calls Try.prog 27 #[.nilFunc] w fun e w' => e = tell 0 0 1 true ∧ Below w.heap.size w w' := by
  have heq := eq_nil_nil_44
  go_enter Try.func27, Try.ntmps27
  go_wp2_with fail
  refine (catch_nil _).mono ?_
  rintro e w1 ⟨rfl, hw⟩
  have hb1 : Below (((w.alloc (.cells #[.nilFunc] 44)).alloc (.cells #[.int .i64 0] 22)).alloc (.cells #[.int .i64 0, .int .i64 0] 26)).heap.size (((w.alloc (.cells #[.nilFunc] 44)).alloc (.cells #[.int .i64 0] 22)).alloc (.cells #[.int .i64 0, .int .i64 0] 26)) w1 := by
    rw [hw]; exact ((Below.refl _ _).alloc (Nat.le_refl _) _).alloc (by simp) _
  clear heq hw
  obtain ⟨hc, hfz⟩ := bcell hb1
  have hz := hb1.size
  simp at hz
  have c1 : w1.cell? ⟨w.heap.size + 1, 0, none⟩ = some (.int .i64 0) := by rw [hc _ _ (by simp)]; simp [go_sem]
  have z1 : w1.frozen? ⟨w.heap.size + 1, 0, none⟩ = false := by rw [hfz _ _ (by simp)]; simp [go_sem]
  have c2 : w1.cell? ⟨w.heap.size + 1 + 1, 0, none⟩ = some (.int .i64 0) := by rw [hc _ _ (by simp)]; simp [go_sem]
  have c3 : w1.cell? ⟨w.heap.size + 1 + 1, 1, none⟩ = some (.int .i64 0) := by rw [hc _ _ (by simp)]; simp [go_sem]
  have z2 : w1.frozen? ⟨w.heap.size + 1 + 1, 0, none⟩ = false := by rw [hfz _ _ (by simp)]; simp [go_sem]
  have z3 : w1.frozen? ⟨w.heap.size + 1 + 1, 1, none⟩ = false := by rw [hfz _ _ (by simp)]; simp [go_sem]
  clear hc hfz
  have hb2 := hb1.mono (B' := w.heap.size) (by simp; omega)
  clear hb1
  go_wp2_with fail
  obtain ⟨e1, e2⟩ := cells2 (.int .i64 0) (.int .i64 1) c2 c3
  have e0 := (other2 (w := w1) (b := w.heap.size + 1) (b' := w.heap.size + 1 + 1) (by omega) (.int .i64 0) (.int .i64 1) 0).trans c1
  have hbw : Below w.heap.size w ((w1.setCell ⟨w.heap.size + 1 + 1, 0, none⟩ (.int .i64 0)).setCell ⟨w.heap.size + 1 + 1, 1, none⟩ (.int .i64 1)) :=
    (((((Below.refl _ _).alloc (Nat.le_refl _) _).alloc (by simp) _).alloc (by simp; omega) _).trans hb2 |>.setCell (by simp; omega) _).setCell (by simp; omega) _
  have f1 := (World.frozen?_setCell (w1.setCell ⟨w.heap.size + 1 + 1, 0, none⟩ (.int .i64 0)) ⟨w.heap.size + 1 + 1, 1, none⟩ ⟨w.heap.size + 1, 0, none⟩ (.int .i64 1)).trans ((World.frozen?_setCell _ _ _ _).trans z1)
  have f2 := (World.frozen?_setCell (w1.setCell ⟨w.heap.size + 1 + 1, 0, none⟩ (.int .i64 0)) ⟨w.heap.size + 1 + 1, 1, none⟩ ⟨w.heap.size + 1 + 1, 0, none⟩ (.int .i64 1)).trans ((World.frozen?_setCell _ _ _ _).trans z2)
  have f3 := (World.frozen?_setCell (w1.setCell ⟨w.heap.size + 1 + 1, 0, none⟩ (.int .i64 0)) ⟨w.heap.size + 1 + 1, 1, none⟩ ⟨w.heap.size + 1 + 1, 1, none⟩ (.int .i64 1)).trans ((World.frozen?_setCell _ _ _ _).trans z3)
  generalize ((w1.setCell ⟨w.heap.size + 1 + 1, 0, none⟩ (.int .i64 0)).setCell ⟨w.heap.size + 1 + 1, 1, none⟩ (.int .i64 1)) = w2 at *
  clear c1 c2 c3 z1 z2 z3 hz hb2
  obtain ⟨g0, g1, g2⟩ := cells3 (w := w2) (b := w.heap.size + 1) (b' := w.heap.size + 1 + 1) (by omega) (.int .i64 0) (.int .i64 0) (.int .i64 1) e0 e1 e2
  have G : Hid (_ ∧ _ ∧ _) := ⟨g0, g1, g2⟩
  clear g0 g1 g2
  go_region
  all_goals go_wp2
  obtain ⟨g0, g1, g2⟩ := G.out
  refine bodyPost_ret (v := .tuple #[.int .i64 0, .agg #[.int .i64 0, .int .i64 1], .bool true]) (by simp [results, Try.results27, go_sem, g0, g1, g2]) rfl ⟨rfl, ?_⟩
  exact (((hbw.setCell (by simp) _).setCell (by simp; omega) _).setCell (by simp; omega) _).drew


end Go.Proofs.Ytnifdponeccdgaa
