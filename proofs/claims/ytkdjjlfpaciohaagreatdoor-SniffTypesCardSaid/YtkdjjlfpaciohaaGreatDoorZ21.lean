/-
  What trap's attempt and Value tell of a function value that answers a uint32, and of one that throws. Conditions: it turns rows of r alone, and leaves R, which is known of older memory alone.
  What layer 2's calls do (Next, Take, U32, Back over a cursor, or none), what Value and Catch tell of them, and that 'lives' is true. Conditions as in Cursor.
  What U32 answers: the number of the next four bytes. Conditions as in Cursor.
-/
import Derived.Test.YtkdjjlfpaciohaaGreatDoorZ3
import Derived.RegionTactic
import Derived.BigRegion
import Derived.Test.YtkdjjlfpaciohaaGreatDoorZ9
import Derived.Test.YtkdjjlfpaciohaaGreatDoorRows
import Derived.WalkKit
import Derived.WalkSpells
import Derived.WalkLawsBesides
import Derived.Laws.IdiomStrings
import Derived.Test.YtkdjjlfpaciohaaGreatDoorZ1
import Derived.LoopTactic
namespace Go.Proofs.YtkdjjlfpaciohaaGreatDoor
open Go.RowKit

theorem aU32_eq_func_nil (fn : Fn) (fi ca : Array Value) (w : World) : (binOp .eql 121 (.func fn fi ca) .nilFunc).run Tryz.prog w = .ok (.bool false) w := by kernel_rfl
theorem aU32_enter (a b : Value) (w : World) : (callFunc 175 (#[] ++ #[a, b])).run Tryz.prog w = .ok (.enter 175 (#[] ++ #[a, b])) w := by simp [go_sem]

set_option maxHeartbeats 400000 in
theorem aU32_closure_returns (g : FuncId) (fi ca : Array Value) (p : Addr) (b : Nat) (x : Value) (v : Int) (w : World) (Q : World → Prop) (hp : w.cell? p = some (.func (.func g) fi ca))
    (hQ : ∀ w1, Q w1 → w1.cell? ⟨b, 0, none⟩ = some x ∧ w1.frozen? ⟨b, 0, none⟩ = false)
    (hen : ∀ w : World, (callFunc g (fi ++ ca)).run Tryz.prog w = .ok (.enter g (fi ++ ca)) w)
    (hf : Calls Tryz.prog g (fi ++ ca) w fun e w1 => e = .returned (.int .u32 v) ∧ Q w1) :
    Calls Tryz.prog 175 #[.pointer (some p), .pointer (some ⟨b, 0, none⟩)] w fun e w' => e = .returned (.tuple #[]) ∧ ∃ w1, Q w1 ∧ w' = w1.setCell ⟨b, 0, none⟩ (.int .u32 v) := by
  go_enter Tryz.func175, Tryz.ntmps175
  go_wp2_with fail
  refine hf.mono ?_
  rintro e w1 ⟨rfl, hb1⟩
  obtain ⟨hb', hz'⟩ := hQ w1 hb1
  clear hen hf hp hQ
  go_wp2
  go_end0
  exact ⟨rfl, w1, hb1, rfl⟩

set_option maxHeartbeats 400000 in
theorem aU32_closure_throws (g : FuncId) (fi ca : Array Value) (p : Addr) (b : Nat) (a c : Int) (w : World) (Q : World → Prop) (hp : w.cell? p = some (.func (.func g) fi ca))
    (hen : ∀ w : World, (callFunc g (fi ++ ca)).run Tryz.prog w = .ok (.enter g (fi ++ ca)) w)
    (hf : Calls Tryz.prog g (fi ++ ca) w fun e w1 => e = pnc a c ∧ Q w1) :
    Calls Tryz.prog 175 #[.pointer (some p), .pointer (some ⟨b, 0, none⟩)] w fun e w' => e = pnc a c ∧ Q w' := by
  go_enter Tryz.func175, Tryz.ntmps175
  go_wp2_with fail
  refine hf.mono ?_
  rintro e w1 ⟨rfl, hb1⟩
  exact ⟨rfl, rfl, hb1⟩

/-- What attempt's own three variables are, while f runs. -/
abbrev aU32_w (g : FuncId) (fi ca : Array Value) (w : World) : World := ((w.alloc (.cells #[.func (.func g) fi ca] 121)).alloc (.cells #[.int .u32 0] 93)).alloc (.cells #[.int .i64 0, .int .i64 0] 116)

theorem aU32_w_below (g : FuncId) (fi ca : Array Value) (w : World) : Below w.heap.size w (aU32_w g fi ca w) :=
  (((Below.refl _ _).alloc (Nat.le_refl _) _).alloc (by simp) _).alloc (by simp; omega) _

/-- Behind Catch: attempt's variables, and that nothing else has turned but rows of r. -/
structure AU32Got (v : Value) (r : List Nat) (w w1 : World) : Prop where
  mv : Mv w.heap.size r w w1
  size : w.heap.size + 3 ≤ w1.heap.size
  c1 : w1.cell? ⟨w.heap.size + 1, 0, none⟩ = some v
  c2 : w1.cell? ⟨w.heap.size + 1 + 1, 0, none⟩ = some (.int .i64 0)
  c3 : w1.cell? ⟨w.heap.size + 1 + 1, 1, none⟩ = some (.int .i64 0)
  z1 : w1.frozen? ⟨w.heap.size + 1, 0, none⟩ = false
  z2 : w1.frozen? ⟨w.heap.size + 1 + 1, 0, none⟩ = false
  z3 : w1.frozen? ⟨w.heap.size + 1 + 1, 1, none⟩ = false

theorem aU32_got (g : FuncId) (fi ca : Array Value) (r : List Nat) (w w1 : World) (hr : ∀ x ∈ r, x < w.heap.size) (h : Mv (w.heap.size + 3) r (aU32_w g fi ca w) w1) :
    AU32Got (.int .u32 0) r w w1 := by
  have hs := h.size
  simp at hs
  have n1 : w.heap.size + 1 ∉ r := fun hm => by have := hr _ hm; omega
  have n2 : w.heap.size + 1 + 1 ∉ r := fun hm => by have := hr _ hm; omega
  refine ⟨(Mv.of_below (aU32_w_below g fi ca w) r).trans (h.mono (by omega) fun x hx => .inl hx), by omega, ?_, ?_, ?_, ?_, ?_, ?_⟩
  · rw [h.cell (by simp) n1]; simp [go_sem]
  · rw [h.cell (by simp) n2]; simp [go_sem]
  · rw [h.cell (by simp) n2]; simp [go_sem]
  · rw [h.frozen (by simp) n1]; simp [go_sem]
  · rw [h.frozen (by simp) n2]; simp [go_sem]
  · rw [h.frozen (by simp) n2]; simp [go_sem]

theorem AU32Got.set {v : Value} {r : List Nat} {w w1 : World} (h : AU32Got v r w w1) (u : Value) : AU32Got u r w (w1.setCell ⟨w.heap.size + 1, 0, none⟩ u) := by
  obtain ⟨m, s, c1, c2, c3, z1, z2, z3⟩ := h
  refine ⟨m.setCell (.inr (by simp)) _, by simpa [World.setCell] using s, World.cell?_setCell_same _ _ _ c1, ?_, ?_, ?_, ?_, ?_⟩
  · rw [World.cell?_setCell_other _ _ _ _ (by simp)]; exact c2
  · rw [World.cell?_setCell_other _ _ _ _ (by simp)]; exact c3
  · rw [World.frozen?_setCell]; exact z1
  · rw [World.frozen?_setCell]; exact z2
  · rw [World.frozen?_setCell]; exact z3

theorem AU32Got.below {v : Value} {r : List Nat} {w w1 w2 : World} (h : AU32Got v r w w1) (hb : Below (w.heap.size + 3) w1 w2) : AU32Got v r w w2 := by
  obtain ⟨m, s, c1, c2, c3, z1, z2, z3⟩ := h
  have := hb.size
  exact ⟨m.trans (Mv.of_below (hb.mono (by omega)) r), by omega, (hb.cell (p := ⟨w.heap.size + 1, 0, none⟩) (by simp)).trans c1, (hb.cell (p := ⟨w.heap.size + 1 + 1, 0, none⟩) (by simp)).trans c2,
    (hb.cell (p := ⟨w.heap.size + 1 + 1, 1, none⟩) (by simp)).trans c3, (hb.frozen (p := ⟨w.heap.size + 1, 0, none⟩) (by simp)).trans z1, (hb.frozen (p := ⟨w.heap.size + 1 + 1, 0, none⟩) (by simp)).trans z2,
    (hb.frozen (p := ⟨w.heap.size + 1 + 1, 1, none⟩) (by simp)).trans z3⟩

/-- Catch over the closure. -/
theorem aU32_catch_returns (g : FuncId) (fi ca : Array Value) (v : Int) (w : World) (r : List Nat) (R : World → Prop) (hr : ∀ x ∈ r, x < w.heap.size)
    (hR : ∀ W1 W2, Below w.heap.size W1 W2 → R W1 → R W2) (hen : ∀ w : World, (callFunc g (fi ++ ca)).run Tryz.prog w = .ok (.enter g (fi ++ ca)) w)
    (hf : ∀ W, Below w.heap.size w W → Calls Tryz.prog g (fi ++ ca) W fun e w1 => e = .returned (.int .u32 v) ∧ Mv W.heap.size r W w1 ∧ R w1) :
    Calls Tryz.prog 174 #[.func (.func 175) #[] #[.pointer (some ⟨w.heap.size, 0, none⟩), .pointer (some ⟨w.heap.size + 1, 0, none⟩)]] (aU32_w g fi ca w)
      fun e w' => e = .returned (.tuple #[flt 0 0, .bool false]) ∧ AU32Got (.int .u32 v) r w w' ∧ R w' := by
  have hw := aU32_w_below g fi ca w
  have hsz : (aU32_w g fi ca w).heap.size = w.heap.size + 3 := by simp
  refine (catch_returns 175 #[] #[.pointer (some ⟨w.heap.size, 0, none⟩), .pointer (some ⟨w.heap.size + 1, 0, none⟩)] (aU32_w g fi ca w)
    (fun w1 => ∃ w0, (Mv (w.heap.size + 5) r (cw (aU32_w g fi ca w)) w0 ∧ R w0) ∧ w1 = w0.setCell ⟨w.heap.size + 1, 0, none⟩ (.int .u32 v)) ?_ (aU32_enter _ _) ?_).mono ?_
  · rintro w1 ⟨w0, ⟨h, _⟩, rfl⟩
    rw [hsz]
    obtain ⟨k0, k1, k2, k3, k4, k5, k6⟩ := keeps_mv (aU32_w g fi ca w) w0 r (fun x hx => by have := hr x hx; simp; omega) (h.mono (by simp) fun x hx => .inl hx)
    rw [hsz] at k0 k1 k2 k3 k4 k5 k6
    refine ⟨?_, ?_, ?_, ?_, ?_, ?_, by simpa [World.setCell] using k6⟩
    · rw [World.cell?_setCell_other _ _ _ _ (by simp)]; exact k0
    · rw [World.cell?_setCell_other _ _ _ _ (by simp)]; exact k1
    · rw [World.cell?_setCell_other _ _ _ _ (by simp)]; exact k2
    · rw [World.frozen?_setCell]; exact k3
    · rw [World.frozen?_setCell]; exact k4
    · rw [World.frozen?_setCell]; exact k5
  · have hcw := cw_below (aU32_w g fi ca w)
    refine (aU32_closure_returns g fi ca ⟨w.heap.size, 0, none⟩ (w.heap.size + 1) (.int .u32 0) v (cw (aU32_w g fi ca w)) (fun w0 => Mv (w.heap.size + 5) r (cw (aU32_w g fi ca w)) w0 ∧ R w0) ?_ ?_ hen ?_).mono ?_
    · rw [hcw.cell (by simp; omega)]; simp [go_sem]
    · rintro w1 ⟨h, _⟩
      have n1 : w.heap.size + 1 ∉ r := fun hm => by have := hr _ hm; omega
      exact ⟨by rw [h.cell (by simp) n1]; simp [go_sem], by rw [h.frozen (by simp) n1]; simp [go_sem]⟩
    · refine (hf _ (hw.trans (hcw.mono (by simp; omega)))).mono ?_
      rintro e w1 ⟨h1, h2, h3⟩
      exact ⟨h1, h2.mono (by simp) fun x hx => .inl hx, h3⟩
    · rintro e w1 ⟨rfl, w0, h, rfl⟩
      exact ⟨⟨_, rfl⟩, w0, h, rfl⟩
  · rintro e w' ⟨rfl, w1, ⟨w0, ⟨h, hq⟩, rfl⟩, rfl⟩
    have hcw := cw_below (aU32_w g fi ca w)
    have hm : Mv (w.heap.size + 3) r (aU32_w g fi ca w) w0 := (Mv.of_below (hcw.mono (by simp)) r).trans (h.mono (by omega) fun x hx => .inl hx)
    have hg := (aU32_got g fi ca r w w0 hr hm).set (.int .u32 v)
    have hs := hm.size
    simp at hs
    rw [hsz]
    have hb : ∀ B, B ≤ w.heap.size + 3 → Below B (w0.setCell ⟨w.heap.size + 1, 0, none⟩ (.int .u32 v)) ((((w0.setCell ⟨w.heap.size + 1, 0, none⟩ (.int .u32 v)).setCell ⟨w.heap.size + 3, 0, none⟩ (.int .i64 0)).setCell ⟨w.heap.size + 3, 1, none⟩ (.int .i64 0)).setCell ⟨w.heap.size + 3 + 1, 0, none⟩ (.bool false)) :=
      fun B hB => (((Below.refl _ _).setCell (by simp; omega) _).setCell (by simp; omega) _).setCell (by simp; omega) _
    exact ⟨rfl, hg.below (hb _ (Nat.le_refl _)), hR _ _ (hb _ (by omega)) (hR _ _ ((Below.refl _ _).setCell (by simp) _) hq)⟩

theorem aU32_catch_throws (g : FuncId) (fi ca : Array Value) (a c : Int) (w : World) (r : List Nat) (R : World → Prop) (hr : ∀ x ∈ r, x < w.heap.size)
    (hR : ∀ W1 W2, Below w.heap.size W1 W2 → R W1 → R W2) (hen : ∀ w : World, (callFunc g (fi ++ ca)).run Tryz.prog w = .ok (.enter g (fi ++ ca)) w)
    (hf : ∀ W, Below w.heap.size w W → Calls Tryz.prog g (fi ++ ca) W fun e w1 => e = pnc a c ∧ Mv W.heap.size r W w1 ∧ R w1) :
    Calls Tryz.prog 174 #[.func (.func 175) #[] #[.pointer (some ⟨w.heap.size, 0, none⟩), .pointer (some ⟨w.heap.size + 1, 0, none⟩)]] (aU32_w g fi ca w)
      fun e w' => e = .returned (.tuple #[flt a c, .bool true]) ∧ AU32Got (.int .u32 0) r w w' ∧ R w' := by
  have hw := aU32_w_below g fi ca w
  have hsz : (aU32_w g fi ca w).heap.size = w.heap.size + 3 := by simp
  refine (catch_mv_throws 175 #[] #[.pointer (some ⟨w.heap.size, 0, none⟩), .pointer (some ⟨w.heap.size + 1, 0, none⟩)] (aU32_w g fi ca w) a c r R (fun x hx => by have := hr x hx; simp; omega)
    (fun W1 W2 hb h => hR W1 W2 (hb.mono (by simp; omega)) h) (aU32_enter _ _) ?_).mono ?_
  · intro W hW
    refine aU32_closure_throws g fi ca ⟨w.heap.size, 0, none⟩ (w.heap.size + 1) a c W (fun w1 => Mv W.heap.size r W w1 ∧ R w1) ?_ hen (hf _ (hw.trans (hW.mono (by simp; omega))))
    rw [hW.cell (by simp; omega)]; simp [go_sem]
  · rintro e w' ⟨rfl, h, hq⟩
    exact ⟨rfl, aU32_got g fi ca r w w' hr (h.mono (by simp) fun x hx => .inl hx), hq⟩

/-- Three cells of two blocks, written one behind the other. -/
theorem aU32_cells3 {w : World} {b b' : Nat} (hne : b ≠ b') {x0 y0 z0 : Value} (x y z : Value) (h0 : w.cell? ⟨b, 0, none⟩ = some x0) (h1 : w.cell? ⟨b', 0, none⟩ = some y0) (h2 : w.cell? ⟨b', 1, none⟩ = some z0) :
    (((w.setCell ⟨b, 0, none⟩ x).setCell ⟨b', 0, none⟩ y).setCell ⟨b', 1, none⟩ z).cell? ⟨b, 0, none⟩ = some x ∧
    (((w.setCell ⟨b, 0, none⟩ x).setCell ⟨b', 0, none⟩ y).setCell ⟨b', 1, none⟩ z).cell? ⟨b', 0, none⟩ = some y ∧
    (((w.setCell ⟨b, 0, none⟩ x).setCell ⟨b', 0, none⟩ y).setCell ⟨b', 1, none⟩ z).cell? ⟨b', 1, none⟩ = some z := by
  have n1 : (⟨b', 0, none⟩ : Addr) ≠ ⟨b, 0, none⟩ := by simp <;> omega
  have n2 : (⟨b', 1, none⟩ : Addr) ≠ ⟨b, 0, none⟩ := by simp
  have n3 : (⟨b', 1, none⟩ : Addr) ≠ ⟨b', 0, none⟩ := by simp
  refine ⟨?_, ?_, ?_⟩
  · rw [World.cell?_setCell_other _ _ _ _ n2, World.cell?_setCell_other _ _ _ _ n1]; exact World.cell?_setCell_same _ _ _ h0
  · rw [World.cell?_setCell_other _ _ _ _ n3]; exact World.cell?_setCell_same _ _ _ ((World.cell?_setCell_other _ _ _ _ n1.symm).trans h1)
  · exact World.cell?_setCell_same _ _ _ ((World.cell?_setCell_other _ _ _ _ n3.symm).trans ((World.cell?_setCell_other _ _ _ _ n2.symm).trans h2))

theorem aU32_cells2 {w : World} {b' : Nat} {y0 z0 : Value} (y z : Value) (h1 : w.cell? ⟨b', 0, none⟩ = some y0) (h2 : w.cell? ⟨b', 1, none⟩ = some z0) :
    ((w.setCell ⟨b', 0, none⟩ y).setCell ⟨b', 1, none⟩ z).cell? ⟨b', 0, none⟩ = some y ∧ ((w.setCell ⟨b', 0, none⟩ y).setCell ⟨b', 1, none⟩ z).cell? ⟨b', 1, none⟩ = some z := by
  have n3 : (⟨b', 1, none⟩ : Addr) ≠ ⟨b', 0, none⟩ := by simp
  refine ⟨?_, ?_⟩
  · rw [World.cell?_setCell_other _ _ _ _ n3]; exact World.cell?_setCell_same _ _ _ h1
  · exact World.cell?_setCell_same _ _ _ ((World.cell?_setCell_other _ _ _ _ n3.symm).trans h2)

abbrev aU32_put (n : Nat) (a c : Int) (w : World) : World := (w.setCell ⟨n + 1 + 1, 0, none⟩ (.int .i64 a)).setCell ⟨n + 1 + 1, 1, none⟩ (.int .i64 c)

theorem AU32Got.put {v : Value} {r : List Nat} {w w1 : World} (h : AU32Got v r w w1) (a c : Int) :
    Mv w.heap.size r w (aU32_put w.heap.size a c w1) ∧ (aU32_put w.heap.size a c w1).cell? ⟨w.heap.size + 1, 0, none⟩ = some v ∧
    (aU32_put w.heap.size a c w1).cell? ⟨w.heap.size + 1 + 1, 0, none⟩ = some (.int .i64 a) ∧ (aU32_put w.heap.size a c w1).cell? ⟨w.heap.size + 1 + 1, 1, none⟩ = some (.int .i64 c) ∧
    (aU32_put w.heap.size a c w1).frozen? ⟨w.heap.size + 1, 0, none⟩ = false ∧ (aU32_put w.heap.size a c w1).frozen? ⟨w.heap.size + 1 + 1, 0, none⟩ = false ∧ (aU32_put w.heap.size a c w1).frozen? ⟨w.heap.size + 1 + 1, 1, none⟩ = false := by
  obtain ⟨m, s, c1, c2, c3, z1, z2, z3⟩ := h
  obtain ⟨e1, e2⟩ := aU32_cells2 (.int .i64 a) (.int .i64 c) c2 c3
  refine ⟨(m.setCell (.inr (by simp; omega)) _).setCell (.inr (by simp; omega)) _, ?_, e1, e2, ?_, ?_, ?_⟩
  · rw [World.cell?_setCell_other _ _ _ _ (by simp), World.cell?_setCell_other _ _ _ _ (by simp)]; exact c1
  · rw [World.frozen?_setCell, World.frozen?_setCell]; exact z1
  · rw [World.frozen?_setCell, World.frozen?_setCell]; exact z2
  · rw [World.frozen?_setCell, World.frozen?_setCell]; exact z3

/-- What attempt's end comes to, whatever it was that Catch told. -/
abbrev aU32_tell (v : Value) (a c : Int) (f : Bool) : Ending := .returned (.tuple #[v, .agg #[.int .i64 a, .int .i64 c], .bool f])

set_option maxHeartbeats 1000000 in
theorem aU32_returns (g : FuncId) (fi ca : Array Value) (v : Int) (w : World) (r : List Nat) (R : World → Prop) (hr : ∀ x ∈ r, x < w.heap.size)
    (hR : ∀ W1 W2, Below w.heap.size W1 W2 → R W1 → R W2) (hen : ∀ w : World, (callFunc g (fi ++ ca)).run Tryz.prog w = .ok (.enter g (fi ++ ca)) w)
    (hf : ∀ W, Below w.heap.size w W → Calls Tryz.prog g (fi ++ ca) W fun e w1 => e = .returned (.int .u32 v) ∧ Mv W.heap.size r W w1 ∧ R w1) :
    Calls Tryz.prog 166 #[.func (.func g) fi ca] w fun e w' => e = aU32_tell (.int .u32 v) 0 0 false ∧ Mv w.heap.size r w w' ∧ R w' := by
  have hmf := make_func
  have heq := aU32_eq_func_nil
  go_enter Tryz.func166, Tryz.ntmps166
  go_wp2_with fail
  refine (aU32_catch_returns g fi ca v w r R hr hR hen hf).mono ?_
  rintro e w1 ⟨rfl, hb1, hq⟩
  have hR' : Hid _ := hR
  clear hen hf hmf heq hr hR
  obtain ⟨hm, e0, e1, e2, f1, f2, f3⟩ := hb1.put 0 0
  have hq2 : Hid (R (aU32_put w.heap.size 0 0 w1)) := hR'.out _ _ (((Below.refl _ _).setCell (by simp; omega) _).setCell (by simp; omega) _) hq
  have hm2 : Hid _ := hm
  clear hq hm
  obtain ⟨_, hz, _, c2, c3, _, z2, z3⟩ := hb1
  go_wp2_with fail
  unfold aU32_put at e0 e1 e2 f1 f2 f3 hm2 hq2
  generalize (w1.setCell ⟨w.heap.size + 1 + 1, 0, none⟩ (.int .i64 0)).setCell ⟨w.heap.size + 1 + 1, 1, none⟩ (.int .i64 0) = w2 at *
  clear c2 c3 z2 z3 hz
  obtain ⟨g0, g1, g2⟩ := aU32_cells3 (w := w2) (b := w.heap.size + 1) (b' := w.heap.size + 1 + 1) (by omega) (.int .u32 v) (.int .i64 0) (.int .i64 0) e0 e1 e2
  have G : Hid (_ ∧ _ ∧ _) := ⟨g0, g1, g2⟩
  clear g0 g1 g2
  go_region
  all_goals go_wp2
  obtain ⟨g0, g1, g2⟩ := G.out
  have hb3 : Below w.heap.size w2 (((w2.setCell ⟨w.heap.size + 1, 0, none⟩ (.int .u32 v)).setCell ⟨w.heap.size + 1 + 1, 0, none⟩ (.int .i64 0)).setCell ⟨w.heap.size + 1 + 1, 1, none⟩ (.int .i64 0)) :=
    (((Below.refl _ _).setCell (by simp) _).setCell (by simp; omega) _).setCell (by simp; omega) _
  refine bodyPost_ret (v := .tuple #[.int .u32 v, .agg #[.int .i64 0, .int .i64 0], .bool false]) (by simp [results, Tryz.results166, go_sem, g0, g1, g2]) rfl ⟨rfl, ?_, ?_⟩
  · exact (hm2.out.trans (Mv.of_below hb3 r)).drew
  · exact hR'.out _ _ hb3.drew hq2.out

set_option maxHeartbeats 1000000 in
theorem aU32_throws (g : FuncId) (fi ca : Array Value) (a c : Int) (w : World) (r : List Nat) (R : World → Prop) (hr : ∀ x ∈ r, x < w.heap.size)
    (hR : ∀ W1 W2, Below w.heap.size W1 W2 → R W1 → R W2) (hen : ∀ w : World, (callFunc g (fi ++ ca)).run Tryz.prog w = .ok (.enter g (fi ++ ca)) w)
    (hf : ∀ W, Below w.heap.size w W → Calls Tryz.prog g (fi ++ ca) W fun e w1 => e = pnc a c ∧ Mv W.heap.size r W w1 ∧ R w1) :
    Calls Tryz.prog 166 #[.func (.func g) fi ca] w fun e w' => e = aU32_tell (.int .u32 0) a c true ∧ Mv w.heap.size r w w' ∧ R w' := by
  have hmf := make_func
  have heq := aU32_eq_func_nil
  go_enter Tryz.func166, Tryz.ntmps166
  go_wp2_with fail
  refine (aU32_catch_throws g fi ca a c w r R hr hR hen hf).mono ?_
  rintro e w1 ⟨rfl, hb1, hq⟩
  have hR' : Hid _ := hR
  clear hen hf hmf heq hr hR
  obtain ⟨hm, e0, e1, e2, f1, f2, f3⟩ := hb1.put a c
  have hq2 : Hid (R (aU32_put w.heap.size a c w1)) := hR'.out _ _ (((Below.refl _ _).setCell (by simp; omega) _).setCell (by simp; omega) _) hq
  have hm2 : Hid _ := hm
  clear hq hm
  obtain ⟨_, hz, _, c2, c3, _, z2, z3⟩ := hb1
  go_wp2_with fail
  unfold aU32_put at e0 e1 e2 f1 f2 f3 hm2 hq2
  generalize (w1.setCell ⟨w.heap.size + 1 + 1, 0, none⟩ (.int .i64 a)).setCell ⟨w.heap.size + 1 + 1, 1, none⟩ (.int .i64 c) = w2 at *
  clear c2 c3 z2 z3 hz
  obtain ⟨g0, g1, g2⟩ := aU32_cells3 (w := w2) (b := w.heap.size + 1) (b' := w.heap.size + 1 + 1) (by omega) (.int .u32 0) (.int .i64 a) (.int .i64 c) e0 e1 e2
  have G : Hid (_ ∧ _ ∧ _) := ⟨g0, g1, g2⟩
  clear g0 g1 g2
  go_region
  all_goals go_wp2
  obtain ⟨g0, g1, g2⟩ := G.out
  have hb3 : Below w.heap.size w2 (((w2.setCell ⟨w.heap.size + 1, 0, none⟩ (.int .u32 0)).setCell ⟨w.heap.size + 1 + 1, 0, none⟩ (.int .i64 a)).setCell ⟨w.heap.size + 1 + 1, 1, none⟩ (.int .i64 c)) :=
    (((Below.refl _ _).setCell (by simp) _).setCell (by simp; omega) _).setCell (by simp; omega) _
  refine bodyPost_ret (v := .tuple #[.int .u32 0, .agg #[.int .i64 a, .int .i64 c], .bool true]) (by simp [results, Tryz.results166, go_sem, g0, g1, g2]) rfl ⟨rfl, ?_, ?_⟩
  · exact (hm2.out.trans (Mv.of_below hb3 r)).drew
  · exact hR'.out _ _ hb3.drew hq2.out

set_option maxHeartbeats 1000000 in
theorem valueU32_any (g : FuncId) (fi ca : Array Value) (v : Int) (a c : Int) (f : Bool) (w : World) (r : List Nat) (R : World → Prop) (hr : ∀ x ∈ r, x < w.heap.size)
    (hR : ∀ W1 W2, Below w.heap.size W1 W2 → R W1 → R W2)
    (h : Calls Tryz.prog 166 #[.func (.func g) fi ca] (w.alloc (flc 0 0)) fun e w' => e = aU32_tell (.int .u32 v) a c f ∧ Mv (w.heap.size + 1) r (w.alloc (flc 0 0)) w' ∧ R w') :
    Calls Tryz.prog 152 #[.func (.func g) fi ca] w fun e w' => e = .returned (.tuple #[.int .u32 v, .agg #[.int .i64 a, .int .i64 c]]) ∧ Mv w.heap.size r w w' ∧ R w' := by
  go_enter Tryz.func152, Tryz.ntmps152
  go_wp2_with (go_at_call 166; refine h.mono ?_; rintro e w1 ⟨rfl, hb1, hq⟩)
  have hR' : Hid _ := hR
  have hz := hb1.size
  simp at hz
  have n0 : w.heap.size ∉ r := fun hm => by have := hr _ hm; omega
  have c0 : (w1.alloc (.cells #[.int .i64 a, .int .i64 c] 116)).cell? ⟨w.heap.size, 0, none⟩ = some (.int .i64 0) := by rw [World.cell?_alloc_past _ _ _ (by omega), hb1.cell (by simp) n0]; simp [go_sem]
  have c1 : (w1.alloc (.cells #[.int .i64 a, .int .i64 c] 116)).cell? ⟨w.heap.size, 1, none⟩ = some (.int .i64 0) := by rw [World.cell?_alloc_past _ _ _ (by omega), hb1.cell (by simp) n0]; simp [go_sem]
  have z0 : (w1.alloc (.cells #[.int .i64 a, .int .i64 c] 116)).frozen? ⟨w.heap.size, 0, none⟩ = false := by rw [World.frozen?_alloc_past _ _ _ (by omega), hb1.frozen (by simp) n0]; simp [go_sem]
  have z1 : (w1.alloc (.cells #[.int .i64 a, .int .i64 c] 116)).frozen? ⟨w.heap.size, 1, none⟩ = false := by rw [World.frozen?_alloc_past _ _ _ (by omega), hb1.frozen (by simp) n0]; simp [go_sem]
  have y0 : (w1.alloc (.cells #[.int .i64 a, .int .i64 c] 116)).cell? ⟨w1.heap.size, 0, none⟩ = some (.int .i64 a) := by simp [go_sem]
  have y1 : (w1.alloc (.cells #[.int .i64 a, .int .i64 c] 116)).cell? ⟨w1.heap.size, 1, none⟩ = some (.int .i64 c) := by simp [go_sem]
  have hbw : Hid (Mv w.heap.size r w (w1.alloc (.cells #[.int .i64 a, .int .i64 c] 116))) :=
    ((Mv.of_below ((Below.refl _ _).alloc (Nat.le_refl _) _) r).trans (hb1.mono (by omega) fun x hx => .inl hx)).alloc (by omega) _
  have hq2 : Hid (R (w1.alloc (.cells #[.int .i64 a, .int .i64 c] 116))) := hR _ _ ((Below.refl _ _).alloc (by omega) _) hq
  clear hb1 h hq hR hr
  generalize hn : w1.heap.size = n1 at *
  generalize w1.alloc (.cells #[.int .i64 a, .int .i64 c] 116) = w2 at *
  clear hn
  have G : Hid (_ ∧ _) := aU32_cells2 (w := w2) (b' := w.heap.size) (.int .i64 a) (.int .i64 c) c0 c1
  go_region
  all_goals go_wp2
  obtain ⟨g0, g1⟩ := G.out
  have hb3 : Below w.heap.size w2 ((w2.setCell ⟨w.heap.size, 0, none⟩ (.int .i64 a)).setCell ⟨w.heap.size, 1, none⟩ (.int .i64 c)) := ((Below.refl _ _).setCell (by simp) _).setCell (by simp) _
  refine bodyPost_ret (v := .tuple #[.int .u32 v, .agg #[.int .i64 a, .int .i64 c]]) (by simp [results, Tryz.results152, go_sem, g0, g1]) rfl ⟨rfl, ?_, ?_⟩
  · exact (hbw.out.trans (Mv.of_below hb3 r)).drew
  · exact hR'.out _ _ hb3.drew hq2.out

theorem valueU32_returns (g : FuncId) (fi ca : Array Value) (v : Int) (w : World) (r : List Nat) (R : World → Prop) (hr : ∀ x ∈ r, x < w.heap.size)
    (hR : ∀ W1 W2, Below w.heap.size W1 W2 → R W1 → R W2) (hen : ∀ w : World, (callFunc g (fi ++ ca)).run Tryz.prog w = .ok (.enter g (fi ++ ca)) w)
    (hf : ∀ W, Below w.heap.size w W → Calls Tryz.prog g (fi ++ ca) W fun e w1 => e = .returned (.int .u32 v) ∧ Mv W.heap.size r W w1 ∧ R w1) :
    Calls Tryz.prog 152 #[.func (.func g) fi ca] w fun e w' => e = .returned (.tuple #[.int .u32 v, flt 0 0]) ∧ Mv w.heap.size r w w' ∧ R w' := by
  refine valueU32_any g fi ca v 0 0 false w r R hr hR ?_
  have hb : Below w.heap.size w (w.alloc (flc 0 0)) := (Below.refl _ _).alloc (Nat.le_refl _) _
  refine (aU32_returns g fi ca v (w.alloc (flc 0 0)) r R (fun x hx => by have := hr x hx; simp; omega) (fun W1 W2 h => hR W1 W2 (h.mono (by simp))) hen fun W hW => hf W (hb.trans (hW.mono (by simp)))).mono ?_
  rintro e w' ⟨h1, h2, h3⟩
  exact ⟨h1, by simpa using h2, h3⟩

theorem valueU32_throws (g : FuncId) (fi ca : Array Value) (a c : Int) (w : World) (r : List Nat) (R : World → Prop) (hr : ∀ x ∈ r, x < w.heap.size)
    (hR : ∀ W1 W2, Below w.heap.size W1 W2 → R W1 → R W2) (hen : ∀ w : World, (callFunc g (fi ++ ca)).run Tryz.prog w = .ok (.enter g (fi ++ ca)) w)
    (hf : ∀ W, Below w.heap.size w W → Calls Tryz.prog g (fi ++ ca) W fun e w1 => e = pnc a c ∧ Mv W.heap.size r W w1 ∧ R w1) :
    Calls Tryz.prog 152 #[.func (.func g) fi ca] w fun e w' => e = .returned (.tuple #[.int .u32 0, flt a c]) ∧ Mv w.heap.size r w w' ∧ R w' := by
  refine valueU32_any g fi ca 0 a c true w r R hr hR ?_
  have hb : Below w.heap.size w (w.alloc (flc 0 0)) := (Below.refl _ _).alloc (Nat.le_refl _) _
  refine (aU32_throws g fi ca a c (w.alloc (flc 0 0)) r R (fun x hx => by have := hr x hx; simp; omega) (fun W1 W2 h => hR W1 W2 (h.mono (by simp))) hen fun W hW => hf W (hb.trans (hW.mono (by simp)))).mono ?_
  rintro e w' ⟨h1, h2, h3⟩
  exact ⟨h1, by simpa using h2, h3⟩

end Go.Proofs.YtkdjjlfpaciohaaGreatDoor
namespace Go.Proofs.YtkdjjlfpaciohaaGreatDoor
open Go.RowKit

theorem Cur.put {W w' : World} {cb j : Nat} {s : ByteArray} {k : Nat} (h : Cur W cb s k) (he : w' = W.setCell ⟨cb, 1, none⟩ (.int .i64 j)) : Mv W.heap.size [cb] W w' ∧ Cur w' cb s j := by
  subst he
  exact ⟨(Mv.refl _ _ _).setCell (.inl (by simp)) _, h.set j⟩

/-! ### What Value and Catch tell of them -/
theorem cur_stable {n cb k : Nat} {s : ByteArray} (hcb : cb < n) : ∀ W1 W2 : World, Below n W1 W2 → Cur W1 cb s k → Cur W2 cb s k := fun _ _ hb h => h.below hb hcb
theorem one_lt {n cb : Nat} (hcb : cb < n) : ∀ x ∈ [cb], x < n := fun x hx => by simp at hx; omega
theorem true_stable (n : Nat) : ∀ W1 W2 : World, Below n W1 W2 → True → True := fun _ _ _ h => h
theorem none_lt (n : Nat) : ∀ x ∈ ([] : List Nat), x < n := fun x hx => by cases hx
theorem Mv.none_below {B : Nat} {w w' : World} (h : Mv B [] w w') : Below B w w' := h.below (Nat.le_refl _) (fun x hx => by cases hx)

end Go.Proofs.YtkdjjlfpaciohaaGreatDoor
namespace Go.Proofs.YtkdjjlfpaciohaaGreatDoor
open Go.RowKit

/-- The number of some bytes, the highest first, in 32 bits. -/
def be (l : List UInt8) : Int := l.foldl (fun a b => (a * 256 + (b.toNat : Int)) % 4294967296) 0

theorem be_range (l : List UInt8) : 0 ≤ be l ∧ be l < 4294967296 := by
  rcases List.eq_nil_or_concat l with h | ⟨l', b, h⟩
  · subst h; simp [be]
  · subst h
    simp only [be, List.concat_eq_append, List.foldl_append, List.foldl_cons, List.foldl_nil]
    omega

theorem bytes_cell (W : World) (x : ByteArray) (cap : Nat) (t : TypeId) (fr : Nat × Nat) {g : Nat} (hg : g = W.heap.size) (k : Nat) (hk : k < x.size) :
    ((W.alloc (.cells (bytesRow x cap) t fr)).drew).cell? ⟨g, k, none⟩ = some (.int .u8 (x[k].toNat : Int)) := by
  subst hg
  show (W.alloc (.cells (bytesRow x cap) t fr)).cell? ⟨W.heap.size, k, none⟩ = _
  have h : (W.alloc (.cells (bytesRow x cap) t fr)).heap[W.heap.size]? = some (.cells (bytesRow x cap) t fr) := by
    show (W.heap.push _)[W.heap.size]? = _
    simp
  have hs : k < x.data.size := hk
  have hc : (bytesRow x cap)[k]? = some (.int .u8 (x[k].toNat : Int)) := by
    unfold bytesRow
    rw [Array.getElem?_append_left (by simpa using hs)]
    rw [Array.getElem?_map, Array.getElem?_eq_getElem hs]
    rfl
  unfold World.cell?
  rw [h]
  exact hc

theorem or_shift (a : Int) (b : Nat) (_h0 : 0 ≤ a) (hb : b < 256) : bits .or .u32 (a * 256 % 4294967296) ((b : Int) % 4294967296) = (a * 256 + (b : Int)) % 4294967296 := by
  obtain ⟨q, hq⟩ : ∃ q : Nat, (q : Int) = a % 16777216 := ⟨(a % 16777216).toNat, by omega⟩
  have e1 : a * 256 % 4294967296 = ((256 * q : Nat) : Int) := by omega
  have e2 : (b : Int) % 4294967296 = ((b : Nat) : Int) := by omega
  have e3 : (a * 256 + (b : Int)) % 4294967296 = ((256 * q + b : Nat) : Int) := by omega
  have hq' : q < 16777216 := by omega
  rw [e1, e2, e3]
  have e4 : 256 * q ||| b = 256 * q + b := (Nat.two_pow_add_eq_or_of_lt (i := 8) (by omega) q).symm
  unfold bits
  show IntKind.u32.wrap (((BitVec.ofInt 32 ((256 * q : Nat) : Int)) ||| (BitVec.ofInt 32 ((b : Nat) : Int))).toNat : Int) = _
  rw [BitVec.ofInt_natCast, BitVec.ofInt_natCast, BitVec.toNat_or, BitVec.toNat_ofNat, BitVec.toNat_ofNat, Nat.mod_eq_of_lt (by omega), Nat.mod_eq_of_lt (by omega), e4, IntKind.wrap_u32]
  omega

theorem be_snoc (l : List UInt8) (b : UInt8) : be (l ++ [b]) = (be l * 256 + (b.toNat : Int)) % 4294967296 := by
  simp [be]


set_option maxHeartbeats 400000 in
theorem u32_of (cb j : Nat) (x : ByteArray) (w : World) (hlt : x.size = 4)
    (h : Hid (Calls Tryz.prog 167 #[cptr cb, .int .i64 4] w fun e w' => e = .returned (.string x) ∧ ∃ m, w' = (w.drewN m).setCell ⟨cb, 1, none⟩ (.int .i64 j))) :
    Calls Tryz.prog 155 #[cptr cb] w fun e w' => e = .returned (.int .u32 (be x.data.toList)) ∧ ∃ m, Below w.heap.size ((w.drewN m).setCell ⟨cb, 1, none⟩ (.int .i64 j)) w' := by
  have hcv := fun (W : World) => run_bytes_of_string W 9 62 5 x Tryz.underlying9 Tryz.underlying62 Tryz.underlying5
  go_enter Tryz.func155, Tryz.ntmps155
  go_wp2_with (go_at_call 167; refine h.out.mono ?_; rintro e w1 ⟨rfl, m, rfl⟩)
  have hbw : Below w.heap.size ((w.drewN m).setCell ⟨cb, 1, none⟩ (.int .i64 j)) (((((w.drewN m).setCell ⟨cb, 1, none⟩ (.int .i64 j))).alloc (.cells (bytesRow x (grownCap ((w.drewN m).setCell ⟨cb, 1, none⟩ (.int .i64 j)) 4 0 5)) 5
      ((bytesRow x (grownCap ((w.drewN m).setCell ⟨cb, 1, none⟩ (.int .i64 j)) 4 0 5)).size, (bytesRow x (grownCap ((w.drewN m).setCell ⟨cb, 1, none⟩ (.int .i64 j)) 4 0 5)).size + 1))).drew) :=
    ((Below.refl _ _).alloc (by simp [World.setCell]) _).drew
  have hcell : ∀ k (hk : k < x.size), (((((w.drewN m).setCell ⟨cb, 1, none⟩ (.int .i64 j))).alloc (.cells (bytesRow x (grownCap ((w.drewN m).setCell ⟨cb, 1, none⟩ (.int .i64 j)) 4 0 5)) 5
      ((bytesRow x (grownCap ((w.drewN m).setCell ⟨cb, 1, none⟩ (.int .i64 j)) 4 0 5)).size, (bytesRow x (grownCap ((w.drewN m).setCell ⟨cb, 1, none⟩ (.int .i64 j)) 4 0 5)).size + 1))).drew).cell? ⟨w.heap.size, k, none⟩ = some (.int .u8 (x[k].toNat : Int)) := by
    intro k hk
    exact bytes_cell _ _ _ _ _ (by simp [World.setCell]) k hk
  clear hcv
  generalize ((((w.drewN m).setCell ⟨cb, 1, none⟩ (.int .i64 j))).alloc (.cells (bytesRow x (grownCap ((w.drewN m).setCell ⟨cb, 1, none⟩ (.int .i64 j)) 4 0 5)) 5
      ((bytesRow x (grownCap ((w.drewN m).setCell ⟨cb, 1, none⟩ (.int .i64 j)) 4 0 5)).size, (bytesRow x (grownCap ((w.drewN m).setCell ⟨cb, 1, none⟩ (.int .i64 j)) 4 0 5)).size + 1))).drew = w2 at *
  have HC := Lib.hid hcell
  have HW := Lib.hid hbw
  have HL := Lib.hid hlt
  clear hcell hbw hlt h
  go_loop [3, 10] (fun n i => ∃ k : Nat, k ≤ 4 ∧ i = .int .i64 k ∧ n = .int .u32 (be (x.data.toList.take k))) (fun _ i => 4 - (intOf i).toNat)
  case atStart => exact ⟨0, by omega, rfl, rfl⟩
  case round =>
    obtain ⟨k, hk, rfl, rfl⟩ := hrel
    by_cases hlt : k < 4
    · have hc := HC.out k (by have := HL.out; omega)
      have hb := be_range (x.data.toList.take k)
      have hs : Hid (bits BinOp.or IntKind.u32 (be (x.data.toList.take k) * 256 % 4294967296) ((x[k]'(by have := HL.out; omega)).toNat % 4294967296 : Int) = be (x.data.toList.take (k + 1))) := by
        rw [take_snoc x k (by have := HL.out; omega), be_snoc]
        exact or_shift _ _ hb.1 (x[k]'(by have := HL.out; omega)).toNat_lt
      go_wp2
      go_round
      case rel => exact ⟨k + 1, by omega, by go_num, by rw [hs.out]⟩
      case measure => simp [intOf]; omega
    · obtain rfl : k = 4 := by omega
      go_wp2
      go_ret
      refine ⟨?_, m, HW.out⟩
      rw [List.take_of_length_le (by have := HL.out; simp; omega)]
      rfl

/-- The number of the four bytes from k on. -/
def be4 (s : ByteArray) (k : Nat) : Int := be (s.extract k (k + 4)).data.toList

theorem u32_ok (cb k : Nat) (s : ByteArray) (w : World) (h : Cur w cb s k) (hk : k + 4 ≤ s.size) (hs : s.size ≤ 9223372036854775807) :
    Calls Tryz.prog 155 #[cptr cb] w fun e w' => e = .returned (.int .u32 (be4 s k)) ∧ Mv w.heap.size [cb] w w' ∧ Cur w' cb s (k + 4) := by
  have hsz : (s.extract k (k + 4)).size = 4 := by simp; omega
  refine (u32_of cb (k + 4) _ w hsz (take_ok cb k 4 s w h hk hs)).mono ?_
  rintro e w' ⟨rfl, m, hb⟩
  obtain ⟨h1, h2⟩ := Cur.put (j := k + 4) (h.drewN m) rfl
  exact ⟨rfl, (((Mv.refl _ _ _).drewN m).trans h1).trans (Mv.of_below hb _), h2.below hb h.lt⟩

set_option maxHeartbeats 400000 in
theorem u32_far (cb k : Nat) (s : ByteArray) (w : World) (h : Cur w cb s k) (hk : k ≤ s.size) (hk4 : s.size < k + 4) (hs : s.size ≤ 9223372036854775807) :
    Calls Tryz.prog 155 #[cptr cb] w fun e w' => e = pnc k 8 ∧ Drawn w w' := by
  go_enter Tryz.func155, Tryz.ntmps155
  go_wp2_with (go_at_call 167; refine (take_far cb k s 4 _ h hk hs (by omega) (by omega)).mono ?_; rintro e w1 ⟨rfl, hD⟩)
  exact ⟨rfl, rfl, hD⟩

end Go.Proofs.YtkdjjlfpaciohaaGreatDoor
