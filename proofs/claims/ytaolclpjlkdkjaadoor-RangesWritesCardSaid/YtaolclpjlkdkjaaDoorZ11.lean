/-
  What trap's attempt and Value tell of a function value that answers a api.Range, a struct of two cells, and of one that throws. Conditions: it turns rows of r alone, and leaves R, which is known of older memory alone.
  What package ranges' asked and Parse do. Condition: the text is no longer than a length can be.
  What trap's attempt and Value tell of a function value that answers a api.Part, a struct of three cells, and of one that throws. Conditions: it turns rows of r alone, and leaves R, which is known of older memory alone.
-/
import Derived.Test.YtaolclpjlkdkjaaDoorZ2
import Derived.RegionTactic
import Derived.BigRegion
import Derived.Lib.Hide
import Derived.Test.YtaolclpjlkdkjaaDoorZ10
import Derived.Test.YtaolclpjlkdkjaaDoorZ6
namespace Go.Proofs.YtaolclpjlkdkjaaDoor
open Go.RowKit

/-- Nothing has turned but one block. -/
structure bRangeOnly (b : Nat) (w w' : World) : Prop where
  os : w'.os = w.os
  tape : w'.tape = w.tape
  output : w'.output = w.output
  size : w'.heap.size = w.heap.size
  block : ∀ k, k ≠ b → w'.heap[k]? = w.heap[k]?
theorem bRangeOnly.refl (b : Nat) (w : World) : bRangeOnly b w w := ⟨rfl, rfl, rfl, rfl, fun _ _ => rfl⟩
theorem bRangeOnly.set {b : Nat} {w w' : World} (h : bRangeOnly b w w') (i : Nat) (u : Value) : bRangeOnly b w (w'.setCell ⟨b, i, none⟩ u) :=
  ⟨h.os, h.tape, h.output, by simpa [World.setCell] using h.size, fun k hk => (Below.heap_setCell w' ⟨b, i, none⟩ u k hk).trans (h.block k hk)⟩
theorem bRangeOnly.below {b B : Nat} {w w' : World} (h : bRangeOnly b w w') (hb : B ≤ b) : Below B w w' := ⟨h.os, h.tape, h.output, by rw [h.size]; exact Nat.le_refl _, fun k hk => h.block k (by omega)⟩
theorem bRangeOnly.mv {b B : Nat} {w w' : World} (h : bRangeOnly b w w') : Mv B [b] w w' := ⟨h.os, h.tape, h.output, by rw [h.size]; exact Nat.le_refl _, fun k _ hk => h.block k (by simpa using hk)⟩
theorem bRangeOnly.blk {b g : Nat} {w w' : World} {t : TypeId} {cs : Array Value} (h : bRangeOnly b w w') (hg : g ≠ b) (k : Blk w g t cs) : Blk w' g t cs := (h.block g hg).trans k
/-- Two blocks of two cells, each written once more as it is. -/
theorem bRange_again {w : World} {b b' : Nat} {t t' : TypeId} {x y a c : Value} (hne : b ≠ b') (x' y' a' c' : Value) (h : Blk w b t #[x, y]) (h' : Blk w b' t' #[a, c]) :
    Blk ((((w.setCell ⟨b, 0, none⟩ x').setCell ⟨b, 1, none⟩ y').setCell ⟨b', 0, none⟩ a').setCell ⟨b', 1, none⟩ c') b t #[x', y'] ∧ Blk ((((w.setCell ⟨b, 0, none⟩ x').setCell ⟨b, 1, none⟩ y').setCell ⟨b', 0, none⟩ a').setCell ⟨b', 1, none⟩ c') b' t' #[a', c'] :=
  ⟨(((h.set_ 0 x').set_ 1 y').far (by simpa using hne) a').far (by simpa using hne) c', ((((h'.far (p := ⟨b, 0, none⟩) (by simpa using hne.symm) x').far (p := ⟨b, 1, none⟩) (by simpa using hne.symm) y').set_ 0 a').set_ 1 c')⟩

theorem bRange_eq_func_nil (fn : Fn) (fi ca : Array Value) (w : World) : (binOp .eql 44 (.func fn fi ca) .nilFunc).run Tryd.prog w = .ok (.bool false) w := by kernel_rfl
theorem bRange_enter (a b : Value) (w : World) : (callFunc 59 (#[] ++ #[a, b])).run Tryd.prog w = .ok (.enter 59 (#[] ++ #[a, b])) w := by simp [go_sem]

set_option maxHeartbeats 400000 in
theorem bRange_closure_returns (g : FuncId) (fi ca : Array Value) (p : Addr) (b : Nat) (v0 v1 : Value) (va vb : Int) (w : World) (Q : World → Prop) (hp : w.cell? p = some (.func (.func g) fi ca))
    (hQ : ∀ w1, Q w1 → Blk w1 b 23 #[v0, v1])
    (hen : ∀ w : World, (callFunc g (fi ++ ca)).run Tryd.prog w = .ok (.enter g (fi ++ ca)) w)
    (hf : Calls Tryd.prog g (fi ++ ca) w fun e w1 => e = .returned (.agg #[.int .i64 va, .int .i64 vb]) ∧ Q w1) :
    Calls Tryd.prog 59 #[.pointer (some p), .pointer (some ⟨b, 0, none⟩)] w fun e w' => e = .returned (.tuple #[]) ∧ ∃ w1, Q w1 ∧ bRangeOnly b w1 w' ∧ Blk w' b 23 #[.int .i64 va, .int .i64 vb] := by
  go_enter Tryd.func59, Tryd.ntmps59
  go_wp2_with fail
  refine hf.mono ?_
  rintro e w1 ⟨rfl, hb1⟩
  have HP := Lib.hid (hQ w1 hb1)
  have c0 : w1.cell? ⟨b, 0, none⟩ = some v0 := HP.out.cell 0
  have c1 : w1.cell? ⟨b, 1, none⟩ = some v1 := HP.out.cell 1
  have z0 := HP.out.frozen 0
  have z1 := HP.out.frozen 1
  clear hen hf hp hQ
  go_wp2
  go_end0
  exact ⟨rfl, w1, hb1, ((bRangeOnly.refl b w1).set 0 _).set 1 _, (HP.out.set_ 0 _).set_ 1 _⟩

set_option maxHeartbeats 400000 in
theorem bRange_closure_throws (g : FuncId) (fi ca : Array Value) (p : Addr) (b : Nat) (a c : Int) (w : World) (Q : World → Prop) (hp : w.cell? p = some (.func (.func g) fi ca))
    (hen : ∀ w : World, (callFunc g (fi ++ ca)).run Tryd.prog w = .ok (.enter g (fi ++ ca)) w)
    (hf : Calls Tryd.prog g (fi ++ ca) w fun e w1 => e = pnc a c ∧ Q w1) :
    Calls Tryd.prog 59 #[.pointer (some p), .pointer (some ⟨b, 0, none⟩)] w fun e w' => e = pnc a c ∧ Q w' := by
  go_enter Tryd.func59, Tryd.ntmps59
  go_wp2_with fail
  refine hf.mono ?_
  rintro e w1 ⟨rfl, hb1⟩
  exact ⟨rfl, rfl, hb1⟩

/-- What attempt's own three variables are, while f runs. -/
abbrev bRange_w (g : FuncId) (fi ca : Array Value) (w : World) : World := ((w.alloc (.cells #[.func (.func g) fi ca] 44)).alloc (.cells #[.int .i64 0, .int .i64 0] 23)).alloc (.cells #[.int .i64 0, .int .i64 0] 53)

theorem bRange_w_below (g : FuncId) (fi ca : Array Value) (w : World) : Below w.heap.size w (bRange_w g fi ca w) :=
  (((Below.refl _ _).alloc (Nat.le_refl _) _).alloc (by simp) _).alloc (by simp; omega) _
theorem bRange_w_blk (g : FuncId) (fi ca : Array Value) (w : World) : Blk (bRange_w g fi ca w) (w.heap.size + 1) 23 #[.int .i64 0, .int .i64 0] ∧ Blk (bRange_w g fi ca w) (w.heap.size + 1 + 1) 53 #[.int .i64 0, .int .i64 0] := by
  have h1 := Blk.new (w.alloc (.cells #[.func (.func g) fi ca] 44)) 23 #[.int .i64 0, .int .i64 0]
  have h2 := Blk.new ((w.alloc (.cells #[.func (.func g) fi ca] 44)).alloc (.cells #[.int .i64 0, .int .i64 0] 23)) 53 #[.int .i64 0, .int .i64 0]
  have h1' : Blk ((w.alloc (.cells #[.func (.func g) fi ca] 44)).alloc (.cells #[.int .i64 0, .int .i64 0] 23)) (w.heap.size + 1) 23 #[.int .i64 0, .int .i64 0] := by simpa using h1
  exact ⟨h1'.alloc _, by simpa using h2⟩

/-- Behind Catch: attempt's variables, and that nothing else has turned but rows of r. -/
structure BRangeGot (cs : Array Value) (r : List Nat) (w w1 : World) : Prop where
  mv : Mv w.heap.size r w w1
  size : w.heap.size + 3 ≤ w1.heap.size
  own : Blk w1 (w.heap.size + 1) 23 cs
  flt : Blk w1 (w.heap.size + 1 + 1) 53 #[.int .i64 0, .int .i64 0]

theorem bRange_got (g : FuncId) (fi ca : Array Value) (r : List Nat) (w w1 : World) (hr : ∀ x ∈ r, x < w.heap.size) (h : Mv (w.heap.size + 3) r (bRange_w g fi ca w) w1) :
    BRangeGot #[.int .i64 0, .int .i64 0] r w w1 := by
  have hs := h.size
  simp at hs
  have n1 : w.heap.size + 1 ∉ r := fun hm => by have := hr _ hm; omega
  have n2 : w.heap.size + 1 + 1 ∉ r := fun hm => by have := hr _ hm; omega
  obtain ⟨k1, k2⟩ := bRange_w_blk g fi ca w
  exact ⟨(Mv.of_below (bRange_w_below g fi ca w) r).trans (h.mono (by omega) fun x hx => .inl hx), by omega, k1.mv h (by omega) n1, k2.mv h (by omega) n2⟩

theorem BRangeGot.set {cs cs' : Array Value} {r : List Nat} {w w1 w2 : World} (h : BRangeGot cs r w w1) (ho : bRangeOnly (w.heap.size + 1) w1 w2) (hb : Blk w2 (w.heap.size + 1) 23 cs') : BRangeGot cs' r w w2 := by
  obtain ⟨m, s, k1, k2⟩ := h
  exact ⟨m.trans (Mv.of_below (ho.below (by omega)) r), by rw [ho.size]; exact s, hb, ho.blk (by omega) k2⟩

theorem BRangeGot.below {cs : Array Value} {r : List Nat} {w w1 w2 : World} (h : BRangeGot cs r w w1) (hb : Below (w.heap.size + 3) w1 w2) : BRangeGot cs r w w2 := by
  obtain ⟨m, s, k1, k2⟩ := h
  have := hb.size
  exact ⟨m.trans (Mv.of_below (hb.mono (by omega)) r), by omega, k1.below hb (by omega), k2.below hb (by omega)⟩

/-- Catch over the closure. -/
theorem bRange_catch_returns (g : FuncId) (fi ca : Array Value) (va vb : Int) (w : World) (r : List Nat) (R : World → Prop) (hr : ∀ x ∈ r, x < w.heap.size)
    (hR : ∀ W1 W2, Below w.heap.size W1 W2 → R W1 → R W2) (hen : ∀ w : World, (callFunc g (fi ++ ca)).run Tryd.prog w = .ok (.enter g (fi ++ ca)) w)
    (hf : ∀ W, Below w.heap.size w W → Calls Tryd.prog g (fi ++ ca) W fun e w1 => e = .returned (.agg #[.int .i64 va, .int .i64 vb]) ∧ Mv W.heap.size r W w1 ∧ R w1) :
    Calls Tryd.prog 49 #[.func (.func 59) #[] #[.pointer (some ⟨w.heap.size, 0, none⟩), .pointer (some ⟨w.heap.size + 1, 0, none⟩)]] (bRange_w g fi ca w)
      fun e w' => e = .returned (.tuple #[flt 0 0, .bool false]) ∧ BRangeGot #[.int .i64 va, .int .i64 vb] r w w' ∧ R w' := by
  have hw := bRange_w_below g fi ca w
  have hsz : (bRange_w g fi ca w).heap.size = w.heap.size + 3 := by simp
  refine (catch_returns 59 #[] #[.pointer (some ⟨w.heap.size, 0, none⟩), .pointer (some ⟨w.heap.size + 1, 0, none⟩)] (bRange_w g fi ca w)
    (fun w1 => ∃ w0, (Mv (w.heap.size + 5) r (cw (bRange_w g fi ca w)) w0 ∧ R w0) ∧ bRangeOnly (w.heap.size + 1) w0 w1 ∧ Blk w1 (w.heap.size + 1) 23 #[.int .i64 va, .int .i64 vb]) ?_ (bRange_enter _ _) ?_).mono ?_
  · rintro w1 ⟨w0, ⟨h, _⟩, ho, _⟩
    refine keeps_mv (bRange_w g fi ca w) w1 ((w.heap.size + 1) :: r) (fun x hx => ?_) ?_
    · rw [hsz]
      rcases List.mem_cons.1 hx with rfl | hx
      · omega
      · have := hr x hx; omega
    · rw [hsz]
      exact (h.mono (by omega) fun x hx => .inl (List.mem_cons_of_mem _ hx)).trans (ho.mv.mono (B := w.heap.size + 3 + 2) (Nat.le_refl _) fun x hx => .inl (by simp at hx; simp [hx]))
  · have hcw := cw_below (bRange_w g fi ca w)
    refine (bRange_closure_returns g fi ca ⟨w.heap.size, 0, none⟩ (w.heap.size + 1) (.int .i64 0) (.int .i64 0) va vb (cw (bRange_w g fi ca w)) (fun w0 => Mv (w.heap.size + 5) r (cw (bRange_w g fi ca w)) w0 ∧ R w0) ?_ ?_ hen ?_).mono ?_
    · rw [hcw.cell (by simp; omega)]; simp [go_sem]
    · rintro w1 ⟨h, _⟩
      have n1 : w.heap.size + 1 ∉ r := fun hm => by have := hr _ hm; omega
      exact (((bRange_w_blk g fi ca w).1.below hcw (by rw [hsz]; omega))).mv h (by omega) n1
    · refine (hf _ (hw.trans (hcw.mono (by simp; omega)))).mono ?_
      rintro e w1 ⟨h1, h2, h3⟩
      exact ⟨h1, h2.mono (by simp) fun x hx => .inl hx, h3⟩
    · rintro e w1 ⟨rfl, w0, h, h2⟩
      exact ⟨⟨_, rfl⟩, w0, h, h2⟩
  · rintro e w' ⟨rfl, w1, ⟨w0, ⟨h, hq⟩, ho, hbk⟩, rfl⟩
    have hcw := cw_below (bRange_w g fi ca w)
    have hm : Mv (w.heap.size + 3) r (bRange_w g fi ca w) w0 := (Mv.of_below (hcw.mono (by simp)) r).trans (h.mono (by omega) fun x hx => .inl hx)
    have hg := (bRange_got g fi ca r w w0 hr hm).set ho hbk
    rw [hsz]
    have hb : ∀ B, B ≤ w.heap.size + 3 → Below B w1 (((w1.setCell ⟨w.heap.size + 3, 0, none⟩ (.int .i64 0)).setCell ⟨w.heap.size + 3, 1, none⟩ (.int .i64 0)).setCell ⟨w.heap.size + 3 + 1, 0, none⟩ (.bool false)) :=
      fun B hB => (((Below.refl _ _).setCell (by simp; omega) _).setCell (by simp; omega) _).setCell (by simp; omega) _
    exact ⟨rfl, hg.below (hb _ (Nat.le_refl _)), hR _ _ (hb _ (by omega)) (hR _ _ (ho.below (by omega)) hq)⟩

theorem bRange_catch_throws (g : FuncId) (fi ca : Array Value) (a c : Int) (w : World) (r : List Nat) (R : World → Prop) (hr : ∀ x ∈ r, x < w.heap.size)
    (hR : ∀ W1 W2, Below w.heap.size W1 W2 → R W1 → R W2) (hen : ∀ w : World, (callFunc g (fi ++ ca)).run Tryd.prog w = .ok (.enter g (fi ++ ca)) w)
    (hf : ∀ W, Below w.heap.size w W → Calls Tryd.prog g (fi ++ ca) W fun e w1 => e = pnc a c ∧ Mv W.heap.size r W w1 ∧ R w1) :
    Calls Tryd.prog 49 #[.func (.func 59) #[] #[.pointer (some ⟨w.heap.size, 0, none⟩), .pointer (some ⟨w.heap.size + 1, 0, none⟩)]] (bRange_w g fi ca w)
      fun e w' => e = .returned (.tuple #[flt a c, .bool true]) ∧ BRangeGot #[.int .i64 0, .int .i64 0] r w w' ∧ R w' := by
  have hw := bRange_w_below g fi ca w
  have hsz : (bRange_w g fi ca w).heap.size = w.heap.size + 3 := by simp
  refine (catch_mv_throws 59 #[] #[.pointer (some ⟨w.heap.size, 0, none⟩), .pointer (some ⟨w.heap.size + 1, 0, none⟩)] (bRange_w g fi ca w) a c r R (fun x hx => by have := hr x hx; simp; omega)
    (fun W1 W2 hb h => hR W1 W2 (hb.mono (by simp; omega)) h) (bRange_enter _ _) ?_).mono ?_
  · intro W hW
    refine bRange_closure_throws g fi ca ⟨w.heap.size, 0, none⟩ (w.heap.size + 1) a c W (fun w1 => Mv W.heap.size r W w1 ∧ R w1) ?_ hen (hf _ (hw.trans (hW.mono (by simp; omega))))
    rw [hW.cell (by simp; omega)]; simp [go_sem]
  · rintro e w' ⟨rfl, h, hq⟩
    exact ⟨rfl, bRange_got g fi ca r w w' hr (h.mono (by simp) fun x hx => .inl hx), hq⟩

/-- Behind the store of what Catch told. -/
abbrev bRange_put (n : Nat) (a c : Int) (w : World) : World := (w.setCell ⟨n + 1 + 1, 0, none⟩ (.int .i64 a)).setCell ⟨n + 1 + 1, 1, none⟩ (.int .i64 c)
theorem BRangeGot.put {cs : Array Value} {r : List Nat} {w w1 : World} (h : BRangeGot cs r w w1) (a c : Int) :
    Mv w.heap.size r w (bRange_put w.heap.size a c w1) ∧ Blk (bRange_put w.heap.size a c w1) (w.heap.size + 1) 23 cs ∧ Blk (bRange_put w.heap.size a c w1) (w.heap.size + 1 + 1) 53 #[.int .i64 a, .int .i64 c] := by
  obtain ⟨m, s, k1, k2⟩ := h
  exact ⟨(m.setCell (.inr (by simp; omega)) _).setCell (.inr (by simp; omega)) _, (k1.far (by simp) _).far (by simp) _, (k2.set_ 0 _).set_ 1 _⟩

/-- What attempt's end comes to, whatever it was that Catch told. -/
abbrev bRange_tell (x y : Value) (a c : Int) (f : Bool) : Ending := .returned (.tuple #[.agg #[x, y], .agg #[.int .i64 a, .int .i64 c], .bool f])

set_option maxHeartbeats 1000000 in
theorem bRange_returns (g : FuncId) (fi ca : Array Value) (va vb : Int) (w : World) (r : List Nat) (R : World → Prop) (hr : ∀ x ∈ r, x < w.heap.size)
    (hR : ∀ W1 W2, Below w.heap.size W1 W2 → R W1 → R W2) (hen : ∀ w : World, (callFunc g (fi ++ ca)).run Tryd.prog w = .ok (.enter g (fi ++ ca)) w)
    (hf : ∀ W, Below w.heap.size w W → Calls Tryd.prog g (fi ++ ca) W fun e w1 => e = .returned (.agg #[.int .i64 va, .int .i64 vb]) ∧ Mv W.heap.size r W w1 ∧ R w1) :
    Calls Tryd.prog 45 #[.func (.func g) fi ca] w fun e w' => e = bRange_tell (.int .i64 va) (.int .i64 vb) 0 0 false ∧ Mv w.heap.size r w w' ∧ R w' := by
  have hmf := make_func
  have heq := bRange_eq_func_nil
  go_enter Tryd.func45, Tryd.ntmps45
  go_wp2_with fail
  refine (bRange_catch_returns g fi ca va vb w r R hr hR hen hf).mono ?_
  rintro e w1 ⟨rfl, hb1, hq⟩
  have hR' : Hid _ := hR
  clear hen hf hmf heq hr hR
  obtain ⟨hm, k1, k2⟩ := hb1.put 0 0
  have hq2 : Hid (R (bRange_put w.heap.size 0 0 w1)) := hR'.out _ _ (((Below.refl _ _).setCell (by simp; omega) _).setCell (by simp; omega) _) hq
  have hm2 : Hid _ := hm
  have K1 := Lib.hid k1
  have K2 := Lib.hid k2
  clear hq hm k1 k2
  have c2 : w1.cell? ⟨w.heap.size + 1 + 1, 0, none⟩ = some (.int .i64 0) := hb1.flt.cell 0
  have c3 : w1.cell? ⟨w.heap.size + 1 + 1, 1, none⟩ = some (.int .i64 0) := hb1.flt.cell 1
  have z2 := hb1.flt.frozen 0
  have z3 := hb1.flt.frozen 1
  have hz := hb1.size
  clear hb1
  go_wp2_with fail
  unfold bRange_put at K1 K2 hm2 hq2
  generalize (w1.setCell ⟨w.heap.size + 1 + 1, 0, none⟩ (.int .i64 0)).setCell ⟨w.heap.size + 1 + 1, 1, none⟩ (.int .i64 0) = w2 at *
  clear c2 c3 z2 z3 hz
  have e0 : w2.cell? ⟨w.heap.size + 1, 0, none⟩ = some ((.int .i64 va)) := K1.out.cell 0
  have e1 : w2.cell? ⟨w.heap.size + 1, 1, none⟩ = some ((.int .i64 vb)) := K1.out.cell 1
  have e2 : w2.cell? ⟨w.heap.size + 1 + 1, 0, none⟩ = some (.int .i64 0) := K2.out.cell 0
  have e3 : w2.cell? ⟨w.heap.size + 1 + 1, 1, none⟩ = some (.int .i64 0) := K2.out.cell 1
  have f0 := K1.out.frozen 0
  have f1 := K1.out.frozen 1
  have f2 := K2.out.frozen 0
  have f3 := K2.out.frozen 1
  have G := Lib.hid (bRange_again (by omega) (.int .i64 va) (.int .i64 vb) (.int .i64 0) (.int .i64 0) K1.out K2.out)
  go_region
  all_goals go_wp2
  obtain ⟨G1, G2⟩ := G.out
  have g0 : _ = some ((.int .i64 va) : Value) := G1.cell 0
  have g1 : _ = some ((.int .i64 vb) : Value) := G1.cell 1
  have g2 : _ = some (.int .i64 0 : Value) := G2.cell 0
  have g3 : _ = some (.int .i64 0 : Value) := G2.cell 1
  have hb3 : Below w.heap.size w2 ((((w2.setCell ⟨w.heap.size + 1, 0, none⟩ ((.int .i64 va))).setCell ⟨w.heap.size + 1, 1, none⟩ ((.int .i64 vb))).setCell ⟨w.heap.size + 1 + 1, 0, none⟩ (.int .i64 0)).setCell ⟨w.heap.size + 1 + 1, 1, none⟩ (.int .i64 0)) :=
    ((((Below.refl _ _).setCell (by simp) _).setCell (by simp) _).setCell (by simp; omega) _).setCell (by simp; omega) _
  refine bodyPost_ret (v := .tuple #[.agg #[(.int .i64 va), (.int .i64 vb)], .agg #[.int .i64 0, .int .i64 0], .bool false]) (by simp [results, Tryd.results45, go_sem, g0, g1, g2, g3]) rfl ⟨rfl, ?_, ?_⟩
  · exact (hm2.out.trans (Mv.of_below hb3 r)).drew
  · exact hR'.out _ _ hb3.drew hq2.out

set_option maxHeartbeats 1000000 in
theorem bRange_throws (g : FuncId) (fi ca : Array Value) (a c : Int) (w : World) (r : List Nat) (R : World → Prop) (hr : ∀ x ∈ r, x < w.heap.size)
    (hR : ∀ W1 W2, Below w.heap.size W1 W2 → R W1 → R W2) (hen : ∀ w : World, (callFunc g (fi ++ ca)).run Tryd.prog w = .ok (.enter g (fi ++ ca)) w)
    (hf : ∀ W, Below w.heap.size w W → Calls Tryd.prog g (fi ++ ca) W fun e w1 => e = pnc a c ∧ Mv W.heap.size r W w1 ∧ R w1) :
    Calls Tryd.prog 45 #[.func (.func g) fi ca] w fun e w' => e = bRange_tell (.int .i64 0) (.int .i64 0) a c true ∧ Mv w.heap.size r w w' ∧ R w' := by
  have hmf := make_func
  have heq := bRange_eq_func_nil
  go_enter Tryd.func45, Tryd.ntmps45
  go_wp2_with fail
  refine (bRange_catch_throws g fi ca a c w r R hr hR hen hf).mono ?_
  rintro e w1 ⟨rfl, hb1, hq⟩
  have hR' : Hid _ := hR
  clear hen hf hmf heq hr hR
  obtain ⟨hm, k1, k2⟩ := hb1.put a c
  have hq2 : Hid (R (bRange_put w.heap.size a c w1)) := hR'.out _ _ (((Below.refl _ _).setCell (by simp; omega) _).setCell (by simp; omega) _) hq
  have hm2 : Hid _ := hm
  have K1 := Lib.hid k1
  have K2 := Lib.hid k2
  clear hq hm k1 k2
  have c2 : w1.cell? ⟨w.heap.size + 1 + 1, 0, none⟩ = some (.int .i64 0) := hb1.flt.cell 0
  have c3 : w1.cell? ⟨w.heap.size + 1 + 1, 1, none⟩ = some (.int .i64 0) := hb1.flt.cell 1
  have z2 := hb1.flt.frozen 0
  have z3 := hb1.flt.frozen 1
  have hz := hb1.size
  clear hb1
  go_wp2_with fail
  unfold bRange_put at K1 K2 hm2 hq2
  generalize (w1.setCell ⟨w.heap.size + 1 + 1, 0, none⟩ (.int .i64 a)).setCell ⟨w.heap.size + 1 + 1, 1, none⟩ (.int .i64 c) = w2 at *
  clear c2 c3 z2 z3 hz
  have e0 : w2.cell? ⟨w.heap.size + 1, 0, none⟩ = some ((.int .i64 0)) := K1.out.cell 0
  have e1 : w2.cell? ⟨w.heap.size + 1, 1, none⟩ = some ((.int .i64 0)) := K1.out.cell 1
  have e2 : w2.cell? ⟨w.heap.size + 1 + 1, 0, none⟩ = some (.int .i64 a) := K2.out.cell 0
  have e3 : w2.cell? ⟨w.heap.size + 1 + 1, 1, none⟩ = some (.int .i64 c) := K2.out.cell 1
  have f0 := K1.out.frozen 0
  have f1 := K1.out.frozen 1
  have f2 := K2.out.frozen 0
  have f3 := K2.out.frozen 1
  have G := Lib.hid (bRange_again (by omega) (.int .i64 0) (.int .i64 0) (.int .i64 a) (.int .i64 c) K1.out K2.out)
  go_region
  all_goals go_wp2
  obtain ⟨G1, G2⟩ := G.out
  have g0 : _ = some ((.int .i64 0) : Value) := G1.cell 0
  have g1 : _ = some ((.int .i64 0) : Value) := G1.cell 1
  have g2 : _ = some (.int .i64 a : Value) := G2.cell 0
  have g3 : _ = some (.int .i64 c : Value) := G2.cell 1
  have hb3 : Below w.heap.size w2 ((((w2.setCell ⟨w.heap.size + 1, 0, none⟩ ((.int .i64 0))).setCell ⟨w.heap.size + 1, 1, none⟩ ((.int .i64 0))).setCell ⟨w.heap.size + 1 + 1, 0, none⟩ (.int .i64 a)).setCell ⟨w.heap.size + 1 + 1, 1, none⟩ (.int .i64 c)) :=
    ((((Below.refl _ _).setCell (by simp) _).setCell (by simp) _).setCell (by simp; omega) _).setCell (by simp; omega) _
  refine bodyPost_ret (v := .tuple #[.agg #[(.int .i64 0), (.int .i64 0)], .agg #[.int .i64 a, .int .i64 c], .bool true]) (by simp [results, Tryd.results45, go_sem, g0, g1, g2, g3]) rfl ⟨rfl, ?_, ?_⟩
  · exact (hm2.out.trans (Mv.of_below hb3 r)).drew
  · exact hR'.out _ _ hb3.drew hq2.out

set_option maxHeartbeats 1000000 in
theorem valuebRange_any (g : FuncId) (fi ca : Array Value) (va vb : Int) (a c : Int) (f : Bool) (w : World) (r : List Nat) (R : World → Prop) (hr : ∀ x ∈ r, x < w.heap.size)
    (hR : ∀ W1 W2, Below w.heap.size W1 W2 → R W1 → R W2)
    (h : Calls Tryd.prog 45 #[.func (.func g) fi ca] ((w.alloc (.cells #[.int .i64 0, .int .i64 0] 23)).alloc (flc 0 0)) fun e w' => e = bRange_tell (.int .i64 va) (.int .i64 vb) a c f ∧ Mv (w.heap.size + 2) r ((w.alloc (.cells #[.int .i64 0, .int .i64 0] 23)).alloc (flc 0 0)) w' ∧ R w') :
    Calls Tryd.prog 26 #[.func (.func g) fi ca] w fun e w' => e = .returned (.tuple #[.agg #[.int .i64 va, .int .i64 vb], .agg #[.int .i64 a, .int .i64 c]]) ∧ Mv w.heap.size r w w' ∧ R w' := by
  go_enter Tryd.func26, Tryd.ntmps26
  go_wp2_with (go_at_call 45; refine h.mono ?_; rintro e w1 ⟨rfl, hb1, hq⟩)
  have hR' : Hid _ := hR
  have hz := hb1.size
  simp at hz
  have n0 : w.heap.size ∉ r := fun hm => by have := hr _ hm; omega
  have n1 : w.heap.size + 1 ∉ r := fun hm => by have := hr _ hm; omega
  obtain ⟨w2, hw2⟩ : ∃ w2, w2 = (w1.alloc (.cells #[.int .i64 va, .int .i64 vb] 23)).alloc (.cells #[.int .i64 a, .int .i64 c] 53) := ⟨_, rfl⟩
  have k0 : Blk ((w.alloc (.cells #[.int .i64 0, .int .i64 0] 23)).alloc (flc 0 0)) w.heap.size 23 #[.int .i64 0, .int .i64 0] := (Blk.new w _ _).alloc _
  have k1 : Blk ((w.alloc (.cells #[.int .i64 0, .int .i64 0] 23)).alloc (flc 0 0)) (w.heap.size + 1) 53 #[.int .i64 0, .int .i64 0] := by
    have := Blk.new (w.alloc (.cells #[.int .i64 0, .int .i64 0] 23)) 53 #[.int .i64 0, .int .i64 0]
    simpa using this
  have K0 := Lib.hid (show Blk w2 w.heap.size 23 #[.int .i64 0, .int .i64 0] from by rw [hw2]; exact ((k0.mv hb1 (by omega) n0).alloc _).alloc _)
  have K1 := Lib.hid (show Blk w2 (w.heap.size + 1) 53 #[.int .i64 0, .int .i64 0] from by rw [hw2]; exact ((k1.mv hb1 (by omega) n1).alloc _).alloc _)
  have K2 := Lib.hid (show Blk w2 w1.heap.size 23 #[.int .i64 va, .int .i64 vb] from by rw [hw2]; exact (Blk.new w1 _ _).alloc _)
  have K3 := Lib.hid (show Blk w2 (w1.heap.size + 1) 53 #[.int .i64 a, .int .i64 c] from by
    have := Blk.new (w1.alloc (.cells #[.int .i64 va, .int .i64 vb] 23)) 53 #[.int .i64 a, .int .i64 c]
    rw [hw2]
    simpa using this)
  have hbw : Hid (Mv w.heap.size r w w2) := by
    rw [hw2]
    exact (((Mv.of_below (((Below.refl _ _).alloc (Nat.le_refl _) _).alloc (by simp) _) r).trans (hb1.mono (by omega) fun x hx => .inl hx)).alloc (by omega) _).alloc (by simp; omega) _
  have hq2 : Hid (R w2) := by
    rw [hw2]
    exact hR _ _ (((Below.refl _ _).alloc (by omega) _).alloc (by simp; omega) _) hq
  clear hb1 h hq hR hr k0 k1
  go_wp2_with fail
  rw [← hw2]
  have HW2 := Lib.hid hw2
  clear hw2
  have hn : w1.heap.size + 1 < w2.heap.size := K3.out.lt
  have G := Lib.hid (bRange_again (by omega) (.int .i64 va) (.int .i64 vb) (.int .i64 a) (.int .i64 c) K0.out K1.out)
  have e0 : w2.cell? ⟨w.heap.size, 0, none⟩ = some (.int .i64 0) := K0.out.cell 0
  have e1 : w2.cell? ⟨w.heap.size, 1, none⟩ = some (.int .i64 0) := K0.out.cell 1
  have e2 : w2.cell? ⟨w.heap.size + 1, 0, none⟩ = some (.int .i64 0) := K1.out.cell 0
  have e3 : w2.cell? ⟨w.heap.size + 1, 1, none⟩ = some (.int .i64 0) := K1.out.cell 1
  have f0 := K0.out.frozen 0
  have f1 := K0.out.frozen 1
  have f2 := K1.out.frozen 0
  have f3 := K1.out.frozen 1
  have d0 : w2.cell? ⟨w1.heap.size, 0, none⟩ = some (.int .i64 va) := K2.out.cell 0
  have d1 : w2.cell? ⟨w1.heap.size, 1, none⟩ = some (.int .i64 vb) := K2.out.cell 1
  have d2 : w2.cell? ⟨w1.heap.size + 1, 0, none⟩ = some (.int .i64 a) := K3.out.cell 0
  have d3 : w2.cell? ⟨w1.heap.size + 1, 1, none⟩ = some (.int .i64 c) := K3.out.cell 1
  clear HW2 K0 K1 K2 K3
  generalize w1.heap.size = m1 at *
  go_region
  all_goals go_wp2
  obtain ⟨G1, G2⟩ := G.out
  have g0 : _ = some (.int .i64 va : Value) := G1.cell 0
  have g1 : _ = some (.int .i64 vb : Value) := G1.cell 1
  have g2 : _ = some (.int .i64 a : Value) := G2.cell 0
  have g3 : _ = some (.int .i64 c : Value) := G2.cell 1
  have hb3 : Below w.heap.size w2 ((((w2.setCell ⟨w.heap.size, 0, none⟩ (.int .i64 va)).setCell ⟨w.heap.size, 1, none⟩ (.int .i64 vb)).setCell ⟨w.heap.size + 1, 0, none⟩ (.int .i64 a)).setCell ⟨w.heap.size + 1, 1, none⟩ (.int .i64 c)) :=
    ((((Below.refl _ _).setCell (by simp) _).setCell (by simp) _).setCell (by simp) _).setCell (by simp) _
  refine bodyPost_ret (v := .tuple #[.agg #[.int .i64 va, .int .i64 vb], .agg #[.int .i64 a, .int .i64 c]]) (by simp [results, Tryd.results26, go_sem, g0, g1, g2, g3]) rfl ⟨rfl, ?_, ?_⟩
  · exact (hbw.out.trans (Mv.of_below hb3 r)).drew
  · exact hR'.out _ _ hb3.drew hq2.out

theorem valuebRange_returns (g : FuncId) (fi ca : Array Value) (va vb : Int) (w : World) (r : List Nat) (R : World → Prop) (hr : ∀ x ∈ r, x < w.heap.size)
    (hR : ∀ W1 W2, Below w.heap.size W1 W2 → R W1 → R W2) (hen : ∀ w : World, (callFunc g (fi ++ ca)).run Tryd.prog w = .ok (.enter g (fi ++ ca)) w)
    (hf : ∀ W, Below w.heap.size w W → Calls Tryd.prog g (fi ++ ca) W fun e w1 => e = .returned (.agg #[.int .i64 va, .int .i64 vb]) ∧ Mv W.heap.size r W w1 ∧ R w1) :
    Calls Tryd.prog 26 #[.func (.func g) fi ca] w fun e w' => e = .returned (.tuple #[.agg #[.int .i64 va, .int .i64 vb], flt 0 0]) ∧ Mv w.heap.size r w w' ∧ R w' := by
  refine valuebRange_any g fi ca va vb 0 0 false w r R hr hR ?_
  have hb : Below w.heap.size w ((w.alloc (.cells #[.int .i64 0, .int .i64 0] 23)).alloc (flc 0 0)) := ((Below.refl _ _).alloc (Nat.le_refl _) _).alloc (by simp) _
  refine (bRange_returns g fi ca va vb ((w.alloc (.cells #[.int .i64 0, .int .i64 0] 23)).alloc (flc 0 0)) r R (fun x hx => by have := hr x hx; simp; omega) (fun W1 W2 h => hR W1 W2 (h.mono (by simp; omega))) hen fun W hW => hf W (hb.trans (hW.mono (by simp; omega)))).mono ?_
  rintro e w' ⟨h1, h2, h3⟩
  exact ⟨h1, by simpa using h2, h3⟩

theorem valuebRange_throws (g : FuncId) (fi ca : Array Value) (a c : Int) (w : World) (r : List Nat) (R : World → Prop) (hr : ∀ x ∈ r, x < w.heap.size)
    (hR : ∀ W1 W2, Below w.heap.size W1 W2 → R W1 → R W2) (hen : ∀ w : World, (callFunc g (fi ++ ca)).run Tryd.prog w = .ok (.enter g (fi ++ ca)) w)
    (hf : ∀ W, Below w.heap.size w W → Calls Tryd.prog g (fi ++ ca) W fun e w1 => e = pnc a c ∧ Mv W.heap.size r W w1 ∧ R w1) :
    Calls Tryd.prog 26 #[.func (.func g) fi ca] w fun e w' => e = .returned (.tuple #[.agg #[.int .i64 0, .int .i64 0], flt a c]) ∧ Mv w.heap.size r w w' ∧ R w' := by
  refine valuebRange_any g fi ca 0 0 a c true w r R hr hR ?_
  have hb : Below w.heap.size w ((w.alloc (.cells #[.int .i64 0, .int .i64 0] 23)).alloc (flc 0 0)) := ((Below.refl _ _).alloc (Nat.le_refl _) _).alloc (by simp) _
  refine (bRange_throws g fi ca a c ((w.alloc (.cells #[.int .i64 0, .int .i64 0] 23)).alloc (flc 0 0)) r R (fun x hx => by have := hr x hx; simp; omega) (fun W1 W2 h => hR W1 W2 (h.mono (by simp; omega))) hen fun W hW => hf W (hb.trans (hW.mono (by simp; omega)))).mono ?_
  rintro e w' ⟨h1, h2, h3⟩
  exact ⟨h1, by simpa using h2, h3⟩

end Go.Proofs.YtaolclpjlkdkjaaDoor
namespace Go.Proofs.YtaolclpjlkdkjaaDoor
open Go.RowKit

/-- A walk of a method: its own reader, the cursor, and what it will hand back. -/
structure Rdt (T : TypeId) (zs : Array Value) (a w : World) (cb : Nat) (s : ByteArray) (k : Nat) : Prop where
  rd : Rdr a w cb s k
  res : Blk w (a.heap.size + 1) T zs
theorem Rdt.new {w : World} {cb k : Nat} {s : ByteArray} (T : TypeId) (zs : Array Value) (h : Cur w cb s k) : Rdt T zs w ((w.alloc (.cells #[cptr cb] 47)).alloc (.cells zs T)) cb s k := by
  have r := Rdr.new h
  refine ⟨⟨r.mv.alloc (by simp) _, r.cur.alloc _, r.own.alloc _, r.lt⟩, ?_⟩
  have := Blk.new (w.alloc (.cells #[cptr cb] 47)) T zs
  simpa using this
theorem Rdt.step {T : TypeId} {zs : Array Value} {a w w' : World} {cb k j : Nat} {s : ByteArray} (h : Rdt T zs a w cb s k) (m : Mv w.heap.size [cb] w w') (c : Cur w' cb s j) : Rdt T zs a w' cb s j :=
  ⟨h.rd.step m c, h.res.mv m h.res.lt (by have := h.rd.lt; simp; omega)⟩
theorem Rdt.below {T : TypeId} {zs : Array Value} {a w w' : World} {cb k : Nat} {s : ByteArray} (h : Rdt T zs a w cb s k) (b : Below w.heap.size w w') : Rdt T zs a w' cb s k := h.step (Mv.of_below b _) (h.rd.cur.below b h.rd.cur.lt)
theorem Rdt.drew {T : TypeId} {zs : Array Value} {a w : World} {cb k : Nat} {s : ByteArray} (h : Rdt T zs a w cb s k) : Rdt T zs a w.drew cb s k := ⟨h.rd.drew, h.res⟩
theorem Rdt.alloc {T : TypeId} {zs : Array Value} {a w : World} {cb k : Nat} {s : ByteArray} (h : Rdt T zs a w cb s k) (o : Obj) : Rdt T zs a (w.alloc o) cb s k :=
  ⟨⟨h.rd.mv.alloc h.rd.mv.size _, h.rd.cur.alloc _, h.rd.own.alloc _, h.rd.lt⟩, h.res.alloc _⟩
theorem Rdt.keep {T : TypeId} {zs : Array Value} {a w : World} {cb k : Nat} {s : ByteArray} (h : Rdt T zs a w cb s k) : w.cell? ⟨a.heap.size, 0, none⟩ = some (cptr cb) := h.rd.keep
theorem Rdt.cur {T : TypeId} {zs : Array Value} {a w : World} {cb k : Nat} {s : ByteArray} (h : Rdt T zs a w cb s k) : Cur w cb s k := h.rd.cur
theorem Rdt.mv {T : TypeId} {zs : Array Value} {a w : World} {cb k : Nat} {s : ByteArray} (h : Rdt T zs a w cb s k) : Mv a.heap.size [cb] a w := h.rd.mv
theorem Rdt.gone {T : TypeId} {zs : Array Value} {a w w' : World} {cb k : Nat} {s : ByteArray} (h : Rdt T zs a w cb s k) (m : Mv w.heap.size [cb] w w') : Mv a.heap.size [cb] a w' := h.mv.chain m (Nat.le_refl _)
theorem Rdt.left {T : TypeId} {zs : Array Value} {a w w' : World} {cb k : Nat} {s : ByteArray} (h : Rdt T zs a w cb s k) (b : Below w.heap.size w w') : Mv a.heap.size [cb] a w' := h.gone (Mv.of_below b _)

theorem Rdt.put {T : TypeId} {zs : Array Value} {a w : World} {cb k nb : Nat} {s : ByteArray} (h : Rdt T zs a w cb s k) (hn : a.heap.size + 2 ≤ nb) (i : Nat) (u : Value) : Rdt T zs a (w.setCell ⟨nb, i, none⟩ u) cb s k := by
  have := h.rd.lt
  exact ⟨⟨h.rd.mv.setCell (.inr (by simp; omega)) _, Blk.far h.rd.cur (by simp; omega) _, h.rd.own.far (by simp; omega) _, h.rd.lt⟩, h.res.far (by simp; omega) _⟩
theorem Rdt.room {T : TypeId} {zs : Array Value} {a w : World} {cb k : Nat} {s : ByteArray} (h : Rdt T zs a w cb s k) : a.heap.size + 2 ≤ w.heap.size := by
  have := h.res.lt
  omega
/-- The same, with a variable of its own besides. -/
structure Rdu (T : TypeId) (zs vs : Array Value) (nb : Nat) (a w : World) (cb : Nat) (s : ByteArray) (k : Nat) : Prop where
  t : Rdt T zs a w cb s k
  loc : Blk w nb T vs
  far : a.heap.size + 2 ≤ nb
theorem Rdu.below {T : TypeId} {zs vs : Array Value} {nb : Nat} {a w w' : World} {cb k : Nat} {s : ByteArray} (h : Rdu T zs vs nb a w cb s k) (b : Below w.heap.size w w') : Rdu T zs vs nb a w' cb s k := ⟨h.t.below b, h.loc.below b h.loc.lt, h.far⟩
theorem Rdu.drew {T : TypeId} {zs vs : Array Value} {nb : Nat} {a w : World} {cb k : Nat} {s : ByteArray} (h : Rdu T zs vs nb a w cb s k) : Rdu T zs vs nb a w.drew cb s k := ⟨h.t.drew, h.loc, h.far⟩
theorem Rdu.left {T : TypeId} {zs vs : Array Value} {nb : Nat} {a w : World} {cb k : Nat} {s : ByteArray} (h : Rdu T zs vs nb a w cb s k) : Mv a.heap.size [cb] a w := h.t.mv
theorem Rdu.keep2 {T : TypeId} {zs : Array Value} {u v : Value} {nb : Nat} {a w : World} {cb k : Nat} {s : ByteArray} (h : Rdu T zs #[u, v] nb a w cb s k) : w.cell? ⟨a.heap.size, 0, none⟩ = some (cptr cb) ∧ w.cell? ⟨nb, 0, none⟩ = some u ∧ w.cell? ⟨nb, 1, none⟩ = some v := ⟨h.t.keep, h.loc.cell 0, h.loc.cell 1⟩
theorem Rdu.keep3 {T : TypeId} {zs : Array Value} {u v x : Value} {nb : Nat} {a w : World} {cb k : Nat} {s : ByteArray} (h : Rdu T zs #[u, v, x] nb a w cb s k) : w.cell? ⟨a.heap.size, 0, none⟩ = some (cptr cb) ∧ w.cell? ⟨nb, 0, none⟩ = some u ∧ w.cell? ⟨nb, 1, none⟩ = some v ∧ w.cell? ⟨nb, 2, none⟩ = some x := ⟨h.t.keep, h.loc.cell 0, h.loc.cell 1, h.loc.cell 2⟩

/-- How a method ends that reads a range. -/
def RngEnd (o : Except (Nat × Int) (Int × Int)) (e : Ending) : Prop := (∃ x y, o = .ok (x, y) ∧ e = .returned (rngV x y)) ∨ (∃ (a : Nat) (c : Int), o = .error (a, c) ∧ e = pnc a c)
theorem RngEnd.bad {o : Except (Nat × Int) (Int × Int)} {a : Nat} {c : Int} (h : o = .error (a, c)) : RngEnd o (pnc a c) := .inr ⟨a, c, h, rfl⟩

theorem pcheck_any (a : Nat) (c : Int) (hc : c ≠ 0) (b : Bool) (w : World) : Calls Tryd.prog 37 #[.bool b, .int .i64 a, .int .i64 c] w fun e w' => ((b = true ∧ e = unitV) ∨ (b = false ∧ e = pnc a c)) ∧ w = w' := by
  cases b
  · refine (check_not _ _ _).mono ?_
    rintro e w1 ⟨h1, h2⟩
    rw [tc_of hc] at h1
    exact ⟨.inr ⟨rfl, h1⟩, h2⟩
  · exact (check_ok _ _ _).mono fun e w1 ⟨h1, h2⟩ => ⟨.inl ⟨rfl, h1⟩, h2⟩

set_option maxRecDepth 100000 in
set_option maxHeartbeats 8000000 in
theorem asked_walk (cb a u b c d m f g n : Nat) (z1 z2 z3 : Bool) (q1 q2 q3 q4 q5 _q6 xf xt : ByteArray) (nf nt : Option Int) (O : Except (Nat × Int) (Int × Int)) (s : ByteArray) (w : World) (hC : Cur w cb s 0)
    (HB1 : Hid (∀ W, Cur W cb s 0 → Calls Tryd.prog 29 #[rdV cb] W fun r w' => r = .returned (.string q1) ∧ Mv W.heap.size [cb] W w' ∧ Cur w' cb s a))
    (HU : Hid (∀ W, Cur W cb s a → Calls Tryd.prog 30 #[rdV cb] W fun r w' => ((z1 = true ∧ r = unitV ∧ Cur w' cb s u) ∨ (z1 = false ∧ r = pnc u 2)) ∧ Mv W.heap.size [cb] W w'))
    (HB2 : Hid (∀ W, Cur W cb s u → Calls Tryd.prog 29 #[rdV cb] W fun r w' => r = .returned (.string q2) ∧ Mv W.heap.size [cb] W w' ∧ Cur w' cb s b))
    (HM1 : Hid (∀ W, Cur W cb s b → Calls Tryd.prog 31 #[rdV cb, .string ⟨#[61]⟩] W fun r w' => ((z2 = true ∧ r = unitV ∧ Cur w' cb s (b + 1)) ∨ (z2 = false ∧ r = pnc b 2)) ∧ Mv W.heap.size [cb] W w'))
    (HB3 : Hid (z2 = true → ∀ W, Cur W cb s (b + 1) → Calls Tryd.prog 29 #[rdV cb] W fun r w' => r = .returned (.string q3) ∧ Mv W.heap.size [cb] W w' ∧ Cur w' cb s c))
    (HD1 : Hid (z2 = true → ∀ W, Cur W cb s c → Calls Tryd.prog 32 #[cptr cb, fn_digit] W fun r w' => r = .returned (.string xf) ∧ Mv W.heap.size [cb] W w' ∧ Cur w' cb s d))
    (HB4 : Hid (z2 = true → ∀ W, Cur W cb s d → Calls Tryd.prog 29 #[rdV cb] W fun r w' => r = .returned (.string q4) ∧ Mv W.heap.size [cb] W w' ∧ Cur w' cb s m))
    (HM2 : Hid (z2 = true → ∀ W, Cur W cb s m → Calls Tryd.prog 31 #[rdV cb, .string ⟨#[45]⟩] W fun r w' => ((z3 = true ∧ r = unitV ∧ Cur w' cb s (m + 1)) ∨ (z3 = false ∧ r = pnc m 2)) ∧ Mv W.heap.size [cb] W w'))
    (HB5 : Hid (z2 = true → z3 = true → ∀ W, Cur W cb s (m + 1) → Calls Tryd.prog 29 #[rdV cb] W fun r w' => r = .returned (.string q5) ∧ Mv W.heap.size [cb] W w' ∧ Cur w' cb s f))
    (HD2 : Hid (z2 = true → z3 = true → ∀ W, Cur W cb s f → Calls Tryd.prog 32 #[cptr cb, fn_digit] W fun r w' => r = .returned (.string xt) ∧ Mv W.heap.size [cb] W w' ∧ Cur w' cb s g))
    (HEN : Hid (z2 = true → z3 = true → ∀ W, Cur W cb s g → Calls Tryd.prog 35 #[rdV cb] W fun r w' => ((n = s.size ∧ r = unitV ∧ Cur w' cb s n) ∨ (n ≠ s.size ∧ r = pnc n 2)) ∧ Mv W.heap.size [cb] W w'))
    (HN1 : Hid (z2 = true → z3 = true → ∀ W, Calls Tryd.prog 36 #[rdV cb, .string xf] W fun r w' => ((∃ v, nf = some v ∧ r = .returned (.int .i64 v)) ∨ (nf = none ∧ r = pnc 0 9)) ∧ Below W.heap.size W w'))
    (HN2 : Hid (z2 = true → z3 = true → ∀ W, Calls Tryd.prog 36 #[rdV cb, .string xt] W fun r w' => ((∃ v, nt = some v ∧ r = .returned (.int .i64 v)) ∨ (nt = none ∧ r = pnc 0 9)) ∧ Below W.heap.size W w'))
    (HX : Hid (z2 = true → z3 = true → (xf.toList == []) = decide (c = d)))
    (HY : Hid (z2 = true → z3 = true → (xt.toList == []) = decide (f = g)))
    (O1 : Hid (z1 = false → O = .error (u, 2)))
    (O2 : Hid (z1 = true → z2 = false → O = .error (b, 2)))
    (O3 : Hid (z1 = true → z2 = true → z3 = false → O = .error (m, 2)))
    (O4 : Hid (z1 = true → z2 = true → z3 = true → c = d ∧ f = g → O = .error (g, 2)))
    (O5 : Hid (z1 = true → z2 = true → z3 = true → ¬(c = d ∧ f = g) → n ≠ s.size → O = .error (n, 2)))
    (O6 : Hid (z1 = true → z2 = true → z3 = true → ¬(c = d ∧ f = g) → n = s.size → O = askN nf nt n)) :
    Calls Tryd.prog 19 #[rdV cb] w fun r w' => RngEnd O r ∧ Mv w.heap.size [cb] w w' := by
  have HCK := Lib.hid (fun bl W (hW : Cur W cb s g) => rcheck_any cb g s bl W hW)
  have HAT := Lib.hid (fun W (hW : Cur W cb s n) => at_any cb n s W hW)
  have HIO := Lib.hid inOrder_any
  have HPC := Lib.hid (fun bl W => pcheck_any n 9 (by decide) bl W)
  obtain ⟨w0, hw0⟩ : ∃ w0, w0 = (w.alloc (.cells #[cptr cb] 47)).alloc (rngC 0 0) := ⟨_, rfl⟩
  have HR := Lib.hid (show Rdt 23 #[.int .i64 0, .int .i64 0] w w0 cb s 0 from by rw [hw0]; exact Rdt.new _ _ hC)
  have k0 := HR.out.keep
  clear hC
  go_enter Tryd.func19, Tryd.ntmps19
  go_wp2_with fail
  rw [← hw0]
  clear hw0
  refine (HB1.out _ HR.out.cur).mono ?_
  rintro r w1 ⟨rfl, m1, c1⟩
  replace HR := Lib.hid (HR.out.step m1 c1)
  have k1 := HR.out.keep
  clear m1 c1 k0
  go_wp2_with fail
  refine (HU.out _ HR.out.cur).mono ?_
  rintro r w2 ⟨⟨h1, rfl, c1⟩ | ⟨h1, rfl⟩, m1⟩
  rotate_left
  · exact ⟨rfl, .bad (O1.out h1), HR.out.gone m1⟩
  replace HR := Lib.hid (HR.out.step m1 c1)
  have k2 := HR.out.keep
  have Z1 := Lib.hid h1
  clear m1 c1 k1 h1
  go_wp2_with fail
  refine (HB2.out _ HR.out.cur).mono ?_
  rintro r w3 ⟨rfl, m1, c1⟩
  replace HR := Lib.hid (HR.out.step m1 c1)
  have k3 := HR.out.keep
  clear m1 c1 k2
  go_wp2_with fail
  refine (HM1.out _ HR.out.cur).mono ?_
  rintro r w4 ⟨⟨h1, rfl, c1⟩ | ⟨h1, rfl⟩, m1⟩
  rotate_left
  · exact ⟨rfl, .bad (O2.out Z1.out h1), HR.out.gone m1⟩
  replace HR := Lib.hid (HR.out.step m1 c1)
  have k4 := HR.out.keep
  have Z2 := Lib.hid h1
  clear m1 c1 k3 h1
  go_wp2_with fail
  refine (HB3.out Z2.out _ HR.out.cur).mono ?_
  rintro r w5 ⟨rfl, m1, c1⟩
  replace HR := Lib.hid (HR.out.step m1 c1)
  have k5 := HR.out.keep
  clear m1 c1 k4
  go_wp2_with fail
  refine (HD1.out Z2.out _ HR.out.cur).mono ?_
  rintro r w6 ⟨rfl, m1, c1⟩
  replace HR := Lib.hid (HR.out.step m1 c1)
  have k6 := HR.out.keep
  clear m1 c1 k5
  go_wp2_with fail
  refine (HB4.out Z2.out _ HR.out.cur).mono ?_
  rintro r w7 ⟨rfl, m1, c1⟩
  replace HR := Lib.hid (HR.out.step m1 c1)
  have k7 := HR.out.keep
  clear m1 c1 k6
  go_wp2_with fail
  refine (HM2.out Z2.out _ HR.out.cur).mono ?_
  rintro r w8 ⟨⟨h1, rfl, c1⟩ | ⟨h1, rfl⟩, m1⟩
  rotate_left
  · exact ⟨rfl, .bad (O3.out Z1.out Z2.out h1), HR.out.gone m1⟩
  replace HR := Lib.hid (HR.out.step m1 c1)
  have k8 := HR.out.keep
  have Z3 := Lib.hid h1
  clear m1 c1 k7 h1
  go_wp2_with fail
  refine (HB5.out Z2.out Z3.out _ HR.out.cur).mono ?_
  rintro r w9 ⟨rfl, m1, c1⟩
  replace HR := Lib.hid (HR.out.step m1 c1)
  have k9 := HR.out.keep
  clear m1 c1 k8
  go_wp2_with fail
  refine (HD2.out Z2.out Z3.out _ HR.out.cur).mono ?_
  rintro r wa ⟨rfl, m1, c1⟩
  replace HR := Lib.hid (HR.out.step m1 c1)
  have ka := HR.out.keep
  clear m1 c1 k9
  have hx := HX.out Z2.out Z3.out
  have hy := HY.out Z2.out Z3.out
  have hw : (c = d ∧ f = g) ∨ (c ≠ d ∨ (c = d ∧ f ≠ g)) := by omega
  rcases hw with hw | hw
  · rw [decide_eq_true hw.1] at hx
    rw [decide_eq_true hw.2] at hy
    go_wp2_with fail
    refine (HCK.out _ _ HR.out.cur).mono ?_
    rintro r wb ⟨⟨h1, rfl⟩ | ⟨h1, rfl⟩, b1⟩
    · cases h1
    · exact ⟨rfl, .bad (O4.out Z1.out Z2.out Z3.out hw), HR.out.left b1⟩
  have HW := Lib.hid (show ¬(c = d ∧ f = g) by omega)
  rcases hw with hw | hw
  · rw [decide_eq_false hw] at hx
    clear hy
    clear hw
    go_wp2_with fail
    refine (HCK.out _ _ HR.out.cur).mono ?_
    rintro r wb ⟨⟨h1, rfl⟩ | ⟨h1, rfl⟩, b1⟩
    rotate_left
    · cases h1
    replace HR := Lib.hid (HR.out.below b1)
    have kb := HR.out.keep
    clear b1 ka h1
    go_wp2_with fail
    refine (HEN.out Z2.out Z3.out _ HR.out.cur).mono ?_
    rintro r wc ⟨⟨h1, rfl, c1⟩ | ⟨h1, rfl⟩, m1⟩
    rotate_left
    · exact ⟨rfl, .bad (O5.out Z1.out Z2.out Z3.out HW.out h1), HR.out.gone m1⟩
    replace HR := Lib.hid (HR.out.step m1 c1)
    have kc := HR.out.keep
    have HO := Lib.hid (O6.out Z1.out Z2.out Z3.out HW.out h1)
    have HN1' := Lib.hid (HN1.out Z2.out Z3.out)
    have HN2' := Lib.hid (HN2.out Z2.out Z3.out)
    clear m1 c1 kb h1 HB1 HB2 HB3 HB4 HB5 HU HM1 HM2 HD1 HD2 HEN HN1 HN2 HX HY O1 O2 O3 O4 O5 O6 HCK HW Z1 Z2 Z3
    go_wp2_with fail
    go_region_held2 (fun w' => w'.cell? ⟨w.heap.size, 0, none⟩ = some (cptr cb))
      (first | with_reducible exact HR.out.keep | with_reducible exact HR.out.drew.keep | with_reducible exact (HR.out.alloc _).keep | with_reducible exact (HR.out.drew.alloc _).keep | with_reducible exact ((HR.out.put (Rdt.room HR0.out) _ _).put (Rdt.room HR0.out) _ _).keep | with_reducible exact ((HR.out.put (Rdt.room HR1.out) _ _).put (Rdt.room HR1.out) _ _).keep | go_keep)
      (first
        | (go_at_call 36; (with_reducible refine (HN1'.out _).mono ?_); rintro r wd ⟨hq, b1⟩; rcases hq.symm with ⟨hx1, rfl⟩ | ⟨x, hx1, rfl⟩
           focus (exact ⟨rfl, .bad (by rw [HO.out, hx1]; rfl), by first | exact HR.out.drew.left b1 | exact (HR.out.drew.alloc _).left b1⟩)
           (first
             | (have HZ := Lib.hid (show Blk wd wc.heap.size 23 #[.int .i64 0, .int .i64 0] from (Blk.new wc.drew 23 #[.int .i64 0, .int .i64 0]).below b1 (by simp)); have z0 := HZ.out.cell 0; have z1 := HZ.out.cell 1; have f0 := HZ.out.frozen 0; have f1 := HZ.out.frozen 1)
             | skip)
           have HR0 := HR
           have HR := Lib.hid (show Rdt 23 #[.int .i64 0, .int .i64 0] w wd cb s n from by first | exact HR.out.drew.below b1 | exact (HR.out.drew.alloc _).below b1)
           clear b1)
        | (go_at_call 36; (with_reducible refine (HN2'.out _).mono ?_); rintro r we ⟨hq, b1⟩; rcases hq.symm with ⟨hy1, rfl⟩ | ⟨y, hy1, rfl⟩
           focus (exact ⟨rfl, .bad (by rw [HO.out, hy1]; cases nf <;> rfl), by first | exact HR.out.left b1 | exact (HR.out.alloc _).left b1⟩)
           (first
             | (replace HZ := Lib.hid (show Blk we wc.heap.size 23 #[.int .i64 0, .int .i64 0] from HZ.out.below b1 HZ.out.lt); have z0 := HZ.out.cell 0; have z1 := HZ.out.cell 1; have f0 := HZ.out.frozen 0; have f1 := HZ.out.frozen 1)
             | (have HZ := Lib.hid (show Blk we wd.heap.size 23 #[.int .i64 0, .int .i64 0] from (Blk.new wd 23 #[.int .i64 0, .int .i64 0]).below b1 (by simp)); have z0 := HZ.out.cell 0; have z1 := HZ.out.cell 1; have f0 := HZ.out.frozen 0; have f1 := HZ.out.frozen 1)
             | skip)
           have HR1 := HR
           have HR := Lib.hid (show Rdt 23 #[.int .i64 0, .int .i64 0] w we cb s n from by first | exact HR.out.below b1 | exact (HR.out.alloc _).below b1)
           clear b1))
    all_goals
      (first
        | (obtain ⟨w5, hw5⟩ : ∃ w5, w5 = we.alloc (rngC x y) := ⟨_, rfl⟩
           rw [← hw5]
           obtain ⟨nb, hnb⟩ : ∃ nb, nb = we.heap.size := ⟨_, rfl⟩
           rw [← hnb]
           have HR5 := Lib.hid (show Rdu 23 #[.int .i64 0, .int .i64 0] #[.int .i64 x, .int .i64 y] nb w w5 cb s n from by rw [hw5, hnb]; exact ⟨HR.out.alloc _, Blk.new we _ _, HR.out.room⟩))
        | (obtain ⟨w5, hw5⟩ : ∃ w5, w5 = (we.setCell ⟨wd.heap.size, 0, none⟩ (.int .i64 x)).setCell ⟨wd.heap.size, 1, none⟩ (.int .i64 y) := ⟨_, rfl⟩
           rw [← hw5]
           obtain ⟨nb, hnb⟩ : ∃ nb, nb = wd.heap.size := ⟨_, rfl⟩
           rw [← hnb]
           have HR5 := Lib.hid (show Rdu 23 #[.int .i64 0, .int .i64 0] #[.int .i64 x, .int .i64 y] nb w w5 cb s n from by rw [hw5, hnb]; exact ⟨(HR.out.put HR1.out.room _ _).put HR1.out.room _ _, (HZ.out.set_ 0 _).set_ 1 _, HR1.out.room⟩))
        | (obtain ⟨w5, hw5⟩ : ∃ w5, w5 = (we.setCell ⟨wc.heap.size, 0, none⟩ (.int .i64 x)).setCell ⟨wc.heap.size, 1, none⟩ (.int .i64 y) := ⟨_, rfl⟩
           rw [← hw5]
           obtain ⟨nb, hnb⟩ : ∃ nb, nb = wc.heap.size := ⟨_, rfl⟩
           rw [← hnb]
           have HR5 := Lib.hid (show Rdu 23 #[.int .i64 0, .int .i64 0] #[.int .i64 x, .int .i64 y] nb w w5 cb s n from by rw [hw5, hnb]; exact ⟨(HR.out.put HR0.out.room _ _).put HR0.out.room _ _, (HZ.out.set_ 0 _).set_ 1 _, HR0.out.room⟩)))
      have ho := Lib.hid (show O = if y = -1 ∨ x ≤ y then .ok (x, y) else .error (n, 9) from by rw [HO.out, hx1, hy1]; rfl)
      clear hw5 hnb HO HN1' HN2' hx1 hy1
      obtain ⟨k5, v0, v1⟩ := HR5.out.keep2
      go_wp2_with fail
      go_region_held2 (fun w' => w'.cell? ⟨w.heap.size, 0, none⟩ = some (cptr cb) ∧ w'.cell? ⟨nb, 0, none⟩ = some (.int .i64 x) ∧ w'.cell? ⟨nb, 1, none⟩ = some (.int .i64 y))
        (first | with_reducible exact HR5.out.keep2 | with_reducible exact HR5.out.drew.keep2 | go_keep)
        (first
          | (go_at_call 14; (with_reducible refine (HIO.out _ _ _).mono ?_); rintro r w6 ⟨rfl, b1⟩
             have HR5 := Lib.hid (show Rdu 23 #[.int .i64 0, .int .i64 0] #[.int .i64 x, .int .i64 y] nb w w6 cb s n from by first | exact HR5.out.below b1 | exact HR5.out.drew.below b1)
             clear b1)
          | (go_at_call 38; (refine (HAT.out _ (by first | exact HR5.out.t.cur | exact HR5.out.drew.t.cur)).mono ?_); rintro r w7 ⟨rfl, rfl⟩)
          | (go_at_call 37; (refine (HPC.out _ _).mono ?_); rintro r w8 ⟨hq, rfl⟩; rcases hq.symm with ⟨h1, rfl⟩ | ⟨h1, rfl⟩
             focus (exact ⟨rfl, .bad (by rw [ho.out, if_neg (by simpa using h1)]), by first | exact HR5.out.left | exact HR5.out.drew.left⟩)))
      obtain ⟨k6, v2, v3⟩ := HR5.out.keep2
      have r0 := HR5.out.t.res.cell 0
      have r1 := HR5.out.t.res.cell 1
      have f0 := HR5.out.t.res.frozen 0
      have f1 := HR5.out.t.res.frozen 1
      have ho2 := Lib.hid (show O = .ok (x, y) from by rw [ho.out, if_pos (by simpa using h1)])
      clear h1 ho
      go_wp2
      have hk := (HR5.out.t.res.set_ 0 (.int .i64 x)).set_ 1 (.int .i64 y)
      have j0 : _ = some (.int .i64 x : Value) := hk.cell 0
      have j1 : _ = some (.int .i64 y : Value) := hk.cell 1
      refine bodyPost_ret (v := rngV x y) (by simp [results, Tryd.results19, go_sem, j0, j1]) rfl ⟨.inl ⟨x, y, ho2.out, rfl⟩, (HR5.out.left.setCell (.inr (by simp)) _).setCell (.inr (by simp)) _⟩
  · rw [decide_eq_true hw.1] at hx
    rw [decide_eq_false hw.2] at hy
    clear hw
    go_wp2_with fail
    refine (HCK.out _ _ HR.out.cur).mono ?_
    rintro r wb ⟨⟨h1, rfl⟩ | ⟨h1, rfl⟩, b1⟩
    rotate_left
    · cases h1
    replace HR := Lib.hid (HR.out.below b1)
    have kb := HR.out.keep
    clear b1 ka h1
    go_wp2_with fail
    refine (HEN.out Z2.out Z3.out _ HR.out.cur).mono ?_
    rintro r wc ⟨⟨h1, rfl, c1⟩ | ⟨h1, rfl⟩, m1⟩
    rotate_left
    · exact ⟨rfl, .bad (O5.out Z1.out Z2.out Z3.out HW.out h1), HR.out.gone m1⟩
    replace HR := Lib.hid (HR.out.step m1 c1)
    have kc := HR.out.keep
    have HO := Lib.hid (O6.out Z1.out Z2.out Z3.out HW.out h1)
    have HN1' := Lib.hid (HN1.out Z2.out Z3.out)
    have HN2' := Lib.hid (HN2.out Z2.out Z3.out)
    clear m1 c1 kb h1 HB1 HB2 HB3 HB4 HB5 HU HM1 HM2 HD1 HD2 HEN HN1 HN2 HX HY O1 O2 O3 O4 O5 O6 HCK HW Z1 Z2 Z3
    go_wp2_with fail
    go_region_held2 (fun w' => w'.cell? ⟨w.heap.size, 0, none⟩ = some (cptr cb))
      (first | with_reducible exact HR.out.keep | with_reducible exact HR.out.drew.keep | with_reducible exact (HR.out.alloc _).keep | with_reducible exact (HR.out.drew.alloc _).keep | with_reducible exact ((HR.out.put (Rdt.room HR0.out) _ _).put (Rdt.room HR0.out) _ _).keep | with_reducible exact ((HR.out.put (Rdt.room HR1.out) _ _).put (Rdt.room HR1.out) _ _).keep | go_keep)
      (first
        | (go_at_call 36; (with_reducible refine (HN1'.out _).mono ?_); rintro r wd ⟨hq, b1⟩; rcases hq.symm with ⟨hx1, rfl⟩ | ⟨x, hx1, rfl⟩
           focus (exact ⟨rfl, .bad (by rw [HO.out, hx1]; rfl), by first | exact HR.out.drew.left b1 | exact (HR.out.drew.alloc _).left b1⟩)
           (first
             | (have HZ := Lib.hid (show Blk wd wc.heap.size 23 #[.int .i64 0, .int .i64 0] from (Blk.new wc.drew 23 #[.int .i64 0, .int .i64 0]).below b1 (by simp)); have z0 := HZ.out.cell 0; have z1 := HZ.out.cell 1; have f0 := HZ.out.frozen 0; have f1 := HZ.out.frozen 1)
             | skip)
           have HR0 := HR
           have HR := Lib.hid (show Rdt 23 #[.int .i64 0, .int .i64 0] w wd cb s n from by first | exact HR.out.drew.below b1 | exact (HR.out.drew.alloc _).below b1)
           clear b1)
        | (go_at_call 36; (with_reducible refine (HN2'.out _).mono ?_); rintro r we ⟨hq, b1⟩; rcases hq.symm with ⟨hy1, rfl⟩ | ⟨y, hy1, rfl⟩
           focus (exact ⟨rfl, .bad (by rw [HO.out, hy1]; cases nf <;> rfl), by first | exact HR.out.left b1 | exact (HR.out.alloc _).left b1⟩)
           (first
             | (replace HZ := Lib.hid (show Blk we wc.heap.size 23 #[.int .i64 0, .int .i64 0] from HZ.out.below b1 HZ.out.lt); have z0 := HZ.out.cell 0; have z1 := HZ.out.cell 1; have f0 := HZ.out.frozen 0; have f1 := HZ.out.frozen 1)
             | (have HZ := Lib.hid (show Blk we wd.heap.size 23 #[.int .i64 0, .int .i64 0] from (Blk.new wd 23 #[.int .i64 0, .int .i64 0]).below b1 (by simp)); have z0 := HZ.out.cell 0; have z1 := HZ.out.cell 1; have f0 := HZ.out.frozen 0; have f1 := HZ.out.frozen 1)
             | skip)
           have HR1 := HR
           have HR := Lib.hid (show Rdt 23 #[.int .i64 0, .int .i64 0] w we cb s n from by first | exact HR.out.below b1 | exact (HR.out.alloc _).below b1)
           clear b1))
    all_goals
      (first
        | (obtain ⟨w5, hw5⟩ : ∃ w5, w5 = we.alloc (rngC x y) := ⟨_, rfl⟩
           rw [← hw5]
           obtain ⟨nb, hnb⟩ : ∃ nb, nb = we.heap.size := ⟨_, rfl⟩
           rw [← hnb]
           have HR5 := Lib.hid (show Rdu 23 #[.int .i64 0, .int .i64 0] #[.int .i64 x, .int .i64 y] nb w w5 cb s n from by rw [hw5, hnb]; exact ⟨HR.out.alloc _, Blk.new we _ _, HR.out.room⟩))
        | (obtain ⟨w5, hw5⟩ : ∃ w5, w5 = (we.setCell ⟨wd.heap.size, 0, none⟩ (.int .i64 x)).setCell ⟨wd.heap.size, 1, none⟩ (.int .i64 y) := ⟨_, rfl⟩
           rw [← hw5]
           obtain ⟨nb, hnb⟩ : ∃ nb, nb = wd.heap.size := ⟨_, rfl⟩
           rw [← hnb]
           have HR5 := Lib.hid (show Rdu 23 #[.int .i64 0, .int .i64 0] #[.int .i64 x, .int .i64 y] nb w w5 cb s n from by rw [hw5, hnb]; exact ⟨(HR.out.put HR1.out.room _ _).put HR1.out.room _ _, (HZ.out.set_ 0 _).set_ 1 _, HR1.out.room⟩))
        | (obtain ⟨w5, hw5⟩ : ∃ w5, w5 = (we.setCell ⟨wc.heap.size, 0, none⟩ (.int .i64 x)).setCell ⟨wc.heap.size, 1, none⟩ (.int .i64 y) := ⟨_, rfl⟩
           rw [← hw5]
           obtain ⟨nb, hnb⟩ : ∃ nb, nb = wc.heap.size := ⟨_, rfl⟩
           rw [← hnb]
           have HR5 := Lib.hid (show Rdu 23 #[.int .i64 0, .int .i64 0] #[.int .i64 x, .int .i64 y] nb w w5 cb s n from by rw [hw5, hnb]; exact ⟨(HR.out.put HR0.out.room _ _).put HR0.out.room _ _, (HZ.out.set_ 0 _).set_ 1 _, HR0.out.room⟩)))
      have ho := Lib.hid (show O = if y = -1 ∨ x ≤ y then .ok (x, y) else .error (n, 9) from by rw [HO.out, hx1, hy1]; rfl)
      clear hw5 hnb HO HN1' HN2' hx1 hy1
      obtain ⟨k5, v0, v1⟩ := HR5.out.keep2
      go_wp2_with fail
      go_region_held2 (fun w' => w'.cell? ⟨w.heap.size, 0, none⟩ = some (cptr cb) ∧ w'.cell? ⟨nb, 0, none⟩ = some (.int .i64 x) ∧ w'.cell? ⟨nb, 1, none⟩ = some (.int .i64 y))
        (first | with_reducible exact HR5.out.keep2 | with_reducible exact HR5.out.drew.keep2 | go_keep)
        (first
          | (go_at_call 14; (with_reducible refine (HIO.out _ _ _).mono ?_); rintro r w6 ⟨rfl, b1⟩
             have HR5 := Lib.hid (show Rdu 23 #[.int .i64 0, .int .i64 0] #[.int .i64 x, .int .i64 y] nb w w6 cb s n from by first | exact HR5.out.below b1 | exact HR5.out.drew.below b1)
             clear b1)
          | (go_at_call 38; (refine (HAT.out _ (by first | exact HR5.out.t.cur | exact HR5.out.drew.t.cur)).mono ?_); rintro r w7 ⟨rfl, rfl⟩)
          | (go_at_call 37; (refine (HPC.out _ _).mono ?_); rintro r w8 ⟨hq, rfl⟩; rcases hq.symm with ⟨h1, rfl⟩ | ⟨h1, rfl⟩
             focus (exact ⟨rfl, .bad (by rw [ho.out, if_neg (by simpa using h1)]), by first | exact HR5.out.left | exact HR5.out.drew.left⟩)))
      obtain ⟨k6, v2, v3⟩ := HR5.out.keep2
      have r0 := HR5.out.t.res.cell 0
      have r1 := HR5.out.t.res.cell 1
      have f0 := HR5.out.t.res.frozen 0
      have f1 := HR5.out.t.res.frozen 1
      have ho2 := Lib.hid (show O = .ok (x, y) from by rw [ho.out, if_pos (by simpa using h1)])
      clear h1 ho
      go_wp2
      have hk := (HR5.out.t.res.set_ 0 (.int .i64 x)).set_ 1 (.int .i64 y)
      have j0 : _ = some (.int .i64 x : Value) := hk.cell 0
      have j1 : _ = some (.int .i64 y : Value) := hk.cell 1
      refine bodyPost_ret (v := rngV x y) (by simp [results, Tryd.results19, go_sem, j0, j1]) rfl ⟨.inl ⟨x, y, ho2.out, rfl⟩, (HR5.out.left.setCell (.inr (by simp)) _).setCell (.inr (by simp)) _⟩

theorem asked_any (cb : Nat) (s : ByteArray) (w : World) (hC : Cur w cb s 0) (hs : s.size ≤ 9223372036854775807) :
    Calls Tryd.prog 19 #[rdV cb] w fun r w' => RngEnd (askO s) r ∧ Mv w.heap.size [cb] w w' := by
  have la := aA_le s
  have lu := aU_le s
  have lb := aB_le s
  have lc : atB s (aB s) 61 = true → aC s ≤ s.size := fun h => scan_le _ _ _ (atB_in h)
  have ld : atB s (aB s) 61 = true → aD s ≤ s.size := fun h => scan_le _ _ _ (lc h)
  have le : atB s (aB s) 61 = true → aE s ≤ s.size := fun h => scan_le _ _ _ (ld h)
  have lf : atB s (aE s) 45 = true → aF s ≤ s.size := fun h => scan_le _ _ _ (atB_in h)
  have lg : atB s (aE s) 45 = true → aG s ≤ s.size := fun h => scan_le _ _ _ (lf h)
  have gd : aC s ≤ aD s := scan_ge _ _ _
  have gg : aF s ≤ aG s := scan_ge _ _ _
  exact asked_walk cb (aA s) (aU s) (aB s) (aC s) (aD s) (aE s) (aF s) (aG s) (aH s) (isUnit s (aA s)) (atB s (aB s) 61) (atB s (aE s) 45) _ _ _ _ _ ⟨#[]⟩ (s.extract (aC s) (aD s)) (s.extract (aF s) (aG s)) (numP (s.extract (aC s) (aD s))) (numP (s.extract (aF s) (aG s))) (askO s) s w hC
    (Lib.hid fun W hW => blanks_any cb 0 s W hW (Nat.zero_le _) hs)
    (Lib.hid fun W hW => unit_any cb (aA s) s W hW la hs)
    (Lib.hid fun W hW => blanks_any cb (aU s) s W hW lu hs)
    (Lib.hid fun W hW => rsgn_any cb (aB s) s 61 W hW lb hs)
    (Lib.hid fun h W hW => blanks_any cb (aB s + 1) s W hW (atB_in h) hs)
    (Lib.hid fun h W hW => while_digit cb (aC s) s W hW (lc h) hs)
    (Lib.hid fun h W hW => blanks_any cb (aD s) s W hW (ld h) hs)
    (Lib.hid fun h W hW => rsgn_any cb (aE s) s 45 W hW (le h) hs)
    (Lib.hid fun _ h W hW => blanks_any cb (aE s + 1) s W hW (atB_in h) hs)
    (Lib.hid fun _ h W hW => while_digit cb (aF s) s W hW (lf h) hs)
    (Lib.hid fun _ h W hW => end0_any cb (aG s) s W hW (lg h) hs)
    (Lib.hid fun h _ W => numb_any cb _ W (run_digits (lc h)) (by simp; omega))
    (Lib.hid fun _ h W => numb_any cb _ W (run_digits (lf h)) (by simp; omega))
    (Lib.hid fun h _ => by
      have e : (s.extract (aC s) (aD s)).size = aD s - aC s := run_size (lc h)
      rw [size_bool, e]
      exact decide_eq_decide.2 ⟨fun h => by omega, fun h => by omega⟩)
    (Lib.hid fun _ h => by
      have e : (s.extract (aF s) (aG s)).size = aG s - aF s := run_size (lf h)
      rw [size_bool, e]
      exact decide_eq_decide.2 ⟨fun h => by omega, fun h => by omega⟩)
    (Lib.hid fun h => askO_unit h) (Lib.hid fun h h2 => askO_eq h h2) (Lib.hid fun h h2 h3 => askO_minus h h2 h3)
    (Lib.hid fun h h2 h3 h4 => askO_none h h2 h3 h4) (Lib.hid fun h h2 h3 h4 h5 => askO_more h h2 h3 h4 h5) (Lib.hid fun h h2 h3 h4 h5 => askO_all h h2 h3 h4 h5)

end Go.Proofs.YtaolclpjlkdkjaaDoor
namespace Go.Proofs.YtaolclpjlkdkjaaDoor
open Go.RowKit

/-- Nothing has turned but one block. -/
structure bPartOnly (b : Nat) (w w' : World) : Prop where
  os : w'.os = w.os
  tape : w'.tape = w.tape
  output : w'.output = w.output
  size : w'.heap.size = w.heap.size
  block : ∀ k, k ≠ b → w'.heap[k]? = w.heap[k]?
theorem bPartOnly.refl (b : Nat) (w : World) : bPartOnly b w w := ⟨rfl, rfl, rfl, rfl, fun _ _ => rfl⟩
theorem bPartOnly.set {b : Nat} {w w' : World} (h : bPartOnly b w w') (i : Nat) (u : Value) : bPartOnly b w (w'.setCell ⟨b, i, none⟩ u) :=
  ⟨h.os, h.tape, h.output, by simpa [World.setCell] using h.size, fun k hk => (Below.heap_setCell w' ⟨b, i, none⟩ u k hk).trans (h.block k hk)⟩
theorem bPartOnly.below {b B : Nat} {w w' : World} (h : bPartOnly b w w') (hb : B ≤ b) : Below B w w' := ⟨h.os, h.tape, h.output, by rw [h.size]; exact Nat.le_refl _, fun k hk => h.block k (by omega)⟩
theorem bPartOnly.mv {b B : Nat} {w w' : World} (h : bPartOnly b w w') : Mv B [b] w w' := ⟨h.os, h.tape, h.output, by rw [h.size]; exact Nat.le_refl _, fun k _ hk => h.block k (by simpa using hk)⟩
theorem bPartOnly.blk {b g : Nat} {w w' : World} {t : TypeId} {cs : Array Value} (h : bPartOnly b w w') (hg : g ≠ b) (k : Blk w g t cs) : Blk w' g t cs := (h.block g hg).trans k
/-- A block of three cells and one of two, each written once more as it is. -/
theorem bPart_again {w : World} {b b' : Nat} {t t' : TypeId} {x y z a c : Value} (hne : b ≠ b') (x' y' z' a' c' : Value) (h : Blk w b t #[x, y, z]) (h' : Blk w b' t' #[a, c]) :
    Blk (((((w.setCell ⟨b, 0, none⟩ x').setCell ⟨b, 1, none⟩ y').setCell ⟨b, 2, none⟩ z').setCell ⟨b', 0, none⟩ a').setCell ⟨b', 1, none⟩ c') b t #[x', y', z'] ∧ Blk (((((w.setCell ⟨b, 0, none⟩ x').setCell ⟨b, 1, none⟩ y').setCell ⟨b, 2, none⟩ z').setCell ⟨b', 0, none⟩ a').setCell ⟨b', 1, none⟩ c') b' t' #[a', c'] :=
  ⟨((((h.set_ 0 x').set_ 1 y').set_ 2 z').far (by simpa using hne) a').far (by simpa using hne) c', (((((h'.far (p := ⟨b, 0, none⟩) (by simpa using hne.symm) x').far (p := ⟨b, 1, none⟩) (by simpa using hne.symm) y').far (p := ⟨b, 2, none⟩) (by simpa using hne.symm) z').set_ 0 a').set_ 1 c')⟩

theorem bPart_eq_func_nil (fn : Fn) (fi ca : Array Value) (w : World) : (binOp .eql 51 (.func fn fi ca) .nilFunc).run Tryd.prog w = .ok (.bool false) w := by kernel_rfl
theorem bPart_enter (a b : Value) (w : World) : (callFunc 67 (#[] ++ #[a, b])).run Tryd.prog w = .ok (.enter 67 (#[] ++ #[a, b])) w := by simp [go_sem]

set_option maxHeartbeats 400000 in
theorem bPart_closure_returns (g : FuncId) (fi ca : Array Value) (p : Addr) (b : Nat) (v0 v1 v2 : Value) (va vb vc : Int) (w : World) (Q : World → Prop) (hp : w.cell? p = some (.func (.func g) fi ca))
    (hQ : ∀ w1, Q w1 → Blk w1 b 25 #[v0, v1, v2])
    (hen : ∀ w : World, (callFunc g (fi ++ ca)).run Tryd.prog w = .ok (.enter g (fi ++ ca)) w)
    (hf : Calls Tryd.prog g (fi ++ ca) w fun e w1 => e = .returned (.agg #[.int .i64 va, .int .i64 vb, .int .i64 vc]) ∧ Q w1) :
    Calls Tryd.prog 67 #[.pointer (some p), .pointer (some ⟨b, 0, none⟩)] w fun e w' => e = .returned (.tuple #[]) ∧ ∃ w1, Q w1 ∧ bPartOnly b w1 w' ∧ Blk w' b 25 #[.int .i64 va, .int .i64 vb, .int .i64 vc] := by
  go_enter Tryd.func67, Tryd.ntmps67
  go_wp2_with fail
  refine hf.mono ?_
  rintro e w1 ⟨rfl, hb1⟩
  have HP := Lib.hid (hQ w1 hb1)
  have c0 : w1.cell? ⟨b, 0, none⟩ = some v0 := HP.out.cell 0
  have c1 : w1.cell? ⟨b, 1, none⟩ = some v1 := HP.out.cell 1
  have c2 : w1.cell? ⟨b, 2, none⟩ = some v2 := HP.out.cell 2
  have z0 := HP.out.frozen 0
  have z1 := HP.out.frozen 1
  have z2 := HP.out.frozen 2
  clear hen hf hp hQ
  go_wp2
  go_end0
  exact ⟨rfl, w1, hb1, (((bPartOnly.refl b w1).set 0 _).set 1 _).set 2 _, ((HP.out.set_ 0 _).set_ 1 _).set_ 2 _⟩

set_option maxHeartbeats 400000 in
theorem bPart_closure_throws (g : FuncId) (fi ca : Array Value) (p : Addr) (b : Nat) (a c : Int) (w : World) (Q : World → Prop) (hp : w.cell? p = some (.func (.func g) fi ca))
    (hen : ∀ w : World, (callFunc g (fi ++ ca)).run Tryd.prog w = .ok (.enter g (fi ++ ca)) w)
    (hf : Calls Tryd.prog g (fi ++ ca) w fun e w1 => e = pnc a c ∧ Q w1) :
    Calls Tryd.prog 67 #[.pointer (some p), .pointer (some ⟨b, 0, none⟩)] w fun e w' => e = pnc a c ∧ Q w' := by
  go_enter Tryd.func67, Tryd.ntmps67
  go_wp2_with fail
  refine hf.mono ?_
  rintro e w1 ⟨rfl, hb1⟩
  exact ⟨rfl, rfl, hb1⟩

/-- What attempt's own three variables are, while f runs. -/
abbrev bPart_w (g : FuncId) (fi ca : Array Value) (w : World) : World := ((w.alloc (.cells #[.func (.func g) fi ca] 51)).alloc (.cells #[.int .i64 0, .int .i64 0, .int .i64 0] 25)).alloc (.cells #[.int .i64 0, .int .i64 0] 53)

theorem bPart_w_below (g : FuncId) (fi ca : Array Value) (w : World) : Below w.heap.size w (bPart_w g fi ca w) :=
  (((Below.refl _ _).alloc (Nat.le_refl _) _).alloc (by simp) _).alloc (by simp; omega) _
theorem bPart_w_blk (g : FuncId) (fi ca : Array Value) (w : World) : Blk (bPart_w g fi ca w) (w.heap.size + 1) 25 #[.int .i64 0, .int .i64 0, .int .i64 0] ∧ Blk (bPart_w g fi ca w) (w.heap.size + 1 + 1) 53 #[.int .i64 0, .int .i64 0] := by
  have h1 := Blk.new (w.alloc (.cells #[.func (.func g) fi ca] 51)) 25 #[.int .i64 0, .int .i64 0, .int .i64 0]
  have h2 := Blk.new ((w.alloc (.cells #[.func (.func g) fi ca] 51)).alloc (.cells #[.int .i64 0, .int .i64 0, .int .i64 0] 25)) 53 #[.int .i64 0, .int .i64 0]
  have h1' : Blk ((w.alloc (.cells #[.func (.func g) fi ca] 51)).alloc (.cells #[.int .i64 0, .int .i64 0, .int .i64 0] 25)) (w.heap.size + 1) 25 #[.int .i64 0, .int .i64 0, .int .i64 0] := by simpa using h1
  exact ⟨h1'.alloc _, by simpa using h2⟩

/-- Behind Catch: attempt's variables, and that nothing else has turned but rows of r. -/
structure BPartGot (cs : Array Value) (r : List Nat) (w w1 : World) : Prop where
  mv : Mv w.heap.size r w w1
  size : w.heap.size + 3 ≤ w1.heap.size
  own : Blk w1 (w.heap.size + 1) 25 cs
  flt : Blk w1 (w.heap.size + 1 + 1) 53 #[.int .i64 0, .int .i64 0]

theorem bPart_got (g : FuncId) (fi ca : Array Value) (r : List Nat) (w w1 : World) (hr : ∀ x ∈ r, x < w.heap.size) (h : Mv (w.heap.size + 3) r (bPart_w g fi ca w) w1) :
    BPartGot #[.int .i64 0, .int .i64 0, .int .i64 0] r w w1 := by
  have hs := h.size
  simp at hs
  have n1 : w.heap.size + 1 ∉ r := fun hm => by have := hr _ hm; omega
  have n2 : w.heap.size + 1 + 1 ∉ r := fun hm => by have := hr _ hm; omega
  obtain ⟨k1, k2⟩ := bPart_w_blk g fi ca w
  exact ⟨(Mv.of_below (bPart_w_below g fi ca w) r).trans (h.mono (by omega) fun x hx => .inl hx), by omega, k1.mv h (by omega) n1, k2.mv h (by omega) n2⟩

theorem BPartGot.set {cs cs' : Array Value} {r : List Nat} {w w1 w2 : World} (h : BPartGot cs r w w1) (ho : bPartOnly (w.heap.size + 1) w1 w2) (hb : Blk w2 (w.heap.size + 1) 25 cs') : BPartGot cs' r w w2 := by
  obtain ⟨m, s, k1, k2⟩ := h
  exact ⟨m.trans (Mv.of_below (ho.below (by omega)) r), by rw [ho.size]; exact s, hb, ho.blk (by omega) k2⟩

theorem BPartGot.below {cs : Array Value} {r : List Nat} {w w1 w2 : World} (h : BPartGot cs r w w1) (hb : Below (w.heap.size + 3) w1 w2) : BPartGot cs r w w2 := by
  obtain ⟨m, s, k1, k2⟩ := h
  have := hb.size
  exact ⟨m.trans (Mv.of_below (hb.mono (by omega)) r), by omega, k1.below hb (by omega), k2.below hb (by omega)⟩

/-- Catch over the closure. -/
theorem bPart_catch_returns (g : FuncId) (fi ca : Array Value) (va vb vc : Int) (w : World) (r : List Nat) (R : World → Prop) (hr : ∀ x ∈ r, x < w.heap.size)
    (hR : ∀ W1 W2, Below w.heap.size W1 W2 → R W1 → R W2) (hen : ∀ w : World, (callFunc g (fi ++ ca)).run Tryd.prog w = .ok (.enter g (fi ++ ca)) w)
    (hf : ∀ W, Below w.heap.size w W → Calls Tryd.prog g (fi ++ ca) W fun e w1 => e = .returned (.agg #[.int .i64 va, .int .i64 vb, .int .i64 vc]) ∧ Mv W.heap.size r W w1 ∧ R w1) :
    Calls Tryd.prog 49 #[.func (.func 67) #[] #[.pointer (some ⟨w.heap.size, 0, none⟩), .pointer (some ⟨w.heap.size + 1, 0, none⟩)]] (bPart_w g fi ca w)
      fun e w' => e = .returned (.tuple #[flt 0 0, .bool false]) ∧ BPartGot #[.int .i64 va, .int .i64 vb, .int .i64 vc] r w w' ∧ R w' := by
  have hw := bPart_w_below g fi ca w
  have hsz : (bPart_w g fi ca w).heap.size = w.heap.size + 3 := by simp
  refine (catch_returns 67 #[] #[.pointer (some ⟨w.heap.size, 0, none⟩), .pointer (some ⟨w.heap.size + 1, 0, none⟩)] (bPart_w g fi ca w)
    (fun w1 => ∃ w0, (Mv (w.heap.size + 5) r (cw (bPart_w g fi ca w)) w0 ∧ R w0) ∧ bPartOnly (w.heap.size + 1) w0 w1 ∧ Blk w1 (w.heap.size + 1) 25 #[.int .i64 va, .int .i64 vb, .int .i64 vc]) ?_ (bPart_enter _ _) ?_).mono ?_
  · rintro w1 ⟨w0, ⟨h, _⟩, ho, _⟩
    refine keeps_mv (bPart_w g fi ca w) w1 ((w.heap.size + 1) :: r) (fun x hx => ?_) ?_
    · rw [hsz]
      rcases List.mem_cons.1 hx with rfl | hx
      · omega
      · have := hr x hx; omega
    · rw [hsz]
      exact (h.mono (by omega) fun x hx => .inl (List.mem_cons_of_mem _ hx)).trans (ho.mv.mono (B := w.heap.size + 3 + 2) (Nat.le_refl _) fun x hx => .inl (by simp at hx; simp [hx]))
  · have hcw := cw_below (bPart_w g fi ca w)
    refine (bPart_closure_returns g fi ca ⟨w.heap.size, 0, none⟩ (w.heap.size + 1) (.int .i64 0) (.int .i64 0) (.int .i64 0) va vb vc (cw (bPart_w g fi ca w)) (fun w0 => Mv (w.heap.size + 5) r (cw (bPart_w g fi ca w)) w0 ∧ R w0) ?_ ?_ hen ?_).mono ?_
    · rw [hcw.cell (by simp; omega)]; simp [go_sem]
    · rintro w1 ⟨h, _⟩
      have n1 : w.heap.size + 1 ∉ r := fun hm => by have := hr _ hm; omega
      exact (((bPart_w_blk g fi ca w).1.below hcw (by rw [hsz]; omega))).mv h (by omega) n1
    · refine (hf _ (hw.trans (hcw.mono (by simp; omega)))).mono ?_
      rintro e w1 ⟨h1, h2, h3⟩
      exact ⟨h1, h2.mono (by simp) fun x hx => .inl hx, h3⟩
    · rintro e w1 ⟨rfl, w0, h, h2⟩
      exact ⟨⟨_, rfl⟩, w0, h, h2⟩
  · rintro e w' ⟨rfl, w1, ⟨w0, ⟨h, hq⟩, ho, hbk⟩, rfl⟩
    have hcw := cw_below (bPart_w g fi ca w)
    have hm : Mv (w.heap.size + 3) r (bPart_w g fi ca w) w0 := (Mv.of_below (hcw.mono (by simp)) r).trans (h.mono (by omega) fun x hx => .inl hx)
    have hg := (bPart_got g fi ca r w w0 hr hm).set ho hbk
    rw [hsz]
    have hb : ∀ B, B ≤ w.heap.size + 3 → Below B w1 (((w1.setCell ⟨w.heap.size + 3, 0, none⟩ (.int .i64 0)).setCell ⟨w.heap.size + 3, 1, none⟩ (.int .i64 0)).setCell ⟨w.heap.size + 3 + 1, 0, none⟩ (.bool false)) :=
      fun B hB => (((Below.refl _ _).setCell (by simp; omega) _).setCell (by simp; omega) _).setCell (by simp; omega) _
    exact ⟨rfl, hg.below (hb _ (Nat.le_refl _)), hR _ _ (hb _ (by omega)) (hR _ _ (ho.below (by omega)) hq)⟩

theorem bPart_catch_throws (g : FuncId) (fi ca : Array Value) (a c : Int) (w : World) (r : List Nat) (R : World → Prop) (hr : ∀ x ∈ r, x < w.heap.size)
    (hR : ∀ W1 W2, Below w.heap.size W1 W2 → R W1 → R W2) (hen : ∀ w : World, (callFunc g (fi ++ ca)).run Tryd.prog w = .ok (.enter g (fi ++ ca)) w)
    (hf : ∀ W, Below w.heap.size w W → Calls Tryd.prog g (fi ++ ca) W fun e w1 => e = pnc a c ∧ Mv W.heap.size r W w1 ∧ R w1) :
    Calls Tryd.prog 49 #[.func (.func 67) #[] #[.pointer (some ⟨w.heap.size, 0, none⟩), .pointer (some ⟨w.heap.size + 1, 0, none⟩)]] (bPart_w g fi ca w)
      fun e w' => e = .returned (.tuple #[flt a c, .bool true]) ∧ BPartGot #[.int .i64 0, .int .i64 0, .int .i64 0] r w w' ∧ R w' := by
  have hw := bPart_w_below g fi ca w
  have hsz : (bPart_w g fi ca w).heap.size = w.heap.size + 3 := by simp
  refine (catch_mv_throws 67 #[] #[.pointer (some ⟨w.heap.size, 0, none⟩), .pointer (some ⟨w.heap.size + 1, 0, none⟩)] (bPart_w g fi ca w) a c r R (fun x hx => by have := hr x hx; simp; omega)
    (fun W1 W2 hb h => hR W1 W2 (hb.mono (by simp; omega)) h) (bPart_enter _ _) ?_).mono ?_
  · intro W hW
    refine bPart_closure_throws g fi ca ⟨w.heap.size, 0, none⟩ (w.heap.size + 1) a c W (fun w1 => Mv W.heap.size r W w1 ∧ R w1) ?_ hen (hf _ (hw.trans (hW.mono (by simp; omega))))
    rw [hW.cell (by simp; omega)]; simp [go_sem]
  · rintro e w' ⟨rfl, h, hq⟩
    exact ⟨rfl, bPart_got g fi ca r w w' hr (h.mono (by simp) fun x hx => .inl hx), hq⟩

/-- Behind the store of what Catch told. -/
abbrev bPart_put (n : Nat) (a c : Int) (w : World) : World := (w.setCell ⟨n + 1 + 1, 0, none⟩ (.int .i64 a)).setCell ⟨n + 1 + 1, 1, none⟩ (.int .i64 c)
theorem BPartGot.put {cs : Array Value} {r : List Nat} {w w1 : World} (h : BPartGot cs r w w1) (a c : Int) :
    Mv w.heap.size r w (bPart_put w.heap.size a c w1) ∧ Blk (bPart_put w.heap.size a c w1) (w.heap.size + 1) 25 cs ∧ Blk (bPart_put w.heap.size a c w1) (w.heap.size + 1 + 1) 53 #[.int .i64 a, .int .i64 c] := by
  obtain ⟨m, s, k1, k2⟩ := h
  exact ⟨(m.setCell (.inr (by simp; omega)) _).setCell (.inr (by simp; omega)) _, (k1.far (by simp) _).far (by simp) _, (k2.set_ 0 _).set_ 1 _⟩

/-- What attempt's end comes to, whatever it was that Catch told. -/
abbrev bPart_tell (x y z : Value) (a c : Int) (f : Bool) : Ending := .returned (.tuple #[.agg #[x, y, z], .agg #[.int .i64 a, .int .i64 c], .bool f])

set_option maxHeartbeats 1000000 in
theorem bPart_returns (g : FuncId) (fi ca : Array Value) (va vb vc : Int) (w : World) (r : List Nat) (R : World → Prop) (hr : ∀ x ∈ r, x < w.heap.size)
    (hR : ∀ W1 W2, Below w.heap.size W1 W2 → R W1 → R W2) (hen : ∀ w : World, (callFunc g (fi ++ ca)).run Tryd.prog w = .ok (.enter g (fi ++ ca)) w)
    (hf : ∀ W, Below w.heap.size w W → Calls Tryd.prog g (fi ++ ca) W fun e w1 => e = .returned (.agg #[.int .i64 va, .int .i64 vb, .int .i64 vc]) ∧ Mv W.heap.size r W w1 ∧ R w1) :
    Calls Tryd.prog 57 #[.func (.func g) fi ca] w fun e w' => e = bPart_tell (.int .i64 va) (.int .i64 vb) (.int .i64 vc) 0 0 false ∧ Mv w.heap.size r w w' ∧ R w' := by
  have hmf := make_func
  have heq := bPart_eq_func_nil
  go_enter Tryd.func57, Tryd.ntmps57
  go_wp2_with fail
  refine (bPart_catch_returns g fi ca va vb vc w r R hr hR hen hf).mono ?_
  rintro e w1 ⟨rfl, hb1, hq⟩
  have hR' : Hid _ := hR
  clear hen hf hmf heq hr hR
  obtain ⟨hm, k1, k2⟩ := hb1.put 0 0
  have hq2 : Hid (R (bPart_put w.heap.size 0 0 w1)) := hR'.out _ _ (((Below.refl _ _).setCell (by simp; omega) _).setCell (by simp; omega) _) hq
  have hm2 : Hid _ := hm
  have K1 := Lib.hid k1
  have K2 := Lib.hid k2
  clear hq hm k1 k2
  have c2 : w1.cell? ⟨w.heap.size + 1 + 1, 0, none⟩ = some (.int .i64 0) := hb1.flt.cell 0
  have c3 : w1.cell? ⟨w.heap.size + 1 + 1, 1, none⟩ = some (.int .i64 0) := hb1.flt.cell 1
  have z2 := hb1.flt.frozen 0
  have z3 := hb1.flt.frozen 1
  have hz := hb1.size
  clear hb1
  go_wp2_with fail
  unfold bPart_put at K1 K2 hm2 hq2
  generalize (w1.setCell ⟨w.heap.size + 1 + 1, 0, none⟩ (.int .i64 0)).setCell ⟨w.heap.size + 1 + 1, 1, none⟩ (.int .i64 0) = w2 at *
  clear c2 c3 z2 z3 hz
  have e0 : w2.cell? ⟨w.heap.size + 1, 0, none⟩ = some ((.int .i64 va)) := K1.out.cell 0
  have e1 : w2.cell? ⟨w.heap.size + 1, 1, none⟩ = some ((.int .i64 vb)) := K1.out.cell 1
  have e1b : w2.cell? ⟨w.heap.size + 1, 2, none⟩ = some ((.int .i64 vc)) := K1.out.cell 2
  have e2 : w2.cell? ⟨w.heap.size + 1 + 1, 0, none⟩ = some (.int .i64 0) := K2.out.cell 0
  have e3 : w2.cell? ⟨w.heap.size + 1 + 1, 1, none⟩ = some (.int .i64 0) := K2.out.cell 1
  have f0 := K1.out.frozen 0
  have f1 := K1.out.frozen 1
  have f1b := K1.out.frozen 2
  have f2 := K2.out.frozen 0
  have f3 := K2.out.frozen 1
  have G := Lib.hid (bPart_again (by omega) (.int .i64 va) (.int .i64 vb) (.int .i64 vc) (.int .i64 0) (.int .i64 0) K1.out K2.out)
  go_region
  all_goals go_wp2
  obtain ⟨G1, G2⟩ := G.out
  have g0 : _ = some ((.int .i64 va) : Value) := G1.cell 0
  have g1 : _ = some ((.int .i64 vb) : Value) := G1.cell 1
  have g1b : _ = some ((.int .i64 vc) : Value) := G1.cell 2
  have g2 : _ = some (.int .i64 0 : Value) := G2.cell 0
  have g3 : _ = some (.int .i64 0 : Value) := G2.cell 1
  have hb3 : Below w.heap.size w2 (((((w2.setCell ⟨w.heap.size + 1, 0, none⟩ ((.int .i64 va))).setCell ⟨w.heap.size + 1, 1, none⟩ ((.int .i64 vb))).setCell ⟨w.heap.size + 1, 2, none⟩ ((.int .i64 vc))).setCell ⟨w.heap.size + 1 + 1, 0, none⟩ (.int .i64 0)).setCell ⟨w.heap.size + 1 + 1, 1, none⟩ (.int .i64 0)) :=
    (((((Below.refl _ _).setCell (by simp) _).setCell (by simp) _).setCell (by simp) _).setCell (by simp; omega) _).setCell (by simp; omega) _
  refine bodyPost_ret (v := .tuple #[.agg #[(.int .i64 va), (.int .i64 vb), (.int .i64 vc)], .agg #[.int .i64 0, .int .i64 0], .bool false]) (by simp [results, Tryd.results57, go_sem, g0, g1, g1b, g2, g3]) rfl ⟨rfl, ?_, ?_⟩
  · exact (hm2.out.trans (Mv.of_below hb3 r)).drew
  · exact hR'.out _ _ hb3.drew hq2.out

set_option maxHeartbeats 1000000 in
theorem bPart_throws (g : FuncId) (fi ca : Array Value) (a c : Int) (w : World) (r : List Nat) (R : World → Prop) (hr : ∀ x ∈ r, x < w.heap.size)
    (hR : ∀ W1 W2, Below w.heap.size W1 W2 → R W1 → R W2) (hen : ∀ w : World, (callFunc g (fi ++ ca)).run Tryd.prog w = .ok (.enter g (fi ++ ca)) w)
    (hf : ∀ W, Below w.heap.size w W → Calls Tryd.prog g (fi ++ ca) W fun e w1 => e = pnc a c ∧ Mv W.heap.size r W w1 ∧ R w1) :
    Calls Tryd.prog 57 #[.func (.func g) fi ca] w fun e w' => e = bPart_tell (.int .i64 0) (.int .i64 0) (.int .i64 0) a c true ∧ Mv w.heap.size r w w' ∧ R w' := by
  have hmf := make_func
  have heq := bPart_eq_func_nil
  go_enter Tryd.func57, Tryd.ntmps57
  go_wp2_with fail
  refine (bPart_catch_throws g fi ca a c w r R hr hR hen hf).mono ?_
  rintro e w1 ⟨rfl, hb1, hq⟩
  have hR' : Hid _ := hR
  clear hen hf hmf heq hr hR
  obtain ⟨hm, k1, k2⟩ := hb1.put a c
  have hq2 : Hid (R (bPart_put w.heap.size a c w1)) := hR'.out _ _ (((Below.refl _ _).setCell (by simp; omega) _).setCell (by simp; omega) _) hq
  have hm2 : Hid _ := hm
  have K1 := Lib.hid k1
  have K2 := Lib.hid k2
  clear hq hm k1 k2
  have c2 : w1.cell? ⟨w.heap.size + 1 + 1, 0, none⟩ = some (.int .i64 0) := hb1.flt.cell 0
  have c3 : w1.cell? ⟨w.heap.size + 1 + 1, 1, none⟩ = some (.int .i64 0) := hb1.flt.cell 1
  have z2 := hb1.flt.frozen 0
  have z3 := hb1.flt.frozen 1
  have hz := hb1.size
  clear hb1
  go_wp2_with fail
  unfold bPart_put at K1 K2 hm2 hq2
  generalize (w1.setCell ⟨w.heap.size + 1 + 1, 0, none⟩ (.int .i64 a)).setCell ⟨w.heap.size + 1 + 1, 1, none⟩ (.int .i64 c) = w2 at *
  clear c2 c3 z2 z3 hz
  have e0 : w2.cell? ⟨w.heap.size + 1, 0, none⟩ = some ((.int .i64 0)) := K1.out.cell 0
  have e1 : w2.cell? ⟨w.heap.size + 1, 1, none⟩ = some ((.int .i64 0)) := K1.out.cell 1
  have e1b : w2.cell? ⟨w.heap.size + 1, 2, none⟩ = some ((.int .i64 0)) := K1.out.cell 2
  have e2 : w2.cell? ⟨w.heap.size + 1 + 1, 0, none⟩ = some (.int .i64 a) := K2.out.cell 0
  have e3 : w2.cell? ⟨w.heap.size + 1 + 1, 1, none⟩ = some (.int .i64 c) := K2.out.cell 1
  have f0 := K1.out.frozen 0
  have f1 := K1.out.frozen 1
  have f1b := K1.out.frozen 2
  have f2 := K2.out.frozen 0
  have f3 := K2.out.frozen 1
  have G := Lib.hid (bPart_again (by omega) (.int .i64 0) (.int .i64 0) (.int .i64 0) (.int .i64 a) (.int .i64 c) K1.out K2.out)
  go_region
  all_goals go_wp2
  obtain ⟨G1, G2⟩ := G.out
  have g0 : _ = some ((.int .i64 0) : Value) := G1.cell 0
  have g1 : _ = some ((.int .i64 0) : Value) := G1.cell 1
  have g1b : _ = some ((.int .i64 0) : Value) := G1.cell 2
  have g2 : _ = some (.int .i64 a : Value) := G2.cell 0
  have g3 : _ = some (.int .i64 c : Value) := G2.cell 1
  have hb3 : Below w.heap.size w2 (((((w2.setCell ⟨w.heap.size + 1, 0, none⟩ ((.int .i64 0))).setCell ⟨w.heap.size + 1, 1, none⟩ ((.int .i64 0))).setCell ⟨w.heap.size + 1, 2, none⟩ ((.int .i64 0))).setCell ⟨w.heap.size + 1 + 1, 0, none⟩ (.int .i64 a)).setCell ⟨w.heap.size + 1 + 1, 1, none⟩ (.int .i64 c)) :=
    (((((Below.refl _ _).setCell (by simp) _).setCell (by simp) _).setCell (by simp) _).setCell (by simp; omega) _).setCell (by simp; omega) _
  refine bodyPost_ret (v := .tuple #[.agg #[(.int .i64 0), (.int .i64 0), (.int .i64 0)], .agg #[.int .i64 a, .int .i64 c], .bool true]) (by simp [results, Tryd.results57, go_sem, g0, g1, g1b, g2, g3]) rfl ⟨rfl, ?_, ?_⟩
  · exact (hm2.out.trans (Mv.of_below hb3 r)).drew
  · exact hR'.out _ _ hb3.drew hq2.out

set_option maxHeartbeats 1000000 in
theorem valuebPart_any (g : FuncId) (fi ca : Array Value) (va vb vc : Int) (a c : Int) (f : Bool) (w : World) (r : List Nat) (R : World → Prop) (hr : ∀ x ∈ r, x < w.heap.size)
    (hR : ∀ W1 W2, Below w.heap.size W1 W2 → R W1 → R W2)
    (h : Calls Tryd.prog 57 #[.func (.func g) fi ca] ((w.alloc (.cells #[.int .i64 0, .int .i64 0, .int .i64 0] 25)).alloc (flc 0 0)) fun e w' => e = bPart_tell (.int .i64 va) (.int .i64 vb) (.int .i64 vc) a c f ∧ Mv (w.heap.size + 2) r ((w.alloc (.cells #[.int .i64 0, .int .i64 0, .int .i64 0] 25)).alloc (flc 0 0)) w' ∧ R w') :
    Calls Tryd.prog 40 #[.func (.func g) fi ca] w fun e w' => e = .returned (.tuple #[.agg #[.int .i64 va, .int .i64 vb, .int .i64 vc], .agg #[.int .i64 a, .int .i64 c]]) ∧ Mv w.heap.size r w w' ∧ R w' := by
  go_enter Tryd.func40, Tryd.ntmps40
  go_wp2_with (go_at_call 57; refine h.mono ?_; rintro e w1 ⟨rfl, hb1, hq⟩)
  have hR' : Hid _ := hR
  have hz := hb1.size
  simp at hz
  have n0 : w.heap.size ∉ r := fun hm => by have := hr _ hm; omega
  have n1 : w.heap.size + 1 ∉ r := fun hm => by have := hr _ hm; omega
  obtain ⟨w2, hw2⟩ : ∃ w2, w2 = (w1.alloc (.cells #[.int .i64 va, .int .i64 vb, .int .i64 vc] 25)).alloc (.cells #[.int .i64 a, .int .i64 c] 53) := ⟨_, rfl⟩
  have k0 : Blk ((w.alloc (.cells #[.int .i64 0, .int .i64 0, .int .i64 0] 25)).alloc (flc 0 0)) w.heap.size 25 #[.int .i64 0, .int .i64 0, .int .i64 0] := (Blk.new w _ _).alloc _
  have k1 : Blk ((w.alloc (.cells #[.int .i64 0, .int .i64 0, .int .i64 0] 25)).alloc (flc 0 0)) (w.heap.size + 1) 53 #[.int .i64 0, .int .i64 0] := by
    have := Blk.new (w.alloc (.cells #[.int .i64 0, .int .i64 0, .int .i64 0] 25)) 53 #[.int .i64 0, .int .i64 0]
    simpa using this
  have K0 := Lib.hid (show Blk w2 w.heap.size 25 #[.int .i64 0, .int .i64 0, .int .i64 0] from by rw [hw2]; exact ((k0.mv hb1 (by omega) n0).alloc _).alloc _)
  have K1 := Lib.hid (show Blk w2 (w.heap.size + 1) 53 #[.int .i64 0, .int .i64 0] from by rw [hw2]; exact ((k1.mv hb1 (by omega) n1).alloc _).alloc _)
  have K2 := Lib.hid (show Blk w2 w1.heap.size 25 #[.int .i64 va, .int .i64 vb, .int .i64 vc] from by rw [hw2]; exact (Blk.new w1 _ _).alloc _)
  have K3 := Lib.hid (show Blk w2 (w1.heap.size + 1) 53 #[.int .i64 a, .int .i64 c] from by
    have := Blk.new (w1.alloc (.cells #[.int .i64 va, .int .i64 vb, .int .i64 vc] 25)) 53 #[.int .i64 a, .int .i64 c]
    rw [hw2]
    simpa using this)
  have hbw : Hid (Mv w.heap.size r w w2) := by
    rw [hw2]
    exact (((Mv.of_below (((Below.refl _ _).alloc (Nat.le_refl _) _).alloc (by simp) _) r).trans (hb1.mono (by omega) fun x hx => .inl hx)).alloc (by omega) _).alloc (by simp; omega) _
  have hq2 : Hid (R w2) := by
    rw [hw2]
    exact hR _ _ (((Below.refl _ _).alloc (by omega) _).alloc (by simp; omega) _) hq
  clear hb1 h hq hR hr k0 k1
  go_wp2_with fail
  rw [← hw2]
  have HW2 := Lib.hid hw2
  clear hw2
  have hn : w1.heap.size + 1 < w2.heap.size := K3.out.lt
  have G := Lib.hid (bPart_again (by omega) (.int .i64 va) (.int .i64 vb) (.int .i64 vc) (.int .i64 a) (.int .i64 c) K0.out K1.out)
  have e0 : w2.cell? ⟨w.heap.size, 0, none⟩ = some (.int .i64 0) := K0.out.cell 0
  have e1 : w2.cell? ⟨w.heap.size, 1, none⟩ = some (.int .i64 0) := K0.out.cell 1
  have e1b : w2.cell? ⟨w.heap.size, 2, none⟩ = some (.int .i64 0) := K0.out.cell 2
  have e2 : w2.cell? ⟨w.heap.size + 1, 0, none⟩ = some (.int .i64 0) := K1.out.cell 0
  have e3 : w2.cell? ⟨w.heap.size + 1, 1, none⟩ = some (.int .i64 0) := K1.out.cell 1
  have f0 := K0.out.frozen 0
  have f1 := K0.out.frozen 1
  have f1b := K0.out.frozen 2
  have f2 := K1.out.frozen 0
  have f3 := K1.out.frozen 1
  have d0 : w2.cell? ⟨w1.heap.size, 0, none⟩ = some (.int .i64 va) := K2.out.cell 0
  have d1 : w2.cell? ⟨w1.heap.size, 1, none⟩ = some (.int .i64 vb) := K2.out.cell 1
  have d1b : w2.cell? ⟨w1.heap.size, 2, none⟩ = some (.int .i64 vc) := K2.out.cell 2
  have d2 : w2.cell? ⟨w1.heap.size + 1, 0, none⟩ = some (.int .i64 a) := K3.out.cell 0
  have d3 : w2.cell? ⟨w1.heap.size + 1, 1, none⟩ = some (.int .i64 c) := K3.out.cell 1
  clear HW2 K0 K1 K2 K3
  generalize w1.heap.size = m1 at *
  go_region
  all_goals go_wp2
  obtain ⟨G1, G2⟩ := G.out
  have g0 : _ = some (.int .i64 va : Value) := G1.cell 0
  have g1 : _ = some (.int .i64 vb : Value) := G1.cell 1
  have g1b : _ = some (.int .i64 vc : Value) := G1.cell 2
  have g2 : _ = some (.int .i64 a : Value) := G2.cell 0
  have g3 : _ = some (.int .i64 c : Value) := G2.cell 1
  have hb3 : Below w.heap.size w2 (((((w2.setCell ⟨w.heap.size, 0, none⟩ (.int .i64 va)).setCell ⟨w.heap.size, 1, none⟩ (.int .i64 vb)).setCell ⟨w.heap.size, 2, none⟩ (.int .i64 vc)).setCell ⟨w.heap.size + 1, 0, none⟩ (.int .i64 a)).setCell ⟨w.heap.size + 1, 1, none⟩ (.int .i64 c)) :=
    (((((Below.refl _ _).setCell (by simp) _).setCell (by simp) _).setCell (by simp) _).setCell (by simp) _).setCell (by simp) _
  refine bodyPost_ret (v := .tuple #[.agg #[.int .i64 va, .int .i64 vb, .int .i64 vc], .agg #[.int .i64 a, .int .i64 c]]) (by simp [results, Tryd.results40, go_sem, g0, g1, g1b, g2, g3]) rfl ⟨rfl, ?_, ?_⟩
  · exact (hbw.out.trans (Mv.of_below hb3 r)).drew
  · exact hR'.out _ _ hb3.drew hq2.out

theorem valuebPart_returns (g : FuncId) (fi ca : Array Value) (va vb vc : Int) (w : World) (r : List Nat) (R : World → Prop) (hr : ∀ x ∈ r, x < w.heap.size)
    (hR : ∀ W1 W2, Below w.heap.size W1 W2 → R W1 → R W2) (hen : ∀ w : World, (callFunc g (fi ++ ca)).run Tryd.prog w = .ok (.enter g (fi ++ ca)) w)
    (hf : ∀ W, Below w.heap.size w W → Calls Tryd.prog g (fi ++ ca) W fun e w1 => e = .returned (.agg #[.int .i64 va, .int .i64 vb, .int .i64 vc]) ∧ Mv W.heap.size r W w1 ∧ R w1) :
    Calls Tryd.prog 40 #[.func (.func g) fi ca] w fun e w' => e = .returned (.tuple #[.agg #[.int .i64 va, .int .i64 vb, .int .i64 vc], flt 0 0]) ∧ Mv w.heap.size r w w' ∧ R w' := by
  refine valuebPart_any g fi ca va vb vc 0 0 false w r R hr hR ?_
  have hb : Below w.heap.size w ((w.alloc (.cells #[.int .i64 0, .int .i64 0, .int .i64 0] 25)).alloc (flc 0 0)) := ((Below.refl _ _).alloc (Nat.le_refl _) _).alloc (by simp) _
  refine (bPart_returns g fi ca va vb vc ((w.alloc (.cells #[.int .i64 0, .int .i64 0, .int .i64 0] 25)).alloc (flc 0 0)) r R (fun x hx => by have := hr x hx; simp; omega) (fun W1 W2 h => hR W1 W2 (h.mono (by simp; omega))) hen fun W hW => hf W (hb.trans (hW.mono (by simp; omega)))).mono ?_
  rintro e w' ⟨h1, h2, h3⟩
  exact ⟨h1, by simpa using h2, h3⟩

theorem valuebPart_throws (g : FuncId) (fi ca : Array Value) (a c : Int) (w : World) (r : List Nat) (R : World → Prop) (hr : ∀ x ∈ r, x < w.heap.size)
    (hR : ∀ W1 W2, Below w.heap.size W1 W2 → R W1 → R W2) (hen : ∀ w : World, (callFunc g (fi ++ ca)).run Tryd.prog w = .ok (.enter g (fi ++ ca)) w)
    (hf : ∀ W, Below w.heap.size w W → Calls Tryd.prog g (fi ++ ca) W fun e w1 => e = pnc a c ∧ Mv W.heap.size r W w1 ∧ R w1) :
    Calls Tryd.prog 40 #[.func (.func g) fi ca] w fun e w' => e = .returned (.tuple #[.agg #[.int .i64 0, .int .i64 0, .int .i64 0], flt a c]) ∧ Mv w.heap.size r w w' ∧ R w' := by
  refine valuebPart_any g fi ca 0 0 0 a c true w r R hr hR ?_
  have hb : Below w.heap.size w ((w.alloc (.cells #[.int .i64 0, .int .i64 0, .int .i64 0] 25)).alloc (flc 0 0)) := ((Below.refl _ _).alloc (Nat.le_refl _) _).alloc (by simp) _
  refine (bPart_throws g fi ca a c ((w.alloc (.cells #[.int .i64 0, .int .i64 0, .int .i64 0] 25)).alloc (flc 0 0)) r R (fun x hx => by have := hr x hx; simp; omega) (fun W1 W2 h => hR W1 W2 (h.mono (by simp; omega))) hen fun W hW => hf W (hb.trans (hW.mono (by simp; omega)))).mono ?_
  rintro e w' ⟨h1, h2, h3⟩
  exact ⟨h1, by simpa using h2, h3⟩

end Go.Proofs.YtaolclpjlkdkjaaDoor
