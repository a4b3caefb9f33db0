/-
  What trap's attempt and Value tell of a function value that answers a api.Box, a struct of two cells, and of one that throws. Conditions: it turns rows of r alone, and leaves R, which is known of older memory alone.
-/
import Derived.Test.YtbibcpbldnedhaaTrap
import Derived.RegionTactic
import Derived.BigRegion
import Derived.Lib.Hide
namespace Go.Proofs.Ytbibcpbldnedhaa
open Go.RowKit

/-- Nothing has turned but one block. -/
structure bBoxOnly (b : Nat) (w w' : World) : Prop where
  os : w'.os = w.os
  tape : w'.tape = w.tape
  output : w'.output = w.output
  size : w'.heap.size = w.heap.size
  block : ∀ k, k ≠ b → w'.heap[k]? = w.heap[k]?
theorem bBoxOnly.refl (b : Nat) (w : World) : bBoxOnly b w w := ⟨rfl, rfl, rfl, rfl, fun _ _ => rfl⟩
theorem bBoxOnly.set {b : Nat} {w w' : World} (h : bBoxOnly b w w') (i : Nat) (u : Value) : bBoxOnly b w (w'.setCell ⟨b, i, none⟩ u) :=
  ⟨h.os, h.tape, h.output, by simpa [World.setCell] using h.size, fun k hk => (Below.heap_setCell w' ⟨b, i, none⟩ u k hk).trans (h.block k hk)⟩
theorem bBoxOnly.below {b B : Nat} {w w' : World} (h : bBoxOnly b w w') (hb : B ≤ b) : Below B w w' := ⟨h.os, h.tape, h.output, by rw [h.size]; exact Nat.le_refl _, fun k hk => h.block k (by omega)⟩
theorem bBoxOnly.mv {b B : Nat} {w w' : World} (h : bBoxOnly b w w') : Mv B [b] w w' := ⟨h.os, h.tape, h.output, by rw [h.size]; exact Nat.le_refl _, fun k _ hk => h.block k (by simpa using hk)⟩
theorem bBoxOnly.blk {b g : Nat} {w w' : World} {t : TypeId} {cs : Array Value} (h : bBoxOnly b w w') (hg : g ≠ b) (k : Blk w g t cs) : Blk w' g t cs := (h.block g hg).trans k
/-- Two blocks of two cells, each written once more as it is. -/
theorem bBox_again {w : World} {b b' : Nat} {t t' : TypeId} {x y a c : Value} (hne : b ≠ b') (x' y' a' c' : Value) (h : Blk w b t #[x, y]) (h' : Blk w b' t' #[a, c]) :
    Blk ((((w.setCell ⟨b, 0, none⟩ x').setCell ⟨b, 1, none⟩ y').setCell ⟨b', 0, none⟩ a').setCell ⟨b', 1, none⟩ c') b t #[x', y'] ∧ Blk ((((w.setCell ⟨b, 0, none⟩ x').setCell ⟨b, 1, none⟩ y').setCell ⟨b', 0, none⟩ a').setCell ⟨b', 1, none⟩ c') b' t' #[a', c'] :=
  ⟨(((h.set_ 0 x').set_ 1 y').far (by simpa using hne) a').far (by simpa using hne) c', ((((h'.far (p := ⟨b, 0, none⟩) (by simpa using hne.symm) x').far (p := ⟨b, 1, none⟩) (by simpa using hne.symm) y').set_ 0 a').set_ 1 c')⟩

theorem bBox_eq_func_nil (fn : Fn) (fi ca : Array Value) (w : World) : (binOp .eql 55 (.func fn fi ca) .nilFunc).run Try.prog w = .ok (.bool false) w := by kernel_rfl
theorem bBox_enter (a b : Value) (w : World) : (callFunc 40 (#[] ++ #[a, b])).run Try.prog w = .ok (.enter 40 (#[] ++ #[a, b])) w := by simp [go_sem]

set_option maxHeartbeats 400000 in
theorem bBox_closure_returns (g : FuncId) (fi ca : Array Value) (p : Addr) (b : Nat) (v0 v1 : Value) (nm : ByteArray) (n : Int) (w : World) (Q : World → Prop) (hp : w.cell? p = some (.func (.func g) fi ca))
    (hQ : ∀ w1, Q w1 → Blk w1 b 45 #[v0, v1])
    (hen : ∀ w : World, (callFunc g (fi ++ ca)).run Try.prog w = .ok (.enter g (fi ++ ca)) w)
    (hf : Calls Try.prog g (fi ++ ca) w fun e w1 => e = .returned (.agg #[.string nm, .int .i64 n]) ∧ Q w1) :
    Calls Try.prog 40 #[.pointer (some p), .pointer (some ⟨b, 0, none⟩)] w fun e w' => e = .returned (.tuple #[]) ∧ ∃ w1, Q w1 ∧ bBoxOnly b w1 w' ∧ Blk w' b 45 #[.string nm, .int .i64 n] := by
  go_enter Try.func40, Try.ntmps40
  go_wp2_with fail
  refine hf.mono ?_
  rintro e w1 ⟨rfl, hb1⟩
  have HP := Lib.hid (hQ w1 hb1)
  have c0 : w1.cell? ⟨b, 0, none⟩ = some v0 := HP.out.cell 0
  have c1 : w1.cell? ⟨b, 1, none⟩ = some v1 := HP.out.cell 1
  have z0 := HP.out.frozen 0
  have z1 := HP.out.frozen 1
  clear hen hf hp hQ
  go_wp2
  go_end0
  exact ⟨rfl, w1, hb1, ((bBoxOnly.refl b w1).set 0 _).set 1 _, (HP.out.set_ 0 _).set_ 1 _⟩

set_option maxHeartbeats 400000 in
theorem bBox_closure_throws (g : FuncId) (fi ca : Array Value) (p : Addr) (b : Nat) (a c : Int) (w : World) (Q : World → Prop) (hp : w.cell? p = some (.func (.func g) fi ca))
    (hen : ∀ w : World, (callFunc g (fi ++ ca)).run Try.prog w = .ok (.enter g (fi ++ ca)) w)
    (hf : Calls Try.prog g (fi ++ ca) w fun e w1 => e = pnc a c ∧ Q w1) :
    Calls Try.prog 40 #[.pointer (some p), .pointer (some ⟨b, 0, none⟩)] w fun e w' => e = pnc a c ∧ Q w' := by
  go_enter Try.func40, Try.ntmps40
  go_wp2_with fail
  refine hf.mono ?_
  rintro e w1 ⟨rfl, hb1⟩
  exact ⟨rfl, rfl, hb1⟩

/-- What attempt's own three variables are, while f runs. -/
abbrev bBox_w (g : FuncId) (fi ca : Array Value) (w : World) : World := ((w.alloc (.cells #[.func (.func g) fi ca] 55)).alloc (.cells #[.string ⟨#[]⟩, .int .i64 0] 45)).alloc (.cells #[.int .i64 0, .int .i64 0] 51)

theorem bBox_w_below (g : FuncId) (fi ca : Array Value) (w : World) : Below w.heap.size w (bBox_w g fi ca w) :=
  (((Below.refl _ _).alloc (Nat.le_refl _) _).alloc (by simp) _).alloc (by simp; omega) _
theorem bBox_w_blk (g : FuncId) (fi ca : Array Value) (w : World) : Blk (bBox_w g fi ca w) (w.heap.size + 1) 45 #[.string ⟨#[]⟩, .int .i64 0] ∧ Blk (bBox_w g fi ca w) (w.heap.size + 1 + 1) 51 #[.int .i64 0, .int .i64 0] := by
  have h1 := Blk.new (w.alloc (.cells #[.func (.func g) fi ca] 55)) 45 #[.string ⟨#[]⟩, .int .i64 0]
  have h2 := Blk.new ((w.alloc (.cells #[.func (.func g) fi ca] 55)).alloc (.cells #[.string ⟨#[]⟩, .int .i64 0] 45)) 51 #[.int .i64 0, .int .i64 0]
  have h1' : Blk ((w.alloc (.cells #[.func (.func g) fi ca] 55)).alloc (.cells #[.string ⟨#[]⟩, .int .i64 0] 45)) (w.heap.size + 1) 45 #[.string ⟨#[]⟩, .int .i64 0] := by simpa using h1
  exact ⟨h1'.alloc _, by simpa using h2⟩

/-- Behind Catch: attempt's variables, and that nothing else has turned but rows of r. -/
structure BBoxGot (cs : Array Value) (r : List Nat) (w w1 : World) : Prop where
  mv : Mv w.heap.size r w w1
  size : w.heap.size + 3 ≤ w1.heap.size
  own : Blk w1 (w.heap.size + 1) 45 cs
  flt : Blk w1 (w.heap.size + 1 + 1) 51 #[.int .i64 0, .int .i64 0]

theorem bBox_got (g : FuncId) (fi ca : Array Value) (r : List Nat) (w w1 : World) (hr : ∀ x ∈ r, x < w.heap.size) (h : Mv (w.heap.size + 3) r (bBox_w g fi ca w) w1) :
    BBoxGot #[.string ⟨#[]⟩, .int .i64 0] r w w1 := by
  have hs := h.size
  simp at hs
  have n1 : w.heap.size + 1 ∉ r := fun hm => by have := hr _ hm; omega
  have n2 : w.heap.size + 1 + 1 ∉ r := fun hm => by have := hr _ hm; omega
  obtain ⟨k1, k2⟩ := bBox_w_blk g fi ca w
  exact ⟨(Mv.of_below (bBox_w_below g fi ca w) r).trans (h.mono (by omega) fun x hx => .inl hx), by omega, k1.mv h (by omega) n1, k2.mv h (by omega) n2⟩

theorem BBoxGot.set {cs cs' : Array Value} {r : List Nat} {w w1 w2 : World} (h : BBoxGot cs r w w1) (ho : bBoxOnly (w.heap.size + 1) w1 w2) (hb : Blk w2 (w.heap.size + 1) 45 cs') : BBoxGot cs' r w w2 := by
  obtain ⟨m, s, k1, k2⟩ := h
  exact ⟨m.trans (Mv.of_below (ho.below (by omega)) r), by rw [ho.size]; exact s, hb, ho.blk (by omega) k2⟩

theorem BBoxGot.below {cs : Array Value} {r : List Nat} {w w1 w2 : World} (h : BBoxGot cs r w w1) (hb : Below (w.heap.size + 3) w1 w2) : BBoxGot cs r w w2 := by
  obtain ⟨m, s, k1, k2⟩ := h
  have := hb.size
  exact ⟨m.trans (Mv.of_below (hb.mono (by omega)) r), by omega, k1.below hb (by omega), k2.below hb (by omega)⟩

/-- Catch over the closure. -/
theorem bBox_catch_returns (g : FuncId) (fi ca : Array Value) (nm : ByteArray) (n : Int) (w : World) (r : List Nat) (R : World → Prop) (hr : ∀ x ∈ r, x < w.heap.size)
    (hR : ∀ W1 W2, Below w.heap.size W1 W2 → R W1 → R W2) (hen : ∀ w : World, (callFunc g (fi ++ ca)).run Try.prog w = .ok (.enter g (fi ++ ca)) w)
    (hf : ∀ W, Below w.heap.size w W → Calls Try.prog g (fi ++ ca) W fun e w1 => e = .returned (.agg #[.string nm, .int .i64 n]) ∧ Mv W.heap.size r W w1 ∧ R w1) :
    Calls Try.prog 39 #[.func (.func 40) #[] #[.pointer (some ⟨w.heap.size, 0, none⟩), .pointer (some ⟨w.heap.size + 1, 0, none⟩)]] (bBox_w g fi ca w)
      fun e w' => e = .returned (.tuple #[flt 0 0, .bool false]) ∧ BBoxGot #[.string nm, .int .i64 n] r w w' ∧ R w' := by
  have hw := bBox_w_below g fi ca w
  have hsz : (bBox_w g fi ca w).heap.size = w.heap.size + 3 := by simp
  refine (catch_returns 40 #[] #[.pointer (some ⟨w.heap.size, 0, none⟩), .pointer (some ⟨w.heap.size + 1, 0, none⟩)] (bBox_w g fi ca w)
    (fun w1 => ∃ w0, (Mv (w.heap.size + 5) r (cw (bBox_w g fi ca w)) w0 ∧ R w0) ∧ bBoxOnly (w.heap.size + 1) w0 w1 ∧ Blk w1 (w.heap.size + 1) 45 #[.string nm, .int .i64 n]) ?_ (bBox_enter _ _) ?_).mono ?_
  · rintro w1 ⟨w0, ⟨h, _⟩, ho, _⟩
    refine keeps_mv (bBox_w g fi ca w) w1 ((w.heap.size + 1) :: r) (fun x hx => ?_) ?_
    · rw [hsz]
      rcases List.mem_cons.1 hx with rfl | hx
      · omega
      · have := hr x hx; omega
    · rw [hsz]
      exact (h.mono (by omega) fun x hx => .inl (List.mem_cons_of_mem _ hx)).trans (ho.mv.mono (B := w.heap.size + 3 + 2) (Nat.le_refl _) fun x hx => .inl (by simp at hx; simp [hx]))
  · have hcw := cw_below (bBox_w g fi ca w)
    refine (bBox_closure_returns g fi ca ⟨w.heap.size, 0, none⟩ (w.heap.size + 1) (.string ⟨#[]⟩) (.int .i64 0) nm n (cw (bBox_w g fi ca w)) (fun w0 => Mv (w.heap.size + 5) r (cw (bBox_w g fi ca w)) w0 ∧ R w0) ?_ ?_ hen ?_).mono ?_
    · rw [hcw.cell (by simp; omega)]; simp [go_sem]
    · rintro w1 ⟨h, _⟩
      have n1 : w.heap.size + 1 ∉ r := fun hm => by have := hr _ hm; omega
      exact (((bBox_w_blk g fi ca w).1.below hcw (by rw [hsz]; omega))).mv h (by omega) n1
    · refine (hf _ (hw.trans (hcw.mono (by simp; omega)))).mono ?_
      rintro e w1 ⟨h1, h2, h3⟩
      exact ⟨h1, h2.mono (by simp) fun x hx => .inl hx, h3⟩
    · rintro e w1 ⟨rfl, w0, h, h2⟩
      exact ⟨⟨_, rfl⟩, w0, h, h2⟩
  · rintro e w' ⟨rfl, w1, ⟨w0, ⟨h, hq⟩, ho, hbk⟩, rfl⟩
    have hcw := cw_below (bBox_w g fi ca w)
    have hm : Mv (w.heap.size + 3) r (bBox_w g fi ca w) w0 := (Mv.of_below (hcw.mono (by simp)) r).trans (h.mono (by omega) fun x hx => .inl hx)
    have hg := (bBox_got g fi ca r w w0 hr hm).set ho hbk
    rw [hsz]
    have hb : ∀ B, B ≤ w.heap.size + 3 → Below B w1 (((w1.setCell ⟨w.heap.size + 3, 0, none⟩ (.int .i64 0)).setCell ⟨w.heap.size + 3, 1, none⟩ (.int .i64 0)).setCell ⟨w.heap.size + 3 + 1, 0, none⟩ (.bool false)) :=
      fun B hB => (((Below.refl _ _).setCell (by simp; omega) _).setCell (by simp; omega) _).setCell (by simp; omega) _
    exact ⟨rfl, hg.below (hb _ (Nat.le_refl _)), hR _ _ (hb _ (by omega)) (hR _ _ (ho.below (by omega)) hq)⟩

theorem bBox_catch_throws (g : FuncId) (fi ca : Array Value) (a c : Int) (w : World) (r : List Nat) (R : World → Prop) (hr : ∀ x ∈ r, x < w.heap.size)
    (hR : ∀ W1 W2, Below w.heap.size W1 W2 → R W1 → R W2) (hen : ∀ w : World, (callFunc g (fi ++ ca)).run Try.prog w = .ok (.enter g (fi ++ ca)) w)
    (hf : ∀ W, Below w.heap.size w W → Calls Try.prog g (fi ++ ca) W fun e w1 => e = pnc a c ∧ Mv W.heap.size r W w1 ∧ R w1) :
    Calls Try.prog 39 #[.func (.func 40) #[] #[.pointer (some ⟨w.heap.size, 0, none⟩), .pointer (some ⟨w.heap.size + 1, 0, none⟩)]] (bBox_w g fi ca w)
      fun e w' => e = .returned (.tuple #[flt a c, .bool true]) ∧ BBoxGot #[.string ⟨#[]⟩, .int .i64 0] r w w' ∧ R w' := by
  have hw := bBox_w_below g fi ca w
  have hsz : (bBox_w g fi ca w).heap.size = w.heap.size + 3 := by simp
  refine (catch_mv_throws 40 #[] #[.pointer (some ⟨w.heap.size, 0, none⟩), .pointer (some ⟨w.heap.size + 1, 0, none⟩)] (bBox_w g fi ca w) a c r R (fun x hx => by have := hr x hx; simp; omega)
    (fun W1 W2 hb h => hR W1 W2 (hb.mono (by simp; omega)) h) (bBox_enter _ _) ?_).mono ?_
  · intro W hW
    refine bBox_closure_throws g fi ca ⟨w.heap.size, 0, none⟩ (w.heap.size + 1) a c W (fun w1 => Mv W.heap.size r W w1 ∧ R w1) ?_ hen (hf _ (hw.trans (hW.mono (by simp; omega))))
    rw [hW.cell (by simp; omega)]; simp [go_sem]
  · rintro e w' ⟨rfl, h, hq⟩
    exact ⟨rfl, bBox_got g fi ca r w w' hr (h.mono (by simp) fun x hx => .inl hx), hq⟩

/-- Behind the store of what Catch told. -/
abbrev bBox_put (n : Nat) (a c : Int) (w : World) : World := (w.setCell ⟨n + 1 + 1, 0, none⟩ (.int .i64 a)).setCell ⟨n + 1 + 1, 1, none⟩ (.int .i64 c)
theorem BBoxGot.put {cs : Array Value} {r : List Nat} {w w1 : World} (h : BBoxGot cs r w w1) (a c : Int) :
    Mv w.heap.size r w (bBox_put w.heap.size a c w1) ∧ Blk (bBox_put w.heap.size a c w1) (w.heap.size + 1) 45 cs ∧ Blk (bBox_put w.heap.size a c w1) (w.heap.size + 1 + 1) 51 #[.int .i64 a, .int .i64 c] := by
  obtain ⟨m, s, k1, k2⟩ := h
  exact ⟨(m.setCell (.inr (by simp; omega)) _).setCell (.inr (by simp; omega)) _, (k1.far (by simp) _).far (by simp) _, (k2.set_ 0 _).set_ 1 _⟩

/-- What attempt's end comes to, whatever it was that Catch told. -/
abbrev bBox_tell (x y : Value) (a c : Int) (f : Bool) : Ending := .returned (.tuple #[.agg #[x, y], .agg #[.int .i64 a, .int .i64 c], .bool f])

set_option maxHeartbeats 1000000 in
theorem bBox_returns (g : FuncId) (fi ca : Array Value) (nm : ByteArray) (n : Int) (w : World) (r : List Nat) (R : World → Prop) (hr : ∀ x ∈ r, x < w.heap.size)
    (hR : ∀ W1 W2, Below w.heap.size W1 W2 → R W1 → R W2) (hen : ∀ w : World, (callFunc g (fi ++ ca)).run Try.prog w = .ok (.enter g (fi ++ ca)) w)
    (hf : ∀ W, Below w.heap.size w W → Calls Try.prog g (fi ++ ca) W fun e w1 => e = .returned (.agg #[.string nm, .int .i64 n]) ∧ Mv W.heap.size r W w1 ∧ R w1) :
    Calls Try.prog 34 #[.func (.func g) fi ca] w fun e w' => e = bBox_tell (.string nm) (.int .i64 n) 0 0 false ∧ Mv w.heap.size r w w' ∧ R w' := by
  have hmf := make_func
  have heq := bBox_eq_func_nil
  go_enter Try.func34, Try.ntmps34
  go_wp2_with fail
  refine (bBox_catch_returns g fi ca nm n w r R hr hR hen hf).mono ?_
  rintro e w1 ⟨rfl, hb1, hq⟩
  have hR' : Hid _ := hR
  clear hen hf hmf heq hr hR
  obtain ⟨hm, k1, k2⟩ := hb1.put 0 0
  have hq2 : Hid (R (bBox_put w.heap.size 0 0 w1)) := hR'.out _ _ (((Below.refl _ _).setCell (by simp; omega) _).setCell (by simp; omega) _) hq
  have hm2 : Hid _ := hm
  have K1 := Lib.hid k1
  have K2 := Lib.hid k2
  clear hq hm k1 k2
  have c2 : w1.cell? ⟨w.heap.size + 1 + 1, 0, none⟩ = some (.int .i64 0) := hb1.flt.cell 0
  have c3 : w1.cell? ⟨w.heap.size + 1 + 1, 1, none⟩ = some (.int .i64 0) := hb1.flt.cell 1
  have z2 := hb1.flt.frozen 0
  have z3 := hb1.flt.frozen 1
  have hz := hb1.size
  clear hb1
  go_wp2_with fail
  unfold bBox_put at K1 K2 hm2 hq2
  generalize (w1.setCell ⟨w.heap.size + 1 + 1, 0, none⟩ (.int .i64 0)).setCell ⟨w.heap.size + 1 + 1, 1, none⟩ (.int .i64 0) = w2 at *
  clear c2 c3 z2 z3 hz
  have e0 : w2.cell? ⟨w.heap.size + 1, 0, none⟩ = some ((.string nm)) := K1.out.cell 0
  have e1 : w2.cell? ⟨w.heap.size + 1, 1, none⟩ = some ((.int .i64 n)) := K1.out.cell 1
  have e2 : w2.cell? ⟨w.heap.size + 1 + 1, 0, none⟩ = some (.int .i64 0) := K2.out.cell 0
  have e3 : w2.cell? ⟨w.heap.size + 1 + 1, 1, none⟩ = some (.int .i64 0) := K2.out.cell 1
  have f0 := K1.out.frozen 0
  have f1 := K1.out.frozen 1
  have f2 := K2.out.frozen 0
  have f3 := K2.out.frozen 1
  have G := Lib.hid (bBox_again (by omega) (.string nm) (.int .i64 n) (.int .i64 0) (.int .i64 0) K1.out K2.out)
  go_region
  all_goals go_wp2
  obtain ⟨G1, G2⟩ := G.out
  have g0 : _ = some ((.string nm) : Value) := G1.cell 0
  have g1 : _ = some ((.int .i64 n) : Value) := G1.cell 1
  have g2 : _ = some (.int .i64 0 : Value) := G2.cell 0
  have g3 : _ = some (.int .i64 0 : Value) := G2.cell 1
  have hb3 : Below w.heap.size w2 ((((w2.setCell ⟨w.heap.size + 1, 0, none⟩ ((.string nm))).setCell ⟨w.heap.size + 1, 1, none⟩ ((.int .i64 n))).setCell ⟨w.heap.size + 1 + 1, 0, none⟩ (.int .i64 0)).setCell ⟨w.heap.size + 1 + 1, 1, none⟩ (.int .i64 0)) :=
    ((((Below.refl _ _).setCell (by simp) _).setCell (by simp) _).setCell (by simp; omega) _).setCell (by simp; omega) _
  refine bodyPost_ret (v := .tuple #[.agg #[(.string nm), (.int .i64 n)], .agg #[.int .i64 0, .int .i64 0], .bool false]) (by simp [results, Try.results34, go_sem, g0, g1, g2, g3]) rfl ⟨rfl, ?_, ?_⟩
  · exact (hm2.out.trans (Mv.of_below hb3 r)).drew
  · exact hR'.out _ _ hb3.drew hq2.out

set_option maxHeartbeats 1000000 in
theorem bBox_throws (g : FuncId) (fi ca : Array Value) (a c : Int) (w : World) (r : List Nat) (R : World → Prop) (hr : ∀ x ∈ r, x < w.heap.size)
    (hR : ∀ W1 W2, Below w.heap.size W1 W2 → R W1 → R W2) (hen : ∀ w : World, (callFunc g (fi ++ ca)).run Try.prog w = .ok (.enter g (fi ++ ca)) w)
    (hf : ∀ W, Below w.heap.size w W → Calls Try.prog g (fi ++ ca) W fun e w1 => e = pnc a c ∧ Mv W.heap.size r W w1 ∧ R w1) :
    Calls Try.prog 34 #[.func (.func g) fi ca] w fun e w' => e = bBox_tell (.string ⟨#[]⟩) (.int .i64 0) a c true ∧ Mv w.heap.size r w w' ∧ R w' := by
  have hmf := make_func
  have heq := bBox_eq_func_nil
  go_enter Try.func34, Try.ntmps34
  go_wp2_with fail
  refine (bBox_catch_throws g fi ca a c w r R hr hR hen hf).mono ?_
  rintro e w1 ⟨rfl, hb1, hq⟩
  have hR' : Hid _ := hR
  clear hen hf hmf heq hr hR
  obtain ⟨hm, k1, k2⟩ := hb1.put a c
  have hq2 : Hid (R (bBox_put w.heap.size a c w1)) := hR'.out _ _ (((Below.refl _ _).setCell (by simp; omega) _).setCell (by simp; omega) _) hq
  have hm2 : Hid _ := hm
  have K1 := Lib.hid k1
  have K2 := Lib.hid k2
  clear hq hm k1 k2
  have c2 : w1.cell? ⟨w.heap.size + 1 + 1, 0, none⟩ = some (.int .i64 0) := hb1.flt.cell 0
  have c3 : w1.cell? ⟨w.heap.size + 1 + 1, 1, none⟩ = some (.int .i64 0) := hb1.flt.cell 1
  have z2 := hb1.flt.frozen 0
  have z3 := hb1.flt.frozen 1
  have hz := hb1.size
  clear hb1
  go_wp2_with fail
  unfold bBox_put at K1 K2 hm2 hq2
  generalize (w1.setCell ⟨w.heap.size + 1 + 1, 0, none⟩ (.int .i64 a)).setCell ⟨w.heap.size + 1 + 1, 1, none⟩ (.int .i64 c) = w2 at *
  clear c2 c3 z2 z3 hz
  have e0 : w2.cell? ⟨w.heap.size + 1, 0, none⟩ = some ((.string ⟨#[]⟩)) := K1.out.cell 0
  have e1 : w2.cell? ⟨w.heap.size + 1, 1, none⟩ = some ((.int .i64 0)) := K1.out.cell 1
  have e2 : w2.cell? ⟨w.heap.size + 1 + 1, 0, none⟩ = some (.int .i64 a) := K2.out.cell 0
  have e3 : w2.cell? ⟨w.heap.size + 1 + 1, 1, none⟩ = some (.int .i64 c) := K2.out.cell 1
  have f0 := K1.out.frozen 0
  have f1 := K1.out.frozen 1
  have f2 := K2.out.frozen 0
  have f3 := K2.out.frozen 1
  have G := Lib.hid (bBox_again (by omega) (.string ⟨#[]⟩) (.int .i64 0) (.int .i64 a) (.int .i64 c) K1.out K2.out)
  go_region
  all_goals go_wp2
  obtain ⟨G1, G2⟩ := G.out
  have g0 : _ = some ((.string ⟨#[]⟩) : Value) := G1.cell 0
  have g1 : _ = some ((.int .i64 0) : Value) := G1.cell 1
  have g2 : _ = some (.int .i64 a : Value) := G2.cell 0
  have g3 : _ = some (.int .i64 c : Value) := G2.cell 1
  have hb3 : Below w.heap.size w2 ((((w2.setCell ⟨w.heap.size + 1, 0, none⟩ ((.string ⟨#[]⟩))).setCell ⟨w.heap.size + 1, 1, none⟩ ((.int .i64 0))).setCell ⟨w.heap.size + 1 + 1, 0, none⟩ (.int .i64 a)).setCell ⟨w.heap.size + 1 + 1, 1, none⟩ (.int .i64 c)) :=
    ((((Below.refl _ _).setCell (by simp) _).setCell (by simp) _).setCell (by simp; omega) _).setCell (by simp; omega) _
  refine bodyPost_ret (v := .tuple #[.agg #[(.string ⟨#[]⟩), (.int .i64 0)], .agg #[.int .i64 a, .int .i64 c], .bool true]) (by simp [results, Try.results34, go_sem, g0, g1, g2, g3]) rfl ⟨rfl, ?_, ?_⟩
  · exact (hm2.out.trans (Mv.of_below hb3 r)).drew
  · exact hR'.out _ _ hb3.drew hq2.out

set_option maxHeartbeats 1000000 in
theorem valuebBox_any (g : FuncId) (fi ca : Array Value) (nm : ByteArray) (n : Int) (a c : Int) (f : Bool) (w : World) (r : List Nat) (R : World → Prop) (hr : ∀ x ∈ r, x < w.heap.size)
    (hR : ∀ W1 W2, Below w.heap.size W1 W2 → R W1 → R W2)
    (h : Calls Try.prog 34 #[.func (.func g) fi ca] ((w.alloc (.cells #[.string ⟨#[]⟩, .int .i64 0] 45)).alloc (flc 0 0)) fun e w' => e = bBox_tell (.string nm) (.int .i64 n) a c f ∧ Mv (w.heap.size + 2) r ((w.alloc (.cells #[.string ⟨#[]⟩, .int .i64 0] 45)).alloc (flc 0 0)) w' ∧ R w') :
    Calls Try.prog 27 #[.func (.func g) fi ca] w fun e w' => e = .returned (.tuple #[.agg #[.string nm, .int .i64 n], .agg #[.int .i64 a, .int .i64 c]]) ∧ Mv w.heap.size r w w' ∧ R w' := by
  go_enter Try.func27, Try.ntmps27
  go_wp2_with (go_at_call 34; refine h.mono ?_; rintro e w1 ⟨rfl, hb1, hq⟩)
  have hR' : Hid _ := hR
  have hz := hb1.size
  simp at hz
  have n0 : w.heap.size ∉ r := fun hm => by have := hr _ hm; omega
  have n1 : w.heap.size + 1 ∉ r := fun hm => by have := hr _ hm; omega
  obtain ⟨w2, hw2⟩ : ∃ w2, w2 = (w1.alloc (.cells #[.string nm, .int .i64 n] 45)).alloc (.cells #[.int .i64 a, .int .i64 c] 51) := ⟨_, rfl⟩
  have k0 : Blk ((w.alloc (.cells #[.string ⟨#[]⟩, .int .i64 0] 45)).alloc (flc 0 0)) w.heap.size 45 #[.string ⟨#[]⟩, .int .i64 0] := (Blk.new w _ _).alloc _
  have k1 : Blk ((w.alloc (.cells #[.string ⟨#[]⟩, .int .i64 0] 45)).alloc (flc 0 0)) (w.heap.size + 1) 51 #[.int .i64 0, .int .i64 0] := by
    have := Blk.new (w.alloc (.cells #[.string ⟨#[]⟩, .int .i64 0] 45)) 51 #[.int .i64 0, .int .i64 0]
    simpa using this
  have K0 := Lib.hid (show Blk w2 w.heap.size 45 #[.string ⟨#[]⟩, .int .i64 0] from by rw [hw2]; exact ((k0.mv hb1 (by omega) n0).alloc _).alloc _)
  have K1 := Lib.hid (show Blk w2 (w.heap.size + 1) 51 #[.int .i64 0, .int .i64 0] from by rw [hw2]; exact ((k1.mv hb1 (by omega) n1).alloc _).alloc _)
  have K2 := Lib.hid (show Blk w2 w1.heap.size 45 #[.string nm, .int .i64 n] from by rw [hw2]; exact (Blk.new w1 _ _).alloc _)
  have K3 := Lib.hid (show Blk w2 (w1.heap.size + 1) 51 #[.int .i64 a, .int .i64 c] from by
    have := Blk.new (w1.alloc (.cells #[.string nm, .int .i64 n] 45)) 51 #[.int .i64 a, .int .i64 c]
    rw [hw2]
    simpa using this)
  have hbw : Hid (Mv w.heap.size r w w2) := by
    rw [hw2]
    exact (((Mv.of_below (((Below.refl _ _).alloc (Nat.le_refl _) _).alloc (by simp) _) r).trans (hb1.mono (by omega) fun x hx => .inl hx)).alloc (by omega) _).alloc (by simp; omega) _
  have hq2 : Hid (R w2) := by
    rw [hw2]
    exact hR _ _ (((Below.refl _ _).alloc (by omega) _).alloc (by simp; omega) _) hq
  clear hb1 h hq hR hr k0 k1
  go_wp2_with fail
  rw [← hw2]
  have HW2 := Lib.hid hw2
  clear hw2
  have hn : w1.heap.size + 1 < w2.heap.size := K3.out.lt
  have G := Lib.hid (bBox_again (by omega) (.string nm) (.int .i64 n) (.int .i64 a) (.int .i64 c) K0.out K1.out)
  have e0 : w2.cell? ⟨w.heap.size, 0, none⟩ = some (.string ⟨#[]⟩) := K0.out.cell 0
  have e1 : w2.cell? ⟨w.heap.size, 1, none⟩ = some (.int .i64 0) := K0.out.cell 1
  have e2 : w2.cell? ⟨w.heap.size + 1, 0, none⟩ = some (.int .i64 0) := K1.out.cell 0
  have e3 : w2.cell? ⟨w.heap.size + 1, 1, none⟩ = some (.int .i64 0) := K1.out.cell 1
  have f0 := K0.out.frozen 0
  have f1 := K0.out.frozen 1
  have f2 := K1.out.frozen 0
  have f3 := K1.out.frozen 1
  have d0 : w2.cell? ⟨w1.heap.size, 0, none⟩ = some (.string nm) := K2.out.cell 0
  have d1 : w2.cell? ⟨w1.heap.size, 1, none⟩ = some (.int .i64 n) := K2.out.cell 1
  have d2 : w2.cell? ⟨w1.heap.size + 1, 0, none⟩ = some (.int .i64 a) := K3.out.cell 0
  have d3 : w2.cell? ⟨w1.heap.size + 1, 1, none⟩ = some (.int .i64 c) := K3.out.cell 1
  clear HW2 K0 K1 K2 K3
  generalize w1.heap.size = m1 at *
  go_region
  all_goals go_wp2
  obtain ⟨G1, G2⟩ := G.out
  have g0 : _ = some (.string nm : Value) := G1.cell 0
  have g1 : _ = some (.int .i64 n : Value) := G1.cell 1
  have g2 : _ = some (.int .i64 a : Value) := G2.cell 0
  have g3 : _ = some (.int .i64 c : Value) := G2.cell 1
  have hb3 : Below w.heap.size w2 ((((w2.setCell ⟨w.heap.size, 0, none⟩ (.string nm)).setCell ⟨w.heap.size, 1, none⟩ (.int .i64 n)).setCell ⟨w.heap.size + 1, 0, none⟩ (.int .i64 a)).setCell ⟨w.heap.size + 1, 1, none⟩ (.int .i64 c)) :=
    ((((Below.refl _ _).setCell (by simp) _).setCell (by simp) _).setCell (by simp) _).setCell (by simp) _
  refine bodyPost_ret (v := .tuple #[.agg #[.string nm, .int .i64 n], .agg #[.int .i64 a, .int .i64 c]]) (by simp [results, Try.results27, go_sem, g0, g1, g2, g3]) rfl ⟨rfl, ?_, ?_⟩
  · exact (hbw.out.trans (Mv.of_below hb3 r)).drew
  · exact hR'.out _ _ hb3.drew hq2.out

theorem valuebBox_returns (g : FuncId) (fi ca : Array Value) (nm : ByteArray) (n : Int) (w : World) (r : List Nat) (R : World → Prop) (hr : ∀ x ∈ r, x < w.heap.size)
    (hR : ∀ W1 W2, Below w.heap.size W1 W2 → R W1 → R W2) (hen : ∀ w : World, (callFunc g (fi ++ ca)).run Try.prog w = .ok (.enter g (fi ++ ca)) w)
    (hf : ∀ W, Below w.heap.size w W → Calls Try.prog g (fi ++ ca) W fun e w1 => e = .returned (.agg #[.string nm, .int .i64 n]) ∧ Mv W.heap.size r W w1 ∧ R w1) :
    Calls Try.prog 27 #[.func (.func g) fi ca] w fun e w' => e = .returned (.tuple #[.agg #[.string nm, .int .i64 n], flt 0 0]) ∧ Mv w.heap.size r w w' ∧ R w' := by
  refine valuebBox_any g fi ca nm n 0 0 false w r R hr hR ?_
  have hb : Below w.heap.size w ((w.alloc (.cells #[.string ⟨#[]⟩, .int .i64 0] 45)).alloc (flc 0 0)) := ((Below.refl _ _).alloc (Nat.le_refl _) _).alloc (by simp) _
  refine (bBox_returns g fi ca nm n ((w.alloc (.cells #[.string ⟨#[]⟩, .int .i64 0] 45)).alloc (flc 0 0)) r R (fun x hx => by have := hr x hx; simp; omega) (fun W1 W2 h => hR W1 W2 (h.mono (by simp; omega))) hen fun W hW => hf W (hb.trans (hW.mono (by simp; omega)))).mono ?_
  rintro e w' ⟨h1, h2, h3⟩
  exact ⟨h1, by simpa using h2, h3⟩

theorem valuebBox_throws (g : FuncId) (fi ca : Array Value) (a c : Int) (w : World) (r : List Nat) (R : World → Prop) (hr : ∀ x ∈ r, x < w.heap.size)
    (hR : ∀ W1 W2, Below w.heap.size W1 W2 → R W1 → R W2) (hen : ∀ w : World, (callFunc g (fi ++ ca)).run Try.prog w = .ok (.enter g (fi ++ ca)) w)
    (hf : ∀ W, Below w.heap.size w W → Calls Try.prog g (fi ++ ca) W fun e w1 => e = pnc a c ∧ Mv W.heap.size r W w1 ∧ R w1) :
    Calls Try.prog 27 #[.func (.func g) fi ca] w fun e w' => e = .returned (.tuple #[.agg #[.string ⟨#[]⟩, .int .i64 0], flt a c]) ∧ Mv w.heap.size r w w' ∧ R w' := by
  refine valuebBox_any g fi ca ⟨#[]⟩ 0 a c true w r R hr hR ?_
  have hb : Below w.heap.size w ((w.alloc (.cells #[.string ⟨#[]⟩, .int .i64 0] 45)).alloc (flc 0 0)) := ((Below.refl _ _).alloc (Nat.le_refl _) _).alloc (by simp) _
  refine (bBox_throws g fi ca a c ((w.alloc (.cells #[.string ⟨#[]⟩, .int .i64 0] 45)).alloc (flc 0 0)) r R (fun x hx => by have := hr x hx; simp; omega) (fun W1 W2 h => hR W1 W2 (h.mono (by simp; omega))) hen fun W hW => hf W (hb.trans (hW.mono (by simp; omega)))).mono ?_
  rintro e w' ⟨h1, h2, h3⟩
  exact ⟨h1, by simpa using h2, h3⟩

end Go.Proofs.Ytbibcpbldnedhaa
