/-
  What package status' check, mark, number and line do. Conditions: the place lies in the text, which is no longer than a length can be.
  What package status' line answers, or where it throws. Condition: the text is no longer than a length can be.
  What trap's attempt and Value tell of a function value that answers a api.Status, a struct of four cells, and of one that throws. Conditions: it turns rows of r alone, and leaves R, which is known of older memory alone.
-/
import Derived.Test.YteeheehoaklnbaaZ8
import Derived.Test.YteeheehoaklnbaaZ6
import Derived.Test.YteeheehoaklnbaaZ7
import Derived.Test.YteeheehoaklnbaaZ9
import Derived.Test.YteeheehoaklnbaaZ10
import Derived.Test.YteeheehoaklnbaaZ2
import Derived.RegionTactic
import Derived.BigRegion
import Derived.Lib.Hide
namespace Go.Proofs.Yteeheehoaklnbaa
open Go.RowKit

abbrev unitV25 : Ending := .returned (.tuple #[])

set_option maxHeartbeats 400000 in
theorem scheck_any (cb k : Nat) (s : ByteArray) (b : Bool) (w : World) (h : Cur w cb s k) :
    Calls Try.prog 34 #[cptr cb, .bool b] w fun e w' => ((b = true ∧ e = unitV25) ∨ (b = false ∧ e = pnc k 2)) ∧ w = w' := by
  have HC := Lib.hid h
  clear h
  cases b
  · go_enter Try.func34, Try.ntmps34
    go_wp2_with (first
      | (go_at_call 51; refine (at_any cb k s _ HC.out).mono ?_; rintro e w1 ⟨rfl, rfl⟩)
      | (go_at_call 50; (with_reducible refine (check_not _ _ _).mono ?_); rintro e w1 ⟨rfl, rfl⟩))
    exact ⟨rfl, .inr ⟨by trivial, rfl⟩, rfl⟩
  · go_enter Try.func34, Try.ntmps34
    go_wp2_with (first
      | (go_at_call 51; refine (at_any cb k s _ HC.out).mono ?_; rintro e w1 ⟨rfl, rfl⟩)
      | (go_at_call 50; (with_reducible refine (check_ok _ _ _).mono ?_); rintro e w1 ⟨rfl, rfl⟩))
    go_end0
    exact ⟨.inl ⟨by trivial, rfl⟩, rfl⟩

set_option maxHeartbeats 1000000 in
theorem smark_any (cb k : Nat) (s t : ByteArray) (w : World) (h : Cur w cb s k) (hk : k ≤ s.size) (hs : s.size ≤ 9223372036854775807) (ht : t.size ≤ 9223372036854775807) :
    Calls Try.prog 32 #[cptr cb, .string t] w fun e w' => ((prefB (s.extract k s.size) t = true ∧ e = unitV25 ∧ Cur w' cb s (k + t.size)) ∨ (prefB (s.extract k s.size) t = false ∧ e = pnc k 2)) ∧ Mv w.heap.size [cb] w w' := by
  cases hp : prefB (s.extract k s.size) t
  · have HS := Lib.hid (skip_no cb k s t w h hk hs ht hp)
    have HC := Lib.hid h
    clear h hp
    go_enter Try.func32, Try.ntmps32
    go_wp2_with fail
    refine HS.out.mono ?_
    rintro e w1 ⟨rfl, n, rfl⟩
    go_wp2_with fail
    refine (scheck_any cb k s false _ (HC.out.drewN n)).mono ?_
    rintro e w2 ⟨⟨h2, rfl⟩ | ⟨h2, rfl⟩, rfl⟩
    · cases h2
    · exact ⟨rfl, .inr ⟨by trivial, rfl⟩, (Mv.refl _ _ _).drewN n⟩
  · have hle : k + t.size ≤ s.size := by
      unfold prefB at hp
      simp only [Bool.and_eq_true, decide_eq_true_eq] at hp
      have := hp.1
      simp at this
      omega
    have HS := Lib.hid (skip_yes cb k s t w h hk hs ht hp hle)
    have HC := Lib.hid h
    clear h hp
    go_enter Try.func32, Try.ntmps32
    go_wp2_with fail
    refine HS.out.mono ?_
    rintro e w1 ⟨rfl, i1⟩
    obtain ⟨m1, c1⟩ := Mv.put HC.out i1
    have HM := Lib.hid m1
    have HC1 := Lib.hid c1
    clear m1 c1 i1
    go_wp2_with fail
    refine (scheck_any cb (k + t.size) s true _ HC1.out).mono ?_
    rintro e w2 ⟨⟨h2, rfl⟩ | ⟨h2, rfl⟩, rfl⟩
    · go_wp2
      go_end0
      exact ⟨.inl ⟨by trivial, rfl, HC1.out⟩, HM.out⟩
    · cases h2

set_option maxHeartbeats 1000000 in
theorem snumber_any (cb k n : Nat) (s : ByteArray) (w : World) (h : Cur w cb s k) (hk : k ≤ s.size) (hs : s.size ≤ 9223372036854775807) (h1 : 1 ≤ n) (hn : n ≤ 3) :
    Calls Try.prog 33 #[cptr cb, .int .i64 (n : Nat)] w fun e w' => ((scan digB s k = k + n ∧ e = .returned (.int .i64 (numK (s.extract k (k + n)) n : Nat)) ∧ Cur w' cb s (k + n)) ∨ (scan digB s k ≠ k + n ∧ e = pnc (scan digB s k) 2)) ∧ Mv w.heap.size [cb] w w' := by
  have HW := Lib.hid (while_digit cb k s w h hk hs)
  have g1 := scan_ge digB s k
  have g2 := scan_le digB s k hk
  have hz : (s.extract k (scan digB s k)).size = scan digB s k - k := by simp; omega
  have HK := Lib.hid (fun b W (hW : Cur W cb s (scan digB s k)) => scheck_any cb (scan digB s k) s b W hW)
  have hd : ∀ j (hj : j < (s.extract k (scan digB s k)).size), digB (s.extract k (scan digB s k))[j] = true := fun j hj => by
    rw [ext_at g2 (by omega)]
    exact scan_within (p := digB) (s := s) (i := k) (k := k + j) (by omega) (by omega) (by omega)
  have HP := Lib.hid (fun W => parse_any (s.extract k (scan digB s k)) W (by omega))
  clear h
  by_cases hq : scan digB s k = k + n
  · have ha := allB_yes hd
    have hl := numK_lt hd n (by omega)
    have hsm : numK (s.extract k (scan digB s k)) n ≤ 9007199254740991 := by
      have : (10 : Nat) ^ n ≤ 10 ^ 3 := Nat.pow_le_pow_right (by omega) hn
      have e : (10 : Nat) ^ 3 = 1000 := rfl
      omega
    have hzn : (s.extract k (scan digB s k)).size = n := by omega
    have hv := parV_ok (s := s.extract k (scan digB s k)) (by omega) ha (by rw [hzn]; exact hsm)
    rw [hv] at HP
    rw [hzn] at HP
    have HQ := Lib.hid hq
    rw [hq] at HW HK HP hzn
    clear hd ha hl hv hz g1 g2 hsm hq
    generalize s.extract k (k + n) = x at *
    generalize numK x n = v at *
    have hb : ((x.size : Int) == (n : Int)) = true := by rw [beq_iff_eq, hzn]
    clear hzn
    go_enter Try.func33, Try.ntmps33
    go_wp2_with fail
    refine HW.out.mono ?_
    rintro e w1 ⟨rfl, m1, c1⟩
    have HM := Lib.hid m1
    have HC := Lib.hid c1
    clear m1 c1
    go_wp2_with fail
    refine (HK.out _ _ HC.out).mono ?_
    rintro e w2 ⟨⟨h2, rfl⟩ | ⟨h2, rfl⟩, rfl⟩
    rotate_left
    · cases h2
    clear h2
    go_wp2_with fail
    refine (HP.out _).mono ?_
    rintro e w3 ⟨rfl, b3⟩
    have HM3 := Lib.hid (HM.out.chain (Mv.of_below b3 [cb]) (Nat.le_refl _))
    have HC3 := Lib.hid (HC.out.below b3 HC.out.lt)
    clear b3
    go_wp2_with (go_at_call 48; (with_reducible refine (must_ok _ _).mono ?_); rintro e w4 ⟨rfl, rfl⟩)
    go_ret
    exact ⟨.inl ⟨HQ.out, rfl, HC3.out⟩, HM3.out⟩
  · have HQ := Lib.hid hq
    have hb : (((s.extract k (scan digB s k)).size : Int) == (n : Int)) = false := by rw [beq_eq_false_iff_ne]; omega
    clear hd hz g1 g2 hq HP
    generalize s.extract k (scan digB s k) = x at *
    generalize scan digB s k = d at *
    go_enter Try.func33, Try.ntmps33
    go_wp2_with fail
    refine HW.out.mono ?_
    rintro e w1 ⟨rfl, m1, c1⟩
    have HM := Lib.hid m1
    have HC := Lib.hid c1
    clear m1 c1
    go_wp2_with fail
    refine (HK.out _ _ HC.out).mono ?_
    rintro e w2 ⟨⟨h2, rfl⟩ | ⟨h2, rfl⟩, rfl⟩
    · cases h2
    · exact ⟨rfl, .inr ⟨HQ.out, rfl⟩, HM.out⟩

end Go.Proofs.Yteeheehoaklnbaa
namespace Go.Proofs.Yteeheehoaklnbaa
open Go.RowKit

abbrev zerA : Array Value := #[.int .i64 0, .int .i64 0, .int .i64 0, .string ⟨#[]⟩]

/-- A walk over a cursor: what it will hand back lies behind the heap as it was. -/
structure Lnr (zs : Array Value) (a w : World) (cb : Nat) (s : ByteArray) (k : Nat) : Prop where
  mv : Mv a.heap.size [cb] a w
  cur : Cur w cb s k
  res : Blk w a.heap.size 28 zs
  lt : cb < a.heap.size
theorem Lnr.new {w : World} {cb k : Nat} {s : ByteArray} (zs : Array Value) (h : Cur w cb s k) : Lnr zs w (w.alloc (.cells zs 28)) cb s k :=
  ⟨(Mv.refl _ _ _).alloc (Nat.le_refl _) _, h.alloc _, Blk.new w _ _, h.lt⟩
theorem Lnr.step {zs : Array Value} {a w w' : World} {cb k j : Nat} {s : ByteArray} (h : Lnr zs a w cb s k) (m : Mv w.heap.size [cb] w w') (c : Cur w' cb s j) : Lnr zs a w' cb s j :=
  ⟨h.mv.chain m (Nat.le_refl _), c, h.res.mv m h.res.lt (by have := h.lt; simp; omega), h.lt⟩
theorem Lnr.below {zs : Array Value} {a w w' : World} {cb k : Nat} {s : ByteArray} (h : Lnr zs a w cb s k) (b : Below w.heap.size w w') : Lnr zs a w' cb s k := h.step (Mv.of_below b _) (h.cur.below b h.cur.lt)
theorem Lnr.alloc {zs : Array Value} {a w : World} {cb k : Nat} {s : ByteArray} (h : Lnr zs a w cb s k) (o : Obj) : Lnr zs a (w.alloc o) cb s k :=
  h.below ((Below.refl _ _).alloc (Nat.le_refl _) _)
theorem Lnr.gone {zs : Array Value} {a w w' : World} {cb k : Nat} {s : ByteArray} (h : Lnr zs a w cb s k) (m : Mv w.heap.size [cb] w w') : Mv a.heap.size [cb] a w' := h.mv.chain m (Nat.le_refl _)
/-- The same, with a variable of its own besides. -/
structure Lnv (zs vs : Array Value) (nb : Nat) (a w : World) (cb : Nat) (s : ByteArray) (k : Nat) : Prop where
  t : Lnr zs a w cb s k
  loc : Blk w nb 28 vs
  far : a.heap.size + 1 ≤ nb
theorem Lnv.new {zs : Array Value} {a w : World} {cb k : Nat} {s : ByteArray} (h : Lnr zs a w cb s k) (vs : Array Value) : Lnv zs vs w.heap.size a (w.alloc (.cells vs 28)) cb s k :=
  ⟨h.alloc _, Blk.new w _ _, by have := h.res.lt; omega⟩
theorem Lnv.step {zs vs : Array Value} {nb : Nat} {a w w' : World} {cb k j : Nat} {s : ByteArray} (h : Lnv zs vs nb a w cb s k) (m : Mv w.heap.size [cb] w w') (c : Cur w' cb s j) : Lnv zs vs nb a w' cb s j :=
  ⟨h.t.step m c, h.loc.mv m h.loc.lt (by have := h.t.lt; have := h.far; simp; omega), h.far⟩
theorem Lnv.below {zs vs : Array Value} {nb : Nat} {a w w' : World} {cb k : Nat} {s : ByteArray} (h : Lnv zs vs nb a w cb s k) (b : Below w.heap.size w w') : Lnv zs vs nb a w' cb s k := h.step (Mv.of_below b _) (h.t.cur.below b h.t.cur.lt)
theorem Lnv.gone {zs vs : Array Value} {nb : Nat} {a w w' : World} {cb k : Nat} {s : ByteArray} (h : Lnv zs vs nb a w cb s k) (m : Mv w.heap.size [cb] w w') : Mv a.heap.size [cb] a w' := h.t.gone m
theorem Lnv.put {zs : Array Value} {x y z u : Value} {nb : Nat} {a w : World} {cb k : Nat} {s : ByteArray} (h : Lnv zs #[x, y, z, u] nb a w cb s k) (v : Value) : Lnv zs #[x, y, z, v] nb a (w.setCell ⟨nb, 3, none⟩ v) cb s k := by
  have h1 := h.t.lt
  have h2 := h.far
  exact ⟨⟨h.t.mv.setCell (.inr (by simp; omega)) _, Blk.far h.t.cur (by simp; omega) _, h.t.res.far (by simp; omega) _, h.t.lt⟩, h.loc.set_ 3 v, h.far⟩
theorem Lnv.cells {zs : Array Value} {x y z u : Value} {nb : Nat} {a w : World} {cb k : Nat} {s : ByteArray} (h : Lnv zs #[x, y, z, u] nb a w cb s k) : w.cell? ⟨nb, 0, none⟩ = some x ∧ w.cell? ⟨nb, 1, none⟩ = some y ∧ w.cell? ⟨nb, 2, none⟩ = some z ∧ w.cell? ⟨nb, 3, none⟩ = some u := ⟨h.loc.cell 0, h.loc.cell 1, h.loc.cell 2, h.loc.cell 3⟩

/-- How a call ends that reads a status. -/
def LinEnd (o : Except Nat (Int × Int × Int × ByteArray)) (e : Ending) : Prop := (∃ a b c r, o = .ok (a, b, c, r) ∧ e = .returned (stV a b c r)) ∨ (∃ p : Nat, o = .error p ∧ e = pnc p 2)
theorem LinEnd.bad {o : Except Nat (Int × Int × Int × ByteArray)} {p : Nat} (h : o = .error p) : LinEnd o (pnc p 2) := .inr ⟨p, h, rfl⟩

abbrev Res25 (O : Except Nat (Int × Int × Int × ByteArray)) (w : World) (cb : Nat) (r : Ending) (w' : World) : Prop := LinEnd O r ∧ Mv w.heap.size [cb] w w'

set_option maxRecDepth 100000 in
set_option maxHeartbeats 8000000 in
theorem line_walk (cb c d e p1 p2 : Nat) (z1 z2 z3 ze g1 g2 : Bool) (x y z : Int) (q qt rr : ByteArray) (O : Except Nat (Int × Int × Int × ByteArray)) (s : ByteArray) (w : World) (hC : Cur w cb s 0)
    (HM1 : Hid (∀ W, Cur W cb s 0 → Calls Try.prog 32 #[cptr cb, .string htpS] W fun r w' => ((z1 = true ∧ r = unitV25 ∧ Cur w' cb s 5) ∨ (z1 = false ∧ r = pnc 0 2)) ∧ Mv W.heap.size [cb] W w'))
    (HN1 : Hid (z1 = true → ∀ W, Cur W cb s 5 → Calls Try.prog 33 #[cptr cb, .int .i64 1] W fun r w' => ((p1 = 6 ∧ r = .returned (.int .i64 x) ∧ Cur w' cb s 6) ∨ (p1 ≠ 6 ∧ r = pnc p1 2)) ∧ Mv W.heap.size [cb] W w'))
    (HM2 : Hid (z1 = true → p1 = 6 → ∀ W, Cur W cb s 6 → Calls Try.prog 32 #[cptr cb, .string ⟨#[46]⟩] W fun r w' => ((z2 = true ∧ r = unitV25 ∧ Cur w' cb s 7) ∨ (z2 = false ∧ r = pnc 6 2)) ∧ Mv W.heap.size [cb] W w'))
    (HN2 : Hid (z2 = true → ∀ W, Cur W cb s 7 → Calls Try.prog 33 #[cptr cb, .int .i64 1] W fun r w' => ((p2 = 8 ∧ r = .returned (.int .i64 y) ∧ Cur w' cb s 8) ∨ (p2 ≠ 8 ∧ r = pnc p2 2)) ∧ Mv W.heap.size [cb] W w'))
    (HW : Hid (p2 = 8 → ∀ W, Cur W cb s 8 → Calls Try.prog 35 #[cptr cb, fn_isBlank] W fun r w' => r = .returned (.string q) ∧ Mv W.heap.size [cb] W w' ∧ Cur w' cb s c))
    (HQ : Hid (p2 = 8 → (q.toList == []) = decide (c = 8)))
    (HN3 : Hid (p2 = 8 → ∀ W, Cur W cb s c → Calls Try.prog 33 #[cptr cb, .int .i64 3] W fun r w' => ((d = c + 3 ∧ r = .returned (.int .i64 z) ∧ Cur w' cb s (c + 3)) ∨ (d ≠ c + 3 ∧ r = pnc d 2)) ∧ Mv W.heap.size [cb] W w'))
    (HE : Hid (d = c + 3 → ∀ W, Cur W cb s (c + 3) → Calls Try.prog 37 #[cptr cb] W fun r w' => r = .returned (.bool ze) ∧ ∃ n, w' = W.drewN n))
    (HZ : Hid (d = c + 3 → ze = decide (c + 3 = s.size)))
    (HM3 : Hid (d = c + 3 → ∀ W, Cur W cb s (c + 3) → Calls Try.prog 32 #[cptr cb, .string ⟨#[32]⟩] W fun r w' => ((z3 = true ∧ r = unitV25 ∧ Cur w' cb s (c + 3 + 1)) ∨ (z3 = false ∧ r = pnc (c + 3 : Nat) 2)) ∧ Mv W.heap.size [cb] W w'))
    (HT : Hid (z3 = true → ∀ W, Cur W cb s (c + 3 + 1) → Calls Try.prog 35 #[cptr cb, fn_tab] W fun r w' => r = .returned (.string qt) ∧ Mv W.heap.size [cb] W w' ∧ Cur w' cb s e))
    (HR : Hid (z3 = true → ∀ W, Cur W cb s e → Calls Try.prog 39 #[cptr cb] W fun r w' => r = .returned (.string rr) ∧ Mv W.heap.size [cb] W w' ∧ Cur w' cb s s.size))
    (HG1 : Hid (∀ W, Calls Try.prog 40 #[stV x y z ⟨#[]⟩] W fun r w' => r = .returned (.bool g1) ∧ Below W.heap.size W w'))
    (HG2 : Hid (∀ W, Calls Try.prog 40 #[stV x y z rr] W fun r w' => r = .returned (.bool g2) ∧ Below W.heap.size W w'))
    (O1 : Hid (z1 = false → O = .error 0))
    (O2 : Hid (z1 = true → p1 ≠ 6 → O = .error p1))
    (O3 : Hid (z1 = true → p1 = 6 → z2 = false → O = .error 6))
    (O4 : Hid (z1 = true → p1 = 6 → z2 = true → p2 ≠ 8 → O = .error p2))
    (O5 : Hid (z1 = true → p1 = 6 → z2 = true → p2 = 8 → c = 8 → O = .error c))
    (O6 : Hid (z1 = true → p1 = 6 → z2 = true → p2 = 8 → c ≠ 8 → d ≠ c + 3 → O = .error d))
    (O7 : Hid (z1 = true → p1 = 6 → z2 = true → p2 = 8 → c ≠ 8 → d = c + 3 → c + 3 ≠ s.size → z3 = false → O = .error (c + 3)))
    (O8 : Hid (z1 = true → p1 = 6 → z2 = true → p2 = 8 → c ≠ 8 → d = c + 3 → c + 3 = s.size → O = if g1 = false then .error (c + 3) else .ok (x, y, z, ⟨#[]⟩)))
    (O9 : Hid (z1 = true → p1 = 6 → z2 = true → p2 = 8 → c ≠ 8 → d = c + 3 → c + 3 ≠ s.size → z3 = true → O = if g2 = false then .error s.size else .ok (x, y, z, rr))) :
    Calls Try.prog 22 #[cptr cb] w (Res25 O w cb) := by
  have HCK := Lib.hid (fun k b W (hW : Cur W cb s k) => scheck_any cb k s b W hW)
  obtain ⟨w0, hw0⟩ : ∃ w0, w0 = w.alloc (.cells zerA 28) := ⟨_, rfl⟩
  have HL := Lib.hid (show Lnr zerA w w0 cb s 0 from by rw [hw0]; exact Lnr.new _ hC)
  clear hC
  go_enter Try.func22, Try.ntmps22
  go_wp2_with fail
  rw [← hw0]
  clear hw0
  refine (HM1.out _ HL.out.cur).mono ?_
  rintro r w1 ⟨⟨h1, rfl, c1⟩ | ⟨h1, rfl⟩, m1⟩
  rotate_left
  · exact ⟨rfl, .bad (O1.out h1), HL.out.gone m1⟩
  replace HL := Lib.hid (HL.out.step m1 c1)
  have Z1 := Lib.hid h1
  clear m1 c1 h1
  go_wp2_with fail
  refine (HN1.out Z1.out _ HL.out.cur).mono ?_
  rintro r w2 ⟨⟨h1, rfl, c1⟩ | ⟨h1, rfl⟩, m1⟩
  rotate_left
  · exact ⟨rfl, .bad (O2.out Z1.out h1), HL.out.gone m1⟩
  replace HL := Lib.hid (HL.out.step m1 c1)
  have Z2 := Lib.hid h1
  clear m1 c1 h1
  go_wp2_with fail
  refine (HM2.out Z1.out Z2.out _ HL.out.cur).mono ?_
  rintro r w3 ⟨⟨h1, rfl, c1⟩ | ⟨h1, rfl⟩, m1⟩
  rotate_left
  · exact ⟨rfl, .bad (O3.out Z1.out Z2.out h1), HL.out.gone m1⟩
  replace HL := Lib.hid (HL.out.step m1 c1)
  have Z3 := Lib.hid h1
  clear m1 c1 h1
  go_wp2_with fail
  refine (HN2.out Z3.out _ HL.out.cur).mono ?_
  rintro r w4 ⟨⟨h1, rfl, c1⟩ | ⟨h1, rfl⟩, m1⟩
  rotate_left
  · exact ⟨rfl, .bad (O4.out Z1.out Z2.out Z3.out h1), HL.out.gone m1⟩
  replace HL := Lib.hid (HL.out.step m1 c1)
  have Z4 := Lib.hid h1
  clear m1 c1 h1
  go_wp2_with fail
  refine (HW.out Z4.out _ HL.out.cur).mono ?_
  rintro r w5 ⟨rfl, m1, c1⟩
  replace HL := Lib.hid (HL.out.step m1 c1)
  clear m1 c1
  have hq := HQ.out Z4.out
  by_cases h8 : c = 8
  · rw [decide_eq_true h8] at hq
    have H8 := Lib.hid h8
    clear h8
    go_wp2_with fail
    refine (HCK.out _ _ _ HL.out.cur).mono ?_
    rintro r w6 ⟨⟨h1, rfl⟩ | ⟨h1, rfl⟩, rfl⟩
    · cases h1
    · exact ⟨rfl, .bad (O5.out Z1.out Z2.out Z3.out Z4.out H8.out), HL.out.mv⟩
  rw [decide_eq_false h8] at hq
  have Z5 := Lib.hid h8
  clear h8
  go_wp2_with fail
  refine (HCK.out _ _ _ HL.out.cur).mono ?_
  rintro r w6 ⟨⟨h1, rfl⟩ | ⟨h1, rfl⟩, rfl⟩
  rotate_left
  · cases h1
  clear h1 hq
  go_wp2_with fail
  refine (HN3.out Z4.out _ HL.out.cur).mono ?_
  rintro r w7 ⟨⟨h1, rfl, c1⟩ | ⟨h1, rfl⟩, m1⟩
  rotate_left
  · exact ⟨rfl, .bad (O6.out Z1.out Z2.out Z3.out Z4.out Z5.out h1), HL.out.gone m1⟩
  replace HL := Lib.hid (HL.out.step m1 c1)
  have Z6 := Lib.hid h1
  clear m1 c1 h1
  obtain ⟨w8, hw8⟩ : ∃ w8, w8 = w7.alloc (stC x y z ⟨#[]⟩) := ⟨_, rfl⟩
  have HV := Lib.hid (show Lnv zerA #[.int .i64 x, .int .i64 y, .int .i64 z, .string ⟨#[]⟩] w7.heap.size w w8 cb s (c + 3) from by rw [hw8]; exact Lnv.new HL.out _)
  clear HL
  go_wp2_with fail
  rw [← hw8]
  clear hw8
  refine (HE.out Z6.out _ HV.out.t.cur).mono ?_
  rintro r w9 ⟨rfl, i1⟩
  replace HV := Lib.hid (show Lnv zerA #[.int .i64 x, .int .i64 y, .int .i64 z, .string ⟨#[]⟩] w7.heap.size w w9 cb s (c + 3) from by
    obtain ⟨n, rfl⟩ := i1
    exact HV.out.step ((Mv.refl _ _ _).drewN n) (HV.out.t.cur.drewN n))
  clear i1
  have hz := HZ.out Z6.out
  generalize w7.heap.size = nb at *
  by_cases he : c + 3 = s.size
  · rw [decide_eq_true he] at hz
    have O8' := Lib.hid (O8.out Z1.out Z2.out Z3.out Z4.out Z5.out Z6.out he)
    clear he O1 O2 O3 O4 O5 O6 O7 O8 O9 HM1 HN1 HM2 HN2 HW HQ HN3 HE HZ HM3 HT HR HG2 Z1 Z2 Z3 Z4 Z5 Z6
    subst hz
    obtain ⟨d0, d1, d2, d3⟩ := HV.out.cells
    go_wp2_with fail
    refine (HG1.out _).mono ?_
    rintro r wa ⟨rfl, b1⟩
    replace HV := Lib.hid (HV.out.below b1)
    clear b1 d0 d1 d2 d3
    go_wp2_with fail
    refine (HCK.out _ _ _ HV.out.t.cur).mono ?_
    rintro r wb ⟨⟨h1, rfl⟩ | ⟨h1, rfl⟩, rfl⟩
    rotate_left
    · refine ⟨rfl, .bad ?_, HV.out.t.mv⟩
      rw [O8'.out, if_pos h1]
    have HO := Lib.hid (show O = .ok (x, y, z, ⟨#[]⟩) from by rw [O8'.out, if_neg (by rw [h1]; decide)])
    clear h1 O8'
    obtain ⟨d0, d1, d2, d3⟩ := HV.out.cells
    have e0 := HV.out.t.res.cell 0
    have e1 := HV.out.t.res.cell 1
    have e2 := HV.out.t.res.cell 2
    have e3 := HV.out.t.res.cell 3
    have f0 := HV.out.t.res.frozen 0
    have f1 := HV.out.t.res.frozen 1
    have f2 := HV.out.t.res.frozen 2
    have f3 := HV.out.t.res.frozen 3
    go_wp2
    have hk := (((HV.out.t.res.set_ 0 (.int .i64 x)).set_ 1 (.int .i64 y)).set_ 2 (.int .i64 z)).set_ 3 (.string ⟨#[]⟩)
    have j0 : _ = some (.int .i64 x : Value) := hk.cell 0
    have j1 : _ = some (.int .i64 y : Value) := hk.cell 1
    have j2 : _ = some (.int .i64 z : Value) := hk.cell 2
    have j3 : _ = some (.string ⟨#[]⟩ : Value) := hk.cell 3
    refine bodyPost_ret (v := stV x y z ⟨#[]⟩) (by simp [results, Try.results22, go_sem, j0, j1, j2, j3]) rfl ⟨.inl ⟨x, y, z, _, HO.out, rfl⟩, ?_⟩
    exact (((HV.out.t.mv.setCell (.inr (by simp)) _).setCell (.inr (by simp)) _).setCell (.inr (by simp)) _).setCell (.inr (by simp)) _
  · rw [decide_eq_false he] at hz
    have O7' := Lib.hid (O7.out Z1.out Z2.out Z3.out Z4.out Z5.out Z6.out he)
    have O9' := Lib.hid (O9.out Z1.out Z2.out Z3.out Z4.out Z5.out Z6.out he)
    have HM3' := Lib.hid (HM3.out Z6.out)
    clear he O1 O2 O3 O4 O5 O6 O7 O8 O9 HM1 HN1 HM2 HN2 HW HQ HN3 HE HZ HM3 HG1 Z1 Z2 Z3 Z4 Z5 Z6
    subst hz
    go_wp2_with fail
    refine (HM3'.out _ HV.out.t.cur).mono ?_
    rintro r wa ⟨⟨h1, rfl, c1⟩ | ⟨h1, rfl⟩, m1⟩
    rotate_left
    · exact ⟨rfl, .bad (O7'.out h1), HV.out.gone m1⟩
    replace HV := Lib.hid (HV.out.step m1 c1)
    have Z7 := Lib.hid h1
    clear m1 c1 h1
    go_wp2_with fail
    refine (HT.out Z7.out _ HV.out.t.cur).mono ?_
    rintro r wb ⟨rfl, m1, c1⟩
    replace HV := Lib.hid (HV.out.step m1 c1)
    clear m1 c1
    go_wp2_with fail
    refine (HR.out Z7.out _ HV.out.t.cur).mono ?_
    rintro r wc ⟨rfl, m1, c1⟩
    replace HV := Lib.hid (HV.out.step m1 c1)
    clear m1 c1
    have g3 := HV.out.loc.frozen 3
    have d3 := HV.out.loc.cell 3
    replace HV := Lib.hid (HV.out.put (.string rr))
    obtain ⟨d0, d1, d2, d4⟩ := HV.out.cells
    go_wp2_with fail
    refine (HG2.out _).mono ?_
    rintro r wd ⟨rfl, b1⟩
    replace HV := Lib.hid (HV.out.below b1)
    clear b1 d0 d1 d2 d3 d4 g3
    go_wp2_with fail
    refine (HCK.out _ _ _ HV.out.t.cur).mono ?_
    rintro r we ⟨⟨h1, rfl⟩ | ⟨h1, rfl⟩, rfl⟩
    rotate_left
    · refine ⟨rfl, .bad ?_, HV.out.t.mv⟩
      rw [O9'.out Z7.out, if_pos h1]
    have HO := Lib.hid (show O = .ok (x, y, z, rr) from by rw [O9'.out Z7.out, if_neg (by rw [h1]; decide)])
    clear h1 O9'
    obtain ⟨d0, d1, d2, d3⟩ := HV.out.cells
    have e0 := HV.out.t.res.cell 0
    have e1 := HV.out.t.res.cell 1
    have e2 := HV.out.t.res.cell 2
    have e3 := HV.out.t.res.cell 3
    have f0 := HV.out.t.res.frozen 0
    have f1 := HV.out.t.res.frozen 1
    have f2 := HV.out.t.res.frozen 2
    have f3 := HV.out.t.res.frozen 3
    go_wp2
    have hk := (((HV.out.t.res.set_ 0 (.int .i64 x)).set_ 1 (.int .i64 y)).set_ 2 (.int .i64 z)).set_ 3 (.string rr)
    have j0 : _ = some (.int .i64 x : Value) := hk.cell 0
    have j1 : _ = some (.int .i64 y : Value) := hk.cell 1
    have j2 : _ = some (.int .i64 z : Value) := hk.cell 2
    have j3 : _ = some (.string rr : Value) := hk.cell 3
    refine bodyPost_ret (v := stV x y z rr) (by simp [results, Try.results22, go_sem, j0, j1, j2, j3]) rfl ⟨.inl ⟨x, y, z, _, HO.out, rfl⟩, ?_⟩
    exact (((HV.out.t.mv.setCell (.inr (by simp)) _).setCell (.inr (by simp)) _).setCell (.inr (by simp)) _).setCell (.inr (by simp)) _

end Go.Proofs.Yteeheehoaklnbaa
namespace Go.Proofs.Yteeheehoaklnbaa
open Go.RowKit

/-- Nothing has turned but one block. -/
structure bStatusOnly (b : Nat) (w w' : World) : Prop where
  os : w'.os = w.os
  tape : w'.tape = w.tape
  output : w'.output = w.output
  size : w'.heap.size = w.heap.size
  block : ∀ k, k ≠ b → w'.heap[k]? = w.heap[k]?
theorem bStatusOnly.refl (b : Nat) (w : World) : bStatusOnly b w w := ⟨rfl, rfl, rfl, rfl, fun _ _ => rfl⟩
theorem bStatusOnly.set {b : Nat} {w w' : World} (h : bStatusOnly b w w') (i : Nat) (u : Value) : bStatusOnly b w (w'.setCell ⟨b, i, none⟩ u) :=
  ⟨h.os, h.tape, h.output, by simpa [World.setCell] using h.size, fun k hk => (Below.heap_setCell w' ⟨b, i, none⟩ u k hk).trans (h.block k hk)⟩
theorem bStatusOnly.below {b B : Nat} {w w' : World} (h : bStatusOnly b w w') (hb : B ≤ b) : Below B w w' := ⟨h.os, h.tape, h.output, by rw [h.size]; exact Nat.le_refl _, fun k hk => h.block k (by omega)⟩
theorem bStatusOnly.mv {b B : Nat} {w w' : World} (h : bStatusOnly b w w') : Mv B [b] w w' := ⟨h.os, h.tape, h.output, by rw [h.size]; exact Nat.le_refl _, fun k _ hk => h.block k (by simpa using hk)⟩
theorem bStatusOnly.blk {b g : Nat} {w w' : World} {t : TypeId} {cs : Array Value} (h : bStatusOnly b w w') (hg : g ≠ b) (k : Blk w g t cs) : Blk w' g t cs := (h.block g hg).trans k
/-- A block of four cells and one of two, each written once more as it is. -/
theorem bStatus_again {w : World} {b b' : Nat} {t t' : TypeId} {x y z u a c : Value} (hne : b ≠ b') (x' y' z' u' a' c' : Value) (h : Blk w b t #[x, y, z, u]) (h' : Blk w b' t' #[a, c]) :
    Blk ((((((w.setCell ⟨b, 0, none⟩ x').setCell ⟨b, 1, none⟩ y').setCell ⟨b, 2, none⟩ z').setCell ⟨b, 3, none⟩ u').setCell ⟨b', 0, none⟩ a').setCell ⟨b', 1, none⟩ c') b t #[x', y', z', u'] ∧ Blk ((((((w.setCell ⟨b, 0, none⟩ x').setCell ⟨b, 1, none⟩ y').setCell ⟨b, 2, none⟩ z').setCell ⟨b, 3, none⟩ u').setCell ⟨b', 0, none⟩ a').setCell ⟨b', 1, none⟩ c') b' t' #[a', c'] :=
  ⟨(((((h.set_ 0 x').set_ 1 y').set_ 2 z').set_ 3 u').far (by simpa using hne) a').far (by simpa using hne) c', ((((((h'.far (p := ⟨b, 0, none⟩) (by simpa using hne.symm) x').far (p := ⟨b, 1, none⟩) (by simpa using hne.symm) y').far (p := ⟨b, 2, none⟩) (by simpa using hne.symm) z').far (p := ⟨b, 3, none⟩) (by simpa using hne.symm) u').set_ 0 a').set_ 1 c')⟩

theorem bStatus_eq_func_nil (fn : Fn) (fi ca : Array Value) (w : World) : (binOp .eql 44 (.func fn fi ca) .nilFunc).run Try.prog w = .ok (.bool false) w := by kernel_rfl
theorem bStatus_enter (a b : Value) (w : World) : (callFunc 45 (#[] ++ #[a, b])).run Try.prog w = .ok (.enter 45 (#[] ++ #[a, b])) w := by simp [go_sem]

set_option maxHeartbeats 400000 in
theorem bStatus_closure_returns (g : FuncId) (fi ca : Array Value) (p : Addr) (b : Nat) (v0 v1 v2 v3 : Value) (va vb vc : Int) (vd : ByteArray) (w : World) (Q : World → Prop) (hp : w.cell? p = some (.func (.func g) fi ca))
    (hQ : ∀ w1, Q w1 → Blk w1 b 28 #[v0, v1, v2, v3])
    (hen : ∀ w : World, (callFunc g (fi ++ ca)).run Try.prog w = .ok (.enter g (fi ++ ca)) w)
    (hf : Calls Try.prog g (fi ++ ca) w fun e w1 => e = .returned (.agg #[.int .i64 va, .int .i64 vb, .int .i64 vc, .string vd]) ∧ Q w1) :
    Calls Try.prog 45 #[.pointer (some p), .pointer (some ⟨b, 0, none⟩)] w fun e w' => e = .returned (.tuple #[]) ∧ ∃ w1, Q w1 ∧ bStatusOnly b w1 w' ∧ Blk w' b 28 #[.int .i64 va, .int .i64 vb, .int .i64 vc, .string vd] := by
  go_enter Try.func45, Try.ntmps45
  go_wp2_with fail
  refine hf.mono ?_
  rintro e w1 ⟨rfl, hb1⟩
  have HP := Lib.hid (hQ w1 hb1)
  have c0 : w1.cell? ⟨b, 0, none⟩ = some v0 := HP.out.cell 0
  have c1 : w1.cell? ⟨b, 1, none⟩ = some v1 := HP.out.cell 1
  have c2 : w1.cell? ⟨b, 2, none⟩ = some v2 := HP.out.cell 2
  have c3 : w1.cell? ⟨b, 3, none⟩ = some v3 := HP.out.cell 3
  have z0 := HP.out.frozen 0
  have z1 := HP.out.frozen 1
  have z2 := HP.out.frozen 2
  have z3 := HP.out.frozen 3
  clear hen hf hp hQ
  go_wp2
  go_end0
  exact ⟨rfl, w1, hb1, ((((bStatusOnly.refl b w1).set 0 _).set 1 _).set 2 _).set 3 _, (((HP.out.set_ 0 _).set_ 1 _).set_ 2 _).set_ 3 _⟩

set_option maxHeartbeats 400000 in
theorem bStatus_closure_throws (g : FuncId) (fi ca : Array Value) (p : Addr) (b : Nat) (a c : Int) (w : World) (Q : World → Prop) (hp : w.cell? p = some (.func (.func g) fi ca))
    (hen : ∀ w : World, (callFunc g (fi ++ ca)).run Try.prog w = .ok (.enter g (fi ++ ca)) w)
    (hf : Calls Try.prog g (fi ++ ca) w fun e w1 => e = pnc a c ∧ Q w1) :
    Calls Try.prog 45 #[.pointer (some p), .pointer (some ⟨b, 0, none⟩)] w fun e w' => e = pnc a c ∧ Q w' := by
  go_enter Try.func45, Try.ntmps45
  go_wp2_with fail
  refine hf.mono ?_
  rintro e w1 ⟨rfl, hb1⟩
  exact ⟨rfl, rfl, hb1⟩

/-- What attempt's own three variables are, while f runs. -/
abbrev bStatus_w (g : FuncId) (fi ca : Array Value) (w : World) : World := ((w.alloc (.cells #[.func (.func g) fi ca] 44)).alloc (.cells #[.int .i64 0, .int .i64 0, .int .i64 0, .string ⟨#[]⟩] 28)).alloc (.cells #[.int .i64 0, .int .i64 0] 37)

theorem bStatus_w_below (g : FuncId) (fi ca : Array Value) (w : World) : Below w.heap.size w (bStatus_w g fi ca w) :=
  (((Below.refl _ _).alloc (Nat.le_refl _) _).alloc (by simp) _).alloc (by simp; omega) _
theorem bStatus_w_blk (g : FuncId) (fi ca : Array Value) (w : World) : Blk (bStatus_w g fi ca w) (w.heap.size + 1) 28 #[.int .i64 0, .int .i64 0, .int .i64 0, .string ⟨#[]⟩] ∧ Blk (bStatus_w g fi ca w) (w.heap.size + 1 + 1) 37 #[.int .i64 0, .int .i64 0] := by
  have h1 := Blk.new (w.alloc (.cells #[.func (.func g) fi ca] 44)) 28 #[.int .i64 0, .int .i64 0, .int .i64 0, .string ⟨#[]⟩]
  have h2 := Blk.new ((w.alloc (.cells #[.func (.func g) fi ca] 44)).alloc (.cells #[.int .i64 0, .int .i64 0, .int .i64 0, .string ⟨#[]⟩] 28)) 37 #[.int .i64 0, .int .i64 0]
  have h1' : Blk ((w.alloc (.cells #[.func (.func g) fi ca] 44)).alloc (.cells #[.int .i64 0, .int .i64 0, .int .i64 0, .string ⟨#[]⟩] 28)) (w.heap.size + 1) 28 #[.int .i64 0, .int .i64 0, .int .i64 0, .string ⟨#[]⟩] := by simpa using h1
  exact ⟨h1'.alloc _, by simpa using h2⟩

/-- Behind Catch: attempt's variables, and that nothing else has turned but rows of r. -/
structure BStatusGot (cs : Array Value) (r : List Nat) (w w1 : World) : Prop where
  mv : Mv w.heap.size r w w1
  size : w.heap.size + 3 ≤ w1.heap.size
  own : Blk w1 (w.heap.size + 1) 28 cs
  flt : Blk w1 (w.heap.size + 1 + 1) 37 #[.int .i64 0, .int .i64 0]

theorem bStatus_got (g : FuncId) (fi ca : Array Value) (r : List Nat) (w w1 : World) (hr : ∀ x ∈ r, x < w.heap.size) (h : Mv (w.heap.size + 3) r (bStatus_w g fi ca w) w1) :
    BStatusGot #[.int .i64 0, .int .i64 0, .int .i64 0, .string ⟨#[]⟩] r w w1 := by
  have hs := h.size
  simp at hs
  have n1 : w.heap.size + 1 ∉ r := fun hm => by have := hr _ hm; omega
  have n2 : w.heap.size + 1 + 1 ∉ r := fun hm => by have := hr _ hm; omega
  obtain ⟨k1, k2⟩ := bStatus_w_blk g fi ca w
  exact ⟨(Mv.of_below (bStatus_w_below g fi ca w) r).trans (h.mono (by omega) fun x hx => .inl hx), by omega, k1.mv h (by omega) n1, k2.mv h (by omega) n2⟩

theorem BStatusGot.set {cs cs' : Array Value} {r : List Nat} {w w1 w2 : World} (h : BStatusGot cs r w w1) (ho : bStatusOnly (w.heap.size + 1) w1 w2) (hb : Blk w2 (w.heap.size + 1) 28 cs') : BStatusGot cs' r w w2 := by
  obtain ⟨m, s, k1, k2⟩ := h
  exact ⟨m.trans (Mv.of_below (ho.below (by omega)) r), by rw [ho.size]; exact s, hb, ho.blk (by omega) k2⟩

theorem BStatusGot.below {cs : Array Value} {r : List Nat} {w w1 w2 : World} (h : BStatusGot cs r w w1) (hb : Below (w.heap.size + 3) w1 w2) : BStatusGot cs r w w2 := by
  obtain ⟨m, s, k1, k2⟩ := h
  have := hb.size
  exact ⟨m.trans (Mv.of_below (hb.mono (by omega)) r), by omega, k1.below hb (by omega), k2.below hb (by omega)⟩

/-- Catch over the closure. -/
theorem bStatus_catch_returns (g : FuncId) (fi ca : Array Value) (va vb vc : Int) (vd : ByteArray) (w : World) (r : List Nat) (R : World → Prop) (hr : ∀ x ∈ r, x < w.heap.size)
    (hR : ∀ W1 W2, Below w.heap.size W1 W2 → R W1 → R W2) (hen : ∀ w : World, (callFunc g (fi ++ ca)).run Try.prog w = .ok (.enter g (fi ++ ca)) w)
    (hf : ∀ W, Below w.heap.size w W → Calls Try.prog g (fi ++ ca) W fun e w1 => e = .returned (.agg #[.int .i64 va, .int .i64 vb, .int .i64 vc, .string vd]) ∧ Mv W.heap.size r W w1 ∧ R w1) :
    Calls Try.prog 44 #[.func (.func 45) #[] #[.pointer (some ⟨w.heap.size, 0, none⟩), .pointer (some ⟨w.heap.size + 1, 0, none⟩)]] (bStatus_w g fi ca w)
      fun e w' => e = .returned (.tuple #[flt 0 0, .bool false]) ∧ BStatusGot #[.int .i64 va, .int .i64 vb, .int .i64 vc, .string vd] r w w' ∧ R w' := by
  have hw := bStatus_w_below g fi ca w
  have hsz : (bStatus_w g fi ca w).heap.size = w.heap.size + 3 := by simp
  refine (catch_returns 45 #[] #[.pointer (some ⟨w.heap.size, 0, none⟩), .pointer (some ⟨w.heap.size + 1, 0, none⟩)] (bStatus_w g fi ca w)
    (fun w1 => ∃ w0, (Mv (w.heap.size + 5) r (cw (bStatus_w g fi ca w)) w0 ∧ R w0) ∧ bStatusOnly (w.heap.size + 1) w0 w1 ∧ Blk w1 (w.heap.size + 1) 28 #[.int .i64 va, .int .i64 vb, .int .i64 vc, .string vd]) ?_ (bStatus_enter _ _) ?_).mono ?_
  · rintro w1 ⟨w0, ⟨h, _⟩, ho, _⟩
    refine keeps_mv (bStatus_w g fi ca w) w1 ((w.heap.size + 1) :: r) (fun x hx => ?_) ?_
    · rw [hsz]
      rcases List.mem_cons.1 hx with rfl | hx
      · omega
      · have := hr x hx; omega
    · rw [hsz]
      exact (h.mono (by omega) fun x hx => .inl (List.mem_cons_of_mem _ hx)).trans (ho.mv.mono (B := w.heap.size + 3 + 2) (Nat.le_refl _) fun x hx => .inl (by simp at hx; simp [hx]))
  · have hcw := cw_below (bStatus_w g fi ca w)
    refine (bStatus_closure_returns g fi ca ⟨w.heap.size, 0, none⟩ (w.heap.size + 1) (.int .i64 0) (.int .i64 0) (.int .i64 0) (.string ⟨#[]⟩) va vb vc vd (cw (bStatus_w g fi ca w)) (fun w0 => Mv (w.heap.size + 5) r (cw (bStatus_w g fi ca w)) w0 ∧ R w0) ?_ ?_ hen ?_).mono ?_
    · rw [hcw.cell (by simp; omega)]; simp [go_sem]
    · rintro w1 ⟨h, _⟩
      have n1 : w.heap.size + 1 ∉ r := fun hm => by have := hr _ hm; omega
      exact (((bStatus_w_blk g fi ca w).1.below hcw (by rw [hsz]; omega))).mv h (by omega) n1
    · refine (hf _ (hw.trans (hcw.mono (by simp; omega)))).mono ?_
      rintro e w1 ⟨h1, h2, h3⟩
      exact ⟨h1, h2.mono (by simp) fun x hx => .inl hx, h3⟩
    · rintro e w1 ⟨rfl, w0, h, h2⟩
      exact ⟨⟨_, rfl⟩, w0, h, h2⟩
  · rintro e w' ⟨rfl, w1, ⟨w0, ⟨h, hq⟩, ho, hbk⟩, rfl⟩
    have hcw := cw_below (bStatus_w g fi ca w)
    have hm : Mv (w.heap.size + 3) r (bStatus_w g fi ca w) w0 := (Mv.of_below (hcw.mono (by simp)) r).trans (h.mono (by omega) fun x hx => .inl hx)
    have hg := (bStatus_got g fi ca r w w0 hr hm).set ho hbk
    rw [hsz]
    have hb : ∀ B, B ≤ w.heap.size + 3 → Below B w1 (((w1.setCell ⟨w.heap.size + 3, 0, none⟩ (.int .i64 0)).setCell ⟨w.heap.size + 3, 1, none⟩ (.int .i64 0)).setCell ⟨w.heap.size + 3 + 1, 0, none⟩ (.bool false)) :=
      fun B hB => (((Below.refl _ _).setCell (by simp; omega) _).setCell (by simp; omega) _).setCell (by simp; omega) _
    exact ⟨rfl, hg.below (hb _ (Nat.le_refl _)), hR _ _ (hb _ (by omega)) (hR _ _ (ho.below (by omega)) hq)⟩

theorem bStatus_catch_throws (g : FuncId) (fi ca : Array Value) (a c : Int) (w : World) (r : List Nat) (R : World → Prop) (hr : ∀ x ∈ r, x < w.heap.size)
    (hR : ∀ W1 W2, Below w.heap.size W1 W2 → R W1 → R W2) (hen : ∀ w : World, (callFunc g (fi ++ ca)).run Try.prog w = .ok (.enter g (fi ++ ca)) w)
    (hf : ∀ W, Below w.heap.size w W → Calls Try.prog g (fi ++ ca) W fun e w1 => e = pnc a c ∧ Mv W.heap.size r W w1 ∧ R w1) :
    Calls Try.prog 44 #[.func (.func 45) #[] #[.pointer (some ⟨w.heap.size, 0, none⟩), .pointer (some ⟨w.heap.size + 1, 0, none⟩)]] (bStatus_w g fi ca w)
      fun e w' => e = .returned (.tuple #[flt a c, .bool true]) ∧ BStatusGot #[.int .i64 0, .int .i64 0, .int .i64 0, .string ⟨#[]⟩] r w w' ∧ R w' := by
  have hw := bStatus_w_below g fi ca w
  have hsz : (bStatus_w g fi ca w).heap.size = w.heap.size + 3 := by simp
  refine (catch_mv_throws 45 #[] #[.pointer (some ⟨w.heap.size, 0, none⟩), .pointer (some ⟨w.heap.size + 1, 0, none⟩)] (bStatus_w g fi ca w) a c r R (fun x hx => by have := hr x hx; simp; omega)
    (fun W1 W2 hb h => hR W1 W2 (hb.mono (by simp; omega)) h) (bStatus_enter _ _) ?_).mono ?_
  · intro W hW
    refine bStatus_closure_throws g fi ca ⟨w.heap.size, 0, none⟩ (w.heap.size + 1) a c W (fun w1 => Mv W.heap.size r W w1 ∧ R w1) ?_ hen (hf _ (hw.trans (hW.mono (by simp; omega))))
    rw [hW.cell (by simp; omega)]; simp [go_sem]
  · rintro e w' ⟨rfl, h, hq⟩
    exact ⟨rfl, bStatus_got g fi ca r w w' hr (h.mono (by simp) fun x hx => .inl hx), hq⟩

/-- Behind the store of what Catch told. -/
abbrev bStatus_put (n : Nat) (a c : Int) (w : World) : World := (w.setCell ⟨n + 1 + 1, 0, none⟩ (.int .i64 a)).setCell ⟨n + 1 + 1, 1, none⟩ (.int .i64 c)
theorem BStatusGot.put {cs : Array Value} {r : List Nat} {w w1 : World} (h : BStatusGot cs r w w1) (a c : Int) :
    Mv w.heap.size r w (bStatus_put w.heap.size a c w1) ∧ Blk (bStatus_put w.heap.size a c w1) (w.heap.size + 1) 28 cs ∧ Blk (bStatus_put w.heap.size a c w1) (w.heap.size + 1 + 1) 37 #[.int .i64 a, .int .i64 c] := by
  obtain ⟨m, s, k1, k2⟩ := h
  exact ⟨(m.setCell (.inr (by simp; omega)) _).setCell (.inr (by simp; omega)) _, (k1.far (by simp) _).far (by simp) _, (k2.set_ 0 _).set_ 1 _⟩

/-- What attempt's end comes to, whatever it was that Catch told. -/
abbrev bStatus_tell (x y z u : Value) (a c : Int) (f : Bool) : Ending := .returned (.tuple #[.agg #[x, y, z, u], .agg #[.int .i64 a, .int .i64 c], .bool f])

set_option maxHeartbeats 1000000 in
theorem bStatus_returns (g : FuncId) (fi ca : Array Value) (va vb vc : Int) (vd : ByteArray) (w : World) (r : List Nat) (R : World → Prop) (hr : ∀ x ∈ r, x < w.heap.size)
    (hR : ∀ W1 W2, Below w.heap.size W1 W2 → R W1 → R W2) (hen : ∀ w : World, (callFunc g (fi ++ ca)).run Try.prog w = .ok (.enter g (fi ++ ca)) w)
    (hf : ∀ W, Below w.heap.size w W → Calls Try.prog g (fi ++ ca) W fun e w1 => e = .returned (.agg #[.int .i64 va, .int .i64 vb, .int .i64 vc, .string vd]) ∧ Mv W.heap.size r W w1 ∧ R w1) :
    Calls Try.prog 31 #[.func (.func g) fi ca] w fun e w' => e = bStatus_tell (.int .i64 va) (.int .i64 vb) (.int .i64 vc) (.string vd) 0 0 false ∧ Mv w.heap.size r w w' ∧ R w' := by
  have hmf := make_func
  have heq := bStatus_eq_func_nil
  go_enter Try.func31, Try.ntmps31
  go_wp2_with fail
  refine (bStatus_catch_returns g fi ca va vb vc vd w r R hr hR hen hf).mono ?_
  rintro e w1 ⟨rfl, hb1, hq⟩
  have hR' : Hid _ := hR
  clear hen hf hmf heq hr hR
  obtain ⟨hm, k1, k2⟩ := hb1.put 0 0
  have hq2 : Hid (R (bStatus_put w.heap.size 0 0 w1)) := hR'.out _ _ (((Below.refl _ _).setCell (by simp; omega) _).setCell (by simp; omega) _) hq
  have hm2 : Hid _ := hm
  have K1 := Lib.hid k1
  have K2 := Lib.hid k2
  clear hq hm k1 k2
  have c2 : w1.cell? ⟨w.heap.size + 1 + 1, 0, none⟩ = some (.int .i64 0) := hb1.flt.cell 0
  have c3 : w1.cell? ⟨w.heap.size + 1 + 1, 1, none⟩ = some (.int .i64 0) := hb1.flt.cell 1
  have z2 := hb1.flt.frozen 0
  have z3 := hb1.flt.frozen 1
  have hz := hb1.size
  clear hb1
  go_wp2_with fail
  unfold bStatus_put at K1 K2 hm2 hq2
  generalize (w1.setCell ⟨w.heap.size + 1 + 1, 0, none⟩ (.int .i64 0)).setCell ⟨w.heap.size + 1 + 1, 1, none⟩ (.int .i64 0) = w2 at *
  clear c2 c3 z2 z3 hz
  have e0 : w2.cell? ⟨w.heap.size + 1, 0, none⟩ = some ((.int .i64 va)) := K1.out.cell 0
  have e1 : w2.cell? ⟨w.heap.size + 1, 1, none⟩ = some ((.int .i64 vb)) := K1.out.cell 1
  have e1b : w2.cell? ⟨w.heap.size + 1, 2, none⟩ = some ((.int .i64 vc)) := K1.out.cell 2
  have e1c : w2.cell? ⟨w.heap.size + 1, 3, none⟩ = some ((.string vd)) := K1.out.cell 3
  have e2 : w2.cell? ⟨w.heap.size + 1 + 1, 0, none⟩ = some (.int .i64 0) := K2.out.cell 0
  have e3 : w2.cell? ⟨w.heap.size + 1 + 1, 1, none⟩ = some (.int .i64 0) := K2.out.cell 1
  have f0 := K1.out.frozen 0
  have f1 := K1.out.frozen 1
  have f1b := K1.out.frozen 2
  have f1c := K1.out.frozen 3
  have f2 := K2.out.frozen 0
  have f3 := K2.out.frozen 1
  have G := Lib.hid (bStatus_again (by omega) (.int .i64 va) (.int .i64 vb) (.int .i64 vc) (.string vd) (.int .i64 0) (.int .i64 0) K1.out K2.out)
  go_region
  all_goals go_wp2
  obtain ⟨G1, G2⟩ := G.out
  have g0 : _ = some ((.int .i64 va) : Value) := G1.cell 0
  have g1 : _ = some ((.int .i64 vb) : Value) := G1.cell 1
  have g1b : _ = some ((.int .i64 vc) : Value) := G1.cell 2
  have g1c : _ = some ((.string vd) : Value) := G1.cell 3
  have g2 : _ = some (.int .i64 0 : Value) := G2.cell 0
  have g3 : _ = some (.int .i64 0 : Value) := G2.cell 1
  have hb3 : Below w.heap.size w2 ((((((w2.setCell ⟨w.heap.size + 1, 0, none⟩ ((.int .i64 va))).setCell ⟨w.heap.size + 1, 1, none⟩ ((.int .i64 vb))).setCell ⟨w.heap.size + 1, 2, none⟩ ((.int .i64 vc))).setCell ⟨w.heap.size + 1, 3, none⟩ ((.string vd))).setCell ⟨w.heap.size + 1 + 1, 0, none⟩ (.int .i64 0)).setCell ⟨w.heap.size + 1 + 1, 1, none⟩ (.int .i64 0)) :=
    ((((((Below.refl _ _).setCell (by simp) _).setCell (by simp) _).setCell (by simp) _).setCell (by simp) _).setCell (by simp; omega) _).setCell (by simp; omega) _
  refine bodyPost_ret (v := .tuple #[.agg #[(.int .i64 va), (.int .i64 vb), (.int .i64 vc), (.string vd)], .agg #[.int .i64 0, .int .i64 0], .bool false]) (by simp [results, Try.results31, go_sem, g0, g1, g1b, g1c, g2, g3]) rfl ⟨rfl, ?_, ?_⟩
  · exact (hm2.out.trans (Mv.of_below hb3 r)).drew
  · exact hR'.out _ _ hb3.drew hq2.out

set_option maxHeartbeats 1000000 in
theorem bStatus_throws (g : FuncId) (fi ca : Array Value) (a c : Int) (w : World) (r : List Nat) (R : World → Prop) (hr : ∀ x ∈ r, x < w.heap.size)
    (hR : ∀ W1 W2, Below w.heap.size W1 W2 → R W1 → R W2) (hen : ∀ w : World, (callFunc g (fi ++ ca)).run Try.prog w = .ok (.enter g (fi ++ ca)) w)
    (hf : ∀ W, Below w.heap.size w W → Calls Try.prog g (fi ++ ca) W fun e w1 => e = pnc a c ∧ Mv W.heap.size r W w1 ∧ R w1) :
    Calls Try.prog 31 #[.func (.func g) fi ca] w fun e w' => e = bStatus_tell (.int .i64 0) (.int .i64 0) (.int .i64 0) (.string ⟨#[]⟩) a c true ∧ Mv w.heap.size r w w' ∧ R w' := by
  have hmf := make_func
  have heq := bStatus_eq_func_nil
  go_enter Try.func31, Try.ntmps31
  go_wp2_with fail
  refine (bStatus_catch_throws g fi ca a c w r R hr hR hen hf).mono ?_
  rintro e w1 ⟨rfl, hb1, hq⟩
  have hR' : Hid _ := hR
  clear hen hf hmf heq hr hR
  obtain ⟨hm, k1, k2⟩ := hb1.put a c
  have hq2 : Hid (R (bStatus_put w.heap.size a c w1)) := hR'.out _ _ (((Below.refl _ _).setCell (by simp; omega) _).setCell (by simp; omega) _) hq
  have hm2 : Hid _ := hm
  have K1 := Lib.hid k1
  have K2 := Lib.hid k2
  clear hq hm k1 k2
  have c2 : w1.cell? ⟨w.heap.size + 1 + 1, 0, none⟩ = some (.int .i64 0) := hb1.flt.cell 0
  have c3 : w1.cell? ⟨w.heap.size + 1 + 1, 1, none⟩ = some (.int .i64 0) := hb1.flt.cell 1
  have z2 := hb1.flt.frozen 0
  have z3 := hb1.flt.frozen 1
  have hz := hb1.size
  clear hb1
  go_wp2_with fail
  unfold bStatus_put at K1 K2 hm2 hq2
  generalize (w1.setCell ⟨w.heap.size + 1 + 1, 0, none⟩ (.int .i64 a)).setCell ⟨w.heap.size + 1 + 1, 1, none⟩ (.int .i64 c) = w2 at *
  clear c2 c3 z2 z3 hz
  have e0 : w2.cell? ⟨w.heap.size + 1, 0, none⟩ = some ((.int .i64 0)) := K1.out.cell 0
  have e1 : w2.cell? ⟨w.heap.size + 1, 1, none⟩ = some ((.int .i64 0)) := K1.out.cell 1
  have e1b : w2.cell? ⟨w.heap.size + 1, 2, none⟩ = some ((.int .i64 0)) := K1.out.cell 2
  have e1c : w2.cell? ⟨w.heap.size + 1, 3, none⟩ = some ((.string ⟨#[]⟩)) := K1.out.cell 3
  have e2 : w2.cell? ⟨w.heap.size + 1 + 1, 0, none⟩ = some (.int .i64 a) := K2.out.cell 0
  have e3 : w2.cell? ⟨w.heap.size + 1 + 1, 1, none⟩ = some (.int .i64 c) := K2.out.cell 1
  have f0 := K1.out.frozen 0
  have f1 := K1.out.frozen 1
  have f1b := K1.out.frozen 2
  have f1c := K1.out.frozen 3
  have f2 := K2.out.frozen 0
  have f3 := K2.out.frozen 1
  have G := Lib.hid (bStatus_again (by omega) (.int .i64 0) (.int .i64 0) (.int .i64 0) (.string ⟨#[]⟩) (.int .i64 a) (.int .i64 c) K1.out K2.out)
  go_region
  all_goals go_wp2
  obtain ⟨G1, G2⟩ := G.out
  have g0 : _ = some ((.int .i64 0) : Value) := G1.cell 0
  have g1 : _ = some ((.int .i64 0) : Value) := G1.cell 1
  have g1b : _ = some ((.int .i64 0) : Value) := G1.cell 2
  have g1c : _ = some ((.string ⟨#[]⟩) : Value) := G1.cell 3
  have g2 : _ = some (.int .i64 a : Value) := G2.cell 0
  have g3 : _ = some (.int .i64 c : Value) := G2.cell 1
  have hb3 : Below w.heap.size w2 ((((((w2.setCell ⟨w.heap.size + 1, 0, none⟩ ((.int .i64 0))).setCell ⟨w.heap.size + 1, 1, none⟩ ((.int .i64 0))).setCell ⟨w.heap.size + 1, 2, none⟩ ((.int .i64 0))).setCell ⟨w.heap.size + 1, 3, none⟩ ((.string ⟨#[]⟩))).setCell ⟨w.heap.size + 1 + 1, 0, none⟩ (.int .i64 a)).setCell ⟨w.heap.size + 1 + 1, 1, none⟩ (.int .i64 c)) :=
    ((((((Below.refl _ _).setCell (by simp) _).setCell (by simp) _).setCell (by simp) _).setCell (by simp) _).setCell (by simp; omega) _).setCell (by simp; omega) _
  refine bodyPost_ret (v := .tuple #[.agg #[(.int .i64 0), (.int .i64 0), (.int .i64 0), (.string ⟨#[]⟩)], .agg #[.int .i64 a, .int .i64 c], .bool true]) (by simp [results, Try.results31, go_sem, g0, g1, g1b, g1c, g2, g3]) rfl ⟨rfl, ?_, ?_⟩
  · exact (hm2.out.trans (Mv.of_below hb3 r)).drew
  · exact hR'.out _ _ hb3.drew hq2.out

set_option maxHeartbeats 1000000 in
theorem valuebStatus_any (g : FuncId) (fi ca : Array Value) (va vb vc : Int) (vd : ByteArray) (a c : Int) (f : Bool) (w : World) (r : List Nat) (R : World → Prop) (hr : ∀ x ∈ r, x < w.heap.size)
    (hR : ∀ W1 W2, Below w.heap.size W1 W2 → R W1 → R W2)
    (h : Calls Try.prog 31 #[.func (.func g) fi ca] ((w.alloc (.cells #[.int .i64 0, .int .i64 0, .int .i64 0, .string ⟨#[]⟩] 28)).alloc (flc 0 0)) fun e w' => e = bStatus_tell (.int .i64 va) (.int .i64 vb) (.int .i64 vc) (.string vd) a c f ∧ Mv (w.heap.size + 2) r ((w.alloc (.cells #[.int .i64 0, .int .i64 0, .int .i64 0, .string ⟨#[]⟩] 28)).alloc (flc 0 0)) w' ∧ R w') :
    Calls Try.prog 20 #[.func (.func g) fi ca] w fun e w' => e = .returned (.tuple #[.agg #[.int .i64 va, .int .i64 vb, .int .i64 vc, .string vd], .agg #[.int .i64 a, .int .i64 c]]) ∧ Mv w.heap.size r w w' ∧ R w' := by
  go_enter Try.func20, Try.ntmps20
  go_wp2_with (go_at_call 31; refine h.mono ?_; rintro e w1 ⟨rfl, hb1, hq⟩)
  have hR' : Hid _ := hR
  have hz := hb1.size
  simp at hz
  have n0 : w.heap.size ∉ r := fun hm => by have := hr _ hm; omega
  have n1 : w.heap.size + 1 ∉ r := fun hm => by have := hr _ hm; omega
  obtain ⟨w2, hw2⟩ : ∃ w2, w2 = (w1.alloc (.cells #[.int .i64 va, .int .i64 vb, .int .i64 vc, .string vd] 28)).alloc (.cells #[.int .i64 a, .int .i64 c] 37) := ⟨_, rfl⟩
  have k0 : Blk ((w.alloc (.cells #[.int .i64 0, .int .i64 0, .int .i64 0, .string ⟨#[]⟩] 28)).alloc (flc 0 0)) w.heap.size 28 #[.int .i64 0, .int .i64 0, .int .i64 0, .string ⟨#[]⟩] := (Blk.new w _ _).alloc _
  have k1 : Blk ((w.alloc (.cells #[.int .i64 0, .int .i64 0, .int .i64 0, .string ⟨#[]⟩] 28)).alloc (flc 0 0)) (w.heap.size + 1) 37 #[.int .i64 0, .int .i64 0] := by
    have := Blk.new (w.alloc (.cells #[.int .i64 0, .int .i64 0, .int .i64 0, .string ⟨#[]⟩] 28)) 37 #[.int .i64 0, .int .i64 0]
    simpa using this
  have K0 := Lib.hid (show Blk w2 w.heap.size 28 #[.int .i64 0, .int .i64 0, .int .i64 0, .string ⟨#[]⟩] from by rw [hw2]; exact ((k0.mv hb1 (by omega) n0).alloc _).alloc _)
  have K1 := Lib.hid (show Blk w2 (w.heap.size + 1) 37 #[.int .i64 0, .int .i64 0] from by rw [hw2]; exact ((k1.mv hb1 (by omega) n1).alloc _).alloc _)
  have K2 := Lib.hid (show Blk w2 w1.heap.size 28 #[.int .i64 va, .int .i64 vb, .int .i64 vc, .string vd] from by rw [hw2]; exact (Blk.new w1 _ _).alloc _)
  have K3 := Lib.hid (show Blk w2 (w1.heap.size + 1) 37 #[.int .i64 a, .int .i64 c] from by
    have := Blk.new (w1.alloc (.cells #[.int .i64 va, .int .i64 vb, .int .i64 vc, .string vd] 28)) 37 #[.int .i64 a, .int .i64 c]
    rw [hw2]
    simpa using this)
  have hbw : Hid (Mv w.heap.size r w w2) := by
    rw [hw2]
    exact (((Mv.of_below (((Below.refl _ _).alloc (Nat.le_refl _) _).alloc (by simp) _) r).trans (hb1.mono (by omega) fun x hx => .inl hx)).alloc (by omega) _).alloc (by simp; omega) _
  have hq2 : Hid (R w2) := by
    rw [hw2]
    exact hR _ _ (((Below.refl _ _).alloc (by omega) _).alloc (by simp; omega) _) hq
  clear hb1 h hq hR hr k0 k1
  go_wp2_with fail
  rw [← hw2]
  have HW2 := Lib.hid hw2
  clear hw2
  have hn : w1.heap.size + 1 < w2.heap.size := K3.out.lt
  have G := Lib.hid (bStatus_again (by omega) (.int .i64 va) (.int .i64 vb) (.int .i64 vc) (.string vd) (.int .i64 a) (.int .i64 c) K0.out K1.out)
  have e0 : w2.cell? ⟨w.heap.size, 0, none⟩ = some (.int .i64 0) := K0.out.cell 0
  have e1 : w2.cell? ⟨w.heap.size, 1, none⟩ = some (.int .i64 0) := K0.out.cell 1
  have e1b : w2.cell? ⟨w.heap.size, 2, none⟩ = some (.int .i64 0) := K0.out.cell 2
  have e1c : w2.cell? ⟨w.heap.size, 3, none⟩ = some (.string ⟨#[]⟩) := K0.out.cell 3
  have e2 : w2.cell? ⟨w.heap.size + 1, 0, none⟩ = some (.int .i64 0) := K1.out.cell 0
  have e3 : w2.cell? ⟨w.heap.size + 1, 1, none⟩ = some (.int .i64 0) := K1.out.cell 1
  have f0 := K0.out.frozen 0
  have f1 := K0.out.frozen 1
  have f1b := K0.out.frozen 2
  have f1c := K0.out.frozen 3
  have f2 := K1.out.frozen 0
  have f3 := K1.out.frozen 1
  have d0 : w2.cell? ⟨w1.heap.size, 0, none⟩ = some (.int .i64 va) := K2.out.cell 0
  have d1 : w2.cell? ⟨w1.heap.size, 1, none⟩ = some (.int .i64 vb) := K2.out.cell 1
  have d1b : w2.cell? ⟨w1.heap.size, 2, none⟩ = some (.int .i64 vc) := K2.out.cell 2
  have d1c : w2.cell? ⟨w1.heap.size, 3, none⟩ = some (.string vd) := K2.out.cell 3
  have d2 : w2.cell? ⟨w1.heap.size + 1, 0, none⟩ = some (.int .i64 a) := K3.out.cell 0
  have d3 : w2.cell? ⟨w1.heap.size + 1, 1, none⟩ = some (.int .i64 c) := K3.out.cell 1
  clear HW2 K0 K1 K2 K3
  generalize w1.heap.size = m1 at *
  go_region
  all_goals go_wp2
  obtain ⟨G1, G2⟩ := G.out
  have g0 : _ = some (.int .i64 va : Value) := G1.cell 0
  have g1 : _ = some (.int .i64 vb : Value) := G1.cell 1
  have g1b : _ = some (.int .i64 vc : Value) := G1.cell 2
  have g1c : _ = some (.string vd : Value) := G1.cell 3
  have g2 : _ = some (.int .i64 a : Value) := G2.cell 0
  have g3 : _ = some (.int .i64 c : Value) := G2.cell 1
  have hb3 : Below w.heap.size w2 ((((((w2.setCell ⟨w.heap.size, 0, none⟩ (.int .i64 va)).setCell ⟨w.heap.size, 1, none⟩ (.int .i64 vb)).setCell ⟨w.heap.size, 2, none⟩ (.int .i64 vc)).setCell ⟨w.heap.size, 3, none⟩ (.string vd)).setCell ⟨w.heap.size + 1, 0, none⟩ (.int .i64 a)).setCell ⟨w.heap.size + 1, 1, none⟩ (.int .i64 c)) :=
    ((((((Below.refl _ _).setCell (by simp) _).setCell (by simp) _).setCell (by simp) _).setCell (by simp) _).setCell (by simp) _).setCell (by simp) _
  refine bodyPost_ret (v := .tuple #[.agg #[.int .i64 va, .int .i64 vb, .int .i64 vc, .string vd], .agg #[.int .i64 a, .int .i64 c]]) (by simp [results, Try.results20, go_sem, g0, g1, g1b, g1c, g2, g3]) rfl ⟨rfl, ?_, ?_⟩
  · exact (hbw.out.trans (Mv.of_below hb3 r)).drew
  · exact hR'.out _ _ hb3.drew hq2.out

theorem valuebStatus_returns (g : FuncId) (fi ca : Array Value) (va vb vc : Int) (vd : ByteArray) (w : World) (r : List Nat) (R : World → Prop) (hr : ∀ x ∈ r, x < w.heap.size)
    (hR : ∀ W1 W2, Below w.heap.size W1 W2 → R W1 → R W2) (hen : ∀ w : World, (callFunc g (fi ++ ca)).run Try.prog w = .ok (.enter g (fi ++ ca)) w)
    (hf : ∀ W, Below w.heap.size w W → Calls Try.prog g (fi ++ ca) W fun e w1 => e = .returned (.agg #[.int .i64 va, .int .i64 vb, .int .i64 vc, .string vd]) ∧ Mv W.heap.size r W w1 ∧ R w1) :
    Calls Try.prog 20 #[.func (.func g) fi ca] w fun e w' => e = .returned (.tuple #[.agg #[.int .i64 va, .int .i64 vb, .int .i64 vc, .string vd], flt 0 0]) ∧ Mv w.heap.size r w w' ∧ R w' := by
  refine valuebStatus_any g fi ca va vb vc vd 0 0 false w r R hr hR ?_
  have hb : Below w.heap.size w ((w.alloc (.cells #[.int .i64 0, .int .i64 0, .int .i64 0, .string ⟨#[]⟩] 28)).alloc (flc 0 0)) := ((Below.refl _ _).alloc (Nat.le_refl _) _).alloc (by simp) _
  refine (bStatus_returns g fi ca va vb vc vd ((w.alloc (.cells #[.int .i64 0, .int .i64 0, .int .i64 0, .string ⟨#[]⟩] 28)).alloc (flc 0 0)) r R (fun x hx => by have := hr x hx; simp; omega) (fun W1 W2 h => hR W1 W2 (h.mono (by simp; omega))) hen fun W hW => hf W (hb.trans (hW.mono (by simp; omega)))).mono ?_
  rintro e w' ⟨h1, h2, h3⟩
  exact ⟨h1, by simpa using h2, h3⟩

theorem valuebStatus_throws (g : FuncId) (fi ca : Array Value) (a c : Int) (w : World) (r : List Nat) (R : World → Prop) (hr : ∀ x ∈ r, x < w.heap.size)
    (hR : ∀ W1 W2, Below w.heap.size W1 W2 → R W1 → R W2) (hen : ∀ w : World, (callFunc g (fi ++ ca)).run Try.prog w = .ok (.enter g (fi ++ ca)) w)
    (hf : ∀ W, Below w.heap.size w W → Calls Try.prog g (fi ++ ca) W fun e w1 => e = pnc a c ∧ Mv W.heap.size r W w1 ∧ R w1) :
    Calls Try.prog 20 #[.func (.func g) fi ca] w fun e w' => e = .returned (.tuple #[.agg #[.int .i64 0, .int .i64 0, .int .i64 0, .string ⟨#[]⟩], flt a c]) ∧ Mv w.heap.size r w w' ∧ R w' := by
  refine valuebStatus_any g fi ca 0 0 0 ⟨#[]⟩ a c true w r R hr hR ?_
  have hb : Below w.heap.size w ((w.alloc (.cells #[.int .i64 0, .int .i64 0, .int .i64 0, .string ⟨#[]⟩] 28)).alloc (flc 0 0)) := ((Below.refl _ _).alloc (Nat.le_refl _) _).alloc (by simp) _
  refine (bStatus_throws g fi ca a c ((w.alloc (.cells #[.int .i64 0, .int .i64 0, .int .i64 0, .string ⟨#[]⟩] 28)).alloc (flc 0 0)) r R (fun x hx => by have := hr x hx; simp; omega) (fun W1 W2 h => hR W1 W2 (h.mono (by simp; omega))) hen fun W hW => hf W (hb.trans (hW.mono (by simp; omega)))).mono ?_
  rintro e w' ⟨h1, h2, h3⟩
  exact ⟨h1, by simpa using h2, h3⟩

end Go.Proofs.Yteeheehoaklnbaa
