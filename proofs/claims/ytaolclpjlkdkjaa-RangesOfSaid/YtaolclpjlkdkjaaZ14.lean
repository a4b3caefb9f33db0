/-
  What the document's Content of layer 24 answers: a walk over letters. Condition: the text is no longer than 2^47 - 4096.
-/
import Derived.Test.YtaolclpjlkdkjaaZ12
import Derived.Test.YtaolclpjlkdkjaaZ13
import Derived.Test.YtaolclpjlkdkjaaZ10
import Derived.Deep.Cut
namespace Go.Proofs.Ytaolclpjlkdkjaa
open Go.RowKit

/-- Two parts of a walk's own. -/
structure TwoP (B : Nat) (w : World) : Prop where
  r : Blk w B 29 #[.int .i64 0, .int .i64 0, .int .i64 0]
  n : Blk w (B + 1) 29 #[.int .i64 0, .int .i64 0, .int .i64 0]
theorem TwoP.new (w : World) : TwoP w.heap.size ((w.alloc (partC 0 0 0)).alloc (partC 0 0 0)) :=
  ⟨(Blk.new w _ _).alloc _, by have := Blk.new (w.alloc (partC 0 0 0)) 29 #[.int .i64 0, .int .i64 0, .int .i64 0]; simpa using this⟩
theorem TwoP.below {B : Nat} {w w' : World} (h : TwoP B w) (hb : Below w.heap.size w w') : TwoP B w' := ⟨h.r.below hb h.r.lt, h.n.below hb h.n.lt⟩
theorem TwoP.keep {B : Nat} {w : World} (h : TwoP B w) : (w.cell? ⟨B, 0, none⟩ = some (.int .i64 0) ∧ w.cell? ⟨B, 1, none⟩ = some (.int .i64 0) ∧ w.cell? ⟨B, 2, none⟩ = some (.int .i64 0)) ∧ w.cell? ⟨B + 1, 0, none⟩ = some (.int .i64 0) ∧ w.cell? ⟨B + 1, 1, none⟩ = some (.int .i64 0) ∧ w.cell? ⟨B + 1, 2, none⟩ = some (.int .i64 0) :=
  ⟨⟨h.r.cell 0, h.r.cell 1, h.r.cell 2⟩, h.n.cell 0, h.n.cell 1, h.n.cell 2⟩
theorem TwoP.free {B : Nat} {w : World} (h : TwoP B w) : w.frozen? ⟨B, 0, none⟩ = false ∧ w.frozen? ⟨B, 1, none⟩ = false ∧ w.frozen? ⟨B, 2, none⟩ = false := ⟨h.r.frozen 0, h.r.frozen 1, h.r.frozen 2⟩
abbrev put3 (B : Nat) (w : World) (u v x : Value) : World := ((w.setCell ⟨B, 0, none⟩ u).setCell ⟨B, 1, none⟩ v).setCell ⟨B, 2, none⟩ x
theorem TwoP.puts {B : Nat} {w : World} (h : TwoP B w) (u v x : Value) : (put3 B w u v x).cell? ⟨B, 0, none⟩ = some u ∧ (put3 B w u v x).cell? ⟨B, 1, none⟩ = some v ∧ (put3 B w u v x).cell? ⟨B, 2, none⟩ = some x :=
  ⟨(((h.r.set_ 0 u).set_ 1 v).set_ 2 x).cell 0, (((h.r.set_ 0 u).set_ 1 v).set_ 2 x).cell 1, (((h.r.set_ 0 u).set_ 1 v).set_ 2 x).cell 2⟩
theorem put3_below {a w : World} (h : Below a.heap.size a w) (u v x : Value) : Below a.heap.size a (put3 a.heap.size w u v x) := ((h.setCell (Nat.le_refl _) _).setCell (Nat.le_refl _) _).setCell (Nat.le_refl _) _
abbrev partE (x y z c : Int) : Ending := .returned (.tuple #[partV x y z, .int .i64 c])
theorem head_byte (x : ByteArray) (h : 0 < x.size) (c : UInt8) : ((x[0].toNat : Int) == (c.toNat : Int)) = atB x 0 c := by
  rw [atB_at h, Bool.eq_iff_iff, beq_iff_eq, beq_iff_eq]
  exact ⟨fun e => UInt8.toNat_inj.1 (by omega), fun e => by rw [e]⟩

set_option maxRecDepth 100000 in
set_option maxHeartbeats 16000000 in
theorem rcontA_walk (s x1 x2 t u r : ByteArray) (z1 zt ba bc good : Bool) (k3 : Nat) (a c : Int) (A : Ending) (w : World)
    (HU0 : ∀ W, Calls Try.prog 22 #[.string s] W fun e w' => e = .returned (.tuple #[.string x1, .bool z1]) ∧ Below W.heap.size W w')
    (HTB0 : ∀ (h : 0 < x1.size) W, Calls Try.prog 28 #[.int .u8 (x1[0].toNat : Int)] W fun e w' => e = .returned (.bool zt) ∧ W = w')
    (HCU : Hid (∀ W, Calls Try.prog 23 #[.string x1] W fun e w' => e = .returned (.string x2) ∧ W = w'))
    (HEN : Hid (∀ W, Calls Try.prog 29 #[.string x2] W fun e w' => e = .returned (.string t) ∧ W = w'))
    (hT : 0 < t.size) (qT : atB t 0 42 = true) (hu : Hid (u = t.extract 1 t.size)) (hr : Hid (r = u.extract 1 u.size))
    (_HR1 : Hid True) (_HR2 : Hid True)
    (HN1 : Hid (∀ W, Calls Try.prog 25 #[.string ⟨#[]⟩] W fun e w' => e = .returned (.tuple #[.int .i64 a, .bool ba]) ∧ W = w'))
    (_HN2 : Hid True)
    (HR3 : Hid (∀ W, Calls Try.prog 24 #[.string r] W fun e w' => e = .returned (.int .i64 k3) ∧ W = w'))
    (HN3 : Hid (∀ W, Calls Try.prog 25 #[.string r] W fun e w' => e = .returned (.tuple #[.int .i64 c, .bool bc]) ∧ W = w'))
    (HG0 : ∀ W, Calls Try.prog 30 #[partV a a c] W fun e w' => e = .returned (.bool good) ∧ Below W.heap.size W w')
    (l1 : x1.size ≤ 9223372036854775807) (lt : t.size ≤ 9223372036854775807) (lu : u.size ≤ 9223372036854775807) (_lr : r.size ≤ 9223372036854775807)
    (E1 : (x1.toList == []) = decide (x1.size = 0)) (ET : (t.toList == []) = false) (EU : (u.toList == []) = decide (u.size = 0)) (ER : (r.toList == []) = decide (r.size = 0)) (ES : (r.toList == [42]) = false)
    (A1 : z1 = false → A = partE 0 0 0 2)
    (A2 : z1 = true → x1.size = 0 ∨ zt = false → A = partE 0 0 0 2)
    (A4 : z1 = true → zt = true → atB u 0 47 = false → A = partE 0 0 0 2)
    (A5 : z1 = true → zt = true → atB u 0 47 = true → r.size = 0 ∨ (k3 : Int) ≠ r.size → A = partE 0 0 0 2)
    (A6 : z1 = true → zt = true → atB u 0 47 = true → r.size ≠ 0 → (k3 : Int) = r.size → ba = false ∨ bc = false ∨ good = false → A = partE 0 0 0 9)
    (A7 : z1 = true → zt = true → atB u 0 47 = true → r.size ≠ 0 → (k3 : Int) = r.size → ba = true → bc = true → good = true → A = partE a a c 0) :
    Calls Try.prog 10 #[.string s] w fun r w' => r = A ∧ Below w.heap.size w w' := by
  obtain ⟨w0, hw0⟩ : ∃ w0, w0 = (w.alloc (partC 0 0 0)).alloc (partC 0 0 0) := ⟨_, rfl⟩
  have HB := Lib.hid (show Below w.heap.size w w0 from by rw [hw0]; exact ((Below.refl _ _).alloc (Nat.le_refl _) _).alloc (by simp) _)
  have HK := Lib.hid (show TwoP w.heap.size w0 from by rw [hw0]; exact TwoP.new w)
  have HU := Lib.hid (HU0 w0)
  have HG := Lib.hid HG0
  clear HU0 HG0
  cases hz1 : z1
  · subst hz1
    clear HTB0
    have HTB := Lib.hid True.intro
    have hq := Lib.hid (A1 rfl)
    rw [hq.out]
    clear hq A1 A2 A4 A5 A6 A7
    go_enter Try.func10, Try.ntmps10
    go_wp2_with fail
    rw [← hw0]
    clear hw0
    refine HU.out.mono ?_
    rintro q w1 ⟨rfl, b1⟩
    have HB1 := Lib.hid (HB.out.trans (b1.mono HB.out.size))
    have HK1 := Lib.hid (HK.out.below b1)
    obtain ⟨⟨e0, e1, e2⟩, e3, e4, e5⟩ := HK1.out.keep
    obtain ⟨f0, f1, f2⟩ := HK1.out.free
    clear b1 HU HB HK
    go_wp2_with (first
      | (go_at_call 23; (first | (with_reducible refine (HCU.out _).mono ?_)); rintro r w9 ⟨rfl, rfl⟩)
      | (go_at_call 29; (first | (with_reducible refine (HEN.out _).mono ?_)); rintro r w9 ⟨rfl, rfl⟩)
      | (go_at_call 28; (first | (with_reducible refine (HTB.out _).mono ?_)); rintro r w9 ⟨rfl, rfl⟩)
      | (go_at_call 24; (first | (with_reducible refine (HR1.out _).mono ?_) | (with_reducible refine (HR2.out _).mono ?_) | (with_reducible refine (HR3.out _).mono ?_)); rintro r w9 ⟨rfl, rfl⟩)
      | (go_at_call 25; (first | (with_reducible refine (HN1.out _).mono ?_) | (with_reducible refine (HN2.out _).mono ?_) | (with_reducible refine (HN3.out _).mono ?_)); rintro r w9 ⟨rfl, rfl⟩))
    obtain ⟨j0, j1, j2⟩ := HK1.out.puts (.int .i64 0) (.int .i64 0) (.int .i64 0)
    exact bodyPost_ret (v := .tuple #[partV 0 0 0, .int .i64 2]) (by simp [results, Try.results10, go_sem, j0, j1, j2]) rfl ⟨rfl, put3_below HB1.out _ _ _⟩
  subst hz1
  by_cases h1 : x1.size = 0
  · rw [decide_eq_true h1] at E1
    clear HTB0
    have HTB := Lib.hid True.intro
    have hq := Lib.hid (A2 rfl (.inl h1))
    rw [hq.out]
    clear hq A1 A2 A4 A5 A6 A7
    go_enter Try.func10, Try.ntmps10
    go_wp2_with fail
    rw [← hw0]
    clear hw0
    refine HU.out.mono ?_
    rintro q w1 ⟨rfl, b1⟩
    have HB1 := Lib.hid (HB.out.trans (b1.mono HB.out.size))
    have HK1 := Lib.hid (HK.out.below b1)
    obtain ⟨⟨e0, e1, e2⟩, e3, e4, e5⟩ := HK1.out.keep
    obtain ⟨f0, f1, f2⟩ := HK1.out.free
    clear b1 HU HB HK
    go_wp2_with (first
      | (go_at_call 23; (first | (with_reducible refine (HCU.out _).mono ?_)); rintro r w9 ⟨rfl, rfl⟩)
      | (go_at_call 29; (first | (with_reducible refine (HEN.out _).mono ?_)); rintro r w9 ⟨rfl, rfl⟩)
      | (go_at_call 28; (first | (with_reducible refine (HTB.out _).mono ?_)); rintro r w9 ⟨rfl, rfl⟩)
      | (go_at_call 24; (first | (with_reducible refine (HR1.out _).mono ?_) | (with_reducible refine (HR2.out _).mono ?_) | (with_reducible refine (HR3.out _).mono ?_)); rintro r w9 ⟨rfl, rfl⟩)
      | (go_at_call 25; (first | (with_reducible refine (HN1.out _).mono ?_) | (with_reducible refine (HN2.out _).mono ?_) | (with_reducible refine (HN3.out _).mono ?_)); rintro r w9 ⟨rfl, rfl⟩))
    obtain ⟨j0, j1, j2⟩ := HK1.out.puts (.int .i64 0) (.int .i64 0) (.int .i64 0)
    exact bodyPost_ret (v := .tuple #[partV 0 0 0, .int .i64 2]) (by simp [results, Try.results10, go_sem, j0, j1, j2]) rfl ⟨rfl, put3_below HB1.out _ _ _⟩
  rw [decide_eq_false h1] at E1
  have p1' : 0 < x1.size := by omega
  have HTB := Lib.hid (HTB0 p1')
  clear HTB0
  cases hzt : zt
  · subst hzt
    have hq := Lib.hid (A2 rfl (.inr rfl))
    rw [hq.out]
    clear hq A1 A2 A4 A5 A6 A7
    go_enter Try.func10, Try.ntmps10
    go_wp2_with fail
    rw [← hw0]
    clear hw0
    refine HU.out.mono ?_
    rintro q w1 ⟨rfl, b1⟩
    have HB1 := Lib.hid (HB.out.trans (b1.mono HB.out.size))
    have HK1 := Lib.hid (HK.out.below b1)
    obtain ⟨⟨e0, e1, e2⟩, e3, e4, e5⟩ := HK1.out.keep
    obtain ⟨f0, f1, f2⟩ := HK1.out.free
    clear b1 HU HB HK
    go_wp2_with (first
      | (go_at_call 23; (first | (with_reducible refine (HCU.out _).mono ?_)); rintro r w9 ⟨rfl, rfl⟩)
      | (go_at_call 29; (first | (with_reducible refine (HEN.out _).mono ?_)); rintro r w9 ⟨rfl, rfl⟩)
      | (go_at_call 28; (first | (with_reducible refine (HTB.out _).mono ?_)); rintro r w9 ⟨rfl, rfl⟩)
      | (go_at_call 24; (first | (with_reducible refine (HR1.out _).mono ?_) | (with_reducible refine (HR2.out _).mono ?_) | (with_reducible refine (HR3.out _).mono ?_)); rintro r w9 ⟨rfl, rfl⟩)
      | (go_at_call 25; (first | (with_reducible refine (HN1.out _).mono ?_) | (with_reducible refine (HN2.out _).mono ?_) | (with_reducible refine (HN3.out _).mono ?_)); rintro r w9 ⟨rfl, rfl⟩))
    obtain ⟨j0, j1, j2⟩ := HK1.out.puts (.int .i64 0) (.int .i64 0) (.int .i64 0)
    exact bodyPost_ret (v := .tuple #[partV 0 0 0, .int .i64 2]) (by simp [results, Try.results10, go_sem, j0, j1, j2]) rfl ⟨rfl, put3_below HB1.out _ _ _⟩
  subst hzt
  have vT := head_byte t hT 42
  rw [qT] at vT
  replace vT : ((t[0].toNat : Int) == 42) = true := vT
  have wT : t[0].toNat = 42 := by have := eq_of_beq vT; omega
  have pT' : (1 : Int) ≤ (t.size : Int) := by omega
  by_cases hu0 : u.size = 0
  · have qu : atB u 0 47 = false := atB_out (by omega)
    rw [decide_eq_true hu0] at EU
    have hq := Lib.hid (A4 rfl rfl qu)
    rw [hq.out]
    clear hq A1 A2 A4 A5 A6 A7
    go_enter Try.func10, Try.ntmps10
    go_wp2_with fail
    rw [← hw0]
    clear hw0
    refine HU.out.mono ?_
    rintro q w1 ⟨rfl, b1⟩
    have HB1 := Lib.hid (HB.out.trans (b1.mono HB.out.size))
    have HK1 := Lib.hid (HK.out.below b1)
    obtain ⟨⟨e0, e1, e2⟩, e3, e4, e5⟩ := HK1.out.keep
    obtain ⟨f0, f1, f2⟩ := HK1.out.free
    clear b1 HU HB HK
    go_upto_region 17 with (first
      | (go_at_call 23; (first | (with_reducible refine (HCU.out _).mono ?_)); rintro r w9 ⟨rfl, rfl⟩)
      | (go_at_call 29; (first | (with_reducible refine (HEN.out _).mono ?_)); rintro r w9 ⟨rfl, rfl⟩)
      | (go_at_call 28; (first | (with_reducible refine (HTB.out _).mono ?_)); rintro r w9 ⟨rfl, rfl⟩)
      | (go_at_call 24; (first | (with_reducible refine (HR1.out _).mono ?_) | (with_reducible refine (HR2.out _).mono ?_) | (with_reducible refine (HR3.out _).mono ?_)); rintro r w9 ⟨rfl, rfl⟩)
      | (go_at_call 25; (first | (with_reducible refine (HN1.out _).mono ?_) | (with_reducible refine (HN2.out _).mono ?_) | (with_reducible refine (HN3.out _).mono ?_)); rintro r w9 ⟨rfl, rfl⟩))
    rw [← hu.out]
    go_wp2_with (first
      | (go_at_call 23; (first | (with_reducible refine (HCU.out _).mono ?_)); rintro r w9 ⟨rfl, rfl⟩)
      | (go_at_call 29; (first | (with_reducible refine (HEN.out _).mono ?_)); rintro r w9 ⟨rfl, rfl⟩)
      | (go_at_call 28; (first | (with_reducible refine (HTB.out _).mono ?_)); rintro r w9 ⟨rfl, rfl⟩)
      | (go_at_call 24; (first | (with_reducible refine (HR1.out _).mono ?_) | (with_reducible refine (HR2.out _).mono ?_) | (with_reducible refine (HR3.out _).mono ?_)); rintro r w9 ⟨rfl, rfl⟩)
      | (go_at_call 25; (first | (with_reducible refine (HN1.out _).mono ?_) | (with_reducible refine (HN2.out _).mono ?_) | (with_reducible refine (HN3.out _).mono ?_)); rintro r w9 ⟨rfl, rfl⟩))
    obtain ⟨j0, j1, j2⟩ := HK1.out.puts (.int .i64 0) (.int .i64 0) (.int .i64 0)
    exact bodyPost_ret (v := .tuple #[partV 0 0 0, .int .i64 2]) (by simp [results, Try.results10, go_sem, j0, j1, j2]) rfl ⟨rfl, put3_below HB1.out _ _ _⟩
  rw [decide_eq_false hu0] at EU
  have pu : 0 < u.size := by omega
  have pu' : (1 : Int) ≤ (u.size : Int) := by omega
  have vu := head_byte u pu 47
  cases qu : atB u 0 47
  · rw [qu] at vu
    replace vu : ((u[0].toNat : Int) == 47) = false := vu
    have hq := Lib.hid (A4 rfl rfl qu)
    rw [hq.out]
    clear hq A1 A2 A4 A5 A6 A7
    go_enter Try.func10, Try.ntmps10
    go_wp2_with fail
    rw [← hw0]
    clear hw0
    refine HU.out.mono ?_
    rintro q w1 ⟨rfl, b1⟩
    have HB1 := Lib.hid (HB.out.trans (b1.mono HB.out.size))
    have HK1 := Lib.hid (HK.out.below b1)
    obtain ⟨⟨e0, e1, e2⟩, e3, e4, e5⟩ := HK1.out.keep
    obtain ⟨f0, f1, f2⟩ := HK1.out.free
    clear b1 HU HB HK
    go_upto_region 17 with (first
      | (go_at_call 23; (first | (with_reducible refine (HCU.out _).mono ?_)); rintro r w9 ⟨rfl, rfl⟩)
      | (go_at_call 29; (first | (with_reducible refine (HEN.out _).mono ?_)); rintro r w9 ⟨rfl, rfl⟩)
      | (go_at_call 28; (first | (with_reducible refine (HTB.out _).mono ?_)); rintro r w9 ⟨rfl, rfl⟩)
      | (go_at_call 24; (first | (with_reducible refine (HR1.out _).mono ?_) | (with_reducible refine (HR2.out _).mono ?_) | (with_reducible refine (HR3.out _).mono ?_)); rintro r w9 ⟨rfl, rfl⟩)
      | (go_at_call 25; (first | (with_reducible refine (HN1.out _).mono ?_) | (with_reducible refine (HN2.out _).mono ?_) | (with_reducible refine (HN3.out _).mono ?_)); rintro r w9 ⟨rfl, rfl⟩))
    rw [← hu.out]
    go_wp2_with (first
      | (go_at_call 23; (first | (with_reducible refine (HCU.out _).mono ?_)); rintro r w9 ⟨rfl, rfl⟩)
      | (go_at_call 29; (first | (with_reducible refine (HEN.out _).mono ?_)); rintro r w9 ⟨rfl, rfl⟩)
      | (go_at_call 28; (first | (with_reducible refine (HTB.out _).mono ?_)); rintro r w9 ⟨rfl, rfl⟩)
      | (go_at_call 24; (first | (with_reducible refine (HR1.out _).mono ?_) | (with_reducible refine (HR2.out _).mono ?_) | (with_reducible refine (HR3.out _).mono ?_)); rintro r w9 ⟨rfl, rfl⟩)
      | (go_at_call 25; (first | (with_reducible refine (HN1.out _).mono ?_) | (with_reducible refine (HN2.out _).mono ?_) | (with_reducible refine (HN3.out _).mono ?_)); rintro r w9 ⟨rfl, rfl⟩))
    obtain ⟨j0, j1, j2⟩ := HK1.out.puts (.int .i64 0) (.int .i64 0) (.int .i64 0)
    exact bodyPost_ret (v := .tuple #[partV 0 0 0, .int .i64 2]) (by simp [results, Try.results10, go_sem, j0, j1, j2]) rfl ⟨rfl, put3_below HB1.out _ _ _⟩
  rw [qu] at vu
  replace vu : ((u[0].toNat : Int) == 47) = true := vu
  have wu : u[0].toNat = 47 := by have := eq_of_beq vu; omega
  by_cases hr0 : r.size = 0
  · rw [decide_eq_true hr0] at ER
    have hq := Lib.hid (A5 rfl rfl qu (.inl hr0))
    rw [hq.out]
    clear hq A1 A2 A4 A5 A6 A7
    go_enter Try.func10, Try.ntmps10
    go_wp2_with fail
    rw [← hw0]
    clear hw0
    refine HU.out.mono ?_
    rintro q w1 ⟨rfl, b1⟩
    have HB1 := Lib.hid (HB.out.trans (b1.mono HB.out.size))
    have HK1 := Lib.hid (HK.out.below b1)
    obtain ⟨⟨e0, e1, e2⟩, e3, e4, e5⟩ := HK1.out.keep
    obtain ⟨f0, f1, f2⟩ := HK1.out.free
    clear b1 HU HB HK
    go_upto_region 17 with (first
      | (go_at_call 23; (first | (with_reducible refine (HCU.out _).mono ?_)); rintro r w9 ⟨rfl, rfl⟩)
      | (go_at_call 29; (first | (with_reducible refine (HEN.out _).mono ?_)); rintro r w9 ⟨rfl, rfl⟩)
      | (go_at_call 28; (first | (with_reducible refine (HTB.out _).mono ?_)); rintro r w9 ⟨rfl, rfl⟩)
      | (go_at_call 24; (first | (with_reducible refine (HR1.out _).mono ?_) | (with_reducible refine (HR2.out _).mono ?_) | (with_reducible refine (HR3.out _).mono ?_)); rintro r w9 ⟨rfl, rfl⟩)
      | (go_at_call 25; (first | (with_reducible refine (HN1.out _).mono ?_) | (with_reducible refine (HN2.out _).mono ?_) | (with_reducible refine (HN3.out _).mono ?_)); rintro r w9 ⟨rfl, rfl⟩))
    rw [← hu.out]
    go_upto_region 20 with (first
      | (go_at_call 23; (first | (with_reducible refine (HCU.out _).mono ?_)); rintro r w9 ⟨rfl, rfl⟩)
      | (go_at_call 29; (first | (with_reducible refine (HEN.out _).mono ?_)); rintro r w9 ⟨rfl, rfl⟩)
      | (go_at_call 28; (first | (with_reducible refine (HTB.out _).mono ?_)); rintro r w9 ⟨rfl, rfl⟩)
      | (go_at_call 24; (first | (with_reducible refine (HR1.out _).mono ?_) | (with_reducible refine (HR2.out _).mono ?_) | (with_reducible refine (HR3.out _).mono ?_)); rintro r w9 ⟨rfl, rfl⟩)
      | (go_at_call 25; (first | (with_reducible refine (HN1.out _).mono ?_) | (with_reducible refine (HN2.out _).mono ?_) | (with_reducible refine (HN3.out _).mono ?_)); rintro r w9 ⟨rfl, rfl⟩))
    rw [← hr.out]
    go_wp2_with (first
      | (go_at_call 23; (first | (with_reducible refine (HCU.out _).mono ?_)); rintro r w9 ⟨rfl, rfl⟩)
      | (go_at_call 29; (first | (with_reducible refine (HEN.out _).mono ?_)); rintro r w9 ⟨rfl, rfl⟩)
      | (go_at_call 28; (first | (with_reducible refine (HTB.out _).mono ?_)); rintro r w9 ⟨rfl, rfl⟩)
      | (go_at_call 24; (first | (with_reducible refine (HR1.out _).mono ?_) | (with_reducible refine (HR2.out _).mono ?_) | (with_reducible refine (HR3.out _).mono ?_)); rintro r w9 ⟨rfl, rfl⟩)
      | (go_at_call 25; (first | (with_reducible refine (HN1.out _).mono ?_) | (with_reducible refine (HN2.out _).mono ?_) | (with_reducible refine (HN3.out _).mono ?_)); rintro r w9 ⟨rfl, rfl⟩))
    obtain ⟨j0, j1, j2⟩ := HK1.out.puts (.int .i64 0) (.int .i64 0) (.int .i64 0)
    exact bodyPost_ret (v := .tuple #[partV 0 0 0, .int .i64 2]) (by simp [results, Try.results10, go_sem, j0, j1, j2]) rfl ⟨rfl, put3_below HB1.out _ _ _⟩
  rw [decide_eq_false hr0] at ER
  by_cases hk3 : (k3 : Int) = r.size
  rotate_left
  · have d3 : ((k3 : Int) == (r.size : Int)) = false := beq_false_of_ne hk3
    have hq := Lib.hid (A5 rfl rfl qu (.inr hk3))
    rw [hq.out]
    clear hq A1 A2 A4 A5 A6 A7
    go_enter Try.func10, Try.ntmps10
    go_wp2_with fail
    rw [← hw0]
    clear hw0
    refine HU.out.mono ?_
    rintro q w1 ⟨rfl, b1⟩
    have HB1 := Lib.hid (HB.out.trans (b1.mono HB.out.size))
    have HK1 := Lib.hid (HK.out.below b1)
    obtain ⟨⟨e0, e1, e2⟩, e3, e4, e5⟩ := HK1.out.keep
    obtain ⟨f0, f1, f2⟩ := HK1.out.free
    clear b1 HU HB HK
    go_upto_region 17 with (first
      | (go_at_call 23; (first | (with_reducible refine (HCU.out _).mono ?_)); rintro r w9 ⟨rfl, rfl⟩)
      | (go_at_call 29; (first | (with_reducible refine (HEN.out _).mono ?_)); rintro r w9 ⟨rfl, rfl⟩)
      | (go_at_call 28; (first | (with_reducible refine (HTB.out _).mono ?_)); rintro r w9 ⟨rfl, rfl⟩)
      | (go_at_call 24; (first | (with_reducible refine (HR1.out _).mono ?_) | (with_reducible refine (HR2.out _).mono ?_) | (with_reducible refine (HR3.out _).mono ?_)); rintro r w9 ⟨rfl, rfl⟩)
      | (go_at_call 25; (first | (with_reducible refine (HN1.out _).mono ?_) | (with_reducible refine (HN2.out _).mono ?_) | (with_reducible refine (HN3.out _).mono ?_)); rintro r w9 ⟨rfl, rfl⟩))
    rw [← hu.out]
    go_upto_region 20 with (first
      | (go_at_call 23; (first | (with_reducible refine (HCU.out _).mono ?_)); rintro r w9 ⟨rfl, rfl⟩)
      | (go_at_call 29; (first | (with_reducible refine (HEN.out _).mono ?_)); rintro r w9 ⟨rfl, rfl⟩)
      | (go_at_call 28; (first | (with_reducible refine (HTB.out _).mono ?_)); rintro r w9 ⟨rfl, rfl⟩)
      | (go_at_call 24; (first | (with_reducible refine (HR1.out _).mono ?_) | (with_reducible refine (HR2.out _).mono ?_) | (with_reducible refine (HR3.out _).mono ?_)); rintro r w9 ⟨rfl, rfl⟩)
      | (go_at_call 25; (first | (with_reducible refine (HN1.out _).mono ?_) | (with_reducible refine (HN2.out _).mono ?_) | (with_reducible refine (HN3.out _).mono ?_)); rintro r w9 ⟨rfl, rfl⟩))
    rw [← hr.out]
    go_wp2_with (first
      | (go_at_call 23; (first | (with_reducible refine (HCU.out _).mono ?_)); rintro r w9 ⟨rfl, rfl⟩)
      | (go_at_call 29; (first | (with_reducible refine (HEN.out _).mono ?_)); rintro r w9 ⟨rfl, rfl⟩)
      | (go_at_call 28; (first | (with_reducible refine (HTB.out _).mono ?_)); rintro r w9 ⟨rfl, rfl⟩)
      | (go_at_call 24; (first | (with_reducible refine (HR1.out _).mono ?_) | (with_reducible refine (HR2.out _).mono ?_) | (with_reducible refine (HR3.out _).mono ?_)); rintro r w9 ⟨rfl, rfl⟩)
      | (go_at_call 25; (first | (with_reducible refine (HN1.out _).mono ?_) | (with_reducible refine (HN2.out _).mono ?_) | (with_reducible refine (HN3.out _).mono ?_)); rintro r w9 ⟨rfl, rfl⟩))
    obtain ⟨j0, j1, j2⟩ := HK1.out.puts (.int .i64 0) (.int .i64 0) (.int .i64 0)
    exact bodyPost_ret (v := .tuple #[partV 0 0 0, .int .i64 2]) (by simp [results, Try.results10, go_sem, j0, j1, j2]) rfl ⟨rfl, put3_below HB1.out _ _ _⟩
  have d3 : ((k3 : Int) == (r.size : Int)) = true := beq_iff_eq.2 hk3
  have HK3 := Lib.hid hk3
  clear hk3
  cases ba
  · have hq := Lib.hid (A6 rfl rfl qu hr0 HK3.out (.inl rfl))
    rw [hq.out]
    clear hq A1 A2 A4 A5 A6 A7
    go_enter Try.func10, Try.ntmps10
    go_wp2_with fail
    rw [← hw0]
    clear hw0
    refine HU.out.mono ?_
    rintro q w1 ⟨rfl, b1⟩
    have HB1 := Lib.hid (HB.out.trans (b1.mono HB.out.size))
    have HK1 := Lib.hid (HK.out.below b1)
    obtain ⟨⟨e0, e1, e2⟩, e3, e4, e5⟩ := HK1.out.keep
    obtain ⟨f0, f1, f2⟩ := HK1.out.free
    clear b1 HU HB HK
    go_upto_region 17 with (first
      | (go_at_call 23; (first | (with_reducible refine (HCU.out _).mono ?_)); rintro r w9 ⟨rfl, rfl⟩)
      | (go_at_call 29; (first | (with_reducible refine (HEN.out _).mono ?_)); rintro r w9 ⟨rfl, rfl⟩)
      | (go_at_call 28; (first | (with_reducible refine (HTB.out _).mono ?_)); rintro r w9 ⟨rfl, rfl⟩)
      | (go_at_call 24; (first | (with_reducible refine (HR1.out _).mono ?_) | (with_reducible refine (HR2.out _).mono ?_) | (with_reducible refine (HR3.out _).mono ?_)); rintro r w9 ⟨rfl, rfl⟩)
      | (go_at_call 25; (first | (with_reducible refine (HN1.out _).mono ?_) | (with_reducible refine (HN2.out _).mono ?_) | (with_reducible refine (HN3.out _).mono ?_)); rintro r w9 ⟨rfl, rfl⟩))
    rw [← hu.out]
    go_upto_region 20 with (first
      | (go_at_call 23; (first | (with_reducible refine (HCU.out _).mono ?_)); rintro r w9 ⟨rfl, rfl⟩)
      | (go_at_call 29; (first | (with_reducible refine (HEN.out _).mono ?_)); rintro r w9 ⟨rfl, rfl⟩)
      | (go_at_call 28; (first | (with_reducible refine (HTB.out _).mono ?_)); rintro r w9 ⟨rfl, rfl⟩)
      | (go_at_call 24; (first | (with_reducible refine (HR1.out _).mono ?_) | (with_reducible refine (HR2.out _).mono ?_) | (with_reducible refine (HR3.out _).mono ?_)); rintro r w9 ⟨rfl, rfl⟩)
      | (go_at_call 25; (first | (with_reducible refine (HN1.out _).mono ?_) | (with_reducible refine (HN2.out _).mono ?_) | (with_reducible refine (HN3.out _).mono ?_)); rintro r w9 ⟨rfl, rfl⟩))
    rw [← hr.out]
    go_upto_region 28 with (first
      | (go_at_call 23; (first | (with_reducible refine (HCU.out _).mono ?_)); rintro r w9 ⟨rfl, rfl⟩)
      | (go_at_call 29; (first | (with_reducible refine (HEN.out _).mono ?_)); rintro r w9 ⟨rfl, rfl⟩)
      | (go_at_call 28; (first | (with_reducible refine (HTB.out _).mono ?_)); rintro r w9 ⟨rfl, rfl⟩)
      | (go_at_call 24; (first | (with_reducible refine (HR1.out _).mono ?_) | (with_reducible refine (HR2.out _).mono ?_) | (with_reducible refine (HR3.out _).mono ?_)); rintro r w9 ⟨rfl, rfl⟩)
      | (go_at_call 25; (first | (with_reducible refine (HN1.out _).mono ?_) | (with_reducible refine (HN2.out _).mono ?_) | (with_reducible refine (HN3.out _).mono ?_)); rintro r w9 ⟨rfl, rfl⟩))
    obtain ⟨w7, hw7⟩ : ∃ w7, w7 = w1.alloc (partC a a c) := ⟨_, rfl⟩
    rw [← hw7]
    have HP := Lib.hid (show Blk w7 w1.heap.size 29 #[.int .i64 a, .int .i64 a, .int .i64 c] from by rw [hw7]; exact Blk.new _ _ _)
    replace HB1 := Lib.hid (show Below w.heap.size w w7 from by rw [hw7]; exact HB1.out.alloc HB1.out.size _)
    replace HK1 := Lib.hid (show TwoP w.heap.size w7 from by rw [hw7]; exact ⟨HK1.out.r.alloc _, HK1.out.n.alloc _⟩)
    clear hw7 e0 e1 e2 e3 e4 e5 f0 f1 f2
    obtain ⟨⟨e0, e1, e2⟩, e3, e4, e5⟩ := HK1.out.keep
    obtain ⟨f0, f1, f2⟩ := HK1.out.free
    have p0 := HP.out.cell 0
    have p1 := HP.out.cell 1
    have p2 := HP.out.cell 2
    go_wp2_with fail
    obtain ⟨j0, j1, j2⟩ := HK1.out.puts (.int .i64 0) (.int .i64 0) (.int .i64 0)
    exact bodyPost_ret (v := .tuple #[partV 0 0 0, .int .i64 9]) (by simp [results, Try.results10, go_sem, j0, j1, j2]) rfl ⟨rfl, put3_below HB1.out _ _ _⟩
  cases bc
  · have hq := Lib.hid (A6 rfl rfl qu hr0 HK3.out (.inr (.inl rfl)))
    rw [hq.out]
    clear hq A1 A2 A4 A5 A6 A7
    go_enter Try.func10, Try.ntmps10
    go_wp2_with fail
    rw [← hw0]
    clear hw0
    refine HU.out.mono ?_
    rintro q w1 ⟨rfl, b1⟩
    have HB1 := Lib.hid (HB.out.trans (b1.mono HB.out.size))
    have HK1 := Lib.hid (HK.out.below b1)
    obtain ⟨⟨e0, e1, e2⟩, e3, e4, e5⟩ := HK1.out.keep
    obtain ⟨f0, f1, f2⟩ := HK1.out.free
    clear b1 HU HB HK
    go_upto_region 17 with (first
      | (go_at_call 23; (first | (with_reducible refine (HCU.out _).mono ?_)); rintro r w9 ⟨rfl, rfl⟩)
      | (go_at_call 29; (first | (with_reducible refine (HEN.out _).mono ?_)); rintro r w9 ⟨rfl, rfl⟩)
      | (go_at_call 28; (first | (with_reducible refine (HTB.out _).mono ?_)); rintro r w9 ⟨rfl, rfl⟩)
      | (go_at_call 24; (first | (with_reducible refine (HR1.out _).mono ?_) | (with_reducible refine (HR2.out _).mono ?_) | (with_reducible refine (HR3.out _).mono ?_)); rintro r w9 ⟨rfl, rfl⟩)
      | (go_at_call 25; (first | (with_reducible refine (HN1.out _).mono ?_) | (with_reducible refine (HN2.out _).mono ?_) | (with_reducible refine (HN3.out _).mono ?_)); rintro r w9 ⟨rfl, rfl⟩))
    rw [← hu.out]
    go_upto_region 20 with (first
      | (go_at_call 23; (first | (with_reducible refine (HCU.out _).mono ?_)); rintro r w9 ⟨rfl, rfl⟩)
      | (go_at_call 29; (first | (with_reducible refine (HEN.out _).mono ?_)); rintro r w9 ⟨rfl, rfl⟩)
      | (go_at_call 28; (first | (with_reducible refine (HTB.out _).mono ?_)); rintro r w9 ⟨rfl, rfl⟩)
      | (go_at_call 24; (first | (with_reducible refine (HR1.out _).mono ?_) | (with_reducible refine (HR2.out _).mono ?_) | (with_reducible refine (HR3.out _).mono ?_)); rintro r w9 ⟨rfl, rfl⟩)
      | (go_at_call 25; (first | (with_reducible refine (HN1.out _).mono ?_) | (with_reducible refine (HN2.out _).mono ?_) | (with_reducible refine (HN3.out _).mono ?_)); rintro r w9 ⟨rfl, rfl⟩))
    rw [← hr.out]
    go_upto_region 28 with (first
      | (go_at_call 23; (first | (with_reducible refine (HCU.out _).mono ?_)); rintro r w9 ⟨rfl, rfl⟩)
      | (go_at_call 29; (first | (with_reducible refine (HEN.out _).mono ?_)); rintro r w9 ⟨rfl, rfl⟩)
      | (go_at_call 28; (first | (with_reducible refine (HTB.out _).mono ?_)); rintro r w9 ⟨rfl, rfl⟩)
      | (go_at_call 24; (first | (with_reducible refine (HR1.out _).mono ?_) | (with_reducible refine (HR2.out _).mono ?_) | (with_reducible refine (HR3.out _).mono ?_)); rintro r w9 ⟨rfl, rfl⟩)
      | (go_at_call 25; (first | (with_reducible refine (HN1.out _).mono ?_) | (with_reducible refine (HN2.out _).mono ?_) | (with_reducible refine (HN3.out _).mono ?_)); rintro r w9 ⟨rfl, rfl⟩))
    obtain ⟨w7, hw7⟩ : ∃ w7, w7 = w1.alloc (partC a a c) := ⟨_, rfl⟩
    rw [← hw7]
    have HP := Lib.hid (show Blk w7 w1.heap.size 29 #[.int .i64 a, .int .i64 a, .int .i64 c] from by rw [hw7]; exact Blk.new _ _ _)
    replace HB1 := Lib.hid (show Below w.heap.size w w7 from by rw [hw7]; exact HB1.out.alloc HB1.out.size _)
    replace HK1 := Lib.hid (show TwoP w.heap.size w7 from by rw [hw7]; exact ⟨HK1.out.r.alloc _, HK1.out.n.alloc _⟩)
    clear hw7 e0 e1 e2 e3 e4 e5 f0 f1 f2
    obtain ⟨⟨e0, e1, e2⟩, e3, e4, e5⟩ := HK1.out.keep
    obtain ⟨f0, f1, f2⟩ := HK1.out.free
    have p0 := HP.out.cell 0
    have p1 := HP.out.cell 1
    have p2 := HP.out.cell 2
    go_wp2_with fail
    obtain ⟨j0, j1, j2⟩ := HK1.out.puts (.int .i64 0) (.int .i64 0) (.int .i64 0)
    exact bodyPost_ret (v := .tuple #[partV 0 0 0, .int .i64 9]) (by simp [results, Try.results10, go_sem, j0, j1, j2]) rfl ⟨rfl, put3_below HB1.out _ _ _⟩
  cases good
  · have hq := Lib.hid (A6 rfl rfl qu hr0 HK3.out (.inr (.inr rfl)))
    rw [hq.out]
    clear hq A1 A2 A4 A5 A6 A7
    go_enter Try.func10, Try.ntmps10
    go_wp2_with fail
    rw [← hw0]
    clear hw0
    refine HU.out.mono ?_
    rintro q w1 ⟨rfl, b1⟩
    have HB1 := Lib.hid (HB.out.trans (b1.mono HB.out.size))
    have HK1 := Lib.hid (HK.out.below b1)
    obtain ⟨⟨e0, e1, e2⟩, e3, e4, e5⟩ := HK1.out.keep
    obtain ⟨f0, f1, f2⟩ := HK1.out.free
    clear b1 HU HB HK
    go_upto_region 17 with (first
      | (go_at_call 23; (first | (with_reducible refine (HCU.out _).mono ?_)); rintro r w9 ⟨rfl, rfl⟩)
      | (go_at_call 29; (first | (with_reducible refine (HEN.out _).mono ?_)); rintro r w9 ⟨rfl, rfl⟩)
      | (go_at_call 28; (first | (with_reducible refine (HTB.out _).mono ?_)); rintro r w9 ⟨rfl, rfl⟩)
      | (go_at_call 24; (first | (with_reducible refine (HR1.out _).mono ?_) | (with_reducible refine (HR2.out _).mono ?_) | (with_reducible refine (HR3.out _).mono ?_)); rintro r w9 ⟨rfl, rfl⟩)
      | (go_at_call 25; (first | (with_reducible refine (HN1.out _).mono ?_) | (with_reducible refine (HN2.out _).mono ?_) | (with_reducible refine (HN3.out _).mono ?_)); rintro r w9 ⟨rfl, rfl⟩))
    rw [← hu.out]
    go_upto_region 20 with (first
      | (go_at_call 23; (first | (with_reducible refine (HCU.out _).mono ?_)); rintro r w9 ⟨rfl, rfl⟩)
      | (go_at_call 29; (first | (with_reducible refine (HEN.out _).mono ?_)); rintro r w9 ⟨rfl, rfl⟩)
      | (go_at_call 28; (first | (with_reducible refine (HTB.out _).mono ?_)); rintro r w9 ⟨rfl, rfl⟩)
      | (go_at_call 24; (first | (with_reducible refine (HR1.out _).mono ?_) | (with_reducible refine (HR2.out _).mono ?_) | (with_reducible refine (HR3.out _).mono ?_)); rintro r w9 ⟨rfl, rfl⟩)
      | (go_at_call 25; (first | (with_reducible refine (HN1.out _).mono ?_) | (with_reducible refine (HN2.out _).mono ?_) | (with_reducible refine (HN3.out _).mono ?_)); rintro r w9 ⟨rfl, rfl⟩))
    rw [← hr.out]
    go_upto_region 28 with (first
      | (go_at_call 23; (first | (with_reducible refine (HCU.out _).mono ?_)); rintro r w9 ⟨rfl, rfl⟩)
      | (go_at_call 29; (first | (with_reducible refine (HEN.out _).mono ?_)); rintro r w9 ⟨rfl, rfl⟩)
      | (go_at_call 28; (first | (with_reducible refine (HTB.out _).mono ?_)); rintro r w9 ⟨rfl, rfl⟩)
      | (go_at_call 24; (first | (with_reducible refine (HR1.out _).mono ?_) | (with_reducible refine (HR2.out _).mono ?_) | (with_reducible refine (HR3.out _).mono ?_)); rintro r w9 ⟨rfl, rfl⟩)
      | (go_at_call 25; (first | (with_reducible refine (HN1.out _).mono ?_) | (with_reducible refine (HN2.out _).mono ?_) | (with_reducible refine (HN3.out _).mono ?_)); rintro r w9 ⟨rfl, rfl⟩))
    obtain ⟨w7, hw7⟩ : ∃ w7, w7 = w1.alloc (partC a a c) := ⟨_, rfl⟩
    rw [← hw7]
    have HP := Lib.hid (show Blk w7 w1.heap.size 29 #[.int .i64 a, .int .i64 a, .int .i64 c] from by rw [hw7]; exact Blk.new _ _ _)
    replace HB1 := Lib.hid (show Below w.heap.size w w7 from by rw [hw7]; exact HB1.out.alloc HB1.out.size _)
    replace HK1 := Lib.hid (show TwoP w.heap.size w7 from by rw [hw7]; exact ⟨HK1.out.r.alloc _, HK1.out.n.alloc _⟩)
    clear hw7 e0 e1 e2 e3 e4 e5 f0 f1 f2
    obtain ⟨⟨e0, e1, e2⟩, e3, e4, e5⟩ := HK1.out.keep
    obtain ⟨f0, f1, f2⟩ := HK1.out.free
    have p0 := HP.out.cell 0
    have p1 := HP.out.cell 1
    have p2 := HP.out.cell 2
    go_wp2_with fail
    refine (HG.out _).mono ?_
    rintro q w8 ⟨rfl, b8⟩
    replace HB1 := Lib.hid (below_on HB1.out b8)
    replace HK1 := Lib.hid (HK1.out.below b8)
    replace HP := Lib.hid (HP.out.below b8 HP.out.lt)
    clear e0 e1 e2 e3 e4 e5 f0 f1 f2 p0 p1 p2 b8
    obtain ⟨⟨e0, e1, e2⟩, e3, e4, e5⟩ := HK1.out.keep
    obtain ⟨f0, f1, f2⟩ := HK1.out.free
    have p0 := HP.out.cell 0
    have p1 := HP.out.cell 1
    have p2 := HP.out.cell 2
    go_wp2_with fail
    obtain ⟨j0, j1, j2⟩ := HK1.out.puts (.int .i64 0) (.int .i64 0) (.int .i64 0)
    exact bodyPost_ret (v := .tuple #[partV 0 0 0, .int .i64 9]) (by simp [results, Try.results10, go_sem, j0, j1, j2]) rfl ⟨rfl, put3_below HB1.out _ _ _⟩
  · have hq := Lib.hid (A7 rfl rfl qu hr0 HK3.out rfl rfl rfl)
    rw [hq.out]
    clear hq A1 A2 A4 A5 A6 A7
    go_enter Try.func10, Try.ntmps10
    go_wp2_with fail
    rw [← hw0]
    clear hw0
    refine HU.out.mono ?_
    rintro q w1 ⟨rfl, b1⟩
    have HB1 := Lib.hid (HB.out.trans (b1.mono HB.out.size))
    have HK1 := Lib.hid (HK.out.below b1)
    obtain ⟨⟨e0, e1, e2⟩, e3, e4, e5⟩ := HK1.out.keep
    obtain ⟨f0, f1, f2⟩ := HK1.out.free
    clear b1 HU HB HK
    go_upto_region 17 with (first
      | (go_at_call 23; (first | (with_reducible refine (HCU.out _).mono ?_)); rintro r w9 ⟨rfl, rfl⟩)
      | (go_at_call 29; (first | (with_reducible refine (HEN.out _).mono ?_)); rintro r w9 ⟨rfl, rfl⟩)
      | (go_at_call 28; (first | (with_reducible refine (HTB.out _).mono ?_)); rintro r w9 ⟨rfl, rfl⟩)
      | (go_at_call 24; (first | (with_reducible refine (HR1.out _).mono ?_) | (with_reducible refine (HR2.out _).mono ?_) | (with_reducible refine (HR3.out _).mono ?_)); rintro r w9 ⟨rfl, rfl⟩)
      | (go_at_call 25; (first | (with_reducible refine (HN1.out _).mono ?_) | (with_reducible refine (HN2.out _).mono ?_) | (with_reducible refine (HN3.out _).mono ?_)); rintro r w9 ⟨rfl, rfl⟩))
    rw [← hu.out]
    go_upto_region 20 with (first
      | (go_at_call 23; (first | (with_reducible refine (HCU.out _).mono ?_)); rintro r w9 ⟨rfl, rfl⟩)
      | (go_at_call 29; (first | (with_reducible refine (HEN.out _).mono ?_)); rintro r w9 ⟨rfl, rfl⟩)
      | (go_at_call 28; (first | (with_reducible refine (HTB.out _).mono ?_)); rintro r w9 ⟨rfl, rfl⟩)
      | (go_at_call 24; (first | (with_reducible refine (HR1.out _).mono ?_) | (with_reducible refine (HR2.out _).mono ?_) | (with_reducible refine (HR3.out _).mono ?_)); rintro r w9 ⟨rfl, rfl⟩)
      | (go_at_call 25; (first | (with_reducible refine (HN1.out _).mono ?_) | (with_reducible refine (HN2.out _).mono ?_) | (with_reducible refine (HN3.out _).mono ?_)); rintro r w9 ⟨rfl, rfl⟩))
    rw [← hr.out]
    go_upto_region 28 with (first
      | (go_at_call 23; (first | (with_reducible refine (HCU.out _).mono ?_)); rintro r w9 ⟨rfl, rfl⟩)
      | (go_at_call 29; (first | (with_reducible refine (HEN.out _).mono ?_)); rintro r w9 ⟨rfl, rfl⟩)
      | (go_at_call 28; (first | (with_reducible refine (HTB.out _).mono ?_)); rintro r w9 ⟨rfl, rfl⟩)
      | (go_at_call 24; (first | (with_reducible refine (HR1.out _).mono ?_) | (with_reducible refine (HR2.out _).mono ?_) | (with_reducible refine (HR3.out _).mono ?_)); rintro r w9 ⟨rfl, rfl⟩)
      | (go_at_call 25; (first | (with_reducible refine (HN1.out _).mono ?_) | (with_reducible refine (HN2.out _).mono ?_) | (with_reducible refine (HN3.out _).mono ?_)); rintro r w9 ⟨rfl, rfl⟩))
    obtain ⟨w7, hw7⟩ : ∃ w7, w7 = w1.alloc (partC a a c) := ⟨_, rfl⟩
    rw [← hw7]
    have HP := Lib.hid (show Blk w7 w1.heap.size 29 #[.int .i64 a, .int .i64 a, .int .i64 c] from by rw [hw7]; exact Blk.new _ _ _)
    replace HB1 := Lib.hid (show Below w.heap.size w w7 from by rw [hw7]; exact HB1.out.alloc HB1.out.size _)
    replace HK1 := Lib.hid (show TwoP w.heap.size w7 from by rw [hw7]; exact ⟨HK1.out.r.alloc _, HK1.out.n.alloc _⟩)
    clear hw7 e0 e1 e2 e3 e4 e5 f0 f1 f2
    obtain ⟨⟨e0, e1, e2⟩, e3, e4, e5⟩ := HK1.out.keep
    obtain ⟨f0, f1, f2⟩ := HK1.out.free
    have p0 := HP.out.cell 0
    have p1 := HP.out.cell 1
    have p2 := HP.out.cell 2
    go_wp2_with fail
    refine (HG.out _).mono ?_
    rintro q w8 ⟨rfl, b8⟩
    replace HB1 := Lib.hid (below_on HB1.out b8)
    replace HK1 := Lib.hid (HK1.out.below b8)
    replace HP := Lib.hid (HP.out.below b8 HP.out.lt)
    clear e0 e1 e2 e3 e4 e5 f0 f1 f2 p0 p1 p2 b8
    obtain ⟨⟨e0, e1, e2⟩, e3, e4, e5⟩ := HK1.out.keep
    obtain ⟨f0, f1, f2⟩ := HK1.out.free
    have p0 := HP.out.cell 0
    have p1 := HP.out.cell 1
    have p2 := HP.out.cell 2
    go_wp2_with fail
    obtain ⟨j0, j1, j2⟩ := HK1.out.puts (.int .i64 a) (.int .i64 a) (.int .i64 c)
    exact bodyPost_ret (v := .tuple #[partV a a c, .int .i64 0]) (by simp [results, Try.results10, go_sem, j0, j1, j2]) rfl ⟨rfl, put3_below HB1.out _ _ _⟩

set_option maxRecDepth 100000 in
set_option maxHeartbeats 16000000 in
theorem rcontD_walk (s x1 x2 t u r : ByteArray) (z1 zt ba bc good : Bool) (k3 : Nat) (a c : Int) (A : Ending) (w : World)
    (HU0 : ∀ W, Calls Try.prog 22 #[.string s] W fun e w' => e = .returned (.tuple #[.string x1, .bool z1]) ∧ Below W.heap.size W w')
    (HTB0 : ∀ (h : 0 < x1.size) W, Calls Try.prog 28 #[.int .u8 (x1[0].toNat : Int)] W fun e w' => e = .returned (.bool zt) ∧ W = w')
    (HCU : Hid (∀ W, Calls Try.prog 23 #[.string x1] W fun e w' => e = .returned (.string x2) ∧ W = w'))
    (HEN : Hid (∀ W, Calls Try.prog 29 #[.string x2] W fun e w' => e = .returned (.string t) ∧ W = w'))
    (hT : 0 < t.size) (qT : atB t 0 42 = true) (hu : Hid (u = t.extract 1 t.size)) (hr : Hid (r = u.extract 1 u.size))
    (_HR1 : Hid True) (_HR2 : Hid True)
    (_HN1 : Hid (∀ W, Calls Try.prog 25 #[.string ⟨#[]⟩] W fun e w' => e = .returned (.tuple #[.int .i64 a, .bool ba]) ∧ W = w'))
    (_HN2 : Hid True)
    (HR3 : Hid (∀ W, Calls Try.prog 24 #[.string r] W fun e w' => e = .returned (.int .i64 k3) ∧ W = w'))
    (_HN3 : Hid (∀ W, Calls Try.prog 25 #[.string r] W fun e w' => e = .returned (.tuple #[.int .i64 c, .bool bc]) ∧ W = w'))
    (HG0 : ∀ W, Calls Try.prog 30 #[partV a a c] W fun e w' => e = .returned (.bool good) ∧ Below W.heap.size W w')
    (l1 : x1.size ≤ 9223372036854775807) (lt : t.size ≤ 9223372036854775807) (lu : u.size ≤ 9223372036854775807) (_lr : r.size ≤ 9223372036854775807)
    (E1 : (x1.toList == []) = decide (x1.size = 0)) (ET : (t.toList == []) = false) (EU : (u.toList == []) = decide (u.size = 0)) (ER : (r.toList == []) = decide (r.size = 0)) (ES : (r.toList == [42]) = true) (hk3 : (k3 : Int) ≠ r.size)
    (A1 : z1 = false → A = partE 0 0 0 2)
    (A2 : z1 = true → x1.size = 0 ∨ zt = false → A = partE 0 0 0 2)
    (A4 : z1 = true → zt = true → atB u 0 47 = false → A = partE 0 0 0 2)
    (A5 : z1 = true → zt = true → atB u 0 47 = true → r.size = 0 ∨ (k3 : Int) ≠ r.size → A = partE 0 0 0 2)
    (A6 : z1 = true → zt = true → atB u 0 47 = true → r.size ≠ 0 → (k3 : Int) = r.size → ba = false ∨ bc = false ∨ good = false → A = partE 0 0 0 9)
    (A7 : z1 = true → zt = true → atB u 0 47 = true → r.size ≠ 0 → (k3 : Int) = r.size → ba = true → bc = true → good = true → A = partE a a c 0) :
    Calls Try.prog 10 #[.string s] w fun r w' => r = A ∧ Below w.heap.size w w' := by
  obtain ⟨w0, hw0⟩ : ∃ w0, w0 = (w.alloc (partC 0 0 0)).alloc (partC 0 0 0) := ⟨_, rfl⟩
  have HB := Lib.hid (show Below w.heap.size w w0 from by rw [hw0]; exact ((Below.refl _ _).alloc (Nat.le_refl _) _).alloc (by simp) _)
  have HK := Lib.hid (show TwoP w.heap.size w0 from by rw [hw0]; exact TwoP.new w)
  have HU := Lib.hid (HU0 w0)
  have HG := Lib.hid HG0
  clear HU0 HG0
  cases hz1 : z1
  · subst hz1
    clear HTB0
    have HTB := Lib.hid True.intro
    have hq := Lib.hid (A1 rfl)
    rw [hq.out]
    clear hq A1 A2 A4 A5 A6 A7
    go_enter Try.func10, Try.ntmps10
    go_wp2_with fail
    rw [← hw0]
    clear hw0
    refine HU.out.mono ?_
    rintro q w1 ⟨rfl, b1⟩
    have HB1 := Lib.hid (HB.out.trans (b1.mono HB.out.size))
    have HK1 := Lib.hid (HK.out.below b1)
    obtain ⟨⟨e0, e1, e2⟩, e3, e4, e5⟩ := HK1.out.keep
    obtain ⟨f0, f1, f2⟩ := HK1.out.free
    clear b1 HU HB HK
    go_wp2_with (first
      | (go_at_call 23; (first | (with_reducible refine (HCU.out _).mono ?_)); rintro r w9 ⟨rfl, rfl⟩)
      | (go_at_call 29; (first | (with_reducible refine (HEN.out _).mono ?_)); rintro r w9 ⟨rfl, rfl⟩)
      | (go_at_call 28; (first | (with_reducible refine (HTB.out _).mono ?_)); rintro r w9 ⟨rfl, rfl⟩)
      | (go_at_call 24; (first | (with_reducible refine (HR1.out _).mono ?_) | (with_reducible refine (HR2.out _).mono ?_) | (with_reducible refine (HR3.out _).mono ?_)); rintro r w9 ⟨rfl, rfl⟩)
      | (go_at_call 25; (first | (with_reducible refine (HN1.out _).mono ?_) | (with_reducible refine (HN2.out _).mono ?_) | (with_reducible refine (HN3.out _).mono ?_)); rintro r w9 ⟨rfl, rfl⟩))
    obtain ⟨j0, j1, j2⟩ := HK1.out.puts (.int .i64 0) (.int .i64 0) (.int .i64 0)
    exact bodyPost_ret (v := .tuple #[partV 0 0 0, .int .i64 2]) (by simp [results, Try.results10, go_sem, j0, j1, j2]) rfl ⟨rfl, put3_below HB1.out _ _ _⟩
  subst hz1
  by_cases h1 : x1.size = 0
  · rw [decide_eq_true h1] at E1
    clear HTB0
    have HTB := Lib.hid True.intro
    have hq := Lib.hid (A2 rfl (.inl h1))
    rw [hq.out]
    clear hq A1 A2 A4 A5 A6 A7
    go_enter Try.func10, Try.ntmps10
    go_wp2_with fail
    rw [← hw0]
    clear hw0
    refine HU.out.mono ?_
    rintro q w1 ⟨rfl, b1⟩
    have HB1 := Lib.hid (HB.out.trans (b1.mono HB.out.size))
    have HK1 := Lib.hid (HK.out.below b1)
    obtain ⟨⟨e0, e1, e2⟩, e3, e4, e5⟩ := HK1.out.keep
    obtain ⟨f0, f1, f2⟩ := HK1.out.free
    clear b1 HU HB HK
    go_wp2_with (first
      | (go_at_call 23; (first | (with_reducible refine (HCU.out _).mono ?_)); rintro r w9 ⟨rfl, rfl⟩)
      | (go_at_call 29; (first | (with_reducible refine (HEN.out _).mono ?_)); rintro r w9 ⟨rfl, rfl⟩)
      | (go_at_call 28; (first | (with_reducible refine (HTB.out _).mono ?_)); rintro r w9 ⟨rfl, rfl⟩)
      | (go_at_call 24; (first | (with_reducible refine (HR1.out _).mono ?_) | (with_reducible refine (HR2.out _).mono ?_) | (with_reducible refine (HR3.out _).mono ?_)); rintro r w9 ⟨rfl, rfl⟩)
      | (go_at_call 25; (first | (with_reducible refine (HN1.out _).mono ?_) | (with_reducible refine (HN2.out _).mono ?_) | (with_reducible refine (HN3.out _).mono ?_)); rintro r w9 ⟨rfl, rfl⟩))
    obtain ⟨j0, j1, j2⟩ := HK1.out.puts (.int .i64 0) (.int .i64 0) (.int .i64 0)
    exact bodyPost_ret (v := .tuple #[partV 0 0 0, .int .i64 2]) (by simp [results, Try.results10, go_sem, j0, j1, j2]) rfl ⟨rfl, put3_below HB1.out _ _ _⟩
  rw [decide_eq_false h1] at E1
  have p1' : 0 < x1.size := by omega
  have HTB := Lib.hid (HTB0 p1')
  clear HTB0
  cases hzt : zt
  · subst hzt
    have hq := Lib.hid (A2 rfl (.inr rfl))
    rw [hq.out]
    clear hq A1 A2 A4 A5 A6 A7
    go_enter Try.func10, Try.ntmps10
    go_wp2_with fail
    rw [← hw0]
    clear hw0
    refine HU.out.mono ?_
    rintro q w1 ⟨rfl, b1⟩
    have HB1 := Lib.hid (HB.out.trans (b1.mono HB.out.size))
    have HK1 := Lib.hid (HK.out.below b1)
    obtain ⟨⟨e0, e1, e2⟩, e3, e4, e5⟩ := HK1.out.keep
    obtain ⟨f0, f1, f2⟩ := HK1.out.free
    clear b1 HU HB HK
    go_wp2_with (first
      | (go_at_call 23; (first | (with_reducible refine (HCU.out _).mono ?_)); rintro r w9 ⟨rfl, rfl⟩)
      | (go_at_call 29; (first | (with_reducible refine (HEN.out _).mono ?_)); rintro r w9 ⟨rfl, rfl⟩)
      | (go_at_call 28; (first | (with_reducible refine (HTB.out _).mono ?_)); rintro r w9 ⟨rfl, rfl⟩)
      | (go_at_call 24; (first | (with_reducible refine (HR1.out _).mono ?_) | (with_reducible refine (HR2.out _).mono ?_) | (with_reducible refine (HR3.out _).mono ?_)); rintro r w9 ⟨rfl, rfl⟩)
      | (go_at_call 25; (first | (with_reducible refine (HN1.out _).mono ?_) | (with_reducible refine (HN2.out _).mono ?_) | (with_reducible refine (HN3.out _).mono ?_)); rintro r w9 ⟨rfl, rfl⟩))
    obtain ⟨j0, j1, j2⟩ := HK1.out.puts (.int .i64 0) (.int .i64 0) (.int .i64 0)
    exact bodyPost_ret (v := .tuple #[partV 0 0 0, .int .i64 2]) (by simp [results, Try.results10, go_sem, j0, j1, j2]) rfl ⟨rfl, put3_below HB1.out _ _ _⟩
  subst hzt
  have vT := head_byte t hT 42
  rw [qT] at vT
  replace vT : ((t[0].toNat : Int) == 42) = true := vT
  have wT : t[0].toNat = 42 := by have := eq_of_beq vT; omega
  have pT' : (1 : Int) ≤ (t.size : Int) := by omega
  by_cases hu0 : u.size = 0
  · have qu : atB u 0 47 = false := atB_out (by omega)
    rw [decide_eq_true hu0] at EU
    have hq := Lib.hid (A4 rfl rfl qu)
    rw [hq.out]
    clear hq A1 A2 A4 A5 A6 A7
    go_enter Try.func10, Try.ntmps10
    go_wp2_with fail
    rw [← hw0]
    clear hw0
    refine HU.out.mono ?_
    rintro q w1 ⟨rfl, b1⟩
    have HB1 := Lib.hid (HB.out.trans (b1.mono HB.out.size))
    have HK1 := Lib.hid (HK.out.below b1)
    obtain ⟨⟨e0, e1, e2⟩, e3, e4, e5⟩ := HK1.out.keep
    obtain ⟨f0, f1, f2⟩ := HK1.out.free
    clear b1 HU HB HK
    go_upto_region 17 with (first
      | (go_at_call 23; (first | (with_reducible refine (HCU.out _).mono ?_)); rintro r w9 ⟨rfl, rfl⟩)
      | (go_at_call 29; (first | (with_reducible refine (HEN.out _).mono ?_)); rintro r w9 ⟨rfl, rfl⟩)
      | (go_at_call 28; (first | (with_reducible refine (HTB.out _).mono ?_)); rintro r w9 ⟨rfl, rfl⟩)
      | (go_at_call 24; (first | (with_reducible refine (HR1.out _).mono ?_) | (with_reducible refine (HR2.out _).mono ?_) | (with_reducible refine (HR3.out _).mono ?_)); rintro r w9 ⟨rfl, rfl⟩)
      | (go_at_call 25; (first | (with_reducible refine (HN1.out _).mono ?_) | (with_reducible refine (HN2.out _).mono ?_) | (with_reducible refine (HN3.out _).mono ?_)); rintro r w9 ⟨rfl, rfl⟩))
    rw [← hu.out]
    go_wp2_with (first
      | (go_at_call 23; (first | (with_reducible refine (HCU.out _).mono ?_)); rintro r w9 ⟨rfl, rfl⟩)
      | (go_at_call 29; (first | (with_reducible refine (HEN.out _).mono ?_)); rintro r w9 ⟨rfl, rfl⟩)
      | (go_at_call 28; (first | (with_reducible refine (HTB.out _).mono ?_)); rintro r w9 ⟨rfl, rfl⟩)
      | (go_at_call 24; (first | (with_reducible refine (HR1.out _).mono ?_) | (with_reducible refine (HR2.out _).mono ?_) | (with_reducible refine (HR3.out _).mono ?_)); rintro r w9 ⟨rfl, rfl⟩)
      | (go_at_call 25; (first | (with_reducible refine (HN1.out _).mono ?_) | (with_reducible refine (HN2.out _).mono ?_) | (with_reducible refine (HN3.out _).mono ?_)); rintro r w9 ⟨rfl, rfl⟩))
    obtain ⟨j0, j1, j2⟩ := HK1.out.puts (.int .i64 0) (.int .i64 0) (.int .i64 0)
    exact bodyPost_ret (v := .tuple #[partV 0 0 0, .int .i64 2]) (by simp [results, Try.results10, go_sem, j0, j1, j2]) rfl ⟨rfl, put3_below HB1.out _ _ _⟩
  rw [decide_eq_false hu0] at EU
  have pu : 0 < u.size := by omega
  have pu' : (1 : Int) ≤ (u.size : Int) := by omega
  have vu := head_byte u pu 47
  cases qu : atB u 0 47
  · rw [qu] at vu
    replace vu : ((u[0].toNat : Int) == 47) = false := vu
    have hq := Lib.hid (A4 rfl rfl qu)
    rw [hq.out]
    clear hq A1 A2 A4 A5 A6 A7
    go_enter Try.func10, Try.ntmps10
    go_wp2_with fail
    rw [← hw0]
    clear hw0
    refine HU.out.mono ?_
    rintro q w1 ⟨rfl, b1⟩
    have HB1 := Lib.hid (HB.out.trans (b1.mono HB.out.size))
    have HK1 := Lib.hid (HK.out.below b1)
    obtain ⟨⟨e0, e1, e2⟩, e3, e4, e5⟩ := HK1.out.keep
    obtain ⟨f0, f1, f2⟩ := HK1.out.free
    clear b1 HU HB HK
    go_upto_region 17 with (first
      | (go_at_call 23; (first | (with_reducible refine (HCU.out _).mono ?_)); rintro r w9 ⟨rfl, rfl⟩)
      | (go_at_call 29; (first | (with_reducible refine (HEN.out _).mono ?_)); rintro r w9 ⟨rfl, rfl⟩)
      | (go_at_call 28; (first | (with_reducible refine (HTB.out _).mono ?_)); rintro r w9 ⟨rfl, rfl⟩)
      | (go_at_call 24; (first | (with_reducible refine (HR1.out _).mono ?_) | (with_reducible refine (HR2.out _).mono ?_) | (with_reducible refine (HR3.out _).mono ?_)); rintro r w9 ⟨rfl, rfl⟩)
      | (go_at_call 25; (first | (with_reducible refine (HN1.out _).mono ?_) | (with_reducible refine (HN2.out _).mono ?_) | (with_reducible refine (HN3.out _).mono ?_)); rintro r w9 ⟨rfl, rfl⟩))
    rw [← hu.out]
    go_wp2_with (first
      | (go_at_call 23; (first | (with_reducible refine (HCU.out _).mono ?_)); rintro r w9 ⟨rfl, rfl⟩)
      | (go_at_call 29; (first | (with_reducible refine (HEN.out _).mono ?_)); rintro r w9 ⟨rfl, rfl⟩)
      | (go_at_call 28; (first | (with_reducible refine (HTB.out _).mono ?_)); rintro r w9 ⟨rfl, rfl⟩)
      | (go_at_call 24; (first | (with_reducible refine (HR1.out _).mono ?_) | (with_reducible refine (HR2.out _).mono ?_) | (with_reducible refine (HR3.out _).mono ?_)); rintro r w9 ⟨rfl, rfl⟩)
      | (go_at_call 25; (first | (with_reducible refine (HN1.out _).mono ?_) | (with_reducible refine (HN2.out _).mono ?_) | (with_reducible refine (HN3.out _).mono ?_)); rintro r w9 ⟨rfl, rfl⟩))
    obtain ⟨j0, j1, j2⟩ := HK1.out.puts (.int .i64 0) (.int .i64 0) (.int .i64 0)
    exact bodyPost_ret (v := .tuple #[partV 0 0 0, .int .i64 2]) (by simp [results, Try.results10, go_sem, j0, j1, j2]) rfl ⟨rfl, put3_below HB1.out _ _ _⟩
  rw [qu] at vu
  replace vu : ((u[0].toNat : Int) == 47) = true := vu
  have wu : u[0].toNat = 47 := by have := eq_of_beq vu; omega
  by_cases hr0 : r.size = 0
  · rw [decide_eq_true hr0] at ER
    have hq := Lib.hid (A5 rfl rfl qu (.inl hr0))
    rw [hq.out]
    clear hq A1 A2 A4 A5 A6 A7
    go_enter Try.func10, Try.ntmps10
    go_wp2_with fail
    rw [← hw0]
    clear hw0
    refine HU.out.mono ?_
    rintro q w1 ⟨rfl, b1⟩
    have HB1 := Lib.hid (HB.out.trans (b1.mono HB.out.size))
    have HK1 := Lib.hid (HK.out.below b1)
    obtain ⟨⟨e0, e1, e2⟩, e3, e4, e5⟩ := HK1.out.keep
    obtain ⟨f0, f1, f2⟩ := HK1.out.free
    clear b1 HU HB HK
    go_upto_region 17 with (first
      | (go_at_call 23; (first | (with_reducible refine (HCU.out _).mono ?_)); rintro r w9 ⟨rfl, rfl⟩)
      | (go_at_call 29; (first | (with_reducible refine (HEN.out _).mono ?_)); rintro r w9 ⟨rfl, rfl⟩)
      | (go_at_call 28; (first | (with_reducible refine (HTB.out _).mono ?_)); rintro r w9 ⟨rfl, rfl⟩)
      | (go_at_call 24; (first | (with_reducible refine (HR1.out _).mono ?_) | (with_reducible refine (HR2.out _).mono ?_) | (with_reducible refine (HR3.out _).mono ?_)); rintro r w9 ⟨rfl, rfl⟩)
      | (go_at_call 25; (first | (with_reducible refine (HN1.out _).mono ?_) | (with_reducible refine (HN2.out _).mono ?_) | (with_reducible refine (HN3.out _).mono ?_)); rintro r w9 ⟨rfl, rfl⟩))
    rw [← hu.out]
    go_upto_region 20 with (first
      | (go_at_call 23; (first | (with_reducible refine (HCU.out _).mono ?_)); rintro r w9 ⟨rfl, rfl⟩)
      | (go_at_call 29; (first | (with_reducible refine (HEN.out _).mono ?_)); rintro r w9 ⟨rfl, rfl⟩)
      | (go_at_call 28; (first | (with_reducible refine (HTB.out _).mono ?_)); rintro r w9 ⟨rfl, rfl⟩)
      | (go_at_call 24; (first | (with_reducible refine (HR1.out _).mono ?_) | (with_reducible refine (HR2.out _).mono ?_) | (with_reducible refine (HR3.out _).mono ?_)); rintro r w9 ⟨rfl, rfl⟩)
      | (go_at_call 25; (first | (with_reducible refine (HN1.out _).mono ?_) | (with_reducible refine (HN2.out _).mono ?_) | (with_reducible refine (HN3.out _).mono ?_)); rintro r w9 ⟨rfl, rfl⟩))
    rw [← hr.out]
    go_wp2_with (first
      | (go_at_call 23; (first | (with_reducible refine (HCU.out _).mono ?_)); rintro r w9 ⟨rfl, rfl⟩)
      | (go_at_call 29; (first | (with_reducible refine (HEN.out _).mono ?_)); rintro r w9 ⟨rfl, rfl⟩)
      | (go_at_call 28; (first | (with_reducible refine (HTB.out _).mono ?_)); rintro r w9 ⟨rfl, rfl⟩)
      | (go_at_call 24; (first | (with_reducible refine (HR1.out _).mono ?_) | (with_reducible refine (HR2.out _).mono ?_) | (with_reducible refine (HR3.out _).mono ?_)); rintro r w9 ⟨rfl, rfl⟩)
      | (go_at_call 25; (first | (with_reducible refine (HN1.out _).mono ?_) | (with_reducible refine (HN2.out _).mono ?_) | (with_reducible refine (HN3.out _).mono ?_)); rintro r w9 ⟨rfl, rfl⟩))
    obtain ⟨j0, j1, j2⟩ := HK1.out.puts (.int .i64 0) (.int .i64 0) (.int .i64 0)
    exact bodyPost_ret (v := .tuple #[partV 0 0 0, .int .i64 2]) (by simp [results, Try.results10, go_sem, j0, j1, j2]) rfl ⟨rfl, put3_below HB1.out _ _ _⟩
  rw [decide_eq_false hr0] at ER
  have ES2 : r.toList = [42] := eq_of_beq ES
  have d3 : ((k3 : Int) == (r.size : Int)) = false := beq_false_of_ne hk3
  have hq := Lib.hid (A5 rfl rfl qu (.inr hk3))
  rw [hq.out]
  clear hq A1 A2 A4 A5 A6 A7
  go_enter Try.func10, Try.ntmps10
  go_wp2_with fail
  rw [← hw0]
  clear hw0
  refine HU.out.mono ?_
  rintro q w1 ⟨rfl, b1⟩
  have HB1 := Lib.hid (HB.out.trans (b1.mono HB.out.size))
  have HK1 := Lib.hid (HK.out.below b1)
  obtain ⟨⟨e0, e1, e2⟩, e3, e4, e5⟩ := HK1.out.keep
  obtain ⟨f0, f1, f2⟩ := HK1.out.free
  clear b1 HU HB HK
  go_upto_region 17 with (first
    | (go_at_call 23; (first | (with_reducible refine (HCU.out _).mono ?_)); rintro r w9 ⟨rfl, rfl⟩)
    | (go_at_call 29; (first | (with_reducible refine (HEN.out _).mono ?_)); rintro r w9 ⟨rfl, rfl⟩)
    | (go_at_call 28; (first | (with_reducible refine (HTB.out _).mono ?_)); rintro r w9 ⟨rfl, rfl⟩)
    | (go_at_call 24; (first | (with_reducible refine (HR1.out _).mono ?_) | (with_reducible refine (HR2.out _).mono ?_) | (with_reducible refine (HR3.out _).mono ?_)); rintro r w9 ⟨rfl, rfl⟩)
    | (go_at_call 25; (first | (with_reducible refine (HN1.out _).mono ?_) | (with_reducible refine (HN2.out _).mono ?_) | (with_reducible refine (HN3.out _).mono ?_)); rintro r w9 ⟨rfl, rfl⟩))
  rw [← hu.out]
  go_upto_region 20 with (first
    | (go_at_call 23; (first | (with_reducible refine (HCU.out _).mono ?_)); rintro r w9 ⟨rfl, rfl⟩)
    | (go_at_call 29; (first | (with_reducible refine (HEN.out _).mono ?_)); rintro r w9 ⟨rfl, rfl⟩)
    | (go_at_call 28; (first | (with_reducible refine (HTB.out _).mono ?_)); rintro r w9 ⟨rfl, rfl⟩)
    | (go_at_call 24; (first | (with_reducible refine (HR1.out _).mono ?_) | (with_reducible refine (HR2.out _).mono ?_) | (with_reducible refine (HR3.out _).mono ?_)); rintro r w9 ⟨rfl, rfl⟩)
    | (go_at_call 25; (first | (with_reducible refine (HN1.out _).mono ?_) | (with_reducible refine (HN2.out _).mono ?_) | (with_reducible refine (HN3.out _).mono ?_)); rintro r w9 ⟨rfl, rfl⟩))
  rw [← hr.out]
  go_wp2_with (first
    | (go_at_call 23; (first | (with_reducible refine (HCU.out _).mono ?_)); rintro r w9 ⟨rfl, rfl⟩)
    | (go_at_call 29; (first | (with_reducible refine (HEN.out _).mono ?_)); rintro r w9 ⟨rfl, rfl⟩)
    | (go_at_call 28; (first | (with_reducible refine (HTB.out _).mono ?_)); rintro r w9 ⟨rfl, rfl⟩)
    | (go_at_call 24; (first | (with_reducible refine (HR1.out _).mono ?_) | (with_reducible refine (HR2.out _).mono ?_) | (with_reducible refine (HR3.out _).mono ?_)); rintro r w9 ⟨rfl, rfl⟩)
    | (go_at_call 25; (first | (with_reducible refine (HN1.out _).mono ?_) | (with_reducible refine (HN2.out _).mono ?_) | (with_reducible refine (HN3.out _).mono ?_)); rintro r w9 ⟨rfl, rfl⟩))
  obtain ⟨j0, j1, j2⟩ := HK1.out.puts (.int .i64 0) (.int .i64 0) (.int .i64 0)
  exact bodyPost_ret (v := .tuple #[partV 0 0 0, .int .i64 2]) (by simp [results, Try.results10, go_sem, j0, j1, j2]) rfl ⟨rfl, put3_below HB1.out _ _ _⟩

end Go.Proofs.Ytaolclpjlkdkjaa
