/-
  What the document's Content of layer 24 answers: the walk of a text with no star. Condition: the text is no longer than 2^47 - 4096.
-/
import Derived.Test.YtaolclpjlkdkjaaZ14
namespace Go.Proofs.Ytaolclpjlkdkjaa
open Go.RowKit

set_option maxRecDepth 100000 in
set_option maxHeartbeats 16000000 in
theorem rcontB_walk (s x1 x2 t v xf xt u r : ByteArray) (z1 zt ba bb bc good : Bool) (k1 k2 k3 : Nat) (a b c : Int) (A : Ending) (w : World)
    (HU0 : ∀ W, Calls Try.prog 22 #[.string s] W fun e w' => e = .returned (.tuple #[.string x1, .bool z1]) ∧ Below W.heap.size W w')
    (HTB0 : ∀ (h : 0 < x1.size) W, Calls Try.prog 28 #[.int .u8 (x1[0].toNat : Int)] W fun e w' => e = .returned (.bool zt) ∧ W = w')
    (HCU : Hid (∀ W, Calls Try.prog 23 #[.string x1] W fun e w' => e = .returned (.string x2) ∧ W = w'))
    (HEN : Hid (∀ W, Calls Try.prog 29 #[.string x2] W fun e w' => e = .returned (.string t) ∧ W = w'))
    (lk1 : k1 ≤ t.size) (qT : atB t 0 42 = false) (hv : Hid (v = t.extract k1 t.size)) (hxf : Hid (xf = t.extract 0 k1)) (lk2 : 0 < v.size → k2 + 1 ≤ v.size) (hxt : Hid (xt = v.extract 1 (k2 + 1))) (hu : Hid (u = v.extract (k2 + 1) v.size)) (hr : Hid (r = u.extract 1 u.size))
    (HR1 : Hid (∀ W, Calls Try.prog 24 #[.string t] W fun e w' => e = .returned (.int .i64 k1) ∧ W = w'))
    (HR2 : Hid (∀ W, Calls Try.prog 24 #[.string (v.extract 1 v.size)] W fun e w' => e = .returned (.int .i64 k2) ∧ W = w'))
    (HN1 : Hid (∀ W, Calls Try.prog 25 #[.string xf] W fun e w' => e = .returned (.tuple #[.int .i64 a, .bool ba]) ∧ W = w'))
    (HN2 : Hid (∀ W, Calls Try.prog 25 #[.string xt] W fun e w' => e = .returned (.tuple #[.int .i64 b, .bool bb]) ∧ W = w'))
    (ET : (t.toList == []) = decide (t.size = 0)) (EF : (xf.toList == []) = decide (k1 = 0)) (EV : (v.toList == []) = decide (v.size = 0)) (EO : (xt.toList == []) = decide (k2 = 0))
    (HR3 : Hid (∀ W, Calls Try.prog 24 #[.string r] W fun e w' => e = .returned (.int .i64 k3) ∧ W = w'))
    (HN3 : Hid (∀ W, Calls Try.prog 25 #[.string r] W fun e w' => e = .returned (.tuple #[.int .i64 c, .bool bc]) ∧ W = w'))
    (HG0 : ∀ W, Calls Try.prog 30 #[partV a b c] W fun e w' => e = .returned (.bool good) ∧ Below W.heap.size W w')
    (l1 : x1.size ≤ 9223372036854775807) (lt : t.size ≤ 9223372036854775807) (lu : u.size ≤ 9223372036854775807) (_lr : r.size ≤ 9223372036854775807) (lv : v.size ≤ 9223372036854775807)
    (E1 : (x1.toList == []) = decide (x1.size = 0)) (EU : (u.toList == []) = decide (u.size = 0)) (ER : (r.toList == []) = decide (r.size = 0)) (ES : (r.toList == [42]) = false)
    (A1 : z1 = false → A = partE 0 0 0 2)
    (A2 : z1 = true → x1.size = 0 ∨ zt = false → A = partE 0 0 0 2)
    (A3 : z1 = true → zt = true → k1 = 0 ∨ atB v 0 45 = false ∨ k2 = 0 → A = partE 0 0 0 2)
    (A4 : z1 = true → zt = true → k1 ≠ 0 → atB v 0 45 = true → k2 ≠ 0 → atB u 0 47 = false → A = partE 0 0 0 2)
    (A5 : z1 = true → zt = true → k1 ≠ 0 → atB v 0 45 = true → k2 ≠ 0 → atB u 0 47 = true → r.size = 0 ∨ (k3 : Int) ≠ r.size → A = partE 0 0 0 2)
    (A6 : z1 = true → zt = true → k1 ≠ 0 → atB v 0 45 = true → k2 ≠ 0 → atB u 0 47 = true → r.size ≠ 0 → (k3 : Int) = r.size → ba = false ∨ bb = false ∨ bc = false ∨ good = false → A = partE 0 0 0 9)
    (A7 : z1 = true → zt = true → k1 ≠ 0 → atB v 0 45 = true → k2 ≠ 0 → atB u 0 47 = true → r.size ≠ 0 → (k3 : Int) = r.size → ba = true → bb = true → bc = true → good = true → A = partE a b c 0) :
    Calls Try.prog 10 #[.string s] w fun r w' => r = A ∧ Below w.heap.size w w' := by
  obtain ⟨w0, hw0⟩ : ∃ w0, w0 = (w.alloc (partC 0 0 0)).alloc (partC 0 0 0) := ⟨_, rfl⟩
  have HB := Lib.hid (show Below w.heap.size w w0 from by rw [hw0]; exact ((Below.refl _ _).alloc (Nat.le_refl _) _).alloc (by simp) _)
  have HK := Lib.hid (show TwoP w.heap.size w0 from by rw [hw0]; exact TwoP.new w)
  have HU := Lib.hid (HU0 w0)
  have HG := Lib.hid HG0
  clear HU0 HG0
  cases hz1 : z1
  · subst hz1
    clear HTB0
    have HTB := Lib.hid True.intro
    have hq := Lib.hid (A1 rfl)
    rw [hq.out]
    clear hq A1 A2 A3 A4 A5 A6 A7
    go_enter Try.func10, Try.ntmps10
    go_wp2_with fail
    rw [← hw0]
    clear hw0
    refine HU.out.mono ?_
    rintro q w1 ⟨rfl, b1⟩
    have HB1 := Lib.hid (HB.out.trans (b1.mono HB.out.size))
    have HK1 := Lib.hid (HK.out.below b1)
    obtain ⟨⟨e0, e1, e2⟩, e3, e4, e5⟩ := HK1.out.keep
    obtain ⟨f0, f1, f2⟩ := HK1.out.free
    clear b1 HU HB HK
    go_wp2_with (first
      | (go_at_call 23; (first | (with_reducible refine (HCU.out _).mono ?_)); rintro r w9 ⟨rfl, rfl⟩)
      | (go_at_call 29; (first | (with_reducible refine (HEN.out _).mono ?_)); rintro r w9 ⟨rfl, rfl⟩)
      | (go_at_call 28; (first | (with_reducible refine (HTB.out _).mono ?_)); rintro r w9 ⟨rfl, rfl⟩)
      | (go_at_call 24; (first | (with_reducible refine (HR1.out _).mono ?_) | (with_reducible refine (HR2.out _).mono ?_) | (with_reducible refine (HR3.out _).mono ?_)); rintro r w9 ⟨rfl, rfl⟩)
      | (go_at_call 25; (first | (with_reducible refine (HN1.out _).mono ?_) | (with_reducible refine (HN2.out _).mono ?_) | (with_reducible refine (HN3.out _).mono ?_)); rintro r w9 ⟨rfl, rfl⟩))
    obtain ⟨j0, j1, j2⟩ := HK1.out.puts (.int .i64 0) (.int .i64 0) (.int .i64 0)
    exact bodyPost_ret (v := .tuple #[partV 0 0 0, .int .i64 2]) (by simp [results, Try.results10, go_sem, j0, j1, j2]) rfl ⟨rfl, put3_below HB1.out _ _ _⟩
  subst hz1
  by_cases h1 : x1.size = 0
  · rw [decide_eq_true h1] at E1
    clear HTB0
    have HTB := Lib.hid True.intro
    have hq := Lib.hid (A2 rfl (.inl h1))
    rw [hq.out]
    clear hq A1 A2 A3 A4 A5 A6 A7
    go_enter Try.func10, Try.ntmps10
    go_wp2_with fail
    rw [← hw0]
    clear hw0
    refine HU.out.mono ?_
    rintro q w1 ⟨rfl, b1⟩
    have HB1 := Lib.hid (HB.out.trans (b1.mono HB.out.size))
    have HK1 := Lib.hid (HK.out.below b1)
    obtain ⟨⟨e0, e1, e2⟩, e3, e4, e5⟩ := HK1.out.keep
    obtain ⟨f0, f1, f2⟩ := HK1.out.free
    clear b1 HU HB HK
    go_wp2_with (first
      | (go_at_call 23; (first | (with_reducible refine (HCU.out _).mono ?_)); rintro r w9 ⟨rfl, rfl⟩)
      | (go_at_call 29; (first | (with_reducible refine (HEN.out _).mono ?_)); rintro r w9 ⟨rfl, rfl⟩)
      | (go_at_call 28; (first | (with_reducible refine (HTB.out _).mono ?_)); rintro r w9 ⟨rfl, rfl⟩)
      | (go_at_call 24; (first | (with_reducible refine (HR1.out _).mono ?_) | (with_reducible refine (HR2.out _).mono ?_) | (with_reducible refine (HR3.out _).mono ?_)); rintro r w9 ⟨rfl, rfl⟩)
      | (go_at_call 25; (first | (with_reducible refine (HN1.out _).mono ?_) | (with_reducible refine (HN2.out _).mono ?_) | (with_reducible refine (HN3.out _).mono ?_)); rintro r w9 ⟨rfl, rfl⟩))
    obtain ⟨j0, j1, j2⟩ := HK1.out.puts (.int .i64 0) (.int .i64 0) (.int .i64 0)
    exact bodyPost_ret (v := .tuple #[partV 0 0 0, .int .i64 2]) (by simp [results, Try.results10, go_sem, j0, j1, j2]) rfl ⟨rfl, put3_below HB1.out _ _ _⟩
  rw [decide_eq_false h1] at E1
  have p1' : 0 < x1.size := by omega
  have HTB := Lib.hid (HTB0 p1')
  clear HTB0
  cases hzt : zt
  · subst hzt
    have hq := Lib.hid (A2 rfl (.inr rfl))
    rw [hq.out]
    clear hq A1 A2 A3 A4 A5 A6 A7
    go_enter Try.func10, Try.ntmps10
    go_wp2_with fail
    rw [← hw0]
    clear hw0
    refine HU.out.mono ?_
    rintro q w1 ⟨rfl, b1⟩
    have HB1 := Lib.hid (HB.out.trans (b1.mono HB.out.size))
    have HK1 := Lib.hid (HK.out.below b1)
    obtain ⟨⟨e0, e1, e2⟩, e3, e4, e5⟩ := HK1.out.keep
    obtain ⟨f0, f1, f2⟩ := HK1.out.free
    clear b1 HU HB HK
    go_wp2_with (first
      | (go_at_call 23; (first | (with_reducible refine (HCU.out _).mono ?_)); rintro r w9 ⟨rfl, rfl⟩)
      | (go_at_call 29; (first | (with_reducible refine (HEN.out _).mono ?_)); rintro r w9 ⟨rfl, rfl⟩)
      | (go_at_call 28; (first | (with_reducible refine (HTB.out _).mono ?_)); rintro r w9 ⟨rfl, rfl⟩)
      | (go_at_call 24; (first | (with_reducible refine (HR1.out _).mono ?_) | (with_reducible refine (HR2.out _).mono ?_) | (with_reducible refine (HR3.out _).mono ?_)); rintro r w9 ⟨rfl, rfl⟩)
      | (go_at_call 25; (first | (with_reducible refine (HN1.out _).mono ?_) | (with_reducible refine (HN2.out _).mono ?_) | (with_reducible refine (HN3.out _).mono ?_)); rintro r w9 ⟨rfl, rfl⟩))
    obtain ⟨j0, j1, j2⟩ := HK1.out.puts (.int .i64 0) (.int .i64 0) (.int .i64 0)
    exact bodyPost_ret (v := .tuple #[partV 0 0 0, .int .i64 2]) (by simp [results, Try.results10, go_sem, j0, j1, j2]) rfl ⟨rfl, put3_below HB1.out _ _ _⟩
  subst hzt
  have vT : ∀ h : 0 < t.size, ((t[0].toNat : Int) == 42) = false := fun h => by have := head_byte t h 42; rw [qT] at this; exact this
  by_cases hk1 : k1 = 0
  · rw [decide_eq_true hk1] at EF
    have HF := Lib.hid (A3 rfl rfl (.inl hk1))
    clear hk1
    by_cases ht : t.size = 0
    · rw [decide_eq_true ht] at ET
      clear ht
      have hq := Lib.hid (HF.out)
      rw [hq.out]
      clear hq A1 A2 A3 A4 A5 A6 A7
      go_enter Try.func10, Try.ntmps10
      go_wp2_with fail
      rw [← hw0]
      clear hw0
      refine HU.out.mono ?_
      rintro q w1 ⟨rfl, b1⟩
      have HB1 := Lib.hid (HB.out.trans (b1.mono HB.out.size))
      have HK1 := Lib.hid (HK.out.below b1)
      obtain ⟨⟨e0, e1, e2⟩, e3, e4, e5⟩ := HK1.out.keep
      obtain ⟨f0, f1, f2⟩ := HK1.out.free
      clear b1 HU HB HK
      go_wp2_with (first
        | (go_at_call 23; (first | (with_reducible refine (HCU.out _).mono ?_)); rintro r w9 ⟨rfl, rfl⟩)
        | (go_at_call 29; (first | (with_reducible refine (HEN.out _).mono ?_)); rintro r w9 ⟨rfl, rfl⟩)
        | (go_at_call 28; (first | (with_reducible refine (HTB.out _).mono ?_)); rintro r w9 ⟨rfl, rfl⟩)
        | (go_at_call 24; (first | (with_reducible refine (HR1.out _).mono ?_) | (with_reducible refine (HR2.out _).mono ?_) | (with_reducible refine (HR3.out _).mono ?_)); rintro r w9 ⟨rfl, rfl⟩)
        | (go_at_call 25; (first | (with_reducible refine (HN1.out _).mono ?_) | (with_reducible refine (HN2.out _).mono ?_) | (with_reducible refine (HN3.out _).mono ?_)); rintro r w9 ⟨rfl, rfl⟩))
      go_quiet (fail)
      rw [← hv.out, ← hxf.out]
      obtain ⟨w2, hw2⟩ : ∃ w2, w2 = w1.drewN nq := ⟨_, rfl⟩
      rw [← hw2]
      replace HB1 := Lib.hid (show Below w.heap.size w w2 from by rw [hw2]; exact Below.drewN' HB1.out _)
      replace HK1 := Lib.hid (show TwoP w.heap.size w2 from by rw [hw2]; exact ⟨HK1.out.r, HK1.out.n⟩)
      clear hw2 nq e0 e1 e2 e3 e4 e5 f0 f1 f2
      obtain ⟨⟨e0, e1, e2⟩, e3, e4, e5⟩ := HK1.out.keep
      obtain ⟨f0, f1, f2⟩ := HK1.out.free
      go_wp2_with (first
        | (go_at_call 23; (first | (with_reducible refine (HCU.out _).mono ?_)); rintro r w9 ⟨rfl, rfl⟩)
        | (go_at_call 29; (first | (with_reducible refine (HEN.out _).mono ?_)); rintro r w9 ⟨rfl, rfl⟩)
        | (go_at_call 28; (first | (with_reducible refine (HTB.out _).mono ?_)); rintro r w9 ⟨rfl, rfl⟩)
        | (go_at_call 24; (first | (with_reducible refine (HR1.out _).mono ?_) | (with_reducible refine (HR2.out _).mono ?_) | (with_reducible refine (HR3.out _).mono ?_)); rintro r w9 ⟨rfl, rfl⟩)
        | (go_at_call 25; (first | (with_reducible refine (HN1.out _).mono ?_) | (with_reducible refine (HN2.out _).mono ?_) | (with_reducible refine (HN3.out _).mono ?_)); rintro r w9 ⟨rfl, rfl⟩))
      obtain ⟨j0, j1, j2⟩ := HK1.out.puts (.int .i64 0) (.int .i64 0) (.int .i64 0)
      exact bodyPost_ret (v := .tuple #[partV 0 0 0, .int .i64 2]) (by simp [results, Try.results10, go_sem, j0, j1, j2]) rfl ⟨rfl, put3_below HB1.out _ _ _⟩
    rw [decide_eq_false ht] at ET
    have pt : 0 < t.size := by omega
    have vT1 := vT pt
    have hq := Lib.hid (HF.out)
    rw [hq.out]
    clear hq A1 A2 A3 A4 A5 A6 A7
    go_enter Try.func10, Try.ntmps10
    go_wp2_with fail
    rw [← hw0]
    clear hw0
    refine HU.out.mono ?_
    rintro q w1 ⟨rfl, b1⟩
    have HB1 := Lib.hid (HB.out.trans (b1.mono HB.out.size))
    have HK1 := Lib.hid (HK.out.below b1)
    obtain ⟨⟨e0, e1, e2⟩, e3, e4, e5⟩ := HK1.out.keep
    obtain ⟨f0, f1, f2⟩ := HK1.out.free
    clear b1 HU HB HK
    go_wp2_with (first
      | (go_at_call 23; (first | (with_reducible refine (HCU.out _).mono ?_)); rintro r w9 ⟨rfl, rfl⟩)
      | (go_at_call 29; (first | (with_reducible refine (HEN.out _).mono ?_)); rintro r w9 ⟨rfl, rfl⟩)
      | (go_at_call 28; (first | (with_reducible refine (HTB.out _).mono ?_)); rintro r w9 ⟨rfl, rfl⟩)
      | (go_at_call 24; (first | (with_reducible refine (HR1.out _).mono ?_) | (with_reducible refine (HR2.out _).mono ?_) | (with_reducible refine (HR3.out _).mono ?_)); rintro r w9 ⟨rfl, rfl⟩)
      | (go_at_call 25; (first | (with_reducible refine (HN1.out _).mono ?_) | (with_reducible refine (HN2.out _).mono ?_) | (with_reducible refine (HN3.out _).mono ?_)); rintro r w9 ⟨rfl, rfl⟩))
    go_quiet (fail)
    rw [← hv.out, ← hxf.out]
    obtain ⟨w2, hw2⟩ : ∃ w2, w2 = w1.drewN nq := ⟨_, rfl⟩
    rw [← hw2]
    replace HB1 := Lib.hid (show Below w.heap.size w w2 from by rw [hw2]; exact Below.drewN' HB1.out _)
    replace HK1 := Lib.hid (show TwoP w.heap.size w2 from by rw [hw2]; exact ⟨HK1.out.r, HK1.out.n⟩)
    clear hw2 nq e0 e1 e2 e3 e4 e5 f0 f1 f2
    obtain ⟨⟨e0, e1, e2⟩, e3, e4, e5⟩ := HK1.out.keep
    obtain ⟨f0, f1, f2⟩ := HK1.out.free
    go_wp2_with (first
      | (go_at_call 23; (first | (with_reducible refine (HCU.out _).mono ?_)); rintro r w9 ⟨rfl, rfl⟩)
      | (go_at_call 29; (first | (with_reducible refine (HEN.out _).mono ?_)); rintro r w9 ⟨rfl, rfl⟩)
      | (go_at_call 28; (first | (with_reducible refine (HTB.out _).mono ?_)); rintro r w9 ⟨rfl, rfl⟩)
      | (go_at_call 24; (first | (with_reducible refine (HR1.out _).mono ?_) | (with_reducible refine (HR2.out _).mono ?_) | (with_reducible refine (HR3.out _).mono ?_)); rintro r w9 ⟨rfl, rfl⟩)
      | (go_at_call 25; (first | (with_reducible refine (HN1.out _).mono ?_) | (with_reducible refine (HN2.out _).mono ?_) | (with_reducible refine (HN3.out _).mono ?_)); rintro r w9 ⟨rfl, rfl⟩))
    obtain ⟨j0, j1, j2⟩ := HK1.out.puts (.int .i64 0) (.int .i64 0) (.int .i64 0)
    exact bodyPost_ret (v := .tuple #[partV 0 0 0, .int .i64 2]) (by simp [results, Try.results10, go_sem, j0, j1, j2]) rfl ⟨rfl, put3_below HB1.out _ _ _⟩
  rw [decide_eq_false hk1] at EF
  have HKF := Lib.hid hk1
  have pt : 0 < t.size := by omega
  rw [decide_eq_false (by omega)] at ET
  have vT1 := vT pt
  clear vT hk1
  by_cases hv0 : v.size = 0
  · have qv : atB v 0 45 = false := atB_out (by omega)
    rw [decide_eq_true hv0] at EV
    have hq := Lib.hid (A3 rfl rfl (.inr (.inl qv)))
    rw [hq.out]
    clear hq A1 A2 A3 A4 A5 A6 A7
    go_enter Try.func10, Try.ntmps10
    go_wp2_with fail
    rw [← hw0]
    clear hw0
    refine HU.out.mono ?_
    rintro q w1 ⟨rfl, b1⟩
    have HB1 := Lib.hid (HB.out.trans (b1.mono HB.out.size))
    have HK1 := Lib.hid (HK.out.below b1)
    obtain ⟨⟨e0, e1, e2⟩, e3, e4, e5⟩ := HK1.out.keep
    obtain ⟨f0, f1, f2⟩ := HK1.out.free
    clear b1 HU HB HK
    go_wp2_with (first
      | (go_at_call 23; (first | (with_reducible refine (HCU.out _).mono ?_)); rintro r w9 ⟨rfl, rfl⟩)
      | (go_at_call 29; (first | (with_reducible refine (HEN.out _).mono ?_)); rintro r w9 ⟨rfl, rfl⟩)
      | (go_at_call 28; (first | (with_reducible refine (HTB.out _).mono ?_)); rintro r w9 ⟨rfl, rfl⟩)
      | (go_at_call 24; (first | (with_reducible refine (HR1.out _).mono ?_) | (with_reducible refine (HR2.out _).mono ?_) | (with_reducible refine (HR3.out _).mono ?_)); rintro r w9 ⟨rfl, rfl⟩)
      | (go_at_call 25; (first | (with_reducible refine (HN1.out _).mono ?_) | (with_reducible refine (HN2.out _).mono ?_) | (with_reducible refine (HN3.out _).mono ?_)); rintro r w9 ⟨rfl, rfl⟩))
    go_quiet (fail)
    rw [← hv.out, ← hxf.out]
    obtain ⟨w2, hw2⟩ : ∃ w2, w2 = w1.drewN nq := ⟨_, rfl⟩
    rw [← hw2]
    replace HB1 := Lib.hid (show Below w.heap.size w w2 from by rw [hw2]; exact Below.drewN' HB1.out _)
    replace HK1 := Lib.hid (show TwoP w.heap.size w2 from by rw [hw2]; exact ⟨HK1.out.r, HK1.out.n⟩)
    clear hw2 nq e0 e1 e2 e3 e4 e5 f0 f1 f2
    obtain ⟨⟨e0, e1, e2⟩, e3, e4, e5⟩ := HK1.out.keep
    obtain ⟨f0, f1, f2⟩ := HK1.out.free
    go_wp2_with (first
      | (go_at_call 23; (first | (with_reducible refine (HCU.out _).mono ?_)); rintro r w9 ⟨rfl, rfl⟩)
      | (go_at_call 29; (first | (with_reducible refine (HEN.out _).mono ?_)); rintro r w9 ⟨rfl, rfl⟩)
      | (go_at_call 28; (first | (with_reducible refine (HTB.out _).mono ?_)); rintro r w9 ⟨rfl, rfl⟩)
      | (go_at_call 24; (first | (with_reducible refine (HR1.out _).mono ?_) | (with_reducible refine (HR2.out _).mono ?_) | (with_reducible refine (HR3.out _).mono ?_)); rintro r w9 ⟨rfl, rfl⟩)
      | (go_at_call 25; (first | (with_reducible refine (HN1.out _).mono ?_) | (with_reducible refine (HN2.out _).mono ?_) | (with_reducible refine (HN3.out _).mono ?_)); rintro r w9 ⟨rfl, rfl⟩))
    obtain ⟨j0, j1, j2⟩ := HK1.out.puts (.int .i64 0) (.int .i64 0) (.int .i64 0)
    exact bodyPost_ret (v := .tuple #[partV 0 0 0, .int .i64 2]) (by simp [results, Try.results10, go_sem, j0, j1, j2]) rfl ⟨rfl, put3_below HB1.out _ _ _⟩
  rw [decide_eq_false hv0] at EV
  have pv : 0 < v.size := by omega
  have pv' : (1 : Int) ≤ (v.size : Int) := by omega
  have vv := head_byte v pv 45
  cases qv : atB v 0 45
  · rw [qv] at vv
    replace vv : ((v[0].toNat : Int) == 45) = false := vv
    have hq := Lib.hid (A3 rfl rfl (.inr (.inl qv)))
    rw [hq.out]
    clear hq A1 A2 A3 A4 A5 A6 A7
    go_enter Try.func10, Try.ntmps10
    go_wp2_with fail
    rw [← hw0]
    clear hw0
    refine HU.out.mono ?_
    rintro q w1 ⟨rfl, b1⟩
    have HB1 := Lib.hid (HB.out.trans (b1.mono HB.out.size))
    have HK1 := Lib.hid (HK.out.below b1)
    obtain ⟨⟨e0, e1, e2⟩, e3, e4, e5⟩ := HK1.out.keep
    obtain ⟨f0, f1, f2⟩ := HK1.out.free
    clear b1 HU HB HK
    go_wp2_with (first
      | (go_at_call 23; (first | (with_reducible refine (HCU.out _).mono ?_)); rintro r w9 ⟨rfl, rfl⟩)
      | (go_at_call 29; (first | (with_reducible refine (HEN.out _).mono ?_)); rintro r w9 ⟨rfl, rfl⟩)
      | (go_at_call 28; (first | (with_reducible refine (HTB.out _).mono ?_)); rintro r w9 ⟨rfl, rfl⟩)
      | (go_at_call 24; (first | (with_reducible refine (HR1.out _).mono ?_) | (with_reducible refine (HR2.out _).mono ?_) | (with_reducible refine (HR3.out _).mono ?_)); rintro r w9 ⟨rfl, rfl⟩)
      | (go_at_call 25; (first | (with_reducible refine (HN1.out _).mono ?_) | (with_reducible refine (HN2.out _).mono ?_) | (with_reducible refine (HN3.out _).mono ?_)); rintro r w9 ⟨rfl, rfl⟩))
    go_quiet (fail)
    rw [← hv.out, ← hxf.out]
    obtain ⟨w2, hw2⟩ : ∃ w2, w2 = w1.drewN nq := ⟨_, rfl⟩
    rw [← hw2]
    replace HB1 := Lib.hid (show Below w.heap.size w w2 from by rw [hw2]; exact Below.drewN' HB1.out _)
    replace HK1 := Lib.hid (show TwoP w.heap.size w2 from by rw [hw2]; exact ⟨HK1.out.r, HK1.out.n⟩)
    clear hw2 nq e0 e1 e2 e3 e4 e5 f0 f1 f2
    obtain ⟨⟨e0, e1, e2⟩, e3, e4, e5⟩ := HK1.out.keep
    obtain ⟨f0, f1, f2⟩ := HK1.out.free
    go_wp2_with (first
      | (go_at_call 23; (first | (with_reducible refine (HCU.out _).mono ?_)); rintro r w9 ⟨rfl, rfl⟩)
      | (go_at_call 29; (first | (with_reducible refine (HEN.out _).mono ?_)); rintro r w9 ⟨rfl, rfl⟩)
      | (go_at_call 28; (first | (with_reducible refine (HTB.out _).mono ?_)); rintro r w9 ⟨rfl, rfl⟩)
      | (go_at_call 24; (first | (with_reducible refine (HR1.out _).mono ?_) | (with_reducible refine (HR2.out _).mono ?_) | (with_reducible refine (HR3.out _).mono ?_)); rintro r w9 ⟨rfl, rfl⟩)
      | (go_at_call 25; (first | (with_reducible refine (HN1.out _).mono ?_) | (with_reducible refine (HN2.out _).mono ?_) | (with_reducible refine (HN3.out _).mono ?_)); rintro r w9 ⟨rfl, rfl⟩))
    obtain ⟨j0, j1, j2⟩ := HK1.out.puts (.int .i64 0) (.int .i64 0) (.int .i64 0)
    exact bodyPost_ret (v := .tuple #[partV 0 0 0, .int .i64 2]) (by simp [results, Try.results10, go_sem, j0, j1, j2]) rfl ⟨rfl, put3_below HB1.out _ _ _⟩
  rw [qv] at vv
  replace vv : ((v[0].toNat : Int) == 45) = true := vv
  have wv : v[0].toNat = 45 := by have := eq_of_beq vv; omega
  have lk2' := lk2 pv
  have g1 : IntKind.i64.wrap ((k2 : Int) + 1) = (k2 : Int) + 1 := IntWalk.i64_in _ (by omega)
  have g2 : 0 ≤ (k2 : Int) + 1 := by omega
  have g3 : ((k2 : Int) + 1).toNat = k2 + 1 := by omega
  have g4 : (k2 : Int) + 1 ≤ (v.size : Int) := by omega
  have g5 : (1 : Int) ≤ (k2 : Int) + 1 := by omega
  by_cases hk2 : k2 = 0
  · rw [decide_eq_true hk2] at EO
    have HF := Lib.hid (A3 rfl rfl (.inr (.inr hk2)))
    clear hk2
    have hq := Lib.hid (HF.out)
    rw [hq.out]
    clear hq A1 A2 A3 A4 A5 A6 A7
    go_enter Try.func10, Try.ntmps10
    go_wp2_with fail
    rw [← hw0]
    clear hw0
    refine HU.out.mono ?_
    rintro q w1 ⟨rfl, b1⟩
    have HB1 := Lib.hid (HB.out.trans (b1.mono HB.out.size))
    have HK1 := Lib.hid (HK.out.below b1)
    obtain ⟨⟨e0, e1, e2⟩, e3, e4, e5⟩ := HK1.out.keep
    obtain ⟨f0, f1, f2⟩ := HK1.out.free
    clear b1 HU HB HK
    go_wp2_with (first
      | (go_at_call 23; (first | (with_reducible refine (HCU.out _).mono ?_)); rintro r w9 ⟨rfl, rfl⟩)
      | (go_at_call 29; (first | (with_reducible refine (HEN.out _).mono ?_)); rintro r w9 ⟨rfl, rfl⟩)
      | (go_at_call 28; (first | (with_reducible refine (HTB.out _).mono ?_)); rintro r w9 ⟨rfl, rfl⟩)
      | (go_at_call 24; (first | (with_reducible refine (HR1.out _).mono ?_) | (with_reducible refine (HR2.out _).mono ?_) | (with_reducible refine (HR3.out _).mono ?_)); rintro r w9 ⟨rfl, rfl⟩)
      | (go_at_call 25; (first | (with_reducible refine (HN1.out _).mono ?_) | (with_reducible refine (HN2.out _).mono ?_) | (with_reducible refine (HN3.out _).mono ?_)); rintro r w9 ⟨rfl, rfl⟩))
    go_quiet (fail)
    rw [← hv.out, ← hxf.out]
    obtain ⟨w2, hw2⟩ : ∃ w2, w2 = w1.drewN nq := ⟨_, rfl⟩
    rw [← hw2]
    replace HB1 := Lib.hid (show Below w.heap.size w w2 from by rw [hw2]; exact Below.drewN' HB1.out _)
    replace HK1 := Lib.hid (show TwoP w.heap.size w2 from by rw [hw2]; exact ⟨HK1.out.r, HK1.out.n⟩)
    clear hw2 nq e0 e1 e2 e3 e4 e5 f0 f1 f2
    obtain ⟨⟨e0, e1, e2⟩, e3, e4, e5⟩ := HK1.out.keep
    obtain ⟨f0, f1, f2⟩ := HK1.out.free
    go_wp2_with (first
      | (go_at_call 23; (first | (with_reducible refine (HCU.out _).mono ?_)); rintro r w9 ⟨rfl, rfl⟩)
      | (go_at_call 29; (first | (with_reducible refine (HEN.out _).mono ?_)); rintro r w9 ⟨rfl, rfl⟩)
      | (go_at_call 28; (first | (with_reducible refine (HTB.out _).mono ?_)); rintro r w9 ⟨rfl, rfl⟩)
      | (go_at_call 24; (first | (with_reducible refine (HR1.out _).mono ?_) | (with_reducible refine (HR2.out _).mono ?_) | (with_reducible refine (HR3.out _).mono ?_)); rintro r w9 ⟨rfl, rfl⟩)
      | (go_at_call 25; (first | (with_reducible refine (HN1.out _).mono ?_) | (with_reducible refine (HN2.out _).mono ?_) | (with_reducible refine (HN3.out _).mono ?_)); rintro r w9 ⟨rfl, rfl⟩))
    go_quiet (fail)
    rw [← hu.out, ← hxt.out]
    obtain ⟨w3, hw3⟩ : ∃ w3, w3 = w2.drewN nq := ⟨_, rfl⟩
    rw [← hw3]
    replace HB1 := Lib.hid (show Below w.heap.size w w3 from by rw [hw3]; exact Below.drewN' HB1.out _)
    replace HK1 := Lib.hid (show TwoP w.heap.size w3 from by rw [hw3]; exact ⟨HK1.out.r, HK1.out.n⟩)
    clear hw3 nq e0 e1 e2 e3 e4 e5 f0 f1 f2
    obtain ⟨⟨e0, e1, e2⟩, e3, e4, e5⟩ := HK1.out.keep
    obtain ⟨f0, f1, f2⟩ := HK1.out.free
    go_wp2_with (first
      | (go_at_call 23; (first | (with_reducible refine (HCU.out _).mono ?_)); rintro r w9 ⟨rfl, rfl⟩)
      | (go_at_call 29; (first | (with_reducible refine (HEN.out _).mono ?_)); rintro r w9 ⟨rfl, rfl⟩)
      | (go_at_call 28; (first | (with_reducible refine (HTB.out _).mono ?_)); rintro r w9 ⟨rfl, rfl⟩)
      | (go_at_call 24; (first | (with_reducible refine (HR1.out _).mono ?_) | (with_reducible refine (HR2.out _).mono ?_) | (with_reducible refine (HR3.out _).mono ?_)); rintro r w9 ⟨rfl, rfl⟩)
      | (go_at_call 25; (first | (with_reducible refine (HN1.out _).mono ?_) | (with_reducible refine (HN2.out _).mono ?_) | (with_reducible refine (HN3.out _).mono ?_)); rintro r w9 ⟨rfl, rfl⟩))
    obtain ⟨j0, j1, j2⟩ := HK1.out.puts (.int .i64 0) (.int .i64 0) (.int .i64 0)
    exact bodyPost_ret (v := .tuple #[partV 0 0 0, .int .i64 2]) (by simp [results, Try.results10, go_sem, j0, j1, j2]) rfl ⟨rfl, put3_below HB1.out _ _ _⟩
  rw [decide_eq_false hk2] at EO
  have HKT := Lib.hid hk2
  clear hk2
  by_cases hu0 : u.size = 0
  · have qu : atB u 0 47 = false := atB_out (by omega)
    rw [decide_eq_true hu0] at EU
    have hq := Lib.hid (A4 rfl rfl HKF.out qv HKT.out qu)
    rw [hq.out]
    clear hq A1 A2 A3 A4 A5 A6 A7
    go_enter Try.func10, Try.ntmps10
    go_wp2_with fail
    rw [← hw0]
    clear hw0
    refine HU.out.mono ?_
    rintro q w1 ⟨rfl, b1⟩
    have HB1 := Lib.hid (HB.out.trans (b1.mono HB.out.size))
    have HK1 := Lib.hid (HK.out.below b1)
    obtain ⟨⟨e0, e1, e2⟩, e3, e4, e5⟩ := HK1.out.keep
    obtain ⟨f0, f1, f2⟩ := HK1.out.free
    clear b1 HU HB HK
    go_wp2_with (first
      | (go_at_call 23; (first | (with_reducible refine (HCU.out _).mono ?_)); rintro r w9 ⟨rfl, rfl⟩)
      | (go_at_call 29; (first | (with_reducible refine (HEN.out _).mono ?_)); rintro r w9 ⟨rfl, rfl⟩)
      | (go_at_call 28; (first | (with_reducible refine (HTB.out _).mono ?_)); rintro r w9 ⟨rfl, rfl⟩)
      | (go_at_call 24; (first | (with_reducible refine (HR1.out _).mono ?_) | (with_reducible refine (HR2.out _).mono ?_) | (with_reducible refine (HR3.out _).mono ?_)); rintro r w9 ⟨rfl, rfl⟩)
      | (go_at_call 25; (first | (with_reducible refine (HN1.out _).mono ?_) | (with_reducible refine (HN2.out _).mono ?_) | (with_reducible refine (HN3.out _).mono ?_)); rintro r w9 ⟨rfl, rfl⟩))
    go_quiet (fail)
    rw [← hv.out, ← hxf.out]
    obtain ⟨w2, hw2⟩ : ∃ w2, w2 = w1.drewN nq := ⟨_, rfl⟩
    rw [← hw2]
    replace HB1 := Lib.hid (show Below w.heap.size w w2 from by rw [hw2]; exact Below.drewN' HB1.out _)
    replace HK1 := Lib.hid (show TwoP w.heap.size w2 from by rw [hw2]; exact ⟨HK1.out.r, HK1.out.n⟩)
    clear hw2 nq e0 e1 e2 e3 e4 e5 f0 f1 f2
    obtain ⟨⟨e0, e1, e2⟩, e3, e4, e5⟩ := HK1.out.keep
    obtain ⟨f0, f1, f2⟩ := HK1.out.free
    go_wp2_with (first
      | (go_at_call 23; (first | (with_reducible refine (HCU.out _).mono ?_)); rintro r w9 ⟨rfl, rfl⟩)
      | (go_at_call 29; (first | (with_reducible refine (HEN.out _).mono ?_)); rintro r w9 ⟨rfl, rfl⟩)
      | (go_at_call 28; (first | (with_reducible refine (HTB.out _).mono ?_)); rintro r w9 ⟨rfl, rfl⟩)
      | (go_at_call 24; (first | (with_reducible refine (HR1.out _).mono ?_) | (with_reducible refine (HR2.out _).mono ?_) | (with_reducible refine (HR3.out _).mono ?_)); rintro r w9 ⟨rfl, rfl⟩)
      | (go_at_call 25; (first | (with_reducible refine (HN1.out _).mono ?_) | (with_reducible refine (HN2.out _).mono ?_) | (with_reducible refine (HN3.out _).mono ?_)); rintro r w9 ⟨rfl, rfl⟩))
    go_quiet (fail)
    rw [← hu.out, ← hxt.out]
    obtain ⟨w3, hw3⟩ : ∃ w3, w3 = w2.drewN nq := ⟨_, rfl⟩
    rw [← hw3]
    replace HB1 := Lib.hid (show Below w.heap.size w w3 from by rw [hw3]; exact Below.drewN' HB1.out _)
    replace HK1 := Lib.hid (show TwoP w.heap.size w3 from by rw [hw3]; exact ⟨HK1.out.r, HK1.out.n⟩)
    clear hw3 nq e0 e1 e2 e3 e4 e5 f0 f1 f2
    obtain ⟨⟨e0, e1, e2⟩, e3, e4, e5⟩ := HK1.out.keep
    obtain ⟨f0, f1, f2⟩ := HK1.out.free
    go_wp2_with (first
      | (go_at_call 23; (first | (with_reducible refine (HCU.out _).mono ?_)); rintro r w9 ⟨rfl, rfl⟩)
      | (go_at_call 29; (first | (with_reducible refine (HEN.out _).mono ?_)); rintro r w9 ⟨rfl, rfl⟩)
      | (go_at_call 28; (first | (with_reducible refine (HTB.out _).mono ?_)); rintro r w9 ⟨rfl, rfl⟩)
      | (go_at_call 24; (first | (with_reducible refine (HR1.out _).mono ?_) | (with_reducible refine (HR2.out _).mono ?_) | (with_reducible refine (HR3.out _).mono ?_)); rintro r w9 ⟨rfl, rfl⟩)
      | (go_at_call 25; (first | (with_reducible refine (HN1.out _).mono ?_) | (with_reducible refine (HN2.out _).mono ?_) | (with_reducible refine (HN3.out _).mono ?_)); rintro r w9 ⟨rfl, rfl⟩))
    obtain ⟨j0, j1, j2⟩ := HK1.out.puts (.int .i64 0) (.int .i64 0) (.int .i64 0)
    exact bodyPost_ret (v := .tuple #[partV 0 0 0, .int .i64 2]) (by simp [results, Try.results10, go_sem, j0, j1, j2]) rfl ⟨rfl, put3_below HB1.out _ _ _⟩
  rw [decide_eq_false hu0] at EU
  have pu : 0 < u.size := by omega
  have pu' : (1 : Int) ≤ (u.size : Int) := by omega
  have vu := head_byte u pu 47
  cases qu : atB u 0 47
  · rw [qu] at vu
    replace vu : ((u[0].toNat : Int) == 47) = false := vu
    have hq := Lib.hid (A4 rfl rfl HKF.out qv HKT.out qu)
    rw [hq.out]
    clear hq A1 A2 A3 A4 A5 A6 A7
    go_enter Try.func10, Try.ntmps10
    go_wp2_with fail
    rw [← hw0]
    clear hw0
    refine HU.out.mono ?_
    rintro q w1 ⟨rfl, b1⟩
    have HB1 := Lib.hid (HB.out.trans (b1.mono HB.out.size))
    have HK1 := Lib.hid (HK.out.below b1)
    obtain ⟨⟨e0, e1, e2⟩, e3, e4, e5⟩ := HK1.out.keep
    obtain ⟨f0, f1, f2⟩ := HK1.out.free
    clear b1 HU HB HK
    go_wp2_with (first
      | (go_at_call 23; (first | (with_reducible refine (HCU.out _).mono ?_)); rintro r w9 ⟨rfl, rfl⟩)
      | (go_at_call 29; (first | (with_reducible refine (HEN.out _).mono ?_)); rintro r w9 ⟨rfl, rfl⟩)
      | (go_at_call 28; (first | (with_reducible refine (HTB.out _).mono ?_)); rintro r w9 ⟨rfl, rfl⟩)
      | (go_at_call 24; (first | (with_reducible refine (HR1.out _).mono ?_) | (with_reducible refine (HR2.out _).mono ?_) | (with_reducible refine (HR3.out _).mono ?_)); rintro r w9 ⟨rfl, rfl⟩)
      | (go_at_call 25; (first | (with_reducible refine (HN1.out _).mono ?_) | (with_reducible refine (HN2.out _).mono ?_) | (with_reducible refine (HN3.out _).mono ?_)); rintro r w9 ⟨rfl, rfl⟩))
    go_quiet (fail)
    rw [← hv.out, ← hxf.out]
    obtain ⟨w2, hw2⟩ : ∃ w2, w2 = w1.drewN nq := ⟨_, rfl⟩
    rw [← hw2]
    replace HB1 := Lib.hid (show Below w.heap.size w w2 from by rw [hw2]; exact Below.drewN' HB1.out _)
    replace HK1 := Lib.hid (show TwoP w.heap.size w2 from by rw [hw2]; exact ⟨HK1.out.r, HK1.out.n⟩)
    clear hw2 nq e0 e1 e2 e3 e4 e5 f0 f1 f2
    obtain ⟨⟨e0, e1, e2⟩, e3, e4, e5⟩ := HK1.out.keep
    obtain ⟨f0, f1, f2⟩ := HK1.out.free
    go_wp2_with (first
      | (go_at_call 23; (first | (with_reducible refine (HCU.out _).mono ?_)); rintro r w9 ⟨rfl, rfl⟩)
      | (go_at_call 29; (first | (with_reducible refine (HEN.out _).mono ?_)); rintro r w9 ⟨rfl, rfl⟩)
      | (go_at_call 28; (first | (with_reducible refine (HTB.out _).mono ?_)); rintro r w9 ⟨rfl, rfl⟩)
      | (go_at_call 24; (first | (with_reducible refine (HR1.out _).mono ?_) | (with_reducible refine (HR2.out _).mono ?_) | (with_reducible refine (HR3.out _).mono ?_)); rintro r w9 ⟨rfl, rfl⟩)
      | (go_at_call 25; (first | (with_reducible refine (HN1.out _).mono ?_) | (with_reducible refine (HN2.out _).mono ?_) | (with_reducible refine (HN3.out _).mono ?_)); rintro r w9 ⟨rfl, rfl⟩))
    go_quiet (fail)
    rw [← hu.out, ← hxt.out]
    obtain ⟨w3, hw3⟩ : ∃ w3, w3 = w2.drewN nq := ⟨_, rfl⟩
    rw [← hw3]
    replace HB1 := Lib.hid (show Below w.heap.size w w3 from by rw [hw3]; exact Below.drewN' HB1.out _)
    replace HK1 := Lib.hid (show TwoP w.heap.size w3 from by rw [hw3]; exact ⟨HK1.out.r, HK1.out.n⟩)
    clear hw3 nq e0 e1 e2 e3 e4 e5 f0 f1 f2
    obtain ⟨⟨e0, e1, e2⟩, e3, e4, e5⟩ := HK1.out.keep
    obtain ⟨f0, f1, f2⟩ := HK1.out.free
    go_wp2_with (first
      | (go_at_call 23; (first | (with_reducible refine (HCU.out _).mono ?_)); rintro r w9 ⟨rfl, rfl⟩)
      | (go_at_call 29; (first | (with_reducible refine (HEN.out _).mono ?_)); rintro r w9 ⟨rfl, rfl⟩)
      | (go_at_call 28; (first | (with_reducible refine (HTB.out _).mono ?_)); rintro r w9 ⟨rfl, rfl⟩)
      | (go_at_call 24; (first | (with_reducible refine (HR1.out _).mono ?_) | (with_reducible refine (HR2.out _).mono ?_) | (with_reducible refine (HR3.out _).mono ?_)); rintro r w9 ⟨rfl, rfl⟩)
      | (go_at_call 25; (first | (with_reducible refine (HN1.out _).mono ?_) | (with_reducible refine (HN2.out _).mono ?_) | (with_reducible refine (HN3.out _).mono ?_)); rintro r w9 ⟨rfl, rfl⟩))
    obtain ⟨j0, j1, j2⟩ := HK1.out.puts (.int .i64 0) (.int .i64 0) (.int .i64 0)
    exact bodyPost_ret (v := .tuple #[partV 0 0 0, .int .i64 2]) (by simp [results, Try.results10, go_sem, j0, j1, j2]) rfl ⟨rfl, put3_below HB1.out _ _ _⟩
  rw [qu] at vu
  replace vu : ((u[0].toNat : Int) == 47) = true := vu
  have wu : u[0].toNat = 47 := by have := eq_of_beq vu; omega
  by_cases hr0 : r.size = 0
  · rw [decide_eq_true hr0] at ER
    have hq := Lib.hid (A5 rfl rfl HKF.out qv HKT.out qu (.inl hr0))
    rw [hq.out]
    clear hq A1 A2 A3 A4 A5 A6 A7
    go_enter Try.func10, Try.ntmps10
    go_wp2_with fail
    rw [← hw0]
    clear hw0
    refine HU.out.mono ?_
    rintro q w1 ⟨rfl, b1⟩
    have HB1 := Lib.hid (HB.out.trans (b1.mono HB.out.size))
    have HK1 := Lib.hid (HK.out.below b1)
    obtain ⟨⟨e0, e1, e2⟩, e3, e4, e5⟩ := HK1.out.keep
    obtain ⟨f0, f1, f2⟩ := HK1.out.free
    clear b1 HU HB HK
    go_wp2_with (first
      | (go_at_call 23; (first | (with_reducible refine (HCU.out _).mono ?_)); rintro r w9 ⟨rfl, rfl⟩)
      | (go_at_call 29; (first | (with_reducible refine (HEN.out _).mono ?_)); rintro r w9 ⟨rfl, rfl⟩)
      | (go_at_call 28; (first | (with_reducible refine (HTB.out _).mono ?_)); rintro r w9 ⟨rfl, rfl⟩)
      | (go_at_call 24; (first | (with_reducible refine (HR1.out _).mono ?_) | (with_reducible refine (HR2.out _).mono ?_) | (with_reducible refine (HR3.out _).mono ?_)); rintro r w9 ⟨rfl, rfl⟩)
      | (go_at_call 25; (first | (with_reducible refine (HN1.out _).mono ?_) | (with_reducible refine (HN2.out _).mono ?_) | (with_reducible refine (HN3.out _).mono ?_)); rintro r w9 ⟨rfl, rfl⟩))
    go_quiet (fail)
    rw [← hv.out, ← hxf.out]
    obtain ⟨w2, hw2⟩ : ∃ w2, w2 = w1.drewN nq := ⟨_, rfl⟩
    rw [← hw2]
    replace HB1 := Lib.hid (show Below w.heap.size w w2 from by rw [hw2]; exact Below.drewN' HB1.out _)
    replace HK1 := Lib.hid (show TwoP w.heap.size w2 from by rw [hw2]; exact ⟨HK1.out.r, HK1.out.n⟩)
    clear hw2 nq e0 e1 e2 e3 e4 e5 f0 f1 f2
    obtain ⟨⟨e0, e1, e2⟩, e3, e4, e5⟩ := HK1.out.keep
    obtain ⟨f0, f1, f2⟩ := HK1.out.free
    go_wp2_with (first
      | (go_at_call 23; (first | (with_reducible refine (HCU.out _).mono ?_)); rintro r w9 ⟨rfl, rfl⟩)
      | (go_at_call 29; (first | (with_reducible refine (HEN.out _).mono ?_)); rintro r w9 ⟨rfl, rfl⟩)
      | (go_at_call 28; (first | (with_reducible refine (HTB.out _).mono ?_)); rintro r w9 ⟨rfl, rfl⟩)
      | (go_at_call 24; (first | (with_reducible refine (HR1.out _).mono ?_) | (with_reducible refine (HR2.out _).mono ?_) | (with_reducible refine (HR3.out _).mono ?_)); rintro r w9 ⟨rfl, rfl⟩)
      | (go_at_call 25; (first | (with_reducible refine (HN1.out _).mono ?_) | (with_reducible refine (HN2.out _).mono ?_) | (with_reducible refine (HN3.out _).mono ?_)); rintro r w9 ⟨rfl, rfl⟩))
    go_quiet (fail)
    rw [← hu.out, ← hxt.out]
    obtain ⟨w3, hw3⟩ : ∃ w3, w3 = w2.drewN nq := ⟨_, rfl⟩
    rw [← hw3]
    replace HB1 := Lib.hid (show Below w.heap.size w w3 from by rw [hw3]; exact Below.drewN' HB1.out _)
    replace HK1 := Lib.hid (show TwoP w.heap.size w3 from by rw [hw3]; exact ⟨HK1.out.r, HK1.out.n⟩)
    clear hw3 nq e0 e1 e2 e3 e4 e5 f0 f1 f2
    obtain ⟨⟨e0, e1, e2⟩, e3, e4, e5⟩ := HK1.out.keep
    obtain ⟨f0, f1, f2⟩ := HK1.out.free
    go_upto_region 20 with (first
      | (go_at_call 23; (first | (with_reducible refine (HCU.out _).mono ?_)); rintro r w9 ⟨rfl, rfl⟩)
      | (go_at_call 29; (first | (with_reducible refine (HEN.out _).mono ?_)); rintro r w9 ⟨rfl, rfl⟩)
      | (go_at_call 28; (first | (with_reducible refine (HTB.out _).mono ?_)); rintro r w9 ⟨rfl, rfl⟩)
      | (go_at_call 24; (first | (with_reducible refine (HR1.out _).mono ?_) | (with_reducible refine (HR2.out _).mono ?_) | (with_reducible refine (HR3.out _).mono ?_)); rintro r w9 ⟨rfl, rfl⟩)
      | (go_at_call 25; (first | (with_reducible refine (HN1.out _).mono ?_) | (with_reducible refine (HN2.out _).mono ?_) | (with_reducible refine (HN3.out _).mono ?_)); rintro r w9 ⟨rfl, rfl⟩))
    rw [← hr.out]
    go_wp2_with (first
      | (go_at_call 23; (first | (with_reducible refine (HCU.out _).mono ?_)); rintro r w9 ⟨rfl, rfl⟩)
      | (go_at_call 29; (first | (with_reducible refine (HEN.out _).mono ?_)); rintro r w9 ⟨rfl, rfl⟩)
      | (go_at_call 28; (first | (with_reducible refine (HTB.out _).mono ?_)); rintro r w9 ⟨rfl, rfl⟩)
      | (go_at_call 24; (first | (with_reducible refine (HR1.out _).mono ?_) | (with_reducible refine (HR2.out _).mono ?_) | (with_reducible refine (HR3.out _).mono ?_)); rintro r w9 ⟨rfl, rfl⟩)
      | (go_at_call 25; (first | (with_reducible refine (HN1.out _).mono ?_) | (with_reducible refine (HN2.out _).mono ?_) | (with_reducible refine (HN3.out _).mono ?_)); rintro r w9 ⟨rfl, rfl⟩))
    obtain ⟨j0, j1, j2⟩ := HK1.out.puts (.int .i64 0) (.int .i64 0) (.int .i64 0)
    exact bodyPost_ret (v := .tuple #[partV 0 0 0, .int .i64 2]) (by simp [results, Try.results10, go_sem, j0, j1, j2]) rfl ⟨rfl, put3_below HB1.out _ _ _⟩
  rw [decide_eq_false hr0] at ER
  by_cases hk3 : (k3 : Int) = r.size
  rotate_left
  · have d3 : ((k3 : Int) == (r.size : Int)) = false := beq_false_of_ne hk3
    have hq := Lib.hid (A5 rfl rfl HKF.out qv HKT.out qu (.inr hk3))
    rw [hq.out]
    clear hq A1 A2 A3 A4 A5 A6 A7
    go_enter Try.func10, Try.ntmps10
    go_wp2_with fail
    rw [← hw0]
    clear hw0
    refine HU.out.mono ?_
    rintro q w1 ⟨rfl, b1⟩
    have HB1 := Lib.hid (HB.out.trans (b1.mono HB.out.size))
    have HK1 := Lib.hid (HK.out.below b1)
    obtain ⟨⟨e0, e1, e2⟩, e3, e4, e5⟩ := HK1.out.keep
    obtain ⟨f0, f1, f2⟩ := HK1.out.free
    clear b1 HU HB HK
    go_wp2_with (first
      | (go_at_call 23; (first | (with_reducible refine (HCU.out _).mono ?_)); rintro r w9 ⟨rfl, rfl⟩)
      | (go_at_call 29; (first | (with_reducible refine (HEN.out _).mono ?_)); rintro r w9 ⟨rfl, rfl⟩)
      | (go_at_call 28; (first | (with_reducible refine (HTB.out _).mono ?_)); rintro r w9 ⟨rfl, rfl⟩)
      | (go_at_call 24; (first | (with_reducible refine (HR1.out _).mono ?_) | (with_reducible refine (HR2.out _).mono ?_) | (with_reducible refine (HR3.out _).mono ?_)); rintro r w9 ⟨rfl, rfl⟩)
      | (go_at_call 25; (first | (with_reducible refine (HN1.out _).mono ?_) | (with_reducible refine (HN2.out _).mono ?_) | (with_reducible refine (HN3.out _).mono ?_)); rintro r w9 ⟨rfl, rfl⟩))
    go_quiet (fail)
    rw [← hv.out, ← hxf.out]
    obtain ⟨w2, hw2⟩ : ∃ w2, w2 = w1.drewN nq := ⟨_, rfl⟩
    rw [← hw2]
    replace HB1 := Lib.hid (show Below w.heap.size w w2 from by rw [hw2]; exact Below.drewN' HB1.out _)
    replace HK1 := Lib.hid (show TwoP w.heap.size w2 from by rw [hw2]; exact ⟨HK1.out.r, HK1.out.n⟩)
    clear hw2 nq e0 e1 e2 e3 e4 e5 f0 f1 f2
    obtain ⟨⟨e0, e1, e2⟩, e3, e4, e5⟩ := HK1.out.keep
    obtain ⟨f0, f1, f2⟩ := HK1.out.free
    go_wp2_with (first
      | (go_at_call 23; (first | (with_reducible refine (HCU.out _).mono ?_)); rintro r w9 ⟨rfl, rfl⟩)
      | (go_at_call 29; (first | (with_reducible refine (HEN.out _).mono ?_)); rintro r w9 ⟨rfl, rfl⟩)
      | (go_at_call 28; (first | (with_reducible refine (HTB.out _).mono ?_)); rintro r w9 ⟨rfl, rfl⟩)
      | (go_at_call 24; (first | (with_reducible refine (HR1.out _).mono ?_) | (with_reducible refine (HR2.out _).mono ?_) | (with_reducible refine (HR3.out _).mono ?_)); rintro r w9 ⟨rfl, rfl⟩)
      | (go_at_call 25; (first | (with_reducible refine (HN1.out _).mono ?_) | (with_reducible refine (HN2.out _).mono ?_) | (with_reducible refine (HN3.out _).mono ?_)); rintro r w9 ⟨rfl, rfl⟩))
    go_quiet (fail)
    rw [← hu.out, ← hxt.out]
    obtain ⟨w3, hw3⟩ : ∃ w3, w3 = w2.drewN nq := ⟨_, rfl⟩
    rw [← hw3]
    replace HB1 := Lib.hid (show Below w.heap.size w w3 from by rw [hw3]; exact Below.drewN' HB1.out _)
    replace HK1 := Lib.hid (show TwoP w.heap.size w3 from by rw [hw3]; exact ⟨HK1.out.r, HK1.out.n⟩)
    clear hw3 nq e0 e1 e2 e3 e4 e5 f0 f1 f2
    obtain ⟨⟨e0, e1, e2⟩, e3, e4, e5⟩ := HK1.out.keep
    obtain ⟨f0, f1, f2⟩ := HK1.out.free
    go_upto_region 20 with (first
      | (go_at_call 23; (first | (with_reducible refine (HCU.out _).mono ?_)); rintro r w9 ⟨rfl, rfl⟩)
      | (go_at_call 29; (first | (with_reducible refine (HEN.out _).mono ?_)); rintro r w9 ⟨rfl, rfl⟩)
      | (go_at_call 28; (first | (with_reducible refine (HTB.out _).mono ?_)); rintro r w9 ⟨rfl, rfl⟩)
      | (go_at_call 24; (first | (with_reducible refine (HR1.out _).mono ?_) | (with_reducible refine (HR2.out _).mono ?_) | (with_reducible refine (HR3.out _).mono ?_)); rintro r w9 ⟨rfl, rfl⟩)
      | (go_at_call 25; (first | (with_reducible refine (HN1.out _).mono ?_) | (with_reducible refine (HN2.out _).mono ?_) | (with_reducible refine (HN3.out _).mono ?_)); rintro r w9 ⟨rfl, rfl⟩))
    rw [← hr.out]
    go_wp2_with (first
      | (go_at_call 23; (first | (with_reducible refine (HCU.out _).mono ?_)); rintro r w9 ⟨rfl, rfl⟩)
      | (go_at_call 29; (first | (with_reducible refine (HEN.out _).mono ?_)); rintro r w9 ⟨rfl, rfl⟩)
      | (go_at_call 28; (first | (with_reducible refine (HTB.out _).mono ?_)); rintro r w9 ⟨rfl, rfl⟩)
      | (go_at_call 24; (first | (with_reducible refine (HR1.out _).mono ?_) | (with_reducible refine (HR2.out _).mono ?_) | (with_reducible refine (HR3.out _).mono ?_)); rintro r w9 ⟨rfl, rfl⟩)
      | (go_at_call 25; (first | (with_reducible refine (HN1.out _).mono ?_) | (with_reducible refine (HN2.out _).mono ?_) | (with_reducible refine (HN3.out _).mono ?_)); rintro r w9 ⟨rfl, rfl⟩))
    obtain ⟨j0, j1, j2⟩ := HK1.out.puts (.int .i64 0) (.int .i64 0) (.int .i64 0)
    exact bodyPost_ret (v := .tuple #[partV 0 0 0, .int .i64 2]) (by simp [results, Try.results10, go_sem, j0, j1, j2]) rfl ⟨rfl, put3_below HB1.out _ _ _⟩
  have d3 : ((k3 : Int) == (r.size : Int)) = true := beq_iff_eq.2 hk3
  have HK3 := Lib.hid hk3
  clear hk3
  cases ba
  · have hq := Lib.hid (A6 rfl rfl HKF.out qv HKT.out qu hr0 HK3.out (.inl rfl))
    rw [hq.out]
    clear hq A1 A2 A3 A4 A5 A6 A7
    go_enter Try.func10, Try.ntmps10
    go_wp2_with fail
    rw [← hw0]
    clear hw0
    refine HU.out.mono ?_
    rintro q w1 ⟨rfl, b1⟩
    have HB1 := Lib.hid (HB.out.trans (b1.mono HB.out.size))
    have HK1 := Lib.hid (HK.out.below b1)
    obtain ⟨⟨e0, e1, e2⟩, e3, e4, e5⟩ := HK1.out.keep
    obtain ⟨f0, f1, f2⟩ := HK1.out.free
    clear b1 HU HB HK
    go_wp2_with (first
      | (go_at_call 23; (first | (with_reducible refine (HCU.out _).mono ?_)); rintro r w9 ⟨rfl, rfl⟩)
      | (go_at_call 29; (first | (with_reducible refine (HEN.out _).mono ?_)); rintro r w9 ⟨rfl, rfl⟩)
      | (go_at_call 28; (first | (with_reducible refine (HTB.out _).mono ?_)); rintro r w9 ⟨rfl, rfl⟩)
      | (go_at_call 24; (first | (with_reducible refine (HR1.out _).mono ?_) | (with_reducible refine (HR2.out _).mono ?_) | (with_reducible refine (HR3.out _).mono ?_)); rintro r w9 ⟨rfl, rfl⟩)
      | (go_at_call 25; (first | (with_reducible refine (HN1.out _).mono ?_) | (with_reducible refine (HN2.out _).mono ?_) | (with_reducible refine (HN3.out _).mono ?_)); rintro r w9 ⟨rfl, rfl⟩))
    go_quiet (fail)
    rw [← hv.out, ← hxf.out]
    obtain ⟨w2, hw2⟩ : ∃ w2, w2 = w1.drewN nq := ⟨_, rfl⟩
    rw [← hw2]
    replace HB1 := Lib.hid (show Below w.heap.size w w2 from by rw [hw2]; exact Below.drewN' HB1.out _)
    replace HK1 := Lib.hid (show TwoP w.heap.size w2 from by rw [hw2]; exact ⟨HK1.out.r, HK1.out.n⟩)
    clear hw2 nq e0 e1 e2 e3 e4 e5 f0 f1 f2
    obtain ⟨⟨e0, e1, e2⟩, e3, e4, e5⟩ := HK1.out.keep
    obtain ⟨f0, f1, f2⟩ := HK1.out.free
    go_wp2_with (first
      | (go_at_call 23; (first | (with_reducible refine (HCU.out _).mono ?_)); rintro r w9 ⟨rfl, rfl⟩)
      | (go_at_call 29; (first | (with_reducible refine (HEN.out _).mono ?_)); rintro r w9 ⟨rfl, rfl⟩)
      | (go_at_call 28; (first | (with_reducible refine (HTB.out _).mono ?_)); rintro r w9 ⟨rfl, rfl⟩)
      | (go_at_call 24; (first | (with_reducible refine (HR1.out _).mono ?_) | (with_reducible refine (HR2.out _).mono ?_) | (with_reducible refine (HR3.out _).mono ?_)); rintro r w9 ⟨rfl, rfl⟩)
      | (go_at_call 25; (first | (with_reducible refine (HN1.out _).mono ?_) | (with_reducible refine (HN2.out _).mono ?_) | (with_reducible refine (HN3.out _).mono ?_)); rintro r w9 ⟨rfl, rfl⟩))
    go_quiet (fail)
    rw [← hu.out, ← hxt.out]
    obtain ⟨w3, hw3⟩ : ∃ w3, w3 = w2.drewN nq := ⟨_, rfl⟩
    rw [← hw3]
    replace HB1 := Lib.hid (show Below w.heap.size w w3 from by rw [hw3]; exact Below.drewN' HB1.out _)
    replace HK1 := Lib.hid (show TwoP w.heap.size w3 from by rw [hw3]; exact ⟨HK1.out.r, HK1.out.n⟩)
    clear hw3 nq e0 e1 e2 e3 e4 e5 f0 f1 f2
    obtain ⟨⟨e0, e1, e2⟩, e3, e4, e5⟩ := HK1.out.keep
    obtain ⟨f0, f1, f2⟩ := HK1.out.free
    go_upto_region 20 with (first
      | (go_at_call 23; (first | (with_reducible refine (HCU.out _).mono ?_)); rintro r w9 ⟨rfl, rfl⟩)
      | (go_at_call 29; (first | (with_reducible refine (HEN.out _).mono ?_)); rintro r w9 ⟨rfl, rfl⟩)
      | (go_at_call 28; (first | (with_reducible refine (HTB.out _).mono ?_)); rintro r w9 ⟨rfl, rfl⟩)
      | (go_at_call 24; (first | (with_reducible refine (HR1.out _).mono ?_) | (with_reducible refine (HR2.out _).mono ?_) | (with_reducible refine (HR3.out _).mono ?_)); rintro r w9 ⟨rfl, rfl⟩)
      | (go_at_call 25; (first | (with_reducible refine (HN1.out _).mono ?_) | (with_reducible refine (HN2.out _).mono ?_) | (with_reducible refine (HN3.out _).mono ?_)); rintro r w9 ⟨rfl, rfl⟩))
    rw [← hr.out]
    go_upto_region 28 with (first
      | (go_at_call 23; (first | (with_reducible refine (HCU.out _).mono ?_)); rintro r w9 ⟨rfl, rfl⟩)
      | (go_at_call 29; (first | (with_reducible refine (HEN.out _).mono ?_)); rintro r w9 ⟨rfl, rfl⟩)
      | (go_at_call 28; (first | (with_reducible refine (HTB.out _).mono ?_)); rintro r w9 ⟨rfl, rfl⟩)
      | (go_at_call 24; (first | (with_reducible refine (HR1.out _).mono ?_) | (with_reducible refine (HR2.out _).mono ?_) | (with_reducible refine (HR3.out _).mono ?_)); rintro r w9 ⟨rfl, rfl⟩)
      | (go_at_call 25; (first | (with_reducible refine (HN1.out _).mono ?_) | (with_reducible refine (HN2.out _).mono ?_) | (with_reducible refine (HN3.out _).mono ?_)); rintro r w9 ⟨rfl, rfl⟩))
    obtain ⟨w7, hw7⟩ : ∃ w7, w7 = w3.alloc (partC a b c) := ⟨_, rfl⟩
    rw [← hw7]
    have HP := Lib.hid (show Blk w7 w3.heap.size 29 #[.int .i64 a, .int .i64 b, .int .i64 c] from by rw [hw7]; exact Blk.new _ _ _)
    replace HB1 := Lib.hid (show Below w.heap.size w w7 from by rw [hw7]; exact HB1.out.alloc HB1.out.size _)
    replace HK1 := Lib.hid (show TwoP w.heap.size w7 from by rw [hw7]; exact ⟨HK1.out.r.alloc _, HK1.out.n.alloc _⟩)
    clear hw7 e0 e1 e2 e3 e4 e5 f0 f1 f2
    obtain ⟨⟨e0, e1, e2⟩, e3, e4, e5⟩ := HK1.out.keep
    obtain ⟨f0, f1, f2⟩ := HK1.out.free
    have p0 := HP.out.cell 0
    have p1 := HP.out.cell 1
    have p2 := HP.out.cell 2
    go_wp2_with fail
    obtain ⟨j0, j1, j2⟩ := HK1.out.puts (.int .i64 0) (.int .i64 0) (.int .i64 0)
    exact bodyPost_ret (v := .tuple #[partV 0 0 0, .int .i64 9]) (by simp [results, Try.results10, go_sem, j0, j1, j2]) rfl ⟨rfl, put3_below HB1.out _ _ _⟩
  cases bb
  · have hq := Lib.hid (A6 rfl rfl HKF.out qv HKT.out qu hr0 HK3.out (.inr (.inl rfl)))
    rw [hq.out]
    clear hq A1 A2 A3 A4 A5 A6 A7
    go_enter Try.func10, Try.ntmps10
    go_wp2_with fail
    rw [← hw0]
    clear hw0
    refine HU.out.mono ?_
    rintro q w1 ⟨rfl, b1⟩
    have HB1 := Lib.hid (HB.out.trans (b1.mono HB.out.size))
    have HK1 := Lib.hid (HK.out.below b1)
    obtain ⟨⟨e0, e1, e2⟩, e3, e4, e5⟩ := HK1.out.keep
    obtain ⟨f0, f1, f2⟩ := HK1.out.free
    clear b1 HU HB HK
    go_wp2_with (first
      | (go_at_call 23; (first | (with_reducible refine (HCU.out _).mono ?_)); rintro r w9 ⟨rfl, rfl⟩)
      | (go_at_call 29; (first | (with_reducible refine (HEN.out _).mono ?_)); rintro r w9 ⟨rfl, rfl⟩)
      | (go_at_call 28; (first | (with_reducible refine (HTB.out _).mono ?_)); rintro r w9 ⟨rfl, rfl⟩)
      | (go_at_call 24; (first | (with_reducible refine (HR1.out _).mono ?_) | (with_reducible refine (HR2.out _).mono ?_) | (with_reducible refine (HR3.out _).mono ?_)); rintro r w9 ⟨rfl, rfl⟩)
      | (go_at_call 25; (first | (with_reducible refine (HN1.out _).mono ?_) | (with_reducible refine (HN2.out _).mono ?_) | (with_reducible refine (HN3.out _).mono ?_)); rintro r w9 ⟨rfl, rfl⟩))
    go_quiet (fail)
    rw [← hv.out, ← hxf.out]
    obtain ⟨w2, hw2⟩ : ∃ w2, w2 = w1.drewN nq := ⟨_, rfl⟩
    rw [← hw2]
    replace HB1 := Lib.hid (show Below w.heap.size w w2 from by rw [hw2]; exact Below.drewN' HB1.out _)
    replace HK1 := Lib.hid (show TwoP w.heap.size w2 from by rw [hw2]; exact ⟨HK1.out.r, HK1.out.n⟩)
    clear hw2 nq e0 e1 e2 e3 e4 e5 f0 f1 f2
    obtain ⟨⟨e0, e1, e2⟩, e3, e4, e5⟩ := HK1.out.keep
    obtain ⟨f0, f1, f2⟩ := HK1.out.free
    go_wp2_with (first
      | (go_at_call 23; (first | (with_reducible refine (HCU.out _).mono ?_)); rintro r w9 ⟨rfl, rfl⟩)
      | (go_at_call 29; (first | (with_reducible refine (HEN.out _).mono ?_)); rintro r w9 ⟨rfl, rfl⟩)
      | (go_at_call 28; (first | (with_reducible refine (HTB.out _).mono ?_)); rintro r w9 ⟨rfl, rfl⟩)
      | (go_at_call 24; (first | (with_reducible refine (HR1.out _).mono ?_) | (with_reducible refine (HR2.out _).mono ?_) | (with_reducible refine (HR3.out _).mono ?_)); rintro r w9 ⟨rfl, rfl⟩)
      | (go_at_call 25; (first | (with_reducible refine (HN1.out _).mono ?_) | (with_reducible refine (HN2.out _).mono ?_) | (with_reducible refine (HN3.out _).mono ?_)); rintro r w9 ⟨rfl, rfl⟩))
    go_quiet (fail)
    rw [← hu.out, ← hxt.out]
    obtain ⟨w3, hw3⟩ : ∃ w3, w3 = w2.drewN nq := ⟨_, rfl⟩
    rw [← hw3]
    replace HB1 := Lib.hid (show Below w.heap.size w w3 from by rw [hw3]; exact Below.drewN' HB1.out _)
    replace HK1 := Lib.hid (show TwoP w.heap.size w3 from by rw [hw3]; exact ⟨HK1.out.r, HK1.out.n⟩)
    clear hw3 nq e0 e1 e2 e3 e4 e5 f0 f1 f2
    obtain ⟨⟨e0, e1, e2⟩, e3, e4, e5⟩ := HK1.out.keep
    obtain ⟨f0, f1, f2⟩ := HK1.out.free
    go_upto_region 20 with (first
      | (go_at_call 23; (first | (with_reducible refine (HCU.out _).mono ?_)); rintro r w9 ⟨rfl, rfl⟩)
      | (go_at_call 29; (first | (with_reducible refine (HEN.out _).mono ?_)); rintro r w9 ⟨rfl, rfl⟩)
      | (go_at_call 28; (first | (with_reducible refine (HTB.out _).mono ?_)); rintro r w9 ⟨rfl, rfl⟩)
      | (go_at_call 24; (first | (with_reducible refine (HR1.out _).mono ?_) | (with_reducible refine (HR2.out _).mono ?_) | (with_reducible refine (HR3.out _).mono ?_)); rintro r w9 ⟨rfl, rfl⟩)
      | (go_at_call 25; (first | (with_reducible refine (HN1.out _).mono ?_) | (with_reducible refine (HN2.out _).mono ?_) | (with_reducible refine (HN3.out _).mono ?_)); rintro r w9 ⟨rfl, rfl⟩))
    rw [← hr.out]
    go_upto_region 28 with (first
      | (go_at_call 23; (first | (with_reducible refine (HCU.out _).mono ?_)); rintro r w9 ⟨rfl, rfl⟩)
      | (go_at_call 29; (first | (with_reducible refine (HEN.out _).mono ?_)); rintro r w9 ⟨rfl, rfl⟩)
      | (go_at_call 28; (first | (with_reducible refine (HTB.out _).mono ?_)); rintro r w9 ⟨rfl, rfl⟩)
      | (go_at_call 24; (first | (with_reducible refine (HR1.out _).mono ?_) | (with_reducible refine (HR2.out _).mono ?_) | (with_reducible refine (HR3.out _).mono ?_)); rintro r w9 ⟨rfl, rfl⟩)
      | (go_at_call 25; (first | (with_reducible refine (HN1.out _).mono ?_) | (with_reducible refine (HN2.out _).mono ?_) | (with_reducible refine (HN3.out _).mono ?_)); rintro r w9 ⟨rfl, rfl⟩))
    obtain ⟨w7, hw7⟩ : ∃ w7, w7 = w3.alloc (partC a b c) := ⟨_, rfl⟩
    rw [← hw7]
    have HP := Lib.hid (show Blk w7 w3.heap.size 29 #[.int .i64 a, .int .i64 b, .int .i64 c] from by rw [hw7]; exact Blk.new _ _ _)
    replace HB1 := Lib.hid (show Below w.heap.size w w7 from by rw [hw7]; exact HB1.out.alloc HB1.out.size _)
    replace HK1 := Lib.hid (show TwoP w.heap.size w7 from by rw [hw7]; exact ⟨HK1.out.r.alloc _, HK1.out.n.alloc _⟩)
    clear hw7 e0 e1 e2 e3 e4 e5 f0 f1 f2
    obtain ⟨⟨e0, e1, e2⟩, e3, e4, e5⟩ := HK1.out.keep
    obtain ⟨f0, f1, f2⟩ := HK1.out.free
    have p0 := HP.out.cell 0
    have p1 := HP.out.cell 1
    have p2 := HP.out.cell 2
    go_wp2_with fail
    obtain ⟨j0, j1, j2⟩ := HK1.out.puts (.int .i64 0) (.int .i64 0) (.int .i64 0)
    exact bodyPost_ret (v := .tuple #[partV 0 0 0, .int .i64 9]) (by simp [results, Try.results10, go_sem, j0, j1, j2]) rfl ⟨rfl, put3_below HB1.out _ _ _⟩
  cases bc
  · have hq := Lib.hid (A6 rfl rfl HKF.out qv HKT.out qu hr0 HK3.out (.inr (.inr (.inl rfl))))
    rw [hq.out]
    clear hq A1 A2 A3 A4 A5 A6 A7
    go_enter Try.func10, Try.ntmps10
    go_wp2_with fail
    rw [← hw0]
    clear hw0
    refine HU.out.mono ?_
    rintro q w1 ⟨rfl, b1⟩
    have HB1 := Lib.hid (HB.out.trans (b1.mono HB.out.size))
    have HK1 := Lib.hid (HK.out.below b1)
    obtain ⟨⟨e0, e1, e2⟩, e3, e4, e5⟩ := HK1.out.keep
    obtain ⟨f0, f1, f2⟩ := HK1.out.free
    clear b1 HU HB HK
    go_wp2_with (first
      | (go_at_call 23; (first | (with_reducible refine (HCU.out _).mono ?_)); rintro r w9 ⟨rfl, rfl⟩)
      | (go_at_call 29; (first | (with_reducible refine (HEN.out _).mono ?_)); rintro r w9 ⟨rfl, rfl⟩)
      | (go_at_call 28; (first | (with_reducible refine (HTB.out _).mono ?_)); rintro r w9 ⟨rfl, rfl⟩)
      | (go_at_call 24; (first | (with_reducible refine (HR1.out _).mono ?_) | (with_reducible refine (HR2.out _).mono ?_) | (with_reducible refine (HR3.out _).mono ?_)); rintro r w9 ⟨rfl, rfl⟩)
      | (go_at_call 25; (first | (with_reducible refine (HN1.out _).mono ?_) | (with_reducible refine (HN2.out _).mono ?_) | (with_reducible refine (HN3.out _).mono ?_)); rintro r w9 ⟨rfl, rfl⟩))
    go_quiet (fail)
    rw [← hv.out, ← hxf.out]
    obtain ⟨w2, hw2⟩ : ∃ w2, w2 = w1.drewN nq := ⟨_, rfl⟩
    rw [← hw2]
    replace HB1 := Lib.hid (show Below w.heap.size w w2 from by rw [hw2]; exact Below.drewN' HB1.out _)
    replace HK1 := Lib.hid (show TwoP w.heap.size w2 from by rw [hw2]; exact ⟨HK1.out.r, HK1.out.n⟩)
    clear hw2 nq e0 e1 e2 e3 e4 e5 f0 f1 f2
    obtain ⟨⟨e0, e1, e2⟩, e3, e4, e5⟩ := HK1.out.keep
    obtain ⟨f0, f1, f2⟩ := HK1.out.free
    go_wp2_with (first
      | (go_at_call 23; (first | (with_reducible refine (HCU.out _).mono ?_)); rintro r w9 ⟨rfl, rfl⟩)
      | (go_at_call 29; (first | (with_reducible refine (HEN.out _).mono ?_)); rintro r w9 ⟨rfl, rfl⟩)
      | (go_at_call 28; (first | (with_reducible refine (HTB.out _).mono ?_)); rintro r w9 ⟨rfl, rfl⟩)
      | (go_at_call 24; (first | (with_reducible refine (HR1.out _).mono ?_) | (with_reducible refine (HR2.out _).mono ?_) | (with_reducible refine (HR3.out _).mono ?_)); rintro r w9 ⟨rfl, rfl⟩)
      | (go_at_call 25; (first | (with_reducible refine (HN1.out _).mono ?_) | (with_reducible refine (HN2.out _).mono ?_) | (with_reducible refine (HN3.out _).mono ?_)); rintro r w9 ⟨rfl, rfl⟩))
    go_quiet (fail)
    rw [← hu.out, ← hxt.out]
    obtain ⟨w3, hw3⟩ : ∃ w3, w3 = w2.drewN nq := ⟨_, rfl⟩
    rw [← hw3]
    replace HB1 := Lib.hid (show Below w.heap.size w w3 from by rw [hw3]; exact Below.drewN' HB1.out _)
    replace HK1 := Lib.hid (show TwoP w.heap.size w3 from by rw [hw3]; exact ⟨HK1.out.r, HK1.out.n⟩)
    clear hw3 nq e0 e1 e2 e3 e4 e5 f0 f1 f2
    obtain ⟨⟨e0, e1, e2⟩, e3, e4, e5⟩ := HK1.out.keep
    obtain ⟨f0, f1, f2⟩ := HK1.out.free
    go_upto_region 20 with (first
      | (go_at_call 23; (first | (with_reducible refine (HCU.out _).mono ?_)); rintro r w9 ⟨rfl, rfl⟩)
      | (go_at_call 29; (first | (with_reducible refine (HEN.out _).mono ?_)); rintro r w9 ⟨rfl, rfl⟩)
      | (go_at_call 28; (first | (with_reducible refine (HTB.out _).mono ?_)); rintro r w9 ⟨rfl, rfl⟩)
      | (go_at_call 24; (first | (with_reducible refine (HR1.out _).mono ?_) | (with_reducible refine (HR2.out _).mono ?_) | (with_reducible refine (HR3.out _).mono ?_)); rintro r w9 ⟨rfl, rfl⟩)
      | (go_at_call 25; (first | (with_reducible refine (HN1.out _).mono ?_) | (with_reducible refine (HN2.out _).mono ?_) | (with_reducible refine (HN3.out _).mono ?_)); rintro r w9 ⟨rfl, rfl⟩))
    rw [← hr.out]
    go_upto_region 28 with (first
      | (go_at_call 23; (first | (with_reducible refine (HCU.out _).mono ?_)); rintro r w9 ⟨rfl, rfl⟩)
      | (go_at_call 29; (first | (with_reducible refine (HEN.out _).mono ?_)); rintro r w9 ⟨rfl, rfl⟩)
      | (go_at_call 28; (first | (with_reducible refine (HTB.out _).mono ?_)); rintro r w9 ⟨rfl, rfl⟩)
      | (go_at_call 24; (first | (with_reducible refine (HR1.out _).mono ?_) | (with_reducible refine (HR2.out _).mono ?_) | (with_reducible refine (HR3.out _).mono ?_)); rintro r w9 ⟨rfl, rfl⟩)
      | (go_at_call 25; (first | (with_reducible refine (HN1.out _).mono ?_) | (with_reducible refine (HN2.out _).mono ?_) | (with_reducible refine (HN3.out _).mono ?_)); rintro r w9 ⟨rfl, rfl⟩))
    obtain ⟨w7, hw7⟩ : ∃ w7, w7 = w3.alloc (partC a b c) := ⟨_, rfl⟩
    rw [← hw7]
    have HP := Lib.hid (show Blk w7 w3.heap.size 29 #[.int .i64 a, .int .i64 b, .int .i64 c] from by rw [hw7]; exact Blk.new _ _ _)
    replace HB1 := Lib.hid (show Below w.heap.size w w7 from by rw [hw7]; exact HB1.out.alloc HB1.out.size _)
    replace HK1 := Lib.hid (show TwoP w.heap.size w7 from by rw [hw7]; exact ⟨HK1.out.r.alloc _, HK1.out.n.alloc _⟩)
    clear hw7 e0 e1 e2 e3 e4 e5 f0 f1 f2
    obtain ⟨⟨e0, e1, e2⟩, e3, e4, e5⟩ := HK1.out.keep
    obtain ⟨f0, f1, f2⟩ := HK1.out.free
    have p0 := HP.out.cell 0
    have p1 := HP.out.cell 1
    have p2 := HP.out.cell 2
    go_wp2_with fail
    obtain ⟨j0, j1, j2⟩ := HK1.out.puts (.int .i64 0) (.int .i64 0) (.int .i64 0)
    exact bodyPost_ret (v := .tuple #[partV 0 0 0, .int .i64 9]) (by simp [results, Try.results10, go_sem, j0, j1, j2]) rfl ⟨rfl, put3_below HB1.out _ _ _⟩
  cases good
  · have hq := Lib.hid (A6 rfl rfl HKF.out qv HKT.out qu hr0 HK3.out (.inr (.inr (.inr rfl))))
    rw [hq.out]
    clear hq A1 A2 A3 A4 A5 A6 A7
    go_enter Try.func10, Try.ntmps10
    go_wp2_with fail
    rw [← hw0]
    clear hw0
    refine HU.out.mono ?_
    rintro q w1 ⟨rfl, b1⟩
    have HB1 := Lib.hid (HB.out.trans (b1.mono HB.out.size))
    have HK1 := Lib.hid (HK.out.below b1)
    obtain ⟨⟨e0, e1, e2⟩, e3, e4, e5⟩ := HK1.out.keep
    obtain ⟨f0, f1, f2⟩ := HK1.out.free
    clear b1 HU HB HK
    go_wp2_with (first
      | (go_at_call 23; (first | (with_reducible refine (HCU.out _).mono ?_)); rintro r w9 ⟨rfl, rfl⟩)
      | (go_at_call 29; (first | (with_reducible refine (HEN.out _).mono ?_)); rintro r w9 ⟨rfl, rfl⟩)
      | (go_at_call 28; (first | (with_reducible refine (HTB.out _).mono ?_)); rintro r w9 ⟨rfl, rfl⟩)
      | (go_at_call 24; (first | (with_reducible refine (HR1.out _).mono ?_) | (with_reducible refine (HR2.out _).mono ?_) | (with_reducible refine (HR3.out _).mono ?_)); rintro r w9 ⟨rfl, rfl⟩)
      | (go_at_call 25; (first | (with_reducible refine (HN1.out _).mono ?_) | (with_reducible refine (HN2.out _).mono ?_) | (with_reducible refine (HN3.out _).mono ?_)); rintro r w9 ⟨rfl, rfl⟩))
    go_quiet (fail)
    rw [← hv.out, ← hxf.out]
    obtain ⟨w2, hw2⟩ : ∃ w2, w2 = w1.drewN nq := ⟨_, rfl⟩
    rw [← hw2]
    replace HB1 := Lib.hid (show Below w.heap.size w w2 from by rw [hw2]; exact Below.drewN' HB1.out _)
    replace HK1 := Lib.hid (show TwoP w.heap.size w2 from by rw [hw2]; exact ⟨HK1.out.r, HK1.out.n⟩)
    clear hw2 nq e0 e1 e2 e3 e4 e5 f0 f1 f2
    obtain ⟨⟨e0, e1, e2⟩, e3, e4, e5⟩ := HK1.out.keep
    obtain ⟨f0, f1, f2⟩ := HK1.out.free
    go_wp2_with (first
      | (go_at_call 23; (first | (with_reducible refine (HCU.out _).mono ?_)); rintro r w9 ⟨rfl, rfl⟩)
      | (go_at_call 29; (first | (with_reducible refine (HEN.out _).mono ?_)); rintro r w9 ⟨rfl, rfl⟩)
      | (go_at_call 28; (first | (with_reducible refine (HTB.out _).mono ?_)); rintro r w9 ⟨rfl, rfl⟩)
      | (go_at_call 24; (first | (with_reducible refine (HR1.out _).mono ?_) | (with_reducible refine (HR2.out _).mono ?_) | (with_reducible refine (HR3.out _).mono ?_)); rintro r w9 ⟨rfl, rfl⟩)
      | (go_at_call 25; (first | (with_reducible refine (HN1.out _).mono ?_) | (with_reducible refine (HN2.out _).mono ?_) | (with_reducible refine (HN3.out _).mono ?_)); rintro r w9 ⟨rfl, rfl⟩))
    go_quiet (fail)
    rw [← hu.out, ← hxt.out]
    obtain ⟨w3, hw3⟩ : ∃ w3, w3 = w2.drewN nq := ⟨_, rfl⟩
    rw [← hw3]
    replace HB1 := Lib.hid (show Below w.heap.size w w3 from by rw [hw3]; exact Below.drewN' HB1.out _)
    replace HK1 := Lib.hid (show TwoP w.heap.size w3 from by rw [hw3]; exact ⟨HK1.out.r, HK1.out.n⟩)
    clear hw3 nq e0 e1 e2 e3 e4 e5 f0 f1 f2
    obtain ⟨⟨e0, e1, e2⟩, e3, e4, e5⟩ := HK1.out.keep
    obtain ⟨f0, f1, f2⟩ := HK1.out.free
    go_upto_region 20 with (first
      | (go_at_call 23; (first | (with_reducible refine (HCU.out _).mono ?_)); rintro r w9 ⟨rfl, rfl⟩)
      | (go_at_call 29; (first | (with_reducible refine (HEN.out _).mono ?_)); rintro r w9 ⟨rfl, rfl⟩)
      | (go_at_call 28; (first | (with_reducible refine (HTB.out _).mono ?_)); rintro r w9 ⟨rfl, rfl⟩)
      | (go_at_call 24; (first | (with_reducible refine (HR1.out _).mono ?_) | (with_reducible refine (HR2.out _).mono ?_) | (with_reducible refine (HR3.out _).mono ?_)); rintro r w9 ⟨rfl, rfl⟩)
      | (go_at_call 25; (first | (with_reducible refine (HN1.out _).mono ?_) | (with_reducible refine (HN2.out _).mono ?_) | (with_reducible refine (HN3.out _).mono ?_)); rintro r w9 ⟨rfl, rfl⟩))
    rw [← hr.out]
    go_upto_region 28 with (first
      | (go_at_call 23; (first | (with_reducible refine (HCU.out _).mono ?_)); rintro r w9 ⟨rfl, rfl⟩)
      | (go_at_call 29; (first | (with_reducible refine (HEN.out _).mono ?_)); rintro r w9 ⟨rfl, rfl⟩)
      | (go_at_call 28; (first | (with_reducible refine (HTB.out _).mono ?_)); rintro r w9 ⟨rfl, rfl⟩)
      | (go_at_call 24; (first | (with_reducible refine (HR1.out _).mono ?_) | (with_reducible refine (HR2.out _).mono ?_) | (with_reducible refine (HR3.out _).mono ?_)); rintro r w9 ⟨rfl, rfl⟩)
      | (go_at_call 25; (first | (with_reducible refine (HN1.out _).mono ?_) | (with_reducible refine (HN2.out _).mono ?_) | (with_reducible refine (HN3.out _).mono ?_)); rintro r w9 ⟨rfl, rfl⟩))
    obtain ⟨w7, hw7⟩ : ∃ w7, w7 = w3.alloc (partC a b c) := ⟨_, rfl⟩
    rw [← hw7]
    have HP := Lib.hid (show Blk w7 w3.heap.size 29 #[.int .i64 a, .int .i64 b, .int .i64 c] from by rw [hw7]; exact Blk.new _ _ _)
    replace HB1 := Lib.hid (show Below w.heap.size w w7 from by rw [hw7]; exact HB1.out.alloc HB1.out.size _)
    replace HK1 := Lib.hid (show TwoP w.heap.size w7 from by rw [hw7]; exact ⟨HK1.out.r.alloc _, HK1.out.n.alloc _⟩)
    clear hw7 e0 e1 e2 e3 e4 e5 f0 f1 f2
    obtain ⟨⟨e0, e1, e2⟩, e3, e4, e5⟩ := HK1.out.keep
    obtain ⟨f0, f1, f2⟩ := HK1.out.free
    have p0 := HP.out.cell 0
    have p1 := HP.out.cell 1
    have p2 := HP.out.cell 2
    go_wp2_with fail
    refine (HG.out _).mono ?_
    rintro q w8 ⟨rfl, b8⟩
    replace HB1 := Lib.hid (below_on HB1.out b8)
    replace HK1 := Lib.hid (HK1.out.below b8)
    replace HP := Lib.hid (HP.out.below b8 HP.out.lt)
    clear e0 e1 e2 e3 e4 e5 f0 f1 f2 p0 p1 p2 b8
    obtain ⟨⟨e0, e1, e2⟩, e3, e4, e5⟩ := HK1.out.keep
    obtain ⟨f0, f1, f2⟩ := HK1.out.free
    have p0 := HP.out.cell 0
    have p1 := HP.out.cell 1
    have p2 := HP.out.cell 2
    go_wp2_with fail
    obtain ⟨j0, j1, j2⟩ := HK1.out.puts (.int .i64 0) (.int .i64 0) (.int .i64 0)
    exact bodyPost_ret (v := .tuple #[partV 0 0 0, .int .i64 9]) (by simp [results, Try.results10, go_sem, j0, j1, j2]) rfl ⟨rfl, put3_below HB1.out _ _ _⟩
  · have hq := Lib.hid (A7 rfl rfl HKF.out qv HKT.out qu hr0 HK3.out rfl rfl rfl rfl)
    rw [hq.out]
    clear hq A1 A2 A3 A4 A5 A6 A7
    go_enter Try.func10, Try.ntmps10
    go_wp2_with fail
    rw [← hw0]
    clear hw0
    refine HU.out.mono ?_
    rintro q w1 ⟨rfl, b1⟩
    have HB1 := Lib.hid (HB.out.trans (b1.mono HB.out.size))
    have HK1 := Lib.hid (HK.out.below b1)
    obtain ⟨⟨e0, e1, e2⟩, e3, e4, e5⟩ := HK1.out.keep
    obtain ⟨f0, f1, f2⟩ := HK1.out.free
    clear b1 HU HB HK
    go_wp2_with (first
      | (go_at_call 23; (first | (with_reducible refine (HCU.out _).mono ?_)); rintro r w9 ⟨rfl, rfl⟩)
      | (go_at_call 29; (first | (with_reducible refine (HEN.out _).mono ?_)); rintro r w9 ⟨rfl, rfl⟩)
      | (go_at_call 28; (first | (with_reducible refine (HTB.out _).mono ?_)); rintro r w9 ⟨rfl, rfl⟩)
      | (go_at_call 24; (first | (with_reducible refine (HR1.out _).mono ?_) | (with_reducible refine (HR2.out _).mono ?_) | (with_reducible refine (HR3.out _).mono ?_)); rintro r w9 ⟨rfl, rfl⟩)
      | (go_at_call 25; (first | (with_reducible refine (HN1.out _).mono ?_) | (with_reducible refine (HN2.out _).mono ?_) | (with_reducible refine (HN3.out _).mono ?_)); rintro r w9 ⟨rfl, rfl⟩))
    go_quiet (fail)
    rw [← hv.out, ← hxf.out]
    obtain ⟨w2, hw2⟩ : ∃ w2, w2 = w1.drewN nq := ⟨_, rfl⟩
    rw [← hw2]
    replace HB1 := Lib.hid (show Below w.heap.size w w2 from by rw [hw2]; exact Below.drewN' HB1.out _)
    replace HK1 := Lib.hid (show TwoP w.heap.size w2 from by rw [hw2]; exact ⟨HK1.out.r, HK1.out.n⟩)
    clear hw2 nq e0 e1 e2 e3 e4 e5 f0 f1 f2
    obtain ⟨⟨e0, e1, e2⟩, e3, e4, e5⟩ := HK1.out.keep
    obtain ⟨f0, f1, f2⟩ := HK1.out.free
    go_wp2_with (first
      | (go_at_call 23; (first | (with_reducible refine (HCU.out _).mono ?_)); rintro r w9 ⟨rfl, rfl⟩)
      | (go_at_call 29; (first | (with_reducible refine (HEN.out _).mono ?_)); rintro r w9 ⟨rfl, rfl⟩)
      | (go_at_call 28; (first | (with_reducible refine (HTB.out _).mono ?_)); rintro r w9 ⟨rfl, rfl⟩)
      | (go_at_call 24; (first | (with_reducible refine (HR1.out _).mono ?_) | (with_reducible refine (HR2.out _).mono ?_) | (with_reducible refine (HR3.out _).mono ?_)); rintro r w9 ⟨rfl, rfl⟩)
      | (go_at_call 25; (first | (with_reducible refine (HN1.out _).mono ?_) | (with_reducible refine (HN2.out _).mono ?_) | (with_reducible refine (HN3.out _).mono ?_)); rintro r w9 ⟨rfl, rfl⟩))
    go_quiet (fail)
    rw [← hu.out, ← hxt.out]
    obtain ⟨w3, hw3⟩ : ∃ w3, w3 = w2.drewN nq := ⟨_, rfl⟩
    rw [← hw3]
    replace HB1 := Lib.hid (show Below w.heap.size w w3 from by rw [hw3]; exact Below.drewN' HB1.out _)
    replace HK1 := Lib.hid (show TwoP w.heap.size w3 from by rw [hw3]; exact ⟨HK1.out.r, HK1.out.n⟩)
    clear hw3 nq e0 e1 e2 e3 e4 e5 f0 f1 f2
    obtain ⟨⟨e0, e1, e2⟩, e3, e4, e5⟩ := HK1.out.keep
    obtain ⟨f0, f1, f2⟩ := HK1.out.free
    go_upto_region 20 with (first
      | (go_at_call 23; (first | (with_reducible refine (HCU.out _).mono ?_)); rintro r w9 ⟨rfl, rfl⟩)
      | (go_at_call 29; (first | (with_reducible refine (HEN.out _).mono ?_)); rintro r w9 ⟨rfl, rfl⟩)
      | (go_at_call 28; (first | (with_reducible refine (HTB.out _).mono ?_)); rintro r w9 ⟨rfl, rfl⟩)
      | (go_at_call 24; (first | (with_reducible refine (HR1.out _).mono ?_) | (with_reducible refine (HR2.out _).mono ?_) | (with_reducible refine (HR3.out _).mono ?_)); rintro r w9 ⟨rfl, rfl⟩)
      | (go_at_call 25; (first | (with_reducible refine (HN1.out _).mono ?_) | (with_reducible refine (HN2.out _).mono ?_) | (with_reducible refine (HN3.out _).mono ?_)); rintro r w9 ⟨rfl, rfl⟩))
    rw [← hr.out]
    go_upto_region 28 with (first
      | (go_at_call 23; (first | (with_reducible refine (HCU.out _).mono ?_)); rintro r w9 ⟨rfl, rfl⟩)
      | (go_at_call 29; (first | (with_reducible refine (HEN.out _).mono ?_)); rintro r w9 ⟨rfl, rfl⟩)
      | (go_at_call 28; (first | (with_reducible refine (HTB.out _).mono ?_)); rintro r w9 ⟨rfl, rfl⟩)
      | (go_at_call 24; (first | (with_reducible refine (HR1.out _).mono ?_) | (with_reducible refine (HR2.out _).mono ?_) | (with_reducible refine (HR3.out _).mono ?_)); rintro r w9 ⟨rfl, rfl⟩)
      | (go_at_call 25; (first | (with_reducible refine (HN1.out _).mono ?_) | (with_reducible refine (HN2.out _).mono ?_) | (with_reducible refine (HN3.out _).mono ?_)); rintro r w9 ⟨rfl, rfl⟩))
    obtain ⟨w7, hw7⟩ : ∃ w7, w7 = w3.alloc (partC a b c) := ⟨_, rfl⟩
    rw [← hw7]
    have HP := Lib.hid (show Blk w7 w3.heap.size 29 #[.int .i64 a, .int .i64 b, .int .i64 c] from by rw [hw7]; exact Blk.new _ _ _)
    replace HB1 := Lib.hid (show Below w.heap.size w w7 from by rw [hw7]; exact HB1.out.alloc HB1.out.size _)
    replace HK1 := Lib.hid (show TwoP w.heap.size w7 from by rw [hw7]; exact ⟨HK1.out.r.alloc _, HK1.out.n.alloc _⟩)
    clear hw7 e0 e1 e2 e3 e4 e5 f0 f1 f2
    obtain ⟨⟨e0, e1, e2⟩, e3, e4, e5⟩ := HK1.out.keep
    obtain ⟨f0, f1, f2⟩ := HK1.out.free
    have p0 := HP.out.cell 0
    have p1 := HP.out.cell 1
    have p2 := HP.out.cell 2
    go_wp2_with fail
    refine (HG.out _).mono ?_
    rintro q w8 ⟨rfl, b8⟩
    replace HB1 := Lib.hid (below_on HB1.out b8)
    replace HK1 := Lib.hid (HK1.out.below b8)
    replace HP := Lib.hid (HP.out.below b8 HP.out.lt)
    clear e0 e1 e2 e3 e4 e5 f0 f1 f2 p0 p1 p2 b8
    obtain ⟨⟨e0, e1, e2⟩, e3, e4, e5⟩ := HK1.out.keep
    obtain ⟨f0, f1, f2⟩ := HK1.out.free
    have p0 := HP.out.cell 0
    have p1 := HP.out.cell 1
    have p2 := HP.out.cell 2
    go_wp2_with fail
    obtain ⟨j0, j1, j2⟩ := HK1.out.puts (.int .i64 a) (.int .i64 b) (.int .i64 c)
    exact bodyPost_ret (v := .tuple #[partV a b c, .int .i64 0]) (by simp [results, Try.results10, go_sem, j0, j1, j2]) rfl ⟨rfl, put3_below HB1.out _ _ _⟩

end Go.Proofs.Ytaolclpjlkdkjaa
