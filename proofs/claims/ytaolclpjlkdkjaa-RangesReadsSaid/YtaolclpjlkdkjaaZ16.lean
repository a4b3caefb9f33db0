/-
  What the document's Content of layer 24 answers: the walk of a text with a star for the size. Condition: the text is no longer than 2^47 - 4096.
  What the document's Parse of layer 24 answers: the walk's letters by positions. Condition: the text is no longer than 2^47 - 4096.
  Plain facts on layer 24's texts: what is said that comes, in the text without what is blank at both ends (TIn). No condition.
-/
import Derived.Test.YtaolclpjlkdkjaaZ14
import Derived.Test.YtaolclpjlkdkjaaZ13
import Derived.Test.YtaolclpjlkdkjaaZ10
namespace Go.Proofs.Ytaolclpjlkdkjaa
open Go.RowKit

set_option maxRecDepth 100000 in
set_option maxHeartbeats 16000000 in
theorem rcontC_walk (s x1 x2 t v xf xt u r : ByteArray) (z1 zt ba bb bc good : Bool) (k1 k2 k3 : Nat) (a b c : Int) (A : Ending) (w : World)
    (HU0 : ∀ W, Calls Try.prog 22 #[.string s] W fun e w' => e = .returned (.tuple #[.string x1, .bool z1]) ∧ Below W.heap.size W w')
    (HTB0 : ∀ (h : 0 < x1.size) W, Calls Try.prog 28 #[.int .u8 (x1[0].toNat : Int)] W fun e w' => e = .returned (.bool zt) ∧ W = w')
    (HCU : Hid (∀ W, Calls Try.prog 23 #[.string x1] W fun e w' => e = .returned (.string x2) ∧ W = w'))
    (HEN : Hid (∀ W, Calls Try.prog 29 #[.string x2] W fun e w' => e = .returned (.string t) ∧ W = w'))
    (lk1 : k1 ≤ t.size) (qT : atB t 0 42 = false) (hv : Hid (v = t.extract k1 t.size)) (hxf : Hid (xf = t.extract 0 k1)) (lk2 : 0 < v.size → k2 + 1 ≤ v.size) (hxt : Hid (xt = v.extract 1 (k2 + 1))) (hu : Hid (u = v.extract (k2 + 1) v.size)) (hr : Hid (r = u.extract 1 u.size))
    (HR1 : Hid (∀ W, Calls Try.prog 24 #[.string t] W fun e w' => e = .returned (.int .i64 k1) ∧ W = w'))
    (HR2 : Hid (∀ W, Calls Try.prog 24 #[.string (v.extract 1 v.size)] W fun e w' => e = .returned (.int .i64 k2) ∧ W = w'))
    (HN1 : Hid (∀ W, Calls Try.prog 25 #[.string xf] W fun e w' => e = .returned (.tuple #[.int .i64 a, .bool ba]) ∧ W = w'))
    (HN2 : Hid (∀ W, Calls Try.prog 25 #[.string xt] W fun e w' => e = .returned (.tuple #[.int .i64 b, .bool bb]) ∧ W = w'))
    (ET : (t.toList == []) = decide (t.size = 0)) (EF : (xf.toList == []) = decide (k1 = 0)) (EV : (v.toList == []) = decide (v.size = 0)) (EO : (xt.toList == []) = decide (k2 = 0))
    (_HR3 : Hid (∀ W, Calls Try.prog 24 #[.string r] W fun e w' => e = .returned (.int .i64 k3) ∧ W = w'))
    (HN3 : Hid (∀ W, Calls Try.prog 25 #[.string ⟨#[]⟩] W fun e w' => e = .returned (.tuple #[.int .i64 c, .bool bc]) ∧ W = w'))
    (HG0 : ∀ W, Calls Try.prog 30 #[partV a b c] W fun e w' => e = .returned (.bool good) ∧ Below W.heap.size W w')
    (l1 : x1.size ≤ 9223372036854775807) (lt : t.size ≤ 9223372036854775807) (lu : u.size ≤ 9223372036854775807) (_lr : r.size ≤ 9223372036854775807) (lv : v.size ≤ 9223372036854775807)
    (E1 : (x1.toList == []) = decide (x1.size = 0)) (EU : (u.toList == []) = decide (u.size = 0)) (_ER : (r.toList == []) = decide (r.size = 0)) (ES : (r.toList == [42]) = true)
    (A1 : z1 = false → A = partE 0 0 0 2)
    (A2 : z1 = true → x1.size = 0 ∨ zt = false → A = partE 0 0 0 2)
    (A3 : z1 = true → zt = true → k1 = 0 ∨ atB v 0 45 = false ∨ k2 = 0 → A = partE 0 0 0 2)
    (A4 : z1 = true → zt = true → k1 ≠ 0 → atB v 0 45 = true → k2 ≠ 0 → atB u 0 47 = false → A = partE 0 0 0 2)
    (A6 : z1 = true → zt = true → k1 ≠ 0 → atB v 0 45 = true → k2 ≠ 0 → atB u 0 47 = true → ba = false ∨ bb = false ∨ bc = false ∨ good = false → A = partE 0 0 0 9)
    (A7 : z1 = true → zt = true → k1 ≠ 0 → atB v 0 45 = true → k2 ≠ 0 → atB u 0 47 = true → ba = true → bb = true → bc = true → good = true → A = partE a b c 0) :
    Calls Try.prog 10 #[.string s] w fun r w' => r = A ∧ Below w.heap.size w w' := by
  obtain ⟨w0, hw0⟩ : ∃ w0, w0 = (w.alloc (partC 0 0 0)).alloc (partC 0 0 0) := ⟨_, rfl⟩
  have HB := Lib.hid (show Below w.heap.size w w0 from by rw [hw0]; exact ((Below.refl _ _).alloc (Nat.le_refl _) _).alloc (by simp) _)
  have HK := Lib.hid (show TwoP w.heap.size w0 from by rw [hw0]; exact TwoP.new w)
  have HU := Lib.hid (HU0 w0)
  have HG := Lib.hid HG0
  clear HU0 HG0
  cases hz1 : z1
  · subst hz1
    clear HTB0
    have HTB := Lib.hid True.intro
    have hq := Lib.hid (A1 rfl)
    rw [hq.out]
    clear hq A1 A2 A3 A4 A6 A7
    go_enter Try.func10, Try.ntmps10
    go_wp2_with fail
    rw [← hw0]
    clear hw0
    refine HU.out.mono ?_
    rintro q w1 ⟨rfl, b1⟩
    have HB1 := Lib.hid (HB.out.trans (b1.mono HB.out.size))
    have HK1 := Lib.hid (HK.out.below b1)
    obtain ⟨⟨e0, e1, e2⟩, e3, e4, e5⟩ := HK1.out.keep
    obtain ⟨f0, f1, f2⟩ := HK1.out.free
    clear b1 HU HB HK
    go_wp2_with (first
      | (go_at_call 23; (first | (with_reducible refine (HCU.out _).mono ?_)); rintro r w9 ⟨rfl, rfl⟩)
      | (go_at_call 29; (first | (with_reducible refine (HEN.out _).mono ?_)); rintro r w9 ⟨rfl, rfl⟩)
      | (go_at_call 28; (first | (with_reducible refine (HTB.out _).mono ?_)); rintro r w9 ⟨rfl, rfl⟩)
      | (go_at_call 24; (first | (with_reducible refine (HR1.out _).mono ?_) | (with_reducible refine (HR2.out _).mono ?_) | (with_reducible refine (HR3.out _).mono ?_)); rintro r w9 ⟨rfl, rfl⟩)
      | (go_at_call 25; (first | (with_reducible refine (HN1.out _).mono ?_) | (with_reducible refine (HN2.out _).mono ?_) | (with_reducible refine (HN3.out _).mono ?_)); rintro r w9 ⟨rfl, rfl⟩))
    obtain ⟨j0, j1, j2⟩ := HK1.out.puts (.int .i64 0) (.int .i64 0) (.int .i64 0)
    exact bodyPost_ret (v := .tuple #[partV 0 0 0, .int .i64 2]) (by simp [results, Try.results10, go_sem, j0, j1, j2]) rfl ⟨rfl, put3_below HB1.out _ _ _⟩
  subst hz1
  by_cases h1 : x1.size = 0
  · rw [decide_eq_true h1] at E1
    clear HTB0
    have HTB := Lib.hid True.intro
    have hq := Lib.hid (A2 rfl (.inl h1))
    rw [hq.out]
    clear hq A1 A2 A3 A4 A6 A7
    go_enter Try.func10, Try.ntmps10
    go_wp2_with fail
    rw [← hw0]
    clear hw0
    refine HU.out.mono ?_
    rintro q w1 ⟨rfl, b1⟩
    have HB1 := Lib.hid (HB.out.trans (b1.mono HB.out.size))
    have HK1 := Lib.hid (HK.out.below b1)
    obtain ⟨⟨e0, e1, e2⟩, e3, e4, e5⟩ := HK1.out.keep
    obtain ⟨f0, f1, f2⟩ := HK1.out.free
    clear b1 HU HB HK
    go_wp2_with (first
      | (go_at_call 23; (first | (with_reducible refine (HCU.out _).mono ?_)); rintro r w9 ⟨rfl, rfl⟩)
      | (go_at_call 29; (first | (with_reducible refine (HEN.out _).mono ?_)); rintro r w9 ⟨rfl, rfl⟩)
      | (go_at_call 28; (first | (with_reducible refine (HTB.out _).mono ?_)); rintro r w9 ⟨rfl, rfl⟩)
      | (go_at_call 24; (first | (with_reducible refine (HR1.out _).mono ?_) | (with_reducible refine (HR2.out _).mono ?_) | (with_reducible refine (HR3.out _).mono ?_)); rintro r w9 ⟨rfl, rfl⟩)
      | (go_at_call 25; (first | (with_reducible refine (HN1.out _).mono ?_) | (with_reducible refine (HN2.out _).mono ?_) | (with_reducible refine (HN3.out _).mono ?_)); rintro r w9 ⟨rfl, rfl⟩))
    obtain ⟨j0, j1, j2⟩ := HK1.out.puts (.int .i64 0) (.int .i64 0) (.int .i64 0)
    exact bodyPost_ret (v := .tuple #[partV 0 0 0, .int .i64 2]) (by simp [results, Try.results10, go_sem, j0, j1, j2]) rfl ⟨rfl, put3_below HB1.out _ _ _⟩
  rw [decide_eq_false h1] at E1
  have p1' : 0 < x1.size := by omega
  have HTB := Lib.hid (HTB0 p1')
  clear HTB0
  cases hzt : zt
  · subst hzt
    have hq := Lib.hid (A2 rfl (.inr rfl))
    rw [hq.out]
    clear hq A1 A2 A3 A4 A6 A7
    go_enter Try.func10, Try.ntmps10
    go_wp2_with fail
    rw [← hw0]
    clear hw0
    refine HU.out.mono ?_
    rintro q w1 ⟨rfl, b1⟩
    have HB1 := Lib.hid (HB.out.trans (b1.mono HB.out.size))
    have HK1 := Lib.hid (HK.out.below b1)
    obtain ⟨⟨e0, e1, e2⟩, e3, e4, e5⟩ := HK1.out.keep
    obtain ⟨f0, f1, f2⟩ := HK1.out.free
    clear b1 HU HB HK
    go_wp2_with (first
      | (go_at_call 23; (first | (with_reducible refine (HCU.out _).mono ?_)); rintro r w9 ⟨rfl, rfl⟩)
      | (go_at_call 29; (first | (with_reducible refine (HEN.out _).mono ?_)); rintro r w9 ⟨rfl, rfl⟩)
      | (go_at_call 28; (first | (with_reducible refine (HTB.out _).mono ?_)); rintro r w9 ⟨rfl, rfl⟩)
      | (go_at_call 24; (first | (with_reducible refine (HR1.out _).mono ?_) | (with_reducible refine (HR2.out _).mono ?_) | (with_reducible refine (HR3.out _).mono ?_)); rintro r w9 ⟨rfl, rfl⟩)
      | (go_at_call 25; (first | (with_reducible refine (HN1.out _).mono ?_) | (with_reducible refine (HN2.out _).mono ?_) | (with_reducible refine (HN3.out _).mono ?_)); rintro r w9 ⟨rfl, rfl⟩))
    obtain ⟨j0, j1, j2⟩ := HK1.out.puts (.int .i64 0) (.int .i64 0) (.int .i64 0)
    exact bodyPost_ret (v := .tuple #[partV 0 0 0, .int .i64 2]) (by simp [results, Try.results10, go_sem, j0, j1, j2]) rfl ⟨rfl, put3_below HB1.out _ _ _⟩
  subst hzt
  have vT : ∀ h : 0 < t.size, ((t[0].toNat : Int) == 42) = false := fun h => by have := head_byte t h 42; rw [qT] at this; exact this
  by_cases hk1 : k1 = 0
  · rw [decide_eq_true hk1] at EF
    have HF := Lib.hid (A3 rfl rfl (.inl hk1))
    clear hk1
    by_cases ht : t.size = 0
    · rw [decide_eq_true ht] at ET
      clear ht
      have hq := Lib.hid (HF.out)
      rw [hq.out]
      clear hq A1 A2 A3 A4 A6 A7
      go_enter Try.func10, Try.ntmps10
      go_wp2_with fail
      rw [← hw0]
      clear hw0
      refine HU.out.mono ?_
      rintro q w1 ⟨rfl, b1⟩
      have HB1 := Lib.hid (HB.out.trans (b1.mono HB.out.size))
      have HK1 := Lib.hid (HK.out.below b1)
      obtain ⟨⟨e0, e1, e2⟩, e3, e4, e5⟩ := HK1.out.keep
      obtain ⟨f0, f1, f2⟩ := HK1.out.free
      clear b1 HU HB HK
      go_wp2_with (first
        | (go_at_call 23; (first | (with_reducible refine (HCU.out _).mono ?_)); rintro r w9 ⟨rfl, rfl⟩)
        | (go_at_call 29; (first | (with_reducible refine (HEN.out _).mono ?_)); rintro r w9 ⟨rfl, rfl⟩)
        | (go_at_call 28; (first | (with_reducible refine (HTB.out _).mono ?_)); rintro r w9 ⟨rfl, rfl⟩)
        | (go_at_call 24; (first | (with_reducible refine (HR1.out _).mono ?_) | (with_reducible refine (HR2.out _).mono ?_) | (with_reducible refine (HR3.out _).mono ?_)); rintro r w9 ⟨rfl, rfl⟩)
        | (go_at_call 25; (first | (with_reducible refine (HN1.out _).mono ?_) | (with_reducible refine (HN2.out _).mono ?_) | (with_reducible refine (HN3.out _).mono ?_)); rintro r w9 ⟨rfl, rfl⟩))
      go_quiet (fail)
      rw [← hv.out, ← hxf.out]
      obtain ⟨w2, hw2⟩ : ∃ w2, w2 = w1.drewN nq := ⟨_, rfl⟩
      rw [← hw2]
      replace HB1 := Lib.hid (show Below w.heap.size w w2 from by rw [hw2]; exact Below.drewN' HB1.out _)
      replace HK1 := Lib.hid (show TwoP w.heap.size w2 from by rw [hw2]; exact ⟨HK1.out.r, HK1.out.n⟩)
      clear hw2 nq e0 e1 e2 e3 e4 e5 f0 f1 f2
      obtain ⟨⟨e0, e1, e2⟩, e3, e4, e5⟩ := HK1.out.keep
      obtain ⟨f0, f1, f2⟩ := HK1.out.free
      go_wp2_with (first
        | (go_at_call 23; (first | (with_reducible refine (HCU.out _).mono ?_)); rintro r w9 ⟨rfl, rfl⟩)
        | (go_at_call 29; (first | (with_reducible refine (HEN.out _).mono ?_)); rintro r w9 ⟨rfl, rfl⟩)
        | (go_at_call 28; (first | (with_reducible refine (HTB.out _).mono ?_)); rintro r w9 ⟨rfl, rfl⟩)
        | (go_at_call 24; (first | (with_reducible refine (HR1.out _).mono ?_) | (with_reducible refine (HR2.out _).mono ?_) | (with_reducible refine (HR3.out _).mono ?_)); rintro r w9 ⟨rfl, rfl⟩)
        | (go_at_call 25; (first | (with_reducible refine (HN1.out _).mono ?_) | (with_reducible refine (HN2.out _).mono ?_) | (with_reducible refine (HN3.out _).mono ?_)); rintro r w9 ⟨rfl, rfl⟩))
      obtain ⟨j0, j1, j2⟩ := HK1.out.puts (.int .i64 0) (.int .i64 0) (.int .i64 0)
      exact bodyPost_ret (v := .tuple #[partV 0 0 0, .int .i64 2]) (by simp [results, Try.results10, go_sem, j0, j1, j2]) rfl ⟨rfl, put3_below HB1.out _ _ _⟩
    rw [decide_eq_false ht] at ET
    have pt : 0 < t.size := by omega
    have vT1 := vT pt
    have hq := Lib.hid (HF.out)
    rw [hq.out]
    clear hq A1 A2 A3 A4 A6 A7
    go_enter Try.func10, Try.ntmps10
    go_wp2_with fail
    rw [← hw0]
    clear hw0
    refine HU.out.mono ?_
    rintro q w1 ⟨rfl, b1⟩
    have HB1 := Lib.hid (HB.out.trans (b1.mono HB.out.size))
    have HK1 := Lib.hid (HK.out.below b1)
    obtain ⟨⟨e0, e1, e2⟩, e3, e4, e5⟩ := HK1.out.keep
    obtain ⟨f0, f1, f2⟩ := HK1.out.free
    clear b1 HU HB HK
    go_wp2_with (first
      | (go_at_call 23; (first | (with_reducible refine (HCU.out _).mono ?_)); rintro r w9 ⟨rfl, rfl⟩)
      | (go_at_call 29; (first | (with_reducible refine (HEN.out _).mono ?_)); rintro r w9 ⟨rfl, rfl⟩)
      | (go_at_call 28; (first | (with_reducible refine (HTB.out _).mono ?_)); rintro r w9 ⟨rfl, rfl⟩)
      | (go_at_call 24; (first | (with_reducible refine (HR1.out _).mono ?_) | (with_reducible refine (HR2.out _).mono ?_) | (with_reducible refine (HR3.out _).mono ?_)); rintro r w9 ⟨rfl, rfl⟩)
      | (go_at_call 25; (first | (with_reducible refine (HN1.out _).mono ?_) | (with_reducible refine (HN2.out _).mono ?_) | (with_reducible refine (HN3.out _).mono ?_)); rintro r w9 ⟨rfl, rfl⟩))
    go_quiet (fail)
    rw [← hv.out, ← hxf.out]
    obtain ⟨w2, hw2⟩ : ∃ w2, w2 = w1.drewN nq := ⟨_, rfl⟩
    rw [← hw2]
    replace HB1 := Lib.hid (show Below w.heap.size w w2 from by rw [hw2]; exact Below.drewN' HB1.out _)
    replace HK1 := Lib.hid (show TwoP w.heap.size w2 from by rw [hw2]; exact ⟨HK1.out.r, HK1.out.n⟩)
    clear hw2 nq e0 e1 e2 e3 e4 e5 f0 f1 f2
    obtain ⟨⟨e0, e1, e2⟩, e3, e4, e5⟩ := HK1.out.keep
    obtain ⟨f0, f1, f2⟩ := HK1.out.free
    go_wp2_with (first
      | (go_at_call 23; (first | (with_reducible refine (HCU.out _).mono ?_)); rintro r w9 ⟨rfl, rfl⟩)
      | (go_at_call 29; (first | (with_reducible refine (HEN.out _).mono ?_)); rintro r w9 ⟨rfl, rfl⟩)
      | (go_at_call 28; (first | (with_reducible refine (HTB.out _).mono ?_)); rintro r w9 ⟨rfl, rfl⟩)
      | (go_at_call 24; (first | (with_reducible refine (HR1.out _).mono ?_) | (with_reducible refine (HR2.out _).mono ?_) | (with_reducible refine (HR3.out _).mono ?_)); rintro r w9 ⟨rfl, rfl⟩)
      | (go_at_call 25; (first | (with_reducible refine (HN1.out _).mono ?_) | (with_reducible refine (HN2.out _).mono ?_) | (with_reducible refine (HN3.out _).mono ?_)); rintro r w9 ⟨rfl, rfl⟩))
    obtain ⟨j0, j1, j2⟩ := HK1.out.puts (.int .i64 0) (.int .i64 0) (.int .i64 0)
    exact bodyPost_ret (v := .tuple #[partV 0 0 0, .int .i64 2]) (by simp [results, Try.results10, go_sem, j0, j1, j2]) rfl ⟨rfl, put3_below HB1.out _ _ _⟩
  rw [decide_eq_false hk1] at EF
  have HKF := Lib.hid hk1
  have pt : 0 < t.size := by omega
  rw [decide_eq_false (by omega)] at ET
  have vT1 := vT pt
  clear vT hk1
  by_cases hv0 : v.size = 0
  · have qv : atB v 0 45 = false := atB_out (by omega)
    rw [decide_eq_true hv0] at EV
    have hq := Lib.hid (A3 rfl rfl (.inr (.inl qv)))
    rw [hq.out]
    clear hq A1 A2 A3 A4 A6 A7
    go_enter Try.func10, Try.ntmps10
    go_wp2_with fail
    rw [← hw0]
    clear hw0
    refine HU.out.mono ?_
    rintro q w1 ⟨rfl, b1⟩
    have HB1 := Lib.hid (HB.out.trans (b1.mono HB.out.size))
    have HK1 := Lib.hid (HK.out.below b1)
    obtain ⟨⟨e0, e1, e2⟩, e3, e4, e5⟩ := HK1.out.keep
    obtain ⟨f0, f1, f2⟩ := HK1.out.free
    clear b1 HU HB HK
    go_wp2_with (first
      | (go_at_call 23; (first | (with_reducible refine (HCU.out _).mono ?_)); rintro r w9 ⟨rfl, rfl⟩)
      | (go_at_call 29; (first | (with_reducible refine (HEN.out _).mono ?_)); rintro r w9 ⟨rfl, rfl⟩)
      | (go_at_call 28; (first | (with_reducible refine (HTB.out _).mono ?_)); rintro r w9 ⟨rfl, rfl⟩)
      | (go_at_call 24; (first | (with_reducible refine (HR1.out _).mono ?_) | (with_reducible refine (HR2.out _).mono ?_) | (with_reducible refine (HR3.out _).mono ?_)); rintro r w9 ⟨rfl, rfl⟩)
      | (go_at_call 25; (first | (with_reducible refine (HN1.out _).mono ?_) | (with_reducible refine (HN2.out _).mono ?_) | (with_reducible refine (HN3.out _).mono ?_)); rintro r w9 ⟨rfl, rfl⟩))
    go_quiet (fail)
    rw [← hv.out, ← hxf.out]
    obtain ⟨w2, hw2⟩ : ∃ w2, w2 = w1.drewN nq := ⟨_, rfl⟩
    rw [← hw2]
    replace HB1 := Lib.hid (show Below w.heap.size w w2 from by rw [hw2]; exact Below.drewN' HB1.out _)
    replace HK1 := Lib.hid (show TwoP w.heap.size w2 from by rw [hw2]; exact ⟨HK1.out.r, HK1.out.n⟩)
    clear hw2 nq e0 e1 e2 e3 e4 e5 f0 f1 f2
    obtain ⟨⟨e0, e1, e2⟩, e3, e4, e5⟩ := HK1.out.keep
    obtain ⟨f0, f1, f2⟩ := HK1.out.free
    go_wp2_with (first
      | (go_at_call 23; (first | (with_reducible refine (HCU.out _).mono ?_)); rintro r w9 ⟨rfl, rfl⟩)
      | (go_at_call 29; (first | (with_reducible refine (HEN.out _).mono ?_)); rintro r w9 ⟨rfl, rfl⟩)
      | (go_at_call 28; (first | (with_reducible refine (HTB.out _).mono ?_)); rintro r w9 ⟨rfl, rfl⟩)
      | (go_at_call 24; (first | (with_reducible refine (HR1.out _).mono ?_) | (with_reducible refine (HR2.out _).mono ?_) | (with_reducible refine (HR3.out _).mono ?_)); rintro r w9 ⟨rfl, rfl⟩)
      | (go_at_call 25; (first | (with_reducible refine (HN1.out _).mono ?_) | (with_reducible refine (HN2.out _).mono ?_) | (with_reducible refine (HN3.out _).mono ?_)); rintro r w9 ⟨rfl, rfl⟩))
    obtain ⟨j0, j1, j2⟩ := HK1.out.puts (.int .i64 0) (.int .i64 0) (.int .i64 0)
    exact bodyPost_ret (v := .tuple #[partV 0 0 0, .int .i64 2]) (by simp [results, Try.results10, go_sem, j0, j1, j2]) rfl ⟨rfl, put3_below HB1.out _ _ _⟩
  rw [decide_eq_false hv0] at EV
  have pv : 0 < v.size := by omega
  have pv' : (1 : Int) ≤ (v.size : Int) := by omega
  have vv := head_byte v pv 45
  cases qv : atB v 0 45
  · rw [qv] at vv
    replace vv : ((v[0].toNat : Int) == 45) = false := vv
    have hq := Lib.hid (A3 rfl rfl (.inr (.inl qv)))
    rw [hq.out]
    clear hq A1 A2 A3 A4 A6 A7
    go_enter Try.func10, Try.ntmps10
    go_wp2_with fail
    rw [← hw0]
    clear hw0
    refine HU.out.mono ?_
    rintro q w1 ⟨rfl, b1⟩
    have HB1 := Lib.hid (HB.out.trans (b1.mono HB.out.size))
    have HK1 := Lib.hid (HK.out.below b1)
    obtain ⟨⟨e0, e1, e2⟩, e3, e4, e5⟩ := HK1.out.keep
    obtain ⟨f0, f1, f2⟩ := HK1.out.free
    clear b1 HU HB HK
    go_wp2_with (first
      | (go_at_call 23; (first | (with_reducible refine (HCU.out _).mono ?_)); rintro r w9 ⟨rfl, rfl⟩)
      | (go_at_call 29; (first | (with_reducible refine (HEN.out _).mono ?_)); rintro r w9 ⟨rfl, rfl⟩)
      | (go_at_call 28; (first | (with_reducible refine (HTB.out _).mono ?_)); rintro r w9 ⟨rfl, rfl⟩)
      | (go_at_call 24; (first | (with_reducible refine (HR1.out _).mono ?_) | (with_reducible refine (HR2.out _).mono ?_) | (with_reducible refine (HR3.out _).mono ?_)); rintro r w9 ⟨rfl, rfl⟩)
      | (go_at_call 25; (first | (with_reducible refine (HN1.out _).mono ?_) | (with_reducible refine (HN2.out _).mono ?_) | (with_reducible refine (HN3.out _).mono ?_)); rintro r w9 ⟨rfl, rfl⟩))
    go_quiet (fail)
    rw [← hv.out, ← hxf.out]
    obtain ⟨w2, hw2⟩ : ∃ w2, w2 = w1.drewN nq := ⟨_, rfl⟩
    rw [← hw2]
    replace HB1 := Lib.hid (show Below w.heap.size w w2 from by rw [hw2]; exact Below.drewN' HB1.out _)
    replace HK1 := Lib.hid (show TwoP w.heap.size w2 from by rw [hw2]; exact ⟨HK1.out.r, HK1.out.n⟩)
    clear hw2 nq e0 e1 e2 e3 e4 e5 f0 f1 f2
    obtain ⟨⟨e0, e1, e2⟩, e3, e4, e5⟩ := HK1.out.keep
    obtain ⟨f0, f1, f2⟩ := HK1.out.free
    go_wp2_with (first
      | (go_at_call 23; (first | (with_reducible refine (HCU.out _).mono ?_)); rintro r w9 ⟨rfl, rfl⟩)
      | (go_at_call 29; (first | (with_reducible refine (HEN.out _).mono ?_)); rintro r w9 ⟨rfl, rfl⟩)
      | (go_at_call 28; (first | (with_reducible refine (HTB.out _).mono ?_)); rintro r w9 ⟨rfl, rfl⟩)
      | (go_at_call 24; (first | (with_reducible refine (HR1.out _).mono ?_) | (with_reducible refine (HR2.out _).mono ?_) | (with_reducible refine (HR3.out _).mono ?_)); rintro r w9 ⟨rfl, rfl⟩)
      | (go_at_call 25; (first | (with_reducible refine (HN1.out _).mono ?_) | (with_reducible refine (HN2.out _).mono ?_) | (with_reducible refine (HN3.out _).mono ?_)); rintro r w9 ⟨rfl, rfl⟩))
    obtain ⟨j0, j1, j2⟩ := HK1.out.puts (.int .i64 0) (.int .i64 0) (.int .i64 0)
    exact bodyPost_ret (v := .tuple #[partV 0 0 0, .int .i64 2]) (by simp [results, Try.results10, go_sem, j0, j1, j2]) rfl ⟨rfl, put3_below HB1.out _ _ _⟩
  rw [qv] at vv
  replace vv : ((v[0].toNat : Int) == 45) = true := vv
  have wv : v[0].toNat = 45 := by have := eq_of_beq vv; omega
  have lk2' := lk2 pv
  have g1 : IntKind.i64.wrap ((k2 : Int) + 1) = (k2 : Int) + 1 := IntWalk.i64_in _ (by omega)
  have g2 : 0 ≤ (k2 : Int) + 1 := by omega
  have g3 : ((k2 : Int) + 1).toNat = k2 + 1 := by omega
  have g4 : (k2 : Int) + 1 ≤ (v.size : Int) := by omega
  have g5 : (1 : Int) ≤ (k2 : Int) + 1 := by omega
  by_cases hk2 : k2 = 0
  · rw [decide_eq_true hk2] at EO
    have HF := Lib.hid (A3 rfl rfl (.inr (.inr hk2)))
    clear hk2
    have hq := Lib.hid (HF.out)
    rw [hq.out]
    clear hq A1 A2 A3 A4 A6 A7
    go_enter Try.func10, Try.ntmps10
    go_wp2_with fail
    rw [← hw0]
    clear hw0
    refine HU.out.mono ?_
    rintro q w1 ⟨rfl, b1⟩
    have HB1 := Lib.hid (HB.out.trans (b1.mono HB.out.size))
    have HK1 := Lib.hid (HK.out.below b1)
    obtain ⟨⟨e0, e1, e2⟩, e3, e4, e5⟩ := HK1.out.keep
    obtain ⟨f0, f1, f2⟩ := HK1.out.free
    clear b1 HU HB HK
    go_wp2_with (first
      | (go_at_call 23; (first | (with_reducible refine (HCU.out _).mono ?_)); rintro r w9 ⟨rfl, rfl⟩)
      | (go_at_call 29; (first | (with_reducible refine (HEN.out _).mono ?_)); rintro r w9 ⟨rfl, rfl⟩)
      | (go_at_call 28; (first | (with_reducible refine (HTB.out _).mono ?_)); rintro r w9 ⟨rfl, rfl⟩)
      | (go_at_call 24; (first | (with_reducible refine (HR1.out _).mono ?_) | (with_reducible refine (HR2.out _).mono ?_) | (with_reducible refine (HR3.out _).mono ?_)); rintro r w9 ⟨rfl, rfl⟩)
      | (go_at_call 25; (first | (with_reducible refine (HN1.out _).mono ?_) | (with_reducible refine (HN2.out _).mono ?_) | (with_reducible refine (HN3.out _).mono ?_)); rintro r w9 ⟨rfl, rfl⟩))
    go_quiet (fail)
    rw [← hv.out, ← hxf.out]
    obtain ⟨w2, hw2⟩ : ∃ w2, w2 = w1.drewN nq := ⟨_, rfl⟩
    rw [← hw2]
    replace HB1 := Lib.hid (show Below w.heap.size w w2 from by rw [hw2]; exact Below.drewN' HB1.out _)
    replace HK1 := Lib.hid (show TwoP w.heap.size w2 from by rw [hw2]; exact ⟨HK1.out.r, HK1.out.n⟩)
    clear hw2 nq e0 e1 e2 e3 e4 e5 f0 f1 f2
    obtain ⟨⟨e0, e1, e2⟩, e3, e4, e5⟩ := HK1.out.keep
    obtain ⟨f0, f1, f2⟩ := HK1.out.free
    go_wp2_with (first
      | (go_at_call 23; (first | (with_reducible refine (HCU.out _).mono ?_)); rintro r w9 ⟨rfl, rfl⟩)
      | (go_at_call 29; (first | (with_reducible refine (HEN.out _).mono ?_)); rintro r w9 ⟨rfl, rfl⟩)
      | (go_at_call 28; (first | (with_reducible refine (HTB.out _).mono ?_)); rintro r w9 ⟨rfl, rfl⟩)
      | (go_at_call 24; (first | (with_reducible refine (HR1.out _).mono ?_) | (with_reducible refine (HR2.out _).mono ?_) | (with_reducible refine (HR3.out _).mono ?_)); rintro r w9 ⟨rfl, rfl⟩)
      | (go_at_call 25; (first | (with_reducible refine (HN1.out _).mono ?_) | (with_reducible refine (HN2.out _).mono ?_) | (with_reducible refine (HN3.out _).mono ?_)); rintro r w9 ⟨rfl, rfl⟩))
    go_quiet (fail)
    rw [← hu.out, ← hxt.out]
    obtain ⟨w3, hw3⟩ : ∃ w3, w3 = w2.drewN nq := ⟨_, rfl⟩
    rw [← hw3]
    replace HB1 := Lib.hid (show Below w.heap.size w w3 from by rw [hw3]; exact Below.drewN' HB1.out _)
    replace HK1 := Lib.hid (show TwoP w.heap.size w3 from by rw [hw3]; exact ⟨HK1.out.r, HK1.out.n⟩)
    clear hw3 nq e0 e1 e2 e3 e4 e5 f0 f1 f2
    obtain ⟨⟨e0, e1, e2⟩, e3, e4, e5⟩ := HK1.out.keep
    obtain ⟨f0, f1, f2⟩ := HK1.out.free
    go_wp2_with (first
      | (go_at_call 23; (first | (with_reducible refine (HCU.out _).mono ?_)); rintro r w9 ⟨rfl, rfl⟩)
      | (go_at_call 29; (first | (with_reducible refine (HEN.out _).mono ?_)); rintro r w9 ⟨rfl, rfl⟩)
      | (go_at_call 28; (first | (with_reducible refine (HTB.out _).mono ?_)); rintro r w9 ⟨rfl, rfl⟩)
      | (go_at_call 24; (first | (with_reducible refine (HR1.out _).mono ?_) | (with_reducible refine (HR2.out _).mono ?_) | (with_reducible refine (HR3.out _).mono ?_)); rintro r w9 ⟨rfl, rfl⟩)
      | (go_at_call 25; (first | (with_reducible refine (HN1.out _).mono ?_) | (with_reducible refine (HN2.out _).mono ?_) | (with_reducible refine (HN3.out _).mono ?_)); rintro r w9 ⟨rfl, rfl⟩))
    obtain ⟨j0, j1, j2⟩ := HK1.out.puts (.int .i64 0) (.int .i64 0) (.int .i64 0)
    exact bodyPost_ret (v := .tuple #[partV 0 0 0, .int .i64 2]) (by simp [results, Try.results10, go_sem, j0, j1, j2]) rfl ⟨rfl, put3_below HB1.out _ _ _⟩
  rw [decide_eq_false hk2] at EO
  have HKT := Lib.hid hk2
  clear hk2
  by_cases hu0 : u.size = 0
  · have qu : atB u 0 47 = false := atB_out (by omega)
    rw [decide_eq_true hu0] at EU
    have hq := Lib.hid (A4 rfl rfl HKF.out qv HKT.out qu)
    rw [hq.out]
    clear hq A1 A2 A3 A4 A6 A7
    go_enter Try.func10, Try.ntmps10
    go_wp2_with fail
    rw [← hw0]
    clear hw0
    refine HU.out.mono ?_
    rintro q w1 ⟨rfl, b1⟩
    have HB1 := Lib.hid (HB.out.trans (b1.mono HB.out.size))
    have HK1 := Lib.hid (HK.out.below b1)
    obtain ⟨⟨e0, e1, e2⟩, e3, e4, e5⟩ := HK1.out.keep
    obtain ⟨f0, f1, f2⟩ := HK1.out.free
    clear b1 HU HB HK
    go_wp2_with (first
      | (go_at_call 23; (first | (with_reducible refine (HCU.out _).mono ?_)); rintro r w9 ⟨rfl, rfl⟩)
      | (go_at_call 29; (first | (with_reducible refine (HEN.out _).mono ?_)); rintro r w9 ⟨rfl, rfl⟩)
      | (go_at_call 28; (first | (with_reducible refine (HTB.out _).mono ?_)); rintro r w9 ⟨rfl, rfl⟩)
      | (go_at_call 24; (first | (with_reducible refine (HR1.out _).mono ?_) | (with_reducible refine (HR2.out _).mono ?_) | (with_reducible refine (HR3.out _).mono ?_)); rintro r w9 ⟨rfl, rfl⟩)
      | (go_at_call 25; (first | (with_reducible refine (HN1.out _).mono ?_) | (with_reducible refine (HN2.out _).mono ?_) | (with_reducible refine (HN3.out _).mono ?_)); rintro r w9 ⟨rfl, rfl⟩))
    go_quiet (fail)
    rw [← hv.out, ← hxf.out]
    obtain ⟨w2, hw2⟩ : ∃ w2, w2 = w1.drewN nq := ⟨_, rfl⟩
    rw [← hw2]
    replace HB1 := Lib.hid (show Below w.heap.size w w2 from by rw [hw2]; exact Below.drewN' HB1.out _)
    replace HK1 := Lib.hid (show TwoP w.heap.size w2 from by rw [hw2]; exact ⟨HK1.out.r, HK1.out.n⟩)
    clear hw2 nq e0 e1 e2 e3 e4 e5 f0 f1 f2
    obtain ⟨⟨e0, e1, e2⟩, e3, e4, e5⟩ := HK1.out.keep
    obtain ⟨f0, f1, f2⟩ := HK1.out.free
    go_wp2_with (first
      | (go_at_call 23; (first | (with_reducible refine (HCU.out _).mono ?_)); rintro r w9 ⟨rfl, rfl⟩)
      | (go_at_call 29; (first | (with_reducible refine (HEN.out _).mono ?_)); rintro r w9 ⟨rfl, rfl⟩)
      | (go_at_call 28; (first | (with_reducible refine (HTB.out _).mono ?_)); rintro r w9 ⟨rfl, rfl⟩)
      | (go_at_call 24; (first | (with_reducible refine (HR1.out _).mono ?_) | (with_reducible refine (HR2.out _).mono ?_) | (with_reducible refine (HR3.out _).mono ?_)); rintro r w9 ⟨rfl, rfl⟩)
      | (go_at_call 25; (first | (with_reducible refine (HN1.out _).mono ?_) | (with_reducible refine (HN2.out _).mono ?_) | (with_reducible refine (HN3.out _).mono ?_)); rintro r w9 ⟨rfl, rfl⟩))
    go_quiet (fail)
    rw [← hu.out, ← hxt.out]
    obtain ⟨w3, hw3⟩ : ∃ w3, w3 = w2.drewN nq := ⟨_, rfl⟩
    rw [← hw3]
    replace HB1 := Lib.hid (show Below w.heap.size w w3 from by rw [hw3]; exact Below.drewN' HB1.out _)
    replace HK1 := Lib.hid (show TwoP w.heap.size w3 from by rw [hw3]; exact ⟨HK1.out.r, HK1.out.n⟩)
    clear hw3 nq e0 e1 e2 e3 e4 e5 f0 f1 f2
    obtain ⟨⟨e0, e1, e2⟩, e3, e4, e5⟩ := HK1.out.keep
    obtain ⟨f0, f1, f2⟩ := HK1.out.free
    go_wp2_with (first
      | (go_at_call 23; (first | (with_reducible refine (HCU.out _).mono ?_)); rintro r w9 ⟨rfl, rfl⟩)
      | (go_at_call 29; (first | (with_reducible refine (HEN.out _).mono ?_)); rintro r w9 ⟨rfl, rfl⟩)
      | (go_at_call 28; (first | (with_reducible refine (HTB.out _).mono ?_)); rintro r w9 ⟨rfl, rfl⟩)
      | (go_at_call 24; (first | (with_reducible refine (HR1.out _).mono ?_) | (with_reducible refine (HR2.out _).mono ?_) | (with_reducible refine (HR3.out _).mono ?_)); rintro r w9 ⟨rfl, rfl⟩)
      | (go_at_call 25; (first | (with_reducible refine (HN1.out _).mono ?_) | (with_reducible refine (HN2.out _).mono ?_) | (with_reducible refine (HN3.out _).mono ?_)); rintro r w9 ⟨rfl, rfl⟩))
    obtain ⟨j0, j1, j2⟩ := HK1.out.puts (.int .i64 0) (.int .i64 0) (.int .i64 0)
    exact bodyPost_ret (v := .tuple #[partV 0 0 0, .int .i64 2]) (by simp [results, Try.results10, go_sem, j0, j1, j2]) rfl ⟨rfl, put3_below HB1.out _ _ _⟩
  rw [decide_eq_false hu0] at EU
  have pu : 0 < u.size := by omega
  have pu' : (1 : Int) ≤ (u.size : Int) := by omega
  have vu := head_byte u pu 47
  cases qu : atB u 0 47
  · rw [qu] at vu
    replace vu : ((u[0].toNat : Int) == 47) = false := vu
    have hq := Lib.hid (A4 rfl rfl HKF.out qv HKT.out qu)
    rw [hq.out]
    clear hq A1 A2 A3 A4 A6 A7
    go_enter Try.func10, Try.ntmps10
    go_wp2_with fail
    rw [← hw0]
    clear hw0
    refine HU.out.mono ?_
    rintro q w1 ⟨rfl, b1⟩
    have HB1 := Lib.hid (HB.out.trans (b1.mono HB.out.size))
    have HK1 := Lib.hid (HK.out.below b1)
    obtain ⟨⟨e0, e1, e2⟩, e3, e4, e5⟩ := HK1.out.keep
    obtain ⟨f0, f1, f2⟩ := HK1.out.free
    clear b1 HU HB HK
    go_wp2_with (first
      | (go_at_call 23; (first | (with_reducible refine (HCU.out _).mono ?_)); rintro r w9 ⟨rfl, rfl⟩)
      | (go_at_call 29; (first | (with_reducible refine (HEN.out _).mono ?_)); rintro r w9 ⟨rfl, rfl⟩)
      | (go_at_call 28; (first | (with_reducible refine (HTB.out _).mono ?_)); rintro r w9 ⟨rfl, rfl⟩)
      | (go_at_call 24; (first | (with_reducible refine (HR1.out _).mono ?_) | (with_reducible refine (HR2.out _).mono ?_) | (with_reducible refine (HR3.out _).mono ?_)); rintro r w9 ⟨rfl, rfl⟩)
      | (go_at_call 25; (first | (with_reducible refine (HN1.out _).mono ?_) | (with_reducible refine (HN2.out _).mono ?_) | (with_reducible refine (HN3.out _).mono ?_)); rintro r w9 ⟨rfl, rfl⟩))
    go_quiet (fail)
    rw [← hv.out, ← hxf.out]
    obtain ⟨w2, hw2⟩ : ∃ w2, w2 = w1.drewN nq := ⟨_, rfl⟩
    rw [← hw2]
    replace HB1 := Lib.hid (show Below w.heap.size w w2 from by rw [hw2]; exact Below.drewN' HB1.out _)
    replace HK1 := Lib.hid (show TwoP w.heap.size w2 from by rw [hw2]; exact ⟨HK1.out.r, HK1.out.n⟩)
    clear hw2 nq e0 e1 e2 e3 e4 e5 f0 f1 f2
    obtain ⟨⟨e0, e1, e2⟩, e3, e4, e5⟩ := HK1.out.keep
    obtain ⟨f0, f1, f2⟩ := HK1.out.free
    go_wp2_with (first
      | (go_at_call 23; (first | (with_reducible refine (HCU.out _).mono ?_)); rintro r w9 ⟨rfl, rfl⟩)
      | (go_at_call 29; (first | (with_reducible refine (HEN.out _).mono ?_)); rintro r w9 ⟨rfl, rfl⟩)
      | (go_at_call 28; (first | (with_reducible refine (HTB.out _).mono ?_)); rintro r w9 ⟨rfl, rfl⟩)
      | (go_at_call 24; (first | (with_reducible refine (HR1.out _).mono ?_) | (with_reducible refine (HR2.out _).mono ?_) | (with_reducible refine (HR3.out _).mono ?_)); rintro r w9 ⟨rfl, rfl⟩)
      | (go_at_call 25; (first | (with_reducible refine (HN1.out _).mono ?_) | (with_reducible refine (HN2.out _).mono ?_) | (with_reducible refine (HN3.out _).mono ?_)); rintro r w9 ⟨rfl, rfl⟩))
    go_quiet (fail)
    rw [← hu.out, ← hxt.out]
    obtain ⟨w3, hw3⟩ : ∃ w3, w3 = w2.drewN nq := ⟨_, rfl⟩
    rw [← hw3]
    replace HB1 := Lib.hid (show Below w.heap.size w w3 from by rw [hw3]; exact Below.drewN' HB1.out _)
    replace HK1 := Lib.hid (show TwoP w.heap.size w3 from by rw [hw3]; exact ⟨HK1.out.r, HK1.out.n⟩)
    clear hw3 nq e0 e1 e2 e3 e4 e5 f0 f1 f2
    obtain ⟨⟨e0, e1, e2⟩, e3, e4, e5⟩ := HK1.out.keep
    obtain ⟨f0, f1, f2⟩ := HK1.out.free
    go_wp2_with (first
      | (go_at_call 23; (first | (with_reducible refine (HCU.out _).mono ?_)); rintro r w9 ⟨rfl, rfl⟩)
      | (go_at_call 29; (first | (with_reducible refine (HEN.out _).mono ?_)); rintro r w9 ⟨rfl, rfl⟩)
      | (go_at_call 28; (first | (with_reducible refine (HTB.out _).mono ?_)); rintro r w9 ⟨rfl, rfl⟩)
      | (go_at_call 24; (first | (with_reducible refine (HR1.out _).mono ?_) | (with_reducible refine (HR2.out _).mono ?_) | (with_reducible refine (HR3.out _).mono ?_)); rintro r w9 ⟨rfl, rfl⟩)
      | (go_at_call 25; (first | (with_reducible refine (HN1.out _).mono ?_) | (with_reducible refine (HN2.out _).mono ?_) | (with_reducible refine (HN3.out _).mono ?_)); rintro r w9 ⟨rfl, rfl⟩))
    obtain ⟨j0, j1, j2⟩ := HK1.out.puts (.int .i64 0) (.int .i64 0) (.int .i64 0)
    exact bodyPost_ret (v := .tuple #[partV 0 0 0, .int .i64 2]) (by simp [results, Try.results10, go_sem, j0, j1, j2]) rfl ⟨rfl, put3_below HB1.out _ _ _⟩
  rw [qu] at vu
  replace vu : ((u[0].toNat : Int) == 47) = true := vu
  have wu : u[0].toNat = 47 := by have := eq_of_beq vu; omega
  have ES2 : r.toList = [42] := eq_of_beq ES
  cases ba
  · have hq := Lib.hid (A6 rfl rfl HKF.out qv HKT.out qu (.inl rfl))
    rw [hq.out]
    clear hq A1 A2 A3 A4 A6 A7
    go_enter Try.func10, Try.ntmps10
    go_wp2_with fail
    rw [← hw0]
    clear hw0
    refine HU.out.mono ?_
    rintro q w1 ⟨rfl, b1⟩
    have HB1 := Lib.hid (HB.out.trans (b1.mono HB.out.size))
    have HK1 := Lib.hid (HK.out.below b1)
    obtain ⟨⟨e0, e1, e2⟩, e3, e4, e5⟩ := HK1.out.keep
    obtain ⟨f0, f1, f2⟩ := HK1.out.free
    clear b1 HU HB HK
    go_wp2_with (first
      | (go_at_call 23; (first | (with_reducible refine (HCU.out _).mono ?_)); rintro r w9 ⟨rfl, rfl⟩)
      | (go_at_call 29; (first | (with_reducible refine (HEN.out _).mono ?_)); rintro r w9 ⟨rfl, rfl⟩)
      | (go_at_call 28; (first | (with_reducible refine (HTB.out _).mono ?_)); rintro r w9 ⟨rfl, rfl⟩)
      | (go_at_call 24; (first | (with_reducible refine (HR1.out _).mono ?_) | (with_reducible refine (HR2.out _).mono ?_) | (with_reducible refine (HR3.out _).mono ?_)); rintro r w9 ⟨rfl, rfl⟩)
      | (go_at_call 25; (first | (with_reducible refine (HN1.out _).mono ?_) | (with_reducible refine (HN2.out _).mono ?_) | (with_reducible refine (HN3.out _).mono ?_)); rintro r w9 ⟨rfl, rfl⟩))
    go_quiet (fail)
    rw [← hv.out, ← hxf.out]
    obtain ⟨w2, hw2⟩ : ∃ w2, w2 = w1.drewN nq := ⟨_, rfl⟩
    rw [← hw2]
    replace HB1 := Lib.hid (show Below w.heap.size w w2 from by rw [hw2]; exact Below.drewN' HB1.out _)
    replace HK1 := Lib.hid (show TwoP w.heap.size w2 from by rw [hw2]; exact ⟨HK1.out.r, HK1.out.n⟩)
    clear hw2 nq e0 e1 e2 e3 e4 e5 f0 f1 f2
    obtain ⟨⟨e0, e1, e2⟩, e3, e4, e5⟩ := HK1.out.keep
    obtain ⟨f0, f1, f2⟩ := HK1.out.free
    go_wp2_with (first
      | (go_at_call 23; (first | (with_reducible refine (HCU.out _).mono ?_)); rintro r w9 ⟨rfl, rfl⟩)
      | (go_at_call 29; (first | (with_reducible refine (HEN.out _).mono ?_)); rintro r w9 ⟨rfl, rfl⟩)
      | (go_at_call 28; (first | (with_reducible refine (HTB.out _).mono ?_)); rintro r w9 ⟨rfl, rfl⟩)
      | (go_at_call 24; (first | (with_reducible refine (HR1.out _).mono ?_) | (with_reducible refine (HR2.out _).mono ?_) | (with_reducible refine (HR3.out _).mono ?_)); rintro r w9 ⟨rfl, rfl⟩)
      | (go_at_call 25; (first | (with_reducible refine (HN1.out _).mono ?_) | (with_reducible refine (HN2.out _).mono ?_) | (with_reducible refine (HN3.out _).mono ?_)); rintro r w9 ⟨rfl, rfl⟩))
    go_quiet (fail)
    rw [← hu.out, ← hxt.out]
    obtain ⟨w3, hw3⟩ : ∃ w3, w3 = w2.drewN nq := ⟨_, rfl⟩
    rw [← hw3]
    replace HB1 := Lib.hid (show Below w.heap.size w w3 from by rw [hw3]; exact Below.drewN' HB1.out _)
    replace HK1 := Lib.hid (show TwoP w.heap.size w3 from by rw [hw3]; exact ⟨HK1.out.r, HK1.out.n⟩)
    clear hw3 nq e0 e1 e2 e3 e4 e5 f0 f1 f2
    obtain ⟨⟨e0, e1, e2⟩, e3, e4, e5⟩ := HK1.out.keep
    obtain ⟨f0, f1, f2⟩ := HK1.out.free
    go_upto_region 20 with (first
      | (go_at_call 23; (first | (with_reducible refine (HCU.out _).mono ?_)); rintro r w9 ⟨rfl, rfl⟩)
      | (go_at_call 29; (first | (with_reducible refine (HEN.out _).mono ?_)); rintro r w9 ⟨rfl, rfl⟩)
      | (go_at_call 28; (first | (with_reducible refine (HTB.out _).mono ?_)); rintro r w9 ⟨rfl, rfl⟩)
      | (go_at_call 24; (first | (with_reducible refine (HR1.out _).mono ?_) | (with_reducible refine (HR2.out _).mono ?_) | (with_reducible refine (HR3.out _).mono ?_)); rintro r w9 ⟨rfl, rfl⟩)
      | (go_at_call 25; (first | (with_reducible refine (HN1.out _).mono ?_) | (with_reducible refine (HN2.out _).mono ?_) | (with_reducible refine (HN3.out _).mono ?_)); rintro r w9 ⟨rfl, rfl⟩))
    rw [← hr.out]
    go_upto_region 28 with (first
      | (go_at_call 23; (first | (with_reducible refine (HCU.out _).mono ?_)); rintro r w9 ⟨rfl, rfl⟩)
      | (go_at_call 29; (first | (with_reducible refine (HEN.out _).mono ?_)); rintro r w9 ⟨rfl, rfl⟩)
      | (go_at_call 28; (first | (with_reducible refine (HTB.out _).mono ?_)); rintro r w9 ⟨rfl, rfl⟩)
      | (go_at_call 24; (first | (with_reducible refine (HR1.out _).mono ?_) | (with_reducible refine (HR2.out _).mono ?_) | (with_reducible refine (HR3.out _).mono ?_)); rintro r w9 ⟨rfl, rfl⟩)
      | (go_at_call 25; (first | (with_reducible refine (HN1.out _).mono ?_) | (with_reducible refine (HN2.out _).mono ?_) | (with_reducible refine (HN3.out _).mono ?_)); rintro r w9 ⟨rfl, rfl⟩))
    obtain ⟨w7, hw7⟩ : ∃ w7, w7 = w3.alloc (partC a b c) := ⟨_, rfl⟩
    rw [← hw7]
    have HP := Lib.hid (show Blk w7 w3.heap.size 29 #[.int .i64 a, .int .i64 b, .int .i64 c] from by rw [hw7]; exact Blk.new _ _ _)
    replace HB1 := Lib.hid (show Below w.heap.size w w7 from by rw [hw7]; exact HB1.out.alloc HB1.out.size _)
    replace HK1 := Lib.hid (show TwoP w.heap.size w7 from by rw [hw7]; exact ⟨HK1.out.r.alloc _, HK1.out.n.alloc _⟩)
    clear hw7 e0 e1 e2 e3 e4 e5 f0 f1 f2
    obtain ⟨⟨e0, e1, e2⟩, e3, e4, e5⟩ := HK1.out.keep
    obtain ⟨f0, f1, f2⟩ := HK1.out.free
    have p0 := HP.out.cell 0
    have p1 := HP.out.cell 1
    have p2 := HP.out.cell 2
    go_wp2_with fail
    obtain ⟨j0, j1, j2⟩ := HK1.out.puts (.int .i64 0) (.int .i64 0) (.int .i64 0)
    exact bodyPost_ret (v := .tuple #[partV 0 0 0, .int .i64 9]) (by simp [results, Try.results10, go_sem, j0, j1, j2]) rfl ⟨rfl, put3_below HB1.out _ _ _⟩
  cases bb
  · have hq := Lib.hid (A6 rfl rfl HKF.out qv HKT.out qu (.inr (.inl rfl)))
    rw [hq.out]
    clear hq A1 A2 A3 A4 A6 A7
    go_enter Try.func10, Try.ntmps10
    go_wp2_with fail
    rw [← hw0]
    clear hw0
    refine HU.out.mono ?_
    rintro q w1 ⟨rfl, b1⟩
    have HB1 := Lib.hid (HB.out.trans (b1.mono HB.out.size))
    have HK1 := Lib.hid (HK.out.below b1)
    obtain ⟨⟨e0, e1, e2⟩, e3, e4, e5⟩ := HK1.out.keep
    obtain ⟨f0, f1, f2⟩ := HK1.out.free
    clear b1 HU HB HK
    go_wp2_with (first
      | (go_at_call 23; (first | (with_reducible refine (HCU.out _).mono ?_)); rintro r w9 ⟨rfl, rfl⟩)
      | (go_at_call 29; (first | (with_reducible refine (HEN.out _).mono ?_)); rintro r w9 ⟨rfl, rfl⟩)
      | (go_at_call 28; (first | (with_reducible refine (HTB.out _).mono ?_)); rintro r w9 ⟨rfl, rfl⟩)
      | (go_at_call 24; (first | (with_reducible refine (HR1.out _).mono ?_) | (with_reducible refine (HR2.out _).mono ?_) | (with_reducible refine (HR3.out _).mono ?_)); rintro r w9 ⟨rfl, rfl⟩)
      | (go_at_call 25; (first | (with_reducible refine (HN1.out _).mono ?_) | (with_reducible refine (HN2.out _).mono ?_) | (with_reducible refine (HN3.out _).mono ?_)); rintro r w9 ⟨rfl, rfl⟩))
    go_quiet (fail)
    rw [← hv.out, ← hxf.out]
    obtain ⟨w2, hw2⟩ : ∃ w2, w2 = w1.drewN nq := ⟨_, rfl⟩
    rw [← hw2]
    replace HB1 := Lib.hid (show Below w.heap.size w w2 from by rw [hw2]; exact Below.drewN' HB1.out _)
    replace HK1 := Lib.hid (show TwoP w.heap.size w2 from by rw [hw2]; exact ⟨HK1.out.r, HK1.out.n⟩)
    clear hw2 nq e0 e1 e2 e3 e4 e5 f0 f1 f2
    obtain ⟨⟨e0, e1, e2⟩, e3, e4, e5⟩ := HK1.out.keep
    obtain ⟨f0, f1, f2⟩ := HK1.out.free
    go_wp2_with (first
      | (go_at_call 23; (first | (with_reducible refine (HCU.out _).mono ?_)); rintro r w9 ⟨rfl, rfl⟩)
      | (go_at_call 29; (first | (with_reducible refine (HEN.out _).mono ?_)); rintro r w9 ⟨rfl, rfl⟩)
      | (go_at_call 28; (first | (with_reducible refine (HTB.out _).mono ?_)); rintro r w9 ⟨rfl, rfl⟩)
      | (go_at_call 24; (first | (with_reducible refine (HR1.out _).mono ?_) | (with_reducible refine (HR2.out _).mono ?_) | (with_reducible refine (HR3.out _).mono ?_)); rintro r w9 ⟨rfl, rfl⟩)
      | (go_at_call 25; (first | (with_reducible refine (HN1.out _).mono ?_) | (with_reducible refine (HN2.out _).mono ?_) | (with_reducible refine (HN3.out _).mono ?_)); rintro r w9 ⟨rfl, rfl⟩))
    go_quiet (fail)
    rw [← hu.out, ← hxt.out]
    obtain ⟨w3, hw3⟩ : ∃ w3, w3 = w2.drewN nq := ⟨_, rfl⟩
    rw [← hw3]
    replace HB1 := Lib.hid (show Below w.heap.size w w3 from by rw [hw3]; exact Below.drewN' HB1.out _)
    replace HK1 := Lib.hid (show TwoP w.heap.size w3 from by rw [hw3]; exact ⟨HK1.out.r, HK1.out.n⟩)
    clear hw3 nq e0 e1 e2 e3 e4 e5 f0 f1 f2
    obtain ⟨⟨e0, e1, e2⟩, e3, e4, e5⟩ := HK1.out.keep
    obtain ⟨f0, f1, f2⟩ := HK1.out.free
    go_upto_region 20 with (first
      | (go_at_call 23; (first | (with_reducible refine (HCU.out _).mono ?_)); rintro r w9 ⟨rfl, rfl⟩)
      | (go_at_call 29; (first | (with_reducible refine (HEN.out _).mono ?_)); rintro r w9 ⟨rfl, rfl⟩)
      | (go_at_call 28; (first | (with_reducible refine (HTB.out _).mono ?_)); rintro r w9 ⟨rfl, rfl⟩)
      | (go_at_call 24; (first | (with_reducible refine (HR1.out _).mono ?_) | (with_reducible refine (HR2.out _).mono ?_) | (with_reducible refine (HR3.out _).mono ?_)); rintro r w9 ⟨rfl, rfl⟩)
      | (go_at_call 25; (first | (with_reducible refine (HN1.out _).mono ?_) | (with_reducible refine (HN2.out _).mono ?_) | (with_reducible refine (HN3.out _).mono ?_)); rintro r w9 ⟨rfl, rfl⟩))
    rw [← hr.out]
    go_upto_region 28 with (first
      | (go_at_call 23; (first | (with_reducible refine (HCU.out _).mono ?_)); rintro r w9 ⟨rfl, rfl⟩)
      | (go_at_call 29; (first | (with_reducible refine (HEN.out _).mono ?_)); rintro r w9 ⟨rfl, rfl⟩)
      | (go_at_call 28; (first | (with_reducible refine (HTB.out _).mono ?_)); rintro r w9 ⟨rfl, rfl⟩)
      | (go_at_call 24; (first | (with_reducible refine (HR1.out _).mono ?_) | (with_reducible refine (HR2.out _).mono ?_) | (with_reducible refine (HR3.out _).mono ?_)); rintro r w9 ⟨rfl, rfl⟩)
      | (go_at_call 25; (first | (with_reducible refine (HN1.out _).mono ?_) | (with_reducible refine (HN2.out _).mono ?_) | (with_reducible refine (HN3.out _).mono ?_)); rintro r w9 ⟨rfl, rfl⟩))
    obtain ⟨w7, hw7⟩ : ∃ w7, w7 = w3.alloc (partC a b c) := ⟨_, rfl⟩
    rw [← hw7]
    have HP := Lib.hid (show Blk w7 w3.heap.size 29 #[.int .i64 a, .int .i64 b, .int .i64 c] from by rw [hw7]; exact Blk.new _ _ _)
    replace HB1 := Lib.hid (show Below w.heap.size w w7 from by rw [hw7]; exact HB1.out.alloc HB1.out.size _)
    replace HK1 := Lib.hid (show TwoP w.heap.size w7 from by rw [hw7]; exact ⟨HK1.out.r.alloc _, HK1.out.n.alloc _⟩)
    clear hw7 e0 e1 e2 e3 e4 e5 f0 f1 f2
    obtain ⟨⟨e0, e1, e2⟩, e3, e4, e5⟩ := HK1.out.keep
    obtain ⟨f0, f1, f2⟩ := HK1.out.free
    have p0 := HP.out.cell 0
    have p1 := HP.out.cell 1
    have p2 := HP.out.cell 2
    go_wp2_with fail
    obtain ⟨j0, j1, j2⟩ := HK1.out.puts (.int .i64 0) (.int .i64 0) (.int .i64 0)
    exact bodyPost_ret (v := .tuple #[partV 0 0 0, .int .i64 9]) (by simp [results, Try.results10, go_sem, j0, j1, j2]) rfl ⟨rfl, put3_below HB1.out _ _ _⟩
  cases bc
  · have hq := Lib.hid (A6 rfl rfl HKF.out qv HKT.out qu (.inr (.inr (.inl rfl))))
    rw [hq.out]
    clear hq A1 A2 A3 A4 A6 A7
    go_enter Try.func10, Try.ntmps10
    go_wp2_with fail
    rw [← hw0]
    clear hw0
    refine HU.out.mono ?_
    rintro q w1 ⟨rfl, b1⟩
    have HB1 := Lib.hid (HB.out.trans (b1.mono HB.out.size))
    have HK1 := Lib.hid (HK.out.below b1)
    obtain ⟨⟨e0, e1, e2⟩, e3, e4, e5⟩ := HK1.out.keep
    obtain ⟨f0, f1, f2⟩ := HK1.out.free
    clear b1 HU HB HK
    go_wp2_with (first
      | (go_at_call 23; (first | (with_reducible refine (HCU.out _).mono ?_)); rintro r w9 ⟨rfl, rfl⟩)
      | (go_at_call 29; (first | (with_reducible refine (HEN.out _).mono ?_)); rintro r w9 ⟨rfl, rfl⟩)
      | (go_at_call 28; (first | (with_reducible refine (HTB.out _).mono ?_)); rintro r w9 ⟨rfl, rfl⟩)
      | (go_at_call 24; (first | (with_reducible refine (HR1.out _).mono ?_) | (with_reducible refine (HR2.out _).mono ?_) | (with_reducible refine (HR3.out _).mono ?_)); rintro r w9 ⟨rfl, rfl⟩)
      | (go_at_call 25; (first | (with_reducible refine (HN1.out _).mono ?_) | (with_reducible refine (HN2.out _).mono ?_) | (with_reducible refine (HN3.out _).mono ?_)); rintro r w9 ⟨rfl, rfl⟩))
    go_quiet (fail)
    rw [← hv.out, ← hxf.out]
    obtain ⟨w2, hw2⟩ : ∃ w2, w2 = w1.drewN nq := ⟨_, rfl⟩
    rw [← hw2]
    replace HB1 := Lib.hid (show Below w.heap.size w w2 from by rw [hw2]; exact Below.drewN' HB1.out _)
    replace HK1 := Lib.hid (show TwoP w.heap.size w2 from by rw [hw2]; exact ⟨HK1.out.r, HK1.out.n⟩)
    clear hw2 nq e0 e1 e2 e3 e4 e5 f0 f1 f2
    obtain ⟨⟨e0, e1, e2⟩, e3, e4, e5⟩ := HK1.out.keep
    obtain ⟨f0, f1, f2⟩ := HK1.out.free
    go_wp2_with (first
      | (go_at_call 23; (first | (with_reducible refine (HCU.out _).mono ?_)); rintro r w9 ⟨rfl, rfl⟩)
      | (go_at_call 29; (first | (with_reducible refine (HEN.out _).mono ?_)); rintro r w9 ⟨rfl, rfl⟩)
      | (go_at_call 28; (first | (with_reducible refine (HTB.out _).mono ?_)); rintro r w9 ⟨rfl, rfl⟩)
      | (go_at_call 24; (first | (with_reducible refine (HR1.out _).mono ?_) | (with_reducible refine (HR2.out _).mono ?_) | (with_reducible refine (HR3.out _).mono ?_)); rintro r w9 ⟨rfl, rfl⟩)
      | (go_at_call 25; (first | (with_reducible refine (HN1.out _).mono ?_) | (with_reducible refine (HN2.out _).mono ?_) | (with_reducible refine (HN3.out _).mono ?_)); rintro r w9 ⟨rfl, rfl⟩))
    go_quiet (fail)
    rw [← hu.out, ← hxt.out]
    obtain ⟨w3, hw3⟩ : ∃ w3, w3 = w2.drewN nq := ⟨_, rfl⟩
    rw [← hw3]
    replace HB1 := Lib.hid (show Below w.heap.size w w3 from by rw [hw3]; exact Below.drewN' HB1.out _)
    replace HK1 := Lib.hid (show TwoP w.heap.size w3 from by rw [hw3]; exact ⟨HK1.out.r, HK1.out.n⟩)
    clear hw3 nq e0 e1 e2 e3 e4 e5 f0 f1 f2
    obtain ⟨⟨e0, e1, e2⟩, e3, e4, e5⟩ := HK1.out.keep
    obtain ⟨f0, f1, f2⟩ := HK1.out.free
    go_upto_region 20 with (first
      | (go_at_call 23; (first | (with_reducible refine (HCU.out _).mono ?_)); rintro r w9 ⟨rfl, rfl⟩)
      | (go_at_call 29; (first | (with_reducible refine (HEN.out _).mono ?_)); rintro r w9 ⟨rfl, rfl⟩)
      | (go_at_call 28; (first | (with_reducible refine (HTB.out _).mono ?_)); rintro r w9 ⟨rfl, rfl⟩)
      | (go_at_call 24; (first | (with_reducible refine (HR1.out _).mono ?_) | (with_reducible refine (HR2.out _).mono ?_) | (with_reducible refine (HR3.out _).mono ?_)); rintro r w9 ⟨rfl, rfl⟩)
      | (go_at_call 25; (first | (with_reducible refine (HN1.out _).mono ?_) | (with_reducible refine (HN2.out _).mono ?_) | (with_reducible refine (HN3.out _).mono ?_)); rintro r w9 ⟨rfl, rfl⟩))
    rw [← hr.out]
    go_upto_region 28 with (first
      | (go_at_call 23; (first | (with_reducible refine (HCU.out _).mono ?_)); rintro r w9 ⟨rfl, rfl⟩)
      | (go_at_call 29; (first | (with_reducible refine (HEN.out _).mono ?_)); rintro r w9 ⟨rfl, rfl⟩)
      | (go_at_call 28; (first | (with_reducible refine (HTB.out _).mono ?_)); rintro r w9 ⟨rfl, rfl⟩)
      | (go_at_call 24; (first | (with_reducible refine (HR1.out _).mono ?_) | (with_reducible refine (HR2.out _).mono ?_) | (with_reducible refine (HR3.out _).mono ?_)); rintro r w9 ⟨rfl, rfl⟩)
      | (go_at_call 25; (first | (with_reducible refine (HN1.out _).mono ?_) | (with_reducible refine (HN2.out _).mono ?_) | (with_reducible refine (HN3.out _).mono ?_)); rintro r w9 ⟨rfl, rfl⟩))
    obtain ⟨w7, hw7⟩ : ∃ w7, w7 = w3.alloc (partC a b c) := ⟨_, rfl⟩
    rw [← hw7]
    have HP := Lib.hid (show Blk w7 w3.heap.size 29 #[.int .i64 a, .int .i64 b, .int .i64 c] from by rw [hw7]; exact Blk.new _ _ _)
    replace HB1 := Lib.hid (show Below w.heap.size w w7 from by rw [hw7]; exact HB1.out.alloc HB1.out.size _)
    replace HK1 := Lib.hid (show TwoP w.heap.size w7 from by rw [hw7]; exact ⟨HK1.out.r.alloc _, HK1.out.n.alloc _⟩)
    clear hw7 e0 e1 e2 e3 e4 e5 f0 f1 f2
    obtain ⟨⟨e0, e1, e2⟩, e3, e4, e5⟩ := HK1.out.keep
    obtain ⟨f0, f1, f2⟩ := HK1.out.free
    have p0 := HP.out.cell 0
    have p1 := HP.out.cell 1
    have p2 := HP.out.cell 2
    go_wp2_with fail
    obtain ⟨j0, j1, j2⟩ := HK1.out.puts (.int .i64 0) (.int .i64 0) (.int .i64 0)
    exact bodyPost_ret (v := .tuple #[partV 0 0 0, .int .i64 9]) (by simp [results, Try.results10, go_sem, j0, j1, j2]) rfl ⟨rfl, put3_below HB1.out _ _ _⟩
  cases good
  · have hq := Lib.hid (A6 rfl rfl HKF.out qv HKT.out qu (.inr (.inr (.inr rfl))))
    rw [hq.out]
    clear hq A1 A2 A3 A4 A6 A7
    go_enter Try.func10, Try.ntmps10
    go_wp2_with fail
    rw [← hw0]
    clear hw0
    refine HU.out.mono ?_
    rintro q w1 ⟨rfl, b1⟩
    have HB1 := Lib.hid (HB.out.trans (b1.mono HB.out.size))
    have HK1 := Lib.hid (HK.out.below b1)
    obtain ⟨⟨e0, e1, e2⟩, e3, e4, e5⟩ := HK1.out.keep
    obtain ⟨f0, f1, f2⟩ := HK1.out.free
    clear b1 HU HB HK
    go_wp2_with (first
      | (go_at_call 23; (first | (with_reducible refine (HCU.out _).mono ?_)); rintro r w9 ⟨rfl, rfl⟩)
      | (go_at_call 29; (first | (with_reducible refine (HEN.out _).mono ?_)); rintro r w9 ⟨rfl, rfl⟩)
      | (go_at_call 28; (first | (with_reducible refine (HTB.out _).mono ?_)); rintro r w9 ⟨rfl, rfl⟩)
      | (go_at_call 24; (first | (with_reducible refine (HR1.out _).mono ?_) | (with_reducible refine (HR2.out _).mono ?_) | (with_reducible refine (HR3.out _).mono ?_)); rintro r w9 ⟨rfl, rfl⟩)
      | (go_at_call 25; (first | (with_reducible refine (HN1.out _).mono ?_) | (with_reducible refine (HN2.out _).mono ?_) | (with_reducible refine (HN3.out _).mono ?_)); rintro r w9 ⟨rfl, rfl⟩))
    go_quiet (fail)
    rw [← hv.out, ← hxf.out]
    obtain ⟨w2, hw2⟩ : ∃ w2, w2 = w1.drewN nq := ⟨_, rfl⟩
    rw [← hw2]
    replace HB1 := Lib.hid (show Below w.heap.size w w2 from by rw [hw2]; exact Below.drewN' HB1.out _)
    replace HK1 := Lib.hid (show TwoP w.heap.size w2 from by rw [hw2]; exact ⟨HK1.out.r, HK1.out.n⟩)
    clear hw2 nq e0 e1 e2 e3 e4 e5 f0 f1 f2
    obtain ⟨⟨e0, e1, e2⟩, e3, e4, e5⟩ := HK1.out.keep
    obtain ⟨f0, f1, f2⟩ := HK1.out.free
    go_wp2_with (first
      | (go_at_call 23; (first | (with_reducible refine (HCU.out _).mono ?_)); rintro r w9 ⟨rfl, rfl⟩)
      | (go_at_call 29; (first | (with_reducible refine (HEN.out _).mono ?_)); rintro r w9 ⟨rfl, rfl⟩)
      | (go_at_call 28; (first | (with_reducible refine (HTB.out _).mono ?_)); rintro r w9 ⟨rfl, rfl⟩)
      | (go_at_call 24; (first | (with_reducible refine (HR1.out _).mono ?_) | (with_reducible refine (HR2.out _).mono ?_) | (with_reducible refine (HR3.out _).mono ?_)); rintro r w9 ⟨rfl, rfl⟩)
      | (go_at_call 25; (first | (with_reducible refine (HN1.out _).mono ?_) | (with_reducible refine (HN2.out _).mono ?_) | (with_reducible refine (HN3.out _).mono ?_)); rintro r w9 ⟨rfl, rfl⟩))
    go_quiet (fail)
    rw [← hu.out, ← hxt.out]
    obtain ⟨w3, hw3⟩ : ∃ w3, w3 = w2.drewN nq := ⟨_, rfl⟩
    rw [← hw3]
    replace HB1 := Lib.hid (show Below w.heap.size w w3 from by rw [hw3]; exact Below.drewN' HB1.out _)
    replace HK1 := Lib.hid (show TwoP w.heap.size w3 from by rw [hw3]; exact ⟨HK1.out.r, HK1.out.n⟩)
    clear hw3 nq e0 e1 e2 e3 e4 e5 f0 f1 f2
    obtain ⟨⟨e0, e1, e2⟩, e3, e4, e5⟩ := HK1.out.keep
    obtain ⟨f0, f1, f2⟩ := HK1.out.free
    go_upto_region 20 with (first
      | (go_at_call 23; (first | (with_reducible refine (HCU.out _).mono ?_)); rintro r w9 ⟨rfl, rfl⟩)
      | (go_at_call 29; (first | (with_reducible refine (HEN.out _).mono ?_)); rintro r w9 ⟨rfl, rfl⟩)
      | (go_at_call 28; (first | (with_reducible refine (HTB.out _).mono ?_)); rintro r w9 ⟨rfl, rfl⟩)
      | (go_at_call 24; (first | (with_reducible refine (HR1.out _).mono ?_) | (with_reducible refine (HR2.out _).mono ?_) | (with_reducible refine (HR3.out _).mono ?_)); rintro r w9 ⟨rfl, rfl⟩)
      | (go_at_call 25; (first | (with_reducible refine (HN1.out _).mono ?_) | (with_reducible refine (HN2.out _).mono ?_) | (with_reducible refine (HN3.out _).mono ?_)); rintro r w9 ⟨rfl, rfl⟩))
    rw [← hr.out]
    go_upto_region 28 with (first
      | (go_at_call 23; (first | (with_reducible refine (HCU.out _).mono ?_)); rintro r w9 ⟨rfl, rfl⟩)
      | (go_at_call 29; (first | (with_reducible refine (HEN.out _).mono ?_)); rintro r w9 ⟨rfl, rfl⟩)
      | (go_at_call 28; (first | (with_reducible refine (HTB.out _).mono ?_)); rintro r w9 ⟨rfl, rfl⟩)
      | (go_at_call 24; (first | (with_reducible refine (HR1.out _).mono ?_) | (with_reducible refine (HR2.out _).mono ?_) | (with_reducible refine (HR3.out _).mono ?_)); rintro r w9 ⟨rfl, rfl⟩)
      | (go_at_call 25; (first | (with_reducible refine (HN1.out _).mono ?_) | (with_reducible refine (HN2.out _).mono ?_) | (with_reducible refine (HN3.out _).mono ?_)); rintro r w9 ⟨rfl, rfl⟩))
    obtain ⟨w7, hw7⟩ : ∃ w7, w7 = w3.alloc (partC a b c) := ⟨_, rfl⟩
    rw [← hw7]
    have HP := Lib.hid (show Blk w7 w3.heap.size 29 #[.int .i64 a, .int .i64 b, .int .i64 c] from by rw [hw7]; exact Blk.new _ _ _)
    replace HB1 := Lib.hid (show Below w.heap.size w w7 from by rw [hw7]; exact HB1.out.alloc HB1.out.size _)
    replace HK1 := Lib.hid (show TwoP w.heap.size w7 from by rw [hw7]; exact ⟨HK1.out.r.alloc _, HK1.out.n.alloc _⟩)
    clear hw7 e0 e1 e2 e3 e4 e5 f0 f1 f2
    obtain ⟨⟨e0, e1, e2⟩, e3, e4, e5⟩ := HK1.out.keep
    obtain ⟨f0, f1, f2⟩ := HK1.out.free
    have p0 := HP.out.cell 0
    have p1 := HP.out.cell 1
    have p2 := HP.out.cell 2
    go_wp2_with fail
    refine (HG.out _).mono ?_
    rintro q w8 ⟨rfl, b8⟩
    replace HB1 := Lib.hid (below_on HB1.out b8)
    replace HK1 := Lib.hid (HK1.out.below b8)
    replace HP := Lib.hid (HP.out.below b8 HP.out.lt)
    clear e0 e1 e2 e3 e4 e5 f0 f1 f2 p0 p1 p2 b8
    obtain ⟨⟨e0, e1, e2⟩, e3, e4, e5⟩ := HK1.out.keep
    obtain ⟨f0, f1, f2⟩ := HK1.out.free
    have p0 := HP.out.cell 0
    have p1 := HP.out.cell 1
    have p2 := HP.out.cell 2
    go_wp2_with fail
    obtain ⟨j0, j1, j2⟩ := HK1.out.puts (.int .i64 0) (.int .i64 0) (.int .i64 0)
    exact bodyPost_ret (v := .tuple #[partV 0 0 0, .int .i64 9]) (by simp [results, Try.results10, go_sem, j0, j1, j2]) rfl ⟨rfl, put3_below HB1.out _ _ _⟩
  · have hq := Lib.hid (A7 rfl rfl HKF.out qv HKT.out qu rfl rfl rfl rfl)
    rw [hq.out]
    clear hq A1 A2 A3 A4 A6 A7
    go_enter Try.func10, Try.ntmps10
    go_wp2_with fail
    rw [← hw0]
    clear hw0
    refine HU.out.mono ?_
    rintro q w1 ⟨rfl, b1⟩
    have HB1 := Lib.hid (HB.out.trans (b1.mono HB.out.size))
    have HK1 := Lib.hid (HK.out.below b1)
    obtain ⟨⟨e0, e1, e2⟩, e3, e4, e5⟩ := HK1.out.keep
    obtain ⟨f0, f1, f2⟩ := HK1.out.free
    clear b1 HU HB HK
    go_wp2_with (first
      | (go_at_call 23; (first | (with_reducible refine (HCU.out _).mono ?_)); rintro r w9 ⟨rfl, rfl⟩)
      | (go_at_call 29; (first | (with_reducible refine (HEN.out _).mono ?_)); rintro r w9 ⟨rfl, rfl⟩)
      | (go_at_call 28; (first | (with_reducible refine (HTB.out _).mono ?_)); rintro r w9 ⟨rfl, rfl⟩)
      | (go_at_call 24; (first | (with_reducible refine (HR1.out _).mono ?_) | (with_reducible refine (HR2.out _).mono ?_) | (with_reducible refine (HR3.out _).mono ?_)); rintro r w9 ⟨rfl, rfl⟩)
      | (go_at_call 25; (first | (with_reducible refine (HN1.out _).mono ?_) | (with_reducible refine (HN2.out _).mono ?_) | (with_reducible refine (HN3.out _).mono ?_)); rintro r w9 ⟨rfl, rfl⟩))
    go_quiet (fail)
    rw [← hv.out, ← hxf.out]
    obtain ⟨w2, hw2⟩ : ∃ w2, w2 = w1.drewN nq := ⟨_, rfl⟩
    rw [← hw2]
    replace HB1 := Lib.hid (show Below w.heap.size w w2 from by rw [hw2]; exact Below.drewN' HB1.out _)
    replace HK1 := Lib.hid (show TwoP w.heap.size w2 from by rw [hw2]; exact ⟨HK1.out.r, HK1.out.n⟩)
    clear hw2 nq e0 e1 e2 e3 e4 e5 f0 f1 f2
    obtain ⟨⟨e0, e1, e2⟩, e3, e4, e5⟩ := HK1.out.keep
    obtain ⟨f0, f1, f2⟩ := HK1.out.free
    go_wp2_with (first
      | (go_at_call 23; (first | (with_reducible refine (HCU.out _).mono ?_)); rintro r w9 ⟨rfl, rfl⟩)
      | (go_at_call 29; (first | (with_reducible refine (HEN.out _).mono ?_)); rintro r w9 ⟨rfl, rfl⟩)
      | (go_at_call 28; (first | (with_reducible refine (HTB.out _).mono ?_)); rintro r w9 ⟨rfl, rfl⟩)
      | (go_at_call 24; (first | (with_reducible refine (HR1.out _).mono ?_) | (with_reducible refine (HR2.out _).mono ?_) | (with_reducible refine (HR3.out _).mono ?_)); rintro r w9 ⟨rfl, rfl⟩)
      | (go_at_call 25; (first | (with_reducible refine (HN1.out _).mono ?_) | (with_reducible refine (HN2.out _).mono ?_) | (with_reducible refine (HN3.out _).mono ?_)); rintro r w9 ⟨rfl, rfl⟩))
    go_quiet (fail)
    rw [← hu.out, ← hxt.out]
    obtain ⟨w3, hw3⟩ : ∃ w3, w3 = w2.drewN nq := ⟨_, rfl⟩
    rw [← hw3]
    replace HB1 := Lib.hid (show Below w.heap.size w w3 from by rw [hw3]; exact Below.drewN' HB1.out _)
    replace HK1 := Lib.hid (show TwoP w.heap.size w3 from by rw [hw3]; exact ⟨HK1.out.r, HK1.out.n⟩)
    clear hw3 nq e0 e1 e2 e3 e4 e5 f0 f1 f2
    obtain ⟨⟨e0, e1, e2⟩, e3, e4, e5⟩ := HK1.out.keep
    obtain ⟨f0, f1, f2⟩ := HK1.out.free
    go_upto_region 20 with (first
      | (go_at_call 23; (first | (with_reducible refine (HCU.out _).mono ?_)); rintro r w9 ⟨rfl, rfl⟩)
      | (go_at_call 29; (first | (with_reducible refine (HEN.out _).mono ?_)); rintro r w9 ⟨rfl, rfl⟩)
      | (go_at_call 28; (first | (with_reducible refine (HTB.out _).mono ?_)); rintro r w9 ⟨rfl, rfl⟩)
      | (go_at_call 24; (first | (with_reducible refine (HR1.out _).mono ?_) | (with_reducible refine (HR2.out _).mono ?_) | (with_reducible refine (HR3.out _).mono ?_)); rintro r w9 ⟨rfl, rfl⟩)
      | (go_at_call 25; (first | (with_reducible refine (HN1.out _).mono ?_) | (with_reducible refine (HN2.out _).mono ?_) | (with_reducible refine (HN3.out _).mono ?_)); rintro r w9 ⟨rfl, rfl⟩))
    rw [← hr.out]
    go_upto_region 28 with (first
      | (go_at_call 23; (first | (with_reducible refine (HCU.out _).mono ?_)); rintro r w9 ⟨rfl, rfl⟩)
      | (go_at_call 29; (first | (with_reducible refine (HEN.out _).mono ?_)); rintro r w9 ⟨rfl, rfl⟩)
      | (go_at_call 28; (first | (with_reducible refine (HTB.out _).mono ?_)); rintro r w9 ⟨rfl, rfl⟩)
      | (go_at_call 24; (first | (with_reducible refine (HR1.out _).mono ?_) | (with_reducible refine (HR2.out _).mono ?_) | (with_reducible refine (HR3.out _).mono ?_)); rintro r w9 ⟨rfl, rfl⟩)
      | (go_at_call 25; (first | (with_reducible refine (HN1.out _).mono ?_) | (with_reducible refine (HN2.out _).mono ?_) | (with_reducible refine (HN3.out _).mono ?_)); rintro r w9 ⟨rfl, rfl⟩))
    obtain ⟨w7, hw7⟩ : ∃ w7, w7 = w3.alloc (partC a b c) := ⟨_, rfl⟩
    rw [← hw7]
    have HP := Lib.hid (show Blk w7 w3.heap.size 29 #[.int .i64 a, .int .i64 b, .int .i64 c] from by rw [hw7]; exact Blk.new _ _ _)
    replace HB1 := Lib.hid (show Below w.heap.size w w7 from by rw [hw7]; exact HB1.out.alloc HB1.out.size _)
    replace HK1 := Lib.hid (show TwoP w.heap.size w7 from by rw [hw7]; exact ⟨HK1.out.r.alloc _, HK1.out.n.alloc _⟩)
    clear hw7 e0 e1 e2 e3 e4 e5 f0 f1 f2
    obtain ⟨⟨e0, e1, e2⟩, e3, e4, e5⟩ := HK1.out.keep
    obtain ⟨f0, f1, f2⟩ := HK1.out.free
    have p0 := HP.out.cell 0
    have p1 := HP.out.cell 1
    have p2 := HP.out.cell 2
    go_wp2_with fail
    refine (HG.out _).mono ?_
    rintro q w8 ⟨rfl, b8⟩
    replace HB1 := Lib.hid (below_on HB1.out b8)
    replace HK1 := Lib.hid (HK1.out.below b8)
    replace HP := Lib.hid (HP.out.below b8 HP.out.lt)
    clear e0 e1 e2 e3 e4 e5 f0 f1 f2 p0 p1 p2 b8
    obtain ⟨⟨e0, e1, e2⟩, e3, e4, e5⟩ := HK1.out.keep
    obtain ⟨f0, f1, f2⟩ := HK1.out.free
    have p0 := HP.out.cell 0
    have p1 := HP.out.cell 1
    have p2 := HP.out.cell 2
    go_wp2_with fail
    obtain ⟨j0, j1, j2⟩ := HK1.out.puts (.int .i64 a) (.int .i64 b) (.int .i64 c)
    exact bodyPost_ret (v := .tuple #[partV a b c, .int .i64 0]) (by simp [results, Try.results10, go_sem, j0, j1, j2]) rfl ⟨rfl, put3_below HB1.out _ _ _⟩

end Go.Proofs.Ytaolclpjlkdkjaa
namespace Go.Proofs.Ytaolclpjlkdkjaa
open Go.RowKit

theorem unitT_yes {s : ByteArray} (h : isUnit s (aA s) = true) : unitT (s.extract (scan tabB s 0) s.size) = .tuple #[.string (s.extract (aU s) s.size), .bool true] := by
  have la := aA_le s
  obtain ⟨e, l⟩ := unit_five la h
  have e2 : aU s = aA s + 5 := e
  have hu : unitD (s.extract (aA s) s.size) 0 = true := by
    rw [← isUnit_eq (Nat.zero_le _), ← isUnit_suf la]
    exact h
  show unitT (s.extract (aA s) s.size) = _
  unfold unitT
  rw [if_pos hu, sufx_suf s l, e2]
theorem unitT_no {s : ByteArray} (h : isUnit s (aA s) = false) : unitT (s.extract (scan tabB s 0) s.size) = .tuple #[.string ⟨#[]⟩, .bool false] := by
  have la := aA_le s
  have hu : unitD (s.extract (aA s) s.size) 0 = false := by
    rw [← isUnit_eq (Nat.zero_le _), ← isUnit_suf la]
    exact h
  show unitT (s.extract (aA s) s.size) = _
  unfold unitT
  rw [if_neg (by rw [hu]; decide)]
theorem atB_suf {s : ByteArray} {k : Nat} {c : UInt8} (_hk : k ≤ s.size) : atB (s.extract k s.size) 0 c = atB s k c := by
  have hz : (s.extract k s.size).size = s.size - k := by simp
  by_cases h : k < s.size
  · rw [atB_at h, atB_at (show 0 < (s.extract k s.size).size by omega), ext_at (Nat.le_refl _) (by omega)]
    rfl
  · rw [atB_out (by omega), atB_out (by omega)]
theorem size_bool24 (x : ByteArray) : (x.toList == []) = decide (x.size = 0) := by
  rw [Bool.eq_iff_iff, beq_iff_eq, decide_eq_true_eq, ← toList_size]
  exact List.length_eq_zero_iff.symm
/-- What cut leaves. -/
def cutF (x : ByteArray) : ByteArray := x.extract (scan tabB x 0) x.size
theorem cutF_size (x : ByteArray) : (cutF x).size ≤ x.size := by
  unfold cutF
  simp
theorem cutF_suf {s : ByteArray} {k : Nat} (hk : k ≤ s.size) : cutF (s.extract k s.size) = s.extract (scan tabB s k) s.size := by
  have h1 := scan_le tabB (s.extract k s.size) 0 (Nat.zero_le _)
  have hz : (s.extract k s.size).size = s.size - k := by simp
  unfold cutF
  rw [sufx_suf s (by omega), ← scan_suf0 tabB s hk]
theorem runD_suf {s : ByteArray} {k : Nat} (hk : k ≤ s.size) : k + runD (s.extract k s.size) = scan digB s k := (scan_suf0 digB s hk).symm
theorem rest24_size (x : ByteArray) (k : Nat) : (x.extract k x.size).size ≤ x.size := by simp

set_option maxHeartbeats 1000000 in
theorem rparse24_any (s : ByteArray) (w : World) (hs : s.size ≤ 140737488351232) :
    Calls Try.prog 8 #[.string s] w fun r w' => r = askV (askO s) ∧ Below w.heap.size w w' := by
  have hs' : s.size ≤ 9223372036854775807 := by omega
  obtain ⟨x1, hx1, hu⟩ : ∃ x1, x1.size ≤ s.size ∧ unitT (s.extract (scan tabB s 0) s.size) = .tuple #[.string x1, .bool (isUnit s (aA s))] ∧ (isUnit s (aA s) = true → x1 = s.extract (aU s) s.size) := by
    cases h : isUnit s (aA s)
    · exact ⟨⟨#[]⟩, Nat.zero_le _, unitT_no h, fun h => by cases h⟩
    · exact ⟨s.extract (aU s) s.size, rest24_size _ _, unitT_yes h, fun _ => rfl⟩
  obtain ⟨hu, hX1⟩ := hu
  have la := aA_le s
  have lu := aU_le s
  have lb := aB_le s
  have s2 := cutF_size x1
  have s4 := cutF_size ((cutF x1).extract 1 (cutF x1).size)
  have s4' := rest24_size (cutF x1) 1
  obtain ⟨x2, h2⟩ : ∃ x2, x2 = cutF x1 := ⟨_, rfl⟩
  obtain ⟨x4, h4⟩ : ∃ x4, x4 = cutF (x2.extract 1 x2.size) := ⟨_, rfl⟩
  obtain ⟨x5, h5⟩ : ∃ x5, x5 = cutF (x4.extract (runD x4) x4.size) := ⟨_, rfl⟩
  obtain ⟨x6, h6⟩ : ∃ x6, x6 = cutF (x5.extract 1 x5.size) := ⟨_, rfl⟩
  obtain ⟨x7, h7⟩ : ∃ x7, x7 = cutF (x6.extract (runD x6) x6.size) := ⟨_, rfl⟩
  rw [← h2] at s2 s4 s4'
  rw [← h4] at s4
  have s5 : x5.size ≤ x4.size := by rw [h5]; exact Nat.le_trans (cutF_size _) (rest24_size _ _)
  have s6 : x6.size ≤ x5.size := by rw [h6]; exact Nat.le_trans (cutF_size _) (rest24_size _ _)
  have d4 : runD x4 ≤ x4.size := scan_le _ _ _ (Nat.zero_le _)
  have d6 : runD x6 ≤ x6.size := scan_le _ _ _ (Nat.zero_le _)
  have q4 : (x4.extract 0 (runD x4)).size = runD x4 := by simp; omega
  have q6 : (x6.extract 0 (runD x6)).size = runD x6 := by simp; omega
  -- what the letters are, as far as it is so
  have X2 : isUnit s (aA s) = true → x2 = s.extract (aB s) s.size := fun h => by rw [h2, hX1 h, cutF_suf lu]; rfl
  have X2b : isUnit s (aA s) = true → atB x2 0 61 = atB s (aB s) 61 := fun h => by rw [X2 h, atB_suf lb]
  have X4 : isUnit s (aA s) = true → atB s (aB s) 61 = true → x4 = s.extract (aC s) s.size ∧ aC s + runD x4 = aD s ∧ x4.extract 0 (runD x4) = s.extract (aC s) (aD s) ∧ x5 = s.extract (aE s) s.size ∧ aE s ≤ s.size := fun h e => by
    have l1 := atB_in e
    have lc : aC s ≤ s.size := scan_le _ _ _ l1
    have e4 : x4 = s.extract (aC s) s.size := by rw [h4, X2 h, sufx_suf s l1, cutF_suf l1]; rfl
    have ed : aC s + runD x4 = aD s := by rw [e4]; exact runD_suf lc
    have ld : aD s ≤ s.size := scan_le _ _ _ lc
    refine ⟨e4, ed, ?_, ?_, scan_le _ _ _ ld⟩
    · have := sufx_head s (k := aC s) (i := runD x4) (by omega)
      rw [ed, ← e4] at this
      exact this
    · have := sufx_suf s (k := aC s) (i := runD x4) (by omega)
      rw [ed, ← e4] at this
      rw [h5, this, cutF_suf ld]
      rfl
  have X5b : isUnit s (aA s) = true → atB s (aB s) 61 = true → atB x5 0 45 = atB s (aE s) 45 := fun h e => by
    obtain ⟨_, _, _, e5, le⟩ := X4 h e
    rw [e5, atB_suf le]
  have X6 : isUnit s (aA s) = true → atB s (aB s) 61 = true → atB s (aE s) 45 = true → aF s + runD x6 = aG s ∧ x6.extract 0 (runD x6) = s.extract (aF s) (aG s) ∧ (x7.size = 0 ↔ aH s = s.size) := fun h e m => by
    obtain ⟨_, _, _, e5, le⟩ := X4 h e
    have l1 := atB_in m
    have lf : aF s ≤ s.size := scan_le _ _ _ l1
    have e6 : x6 = s.extract (aF s) s.size := by rw [h6, e5, sufx_suf s l1, cutF_suf l1]; rfl
    have ed : aF s + runD x6 = aG s := by rw [e6]; exact runD_suf lf
    have lg : aG s ≤ s.size := scan_le _ _ _ lf
    have lh : aH s ≤ s.size := scan_le _ _ _ lg
    refine ⟨ed, ?_, ?_⟩
    · have := sufx_head s (k := aF s) (i := runD x6) (by omega)
      rw [ed, ← e6] at this
      exact this
    · have := sufx_suf s (k := aF s) (i := runD x6) (by omega)
      rw [ed, ← e6] at this
      have e7 : x7 = s.extract (aH s) s.size := by rw [h7, this, cutF_suf lg]; rfl
      rw [e7]
      simp
      omega
  have FT : isUnit s (aA s) = true → atB s (aB s) 61 = true → atB s (aE s) 45 = true → ((runD x4 = 0 ∧ runD x6 = 0) ↔ (aC s = aD s ∧ aF s = aG s)) := fun h e m => by
    have a4 := (X4 h e).2.1
    have a6 := (X6 h e m).1
    omega
  refine rparse_walk s x1 x2 x4 x5 x6 x7 ⟨#[]⟩ ⟨#[]⟩ (isUnit s (aA s)) (runD x4) (runD x6) (numP (x4.extract 0 (runD x4))) (numP (x6.extract 0 (runD x6))) (askV (askO s)) w
    (fun W => by have := unit24_any s W hs; rw [hu] at this; exact this)
    (Lib.hid fun W => by rw [h2]; exact cut24_any x1 W (by omega))
    (Lib.hid fun W => by rw [h4]; exact cut24_any _ W (by omega))
    (Lib.hid fun W => refRun_any x4 W (by omega))
    (Lib.hid fun W => by rw [h5]; exact cut24_any _ W (by have := rest24_size x4 (runD x4); omega))
    (Lib.hid fun W => by rw [h6]; exact cut24_any _ W (by have := rest24_size x5 1; omega))
    (Lib.hid fun W => refRun_any x6 W (by omega))
    (Lib.hid fun W => by rw [h7]; exact cut24_any _ W (by have := rest24_size x6 (runD x6); omega))
    (Lib.hid fun W => by rw [← numT_W]; exact num24_any (x4.extract 0 (runD x4)) W (run_digits (Nat.zero_le _)) (by omega))
    (Lib.hid fun W => by rw [← numT_W]; exact num24_any (x6.extract 0 (runD x6)) W (run_digits (Nat.zero_le _)) (by omega))
    (by omega) (by omega) (by omega) (by omega) d4 d6 (size_bool24 x2) (size_bool24 x5) (size_bool24 x7)
    (by rw [size_bool24, q4]) (by rw [size_bool24, q6])
    (fun h => askV_no (askO_unit h))
    (fun h e => askV_no (askO_eq h (by rw [← X2b h]; exact e)))
    (fun h e m => ?_) (fun h e m d => ?_) (fun h e m d f n => ?_) (fun a b h e m d f na nb o => ?_)
  · rw [X2b h] at e
    rw [X5b h e] at m
    exact askV_no (askO_minus h e m)
  · rw [X2b h] at e
    rw [X5b h e] at m
    by_cases hf : aC s = aD s ∧ aF s = aG s
    · exact askV_no (askO_none h e m hf)
    · rcases d with d | d
      · exact askV_no (askO_more h e m hf fun hh => d ((X6 h e m).2.2.2 hh))
      · exact absurd ((FT h e m).1 d) hf
  · rw [X2b h] at e
    rw [X5b h e] at m
    have ho := askO_all h e m (fun hf => f ((FT h e m).2 hf)) ((X6 h e m).2.2.1 d)
    rw [(X4 h e).2.2.1, (X6 h e m).2.1] at n
    rcases n with n | n | ⟨a, b, n1, n2, n3, n4⟩
    · rw [n] at ho
      exact askV_no (a := 0) ho
    · rw [n] at ho
      cases hq : numP (s.extract (aC s) (aD s)) <;> rw [hq] at ho <;> exact askV_no (a := 0) ho
    · rw [n1, n2] at ho
      refine askV_no (a := aH s) (ho.trans ?_)
      show (if b = -1 ∨ a ≤ b then _ else _) = _
      rw [if_neg (by omega)]
  · rw [X2b h] at e
    rw [X5b h e] at m
    have ho := askO_all h e m (fun hf => f ((FT h e m).2 hf)) ((X6 h e m).2.2.1 d)
    rw [(X4 h e).2.2.1] at na
    rw [(X6 h e m).2.1] at nb
    have la := numP_in na
    have lb := numP_in nb
    rw [na, nb] at ho
    refine askV_ok (ho.trans ?_)
    show (if b = -1 ∨ a ≤ b then _ else _) = _
    rw [if_pos (by omega)]

end Go.Proofs.Ytaolclpjlkdkjaa
namespace Go.Proofs.Ytaolclpjlkdkjaa

theorem backN_run (p : UInt8 → Bool) (s : ByteArray) : ∀ k, k ≤ s.size → ∀ i, backN p s k ≤ i → i < k → (h : i < s.size) → p s[i] = true
  | 0, _, i, _, h, _ => absurd h (Nat.not_lt_zero _)
  | k + 1, hk, i, h1, h2, h => by
    have hlt : k < s.size := by omega
    cases hp : p s[k]
    · rw [backN_stop hlt hp] at h1; omega
    · rw [backN_step hlt hp] at h1
      by_cases e : i = k
      · subst e; exact hp
      · exact backN_run p s k (by omega) i h1 (by omega) h

/-- A text that stands in another one from a place on, and behind which all is blank. -/
structure TIn (s : ByteArray) (c : Nat) (t : ByteArray) : Prop where
  le : c + t.size ≤ s.size
  eq : t = s.extract c (c + t.size)
  rest : ∀ j, c + t.size ≤ j → (h : j < s.size) → tabB s[j] = true
  last : ∀ j, j + 1 = c + t.size → c ≤ j → (h : j < s.size) → tabB s[j] = false
theorem TIn.of {s : ByteArray} {c : Nat} (hc : c ≤ s.size) : TIn s c (cutP tabB (s.extract c s.size)) := by
  have hz : (s.extract c s.size).size = s.size - c := by simp
  have hn := backN_le tabB (s.extract c s.size) (s.extract c s.size).size
  have hs := cutP_size tabB (s.extract c s.size)
  refine ⟨by omega, ?_, fun j h1 h => ?_, fun j h1 h2 h => ?_⟩
  · rw [hs]
    unfold cutP
    exact sufx_head s (by omega)
  · have := backN_run tabB (s.extract c s.size) _ (Nat.le_refl _) (j - c) (by omega) (by omega) (by omega)
    rw [ext_at (Nat.le_refl _) (by omega)] at this
    have e : c + (j - c) = j := by omega
    simp only [e] at this
    exact this
  · rcases backN_at tabB (s.extract c s.size) (s.extract c s.size).size with h3 | h3
    · omega
    · have h4 : backN tabB (s.extract c s.size) (s.extract c s.size).size - 1 < (s.extract c s.size).size := by omega
      rw [getElem!_pos (s.extract c s.size) _ h4, ext_at (Nat.le_refl _) (by omega)] at h3
      have e : c + (backN tabB (s.extract c s.size) (s.extract c s.size).size - 1) = j := by omega
      simp only [e] at h3
      exact h3
theorem TIn.byte {s t : ByteArray} {c i : Nat} (h : TIn s c t) (hi : i < t.size) : t[i] = s[c + i]'(by have := h.le; omega) := by
  have hle := h.le
  have e := h.eq
  have h2 : ∀ (y : ByteArray) (hy : i < y.size), y = s.extract c (c + t.size) → y[i] = s[c + i]'(by omega) := fun y hy e => by
    subst e
    exact ext_at hle (by omega)
  exact h2 t hi e
theorem TIn.run {s t : ByteArray} {c i : Nat} (h : TIn s c t) (hi : i ≤ t.size) : scan digB s (c + i) = c + scan digB t i := by
  have := scan_piece (p := digB) (s := s) (a := c) (b := c + t.size) (i := i) h.le (by omega) fun hb => by
    have h1 := h.rest _ (Nat.le_refl _) hb
    have := bytes_all (p := fun b => !tabB b || !digB b) (by kernel_rfl) (s[c + t.size])
    rw [h1] at this
    simpa using this
  rw [← h.eq] at this
  exact this
theorem TIn.at_ {s t : ByteArray} {c i : Nat} (h : TIn s c t) {ch : UInt8} (hi : i ≤ t.size) (hch : tabB ch = false) : atB s (c + i) ch = atB t i ch := by
  have hle := h.le
  by_cases hlt : i < t.size
  · rw [atB_at hlt, atB_at (show c + i < s.size by omega), h.byte hlt]
  · rw [atB_out (show t.size ≤ i by omega)]
    by_cases hb : c + i < s.size
    · rw [atB_at hb, beq_eq_false_iff_ne]
      intro e
      have := h.rest (c + i) (by omega) hb
      rw [e, hch] at this
      cases this
    · exact atB_out (by omega)
theorem TIn.ext {s t : ByteArray} {c i j : Nat} (h : TIn s c t) (hj : j ≤ t.size) : s.extract (c + i) (c + j) = t.extract i j := by
  have e : t.extract i j = (s.extract c (c + t.size)).extract i j := congrArg (fun x => x.extract i j) h.eq
  rw [e, ByteArray.extract_extract]
  congr 1
  omega
theorem TIn.end_ {s t : ByteArray} {c i : Nat} (h : TIn s c t) (hi : i ≤ t.size) : scan tabB s (c + i) = s.size ↔ i = t.size := by
  have hle := h.le
  constructor
  · intro e
    by_cases hlt : i < t.size
    · have h1 := h.last (c + t.size - 1) (by omega) (by omega) (by omega)
      have h2 := scan_within (p := tabB) (s := s) (i := c + i) (k := c + t.size - 1) (by omega) (by omega) (by omega)
      rw [h1] at h2
      cases h2
    · omega
  · intro e
    exact scan_uniq (s.size - (c + i)) (c + i) _ (by omega) (Nat.le_refl _) (fun k h1 h2 hk => h.rest k (by omega) hk) fun hh => absurd hh (Nat.lt_irrefl _)

/-- A number, nought of none; whether there is one. -/
def numI (o : Option Int) : Int := match o with | some n => n | none => 0
def numB (o : Option Int) : Bool := match o with | some _ => true | none => false
theorem contN_bad {x y z : Option Int} {n : Nat} (h : numB x = false ∨ numB y = false ∨ numB z = false ∨ goodQ (numI x) (numI y) (numI z) = false) : ∃ a, contN x y z n = .error (a, 9) := by
  cases x with
  | none => exact ⟨0, rfl⟩
  | some a =>
    cases y with
    | none => exact ⟨0, rfl⟩
    | some b =>
      cases z with
      | none => exact ⟨0, rfl⟩
      | some c =>
        rcases h with h | h | h | h
        · cases h
        · cases h
        · cases h
        · exact ⟨n, if_neg (by rw [show goodQ a b c = false from h]; decide)⟩
theorem contN_good {x y z : Option Int} {n : Nat} (hx : numB x = true) (hy : numB y = true) (hz : numB z = true) (h : goodQ (numI x) (numI y) (numI z) = true) : contN x y z n = .ok (numI x, numI y, numI z) := by
  cases x with
  | none => cases hx
  | some a =>
    cases y with
    | none => cases hy
    | some b =>
      cases z with
      | none => cases hz
      | some c => exact if_pos h

theorem TIn.self {s t : ByteArray} {c : Nat} (h : TIn s c t) : TIn t 0 t := by
  have hle := h.le
  refine ⟨by omega, by rw [Nat.zero_add, extract_all], fun j h1 h2 => absurd h2 (by omega), fun j h1 _ h3 => ?_⟩
  rw [h.byte h3]
  exact h.last (c + j) (by omega) (by omega) (by omega)
theorem contV_errs (a b : Nat) (n : Int) : contV (.error (a, n)) = contV (.error (b, n)) := rfl
theorem contN_at (x y z : Option Int) (n m : Nat) : contV (contN x y z n) = contV (contN x y z m) := by
  cases x with
  | none => rfl
  | some a =>
    cases y with
    | none => rfl
    | some b =>
      cases z with
      | none => rfl
      | some c =>
        show contV (if goodQ a b c = true then _ else _) = contV (if goodQ a b c = true then _ else _)
        cases goodQ a b c <;> rfl
theorem TIn.contE {s t : ByteArray} {c k : Nat} (h : TIn s c t) (hk : k ≤ t.size) (x y z : ByteArray) : contV (contE s (c + k) x y z) = contV (contE t k x y z) := by
  have e1 := h.end_ hk
  have e2 := h.self.end_ hk
  rw [Nat.zero_add] at e2
  by_cases e : k = t.size
  · rw [contE_all (e1.2 e), contE_all (e2.2 e)]
    exact contN_at _ _ _ _ _
  · rw [contE_no fun hh => e (e1.1 hh), contE_no fun hh => e (e2.1 hh)]
    rfl
/-- contS and contM over letters for where their runs end. -/
def contSd (s : ByteArray) (k d : Nat) (none : Bool) (x y : ByteArray) : Except (Nat × Int) (Int × Int × Int) :=
  if atB s k 47 = false then .error (k, 2)
  else if none = false ∧ atB s (k + 1) 42 = true then contE s (k + 2) x y ⟨#[]⟩
  else if d = k + 1 then .error (k + 1, 2)
  else contE s d x y (s.extract (k + 1) d)
theorem contS_eq {s : ByteArray} {k d : Nat} (h : scan digB s (k + 1) = d) (none : Bool) (x y : ByteArray) : contS s k none x y = contSd s k d none x y := by subst h; rfl
def contMd (s : ByteArray) (c d k : Nat) : Except (Nat × Int) (Int × Int × Int) :=
  if atB s c 42 = true then contS s (c + 1) true ⟨#[]⟩ ⟨#[]⟩
  else if d = c then .error (c, 2)
  else if atB s d 45 = false then .error (d, 2)
  else if k = d + 1 then .error (d + 1, 2)
  else contS s k false (s.extract c d) (s.extract (d + 1) k)
theorem contM_eq {s : ByteArray} {c d k : Nat} (h : scan digB s c = d) (h2 : scan digB s (d + 1) = k) : contM s c = contMd s c d k := by subst h; subst h2; rfl
theorem add_three (a b c : Nat) : a + (b + c) = a + b + c := (Nat.add_assoc a b c).symm

theorem TIn.contS {s t : ByteArray} {c k : Nat} (h : TIn s c t) (hk : k ≤ t.size) (none : Bool) (x y : ByteArray) : contV (contS s (c + k) none x y) = contV (contS t k none x y) := by
  have a0 := h.at_ (ch := 47) hk (by decide)
  cases q : atB t k 47
  · rw [q] at a0
    rw [contS_no a0, contS_no q]
    rfl
  · rw [q] at a0
    have k1 : k + 1 ≤ t.size := atB_in q
    have a1 := h.at_ (ch := 42) k1 (by decide)
    have d1 := h.run k1
    have l1 := scan_le digB t (k + 1) k1
    rw [add_three] at a1 d1
    obtain ⟨d, hd⟩ : ∃ d, d = Go.Proofs.Ytaolclpjlkdkjaa.scan digB t (k + 1) := ⟨_, rfl⟩
    rw [← hd] at d1 l1
    have e := h.ext (i := k + 1) l1
    rw [add_three] at e
    rw [contS_eq d1, contS_eq hd.symm]
    unfold contSd
    rw [a0, q, if_neg (show ¬(true = false) from Bool.noConfusion), if_neg (show ¬(true = false) from Bool.noConfusion), a1, e]
    by_cases hn : none = false ∧ atB t (k + 1) 42 = true
    · rw [if_pos hn, if_pos hn]
      have k2 : k + 2 ≤ t.size := atB_in hn.2
      exact h.contE k2 x y _
    · rw [if_neg hn, if_neg hn]
      by_cases hdk : d = k + 1
      · rw [if_pos hdk, if_pos (show c + d = c + k + 1 by omega)]
        rfl
      · rw [if_neg hdk, if_neg (show ¬c + d = c + k + 1 by omega)]
        exact h.contE l1 x y _
theorem TIn.contM {s t : ByteArray} {c : Nat} (h : TIn s c t) : contV (contM s c) = contV (contM t 0) := by
  have a0 := h.at_ (i := 0) (ch := 42) (Nat.zero_le _) (by decide)
  have d1 := h.run (i := 0) (Nat.zero_le _)
  have l1 := scan_le digB t 0 (Nat.zero_le _)
  rw [Nat.add_zero] at a0 d1
  obtain ⟨d, hd⟩ : ∃ d, d = Go.Proofs.Ytaolclpjlkdkjaa.scan digB t 0 := ⟨_, rfl⟩
  rw [← hd] at d1 l1
  have a1 := h.at_ (ch := 45) l1 (by decide)
  have e1 := h.ext (i := 0) l1
  rw [Nat.add_zero] at e1
  rw [contM_eq d1 rfl, contM_eq hd.symm rfl]
  unfold contMd
  rw [a0, a1, e1]
  cases q : atB t 0 42
  · rw [if_neg (show ¬(false = true) from Bool.noConfusion), if_neg (show ¬(false = true) from Bool.noConfusion)]
    by_cases hd0 : d = 0
    · rw [if_pos hd0, if_pos (show c + d = c by omega)]
      rfl
    · rw [if_neg hd0, if_neg (show ¬c + d = c by omega)]
      cases q1 : atB t d 45
      · rw [if_pos (show false = false from rfl), if_pos (show false = false from rfl)]
        rfl
      · rw [if_neg (show ¬(true = false) from Bool.noConfusion), if_neg (show ¬(true = false) from Bool.noConfusion)]
        have k1 : d + 1 ≤ t.size := atB_in q1
        have d2 := h.run k1
        have l2 := scan_le digB t _ k1
        rw [add_three] at d2
        obtain ⟨k, hk⟩ : ∃ k, k = Go.Proofs.Ytaolclpjlkdkjaa.scan digB t (d + 1) := ⟨_, rfl⟩
        rw [← hk] at d2 l2
        have e2 := h.ext (i := d + 1) l2
        rw [add_three] at e2
        rw [d2, ← hk, e2]
        by_cases hdk : k = d + 1
        · rw [if_pos hdk, if_pos (show c + k = c + d + 1 by omega)]
          rfl
        · rw [if_neg hdk, if_neg (show ¬c + k = c + d + 1 by omega)]
          exact h.contS l2 false _ _
  · rw [if_pos (show true = true from rfl), if_pos (show true = true from rfl)]
    have k1 : 1 ≤ t.size := atB_in q
    exact h.contS k1 true _ _

end Go.Proofs.Ytaolclpjlkdkjaa
