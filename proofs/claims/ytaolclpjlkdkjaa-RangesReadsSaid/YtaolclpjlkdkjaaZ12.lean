/-
  That package ranges is read (lives). No condition.
  What the document's in, Good, Len and Fits of layer 24 answer. No condition.
  What Strict and Prefix of layer 5 answer, and the document's Parse and Run. Condition: the text is as long as a length can be.
-/
import Derived.Test.YtaolclpjlkdkjaaZ11
import Derived.Test.YtaolclpjlkdkjaaZ9
import Derived.Test.YtaolclpjlkdkjaaZ7
namespace Go.Proofs.Ytaolclpjlkdkjaa
open Go.RowKit

abbrev livS : ByteArray := ⟨#[98, 121, 116, 101, 115, 32, 48, 45, 52, 47, 49, 48]⟩
theorem liv_cont : contO livS = .ok (0, 4, 10) := by kernel_rfl
theorem liv_len : lenQ 0 4 10 = 5 := by kernel_rfl

set_option maxHeartbeats 1000000 in
theorem lives24_any (w : World) : Calls Try.prog 11 #[] w fun e w' => e = .returned (.bool true) ∧ Below w.heap.size w w' := by
  have HC := Lib.hid (content24_any livS w (by decide))
  rw [contV_ok liv_cont] at HC
  have HL := Lib.hid (fun W => len_any 0 4 10 W)
  rw [liv_len] at HL
  go_enter Try.func11, Try.ntmps11
  go_wp2_with fail
  refine HC.out.mono ?_
  rintro e w1 ⟨rfl, b1⟩
  have HB1 := Lib.hid (show Below w.heap.size w (w1.alloc (partC 0 4 10)) from b1.alloc b1.size _)
  clear b1 HC
  go_wp2_with fail
  refine (HL.out _).mono ?_
  rintro e w2 ⟨rfl, b2⟩
  have HB2 := Lib.hid (below_on HB1.out b2)
  clear b2
  go_wp2
  go_ret
  exact ⟨rfl, HB2.out⟩

end Go.Proofs.Ytaolclpjlkdkjaa
namespace Go.Proofs.Ytaolclpjlkdkjaa
open Go.RowKit

set_option maxHeartbeats 400000 in
theorem rin_any (n : Int) (w : World) : Calls Try.prog 58 #[.int .i64 n] w fun e w' => e = .returned (.bool (inB n)) ∧ w = w' := by
  unfold inB
  cases h : decide (-1 ≤ n)
  all_goals
    go_enter Try.func58, Try.ntmps58
    go_wp2
    go_ret
    exact ⟨rfl, rfl⟩

theorem goodQ_doc {a b c : Int} (ha : inB a = true) (hb : inB b = true) (hc : inB c = true) : goodQ a b c = cond (decide (a < 0) || decide (b < 0)) ((a == b) && decide (0 ≤ c)) (decide (a ≤ b) && (decide (c < 0) || decide (b < c))) := by
  have a1 := inB_yes ha
  have b1 := inB_yes hb
  have c1 := inB_yes hc
  unfold goodQ
  rw [ha, hb, hc, Bool.true_and, Bool.true_and, Bool.true_and]
  by_cases h1 : a = -1
  · subst h1
    rw [Bool.eq_iff_iff]
    simp
    omega
  · have e : (a == -1) = false := beq_false_of_ne h1
    have e2 : decide (a < 0) = false := decide_eq_false (by omega)
    rw [e, e2, Bool.false_or, cond_false]
    by_cases h2 : b < 0
    · rw [decide_eq_true h2, cond_true, decide_eq_false (show ¬ a ≤ b by omega), beq_false_of_ne (show a ≠ b by omega)]
      rfl
    · rw [decide_eq_false h2, cond_false, Bool.eq_iff_iff]
      simp
      omega

set_option maxRecDepth 100000 in
set_option maxHeartbeats 2000000 in
theorem rgood24_any (a b c : Int) (w : World) : Calls Try.prog 30 #[partV a b c] w fun e w' => e = .returned (.bool (goodQ a b c)) ∧ Below w.heap.size w w' := by
  have HA := Lib.hid (fun W => rin_any a W)
  have HB1 := Lib.hid (fun W => rin_any b W)
  have HC1 := Lib.hid (fun W => rin_any c W)
  have HB := Lib.hid ((Below.refl w.heap.size w).alloc (Nat.le_refl _) (partC a b c))
  have HK := Lib.hid (one_part w a b c)
  cases h1 : inB a
  · rw [h1] at HA
    have hg := Lib.hid (show goodQ a b c = false from by unfold goodQ; rw [h1]; rfl)
    rw [hg.out]
    clear hg
    go_enter Try.func30, Try.ntmps30
    go_wp2_with (first
      | (go_at_call 58; (with_reducible refine (HA.out _).mono ?_); rintro e w1 ⟨rfl, rfl⟩)
      | (go_at_call 58; (with_reducible refine (HB1.out _).mono ?_); rintro e w1 ⟨rfl, rfl⟩)
      | (go_at_call 58; (with_reducible refine (HC1.out _).mono ?_); rintro e w1 ⟨rfl, rfl⟩))
    go_ret
    exact ⟨rfl, HB.out⟩
  cases h2 : inB b
  · rw [h1] at HA
    rw [h2] at HB1
    have hg := Lib.hid (show goodQ a b c = false from by unfold goodQ; rw [h1, h2]; rfl)
    rw [hg.out]
    clear hg
    go_enter Try.func30, Try.ntmps30
    go_wp2_with (first
      | (go_at_call 58; (with_reducible refine (HA.out _).mono ?_); rintro e w1 ⟨rfl, rfl⟩)
      | (go_at_call 58; (with_reducible refine (HB1.out _).mono ?_); rintro e w1 ⟨rfl, rfl⟩)
      | (go_at_call 58; (with_reducible refine (HC1.out _).mono ?_); rintro e w1 ⟨rfl, rfl⟩))
    go_ret
    exact ⟨rfl, HB.out⟩
  cases h3 : inB c
  · rw [h1] at HA
    rw [h2] at HB1
    rw [h3] at HC1
    have hg := Lib.hid (show goodQ a b c = false from by unfold goodQ; rw [h1, h2, h3]; rfl)
    rw [hg.out]
    clear hg
    go_enter Try.func30, Try.ntmps30
    go_wp2_with (first
      | (go_at_call 58; (with_reducible refine (HA.out _).mono ?_); rintro e w1 ⟨rfl, rfl⟩)
      | (go_at_call 58; (with_reducible refine (HB1.out _).mono ?_); rintro e w1 ⟨rfl, rfl⟩)
      | (go_at_call 58; (with_reducible refine (HC1.out _).mono ?_); rintro e w1 ⟨rfl, rfl⟩))
    go_ret
    exact ⟨rfl, HB.out⟩
  have hd := Lib.hid (goodQ_doc h1 h2 h3)
  rw [h1] at HA
  rw [h2] at HB1
  rw [h3] at HC1
  cases h4 : decide (a < 0)
  · cases h5 : decide (b < 0)
    · cases h6 : decide (a ≤ b)
      · have hg := Lib.hid (show goodQ a b c = false from by rw [hd.out, h4, h5, h6]; rfl)
        rw [hg.out]
        clear hg
        go_enter Try.func30, Try.ntmps30
        go_wp2_with (first
      | (go_at_call 58; (with_reducible refine (HA.out _).mono ?_); rintro e w1 ⟨rfl, rfl⟩)
      | (go_at_call 58; (with_reducible refine (HB1.out _).mono ?_); rintro e w1 ⟨rfl, rfl⟩)
      | (go_at_call 58; (with_reducible refine (HC1.out _).mono ?_); rintro e w1 ⟨rfl, rfl⟩))
        go_ret
        exact ⟨rfl, HB.out⟩
      cases h7 : decide (c < 0)
      · have hg := Lib.hid (show goodQ a b c = decide (b < c) from by rw [hd.out, h4, h5, h6, h7]; rfl)
        rw [hg.out]
        clear hg
        go_enter Try.func30, Try.ntmps30
        go_wp2_with (first
      | (go_at_call 58; (with_reducible refine (HA.out _).mono ?_); rintro e w1 ⟨rfl, rfl⟩)
      | (go_at_call 58; (with_reducible refine (HB1.out _).mono ?_); rintro e w1 ⟨rfl, rfl⟩)
      | (go_at_call 58; (with_reducible refine (HC1.out _).mono ?_); rintro e w1 ⟨rfl, rfl⟩))
        go_ret
        exact ⟨rfl, HB.out⟩
      · have hg := Lib.hid (show goodQ a b c = true from by rw [hd.out, h4, h5, h6, h7]; rfl)
        rw [hg.out]
        clear hg
        go_enter Try.func30, Try.ntmps30
        go_wp2_with (first
      | (go_at_call 58; (with_reducible refine (HA.out _).mono ?_); rintro e w1 ⟨rfl, rfl⟩)
      | (go_at_call 58; (with_reducible refine (HB1.out _).mono ?_); rintro e w1 ⟨rfl, rfl⟩)
      | (go_at_call 58; (with_reducible refine (HC1.out _).mono ?_); rintro e w1 ⟨rfl, rfl⟩))
        go_ret
        exact ⟨rfl, HB.out⟩
    · cases h6 : (a == b)
      · have hg := Lib.hid (show goodQ a b c = false from by rw [hd.out, h4, h5, h6]; rfl)
        rw [hg.out]
        clear hg
        go_enter Try.func30, Try.ntmps30
        go_wp2_with (first
      | (go_at_call 58; (with_reducible refine (HA.out _).mono ?_); rintro e w1 ⟨rfl, rfl⟩)
      | (go_at_call 58; (with_reducible refine (HB1.out _).mono ?_); rintro e w1 ⟨rfl, rfl⟩)
      | (go_at_call 58; (with_reducible refine (HC1.out _).mono ?_); rintro e w1 ⟨rfl, rfl⟩))
        go_ret
        exact ⟨rfl, HB.out⟩
      · have hg := Lib.hid (show goodQ a b c = decide (0 ≤ c) from by rw [hd.out, h4, h5, h6]; rfl)
        rw [hg.out]
        clear hg
        go_enter Try.func30, Try.ntmps30
        go_wp2_with (first
      | (go_at_call 58; (with_reducible refine (HA.out _).mono ?_); rintro e w1 ⟨rfl, rfl⟩)
      | (go_at_call 58; (with_reducible refine (HB1.out _).mono ?_); rintro e w1 ⟨rfl, rfl⟩)
      | (go_at_call 58; (with_reducible refine (HC1.out _).mono ?_); rintro e w1 ⟨rfl, rfl⟩))
        go_ret
        exact ⟨rfl, HB.out⟩
  · cases h6 : (a == b)
    · have hg := Lib.hid (show goodQ a b c = false from by rw [hd.out, h4, h6]; rfl)
      rw [hg.out]
      clear hg
      go_enter Try.func30, Try.ntmps30
      go_wp2_with (first
      | (go_at_call 58; (with_reducible refine (HA.out _).mono ?_); rintro e w1 ⟨rfl, rfl⟩)
      | (go_at_call 58; (with_reducible refine (HB1.out _).mono ?_); rintro e w1 ⟨rfl, rfl⟩)
      | (go_at_call 58; (with_reducible refine (HC1.out _).mono ?_); rintro e w1 ⟨rfl, rfl⟩))
      go_ret
      exact ⟨rfl, HB.out⟩
    · have hg := Lib.hid (show goodQ a b c = decide (0 ≤ c) from by rw [hd.out, h4, h6]; rfl)
      rw [hg.out]
      clear hg
      go_enter Try.func30, Try.ntmps30
      go_wp2_with (first
      | (go_at_call 58; (with_reducible refine (HA.out _).mono ?_); rintro e w1 ⟨rfl, rfl⟩)
      | (go_at_call 58; (with_reducible refine (HB1.out _).mono ?_); rintro e w1 ⟨rfl, rfl⟩)
      | (go_at_call 58; (with_reducible refine (HC1.out _).mono ?_); rintro e w1 ⟨rfl, rfl⟩))
      go_ret
      exact ⟨rfl, HB.out⟩

set_option maxHeartbeats 1000000 in
theorem rlen_any (a b c : Int) (w : World) : Calls Try.prog 16 #[partV a b c] w fun e w' => e = .returned (.int .i64 (lenQ a b c)) ∧ Below w.heap.size w w' := by
  have HG := Lib.hid (fun W => rgood24_any a b c W)
  have HB := Lib.hid ((Below.refl w.heap.size w).alloc (Nat.le_refl _) (partC a b c))
  have HK := Lib.hid (one_part w a b c)
  cases h1 : goodQ a b c
  · rw [h1] at HG
    have hl := Lib.hid (show lenQ a b c = 0 from by unfold lenQ; rw [h1]; rfl)
    rw [hl.out]
    clear hl
    go_enter Try.func16, Try.ntmps16
    go_wp2_with (first
      | (go_at_call 30; (with_reducible refine (HG.out _).mono ?_); rintro e w1 ⟨rfl, b1⟩; replace HB := Lib.hid (below_on HB.out b1); have HK := Lib.hid (HK.out.below b1 HK.out.lt); have c0 := HK.out.cell 0; have c1 := HK.out.cell 1; have c2 := HK.out.cell 2; clear b1))
    go_ret
    exact ⟨rfl, HB.out⟩
  rw [h1] at HG
  cases h2 : (a == -1)
  · have ha : a ≠ -1 := by simpa using h2
    obtain ⟨⟨a1, a2⟩, ⟨b1, b2⟩, _⟩ := goodQ_in h1
    obtain ⟨ab, _⟩ := goodQ_bytes h1 ha
    have g1 : IntKind.i64.wrap (b - a) = b - a := IntWalk.i64_in _ (by omega)
    have g2 : IntKind.i64.wrap (b - a + 1) = b - a + 1 := IntWalk.i64_in _ (by omega)
    have hl := Lib.hid (show lenQ a b c = b - a + 1 from by unfold lenQ; rw [h1, h2]; rfl)
    rw [hl.out]
    have d0 : decide (a < 0) = false := decide_eq_false (by omega)
    clear hl ab a1 a2 b1 b2 ha
    go_enter Try.func16, Try.ntmps16
    go_wp2_with (first
      | (go_at_call 30; (with_reducible refine (HG.out _).mono ?_); rintro e w1 ⟨rfl, b1⟩; replace HB := Lib.hid (below_on HB.out b1); have HK := Lib.hid (HK.out.below b1 HK.out.lt); have c0 := HK.out.cell 0; have c1 := HK.out.cell 1; have c2 := HK.out.cell 2; clear b1))
    go_ret
    exact ⟨rfl, HB.out⟩
  · have hl := Lib.hid (show lenQ a b c = 0 from by unfold lenQ; rw [h1, h2]; rfl)
    rw [hl.out]
    clear hl
    have ha : a = -1 := by simpa using h2
    subst ha
    go_enter Try.func16, Try.ntmps16
    go_wp2_with (first
      | (go_at_call 30; (with_reducible refine (HG.out _).mono ?_); rintro e w1 ⟨rfl, b1⟩; replace HB := Lib.hid (below_on HB.out b1); have HK := Lib.hid (HK.out.below b1 HK.out.lt); have c0 := HK.out.cell 0; have c1 := HK.out.cell 1; have c2 := HK.out.cell 2; clear b1))
    go_ret
    exact ⟨rfl, HB.out⟩

set_option maxRecDepth 100000 in
set_option maxHeartbeats 2000000 in
theorem rfits24_any (x y a b c : Int) (w : World) : Calls Try.prog 13 #[rngV x y, partV a b c] w fun e w' => e = .returned (.bool (fitQ x y a b c)) ∧ Below w.heap.size w w' := by
  have HL := Lib.hid (fun W => rlen_any a b c W)
  have HB := Lib.hid (((Below.refl w.heap.size w).alloc (Nat.le_refl _) (rngC x y)).alloc (by simp) (partC a b c))
  have H2 := Lib.hid (TwoB.new w x y a b c)
  obtain ⟨w0, hw0⟩ : ∃ w0, w0 = (w.alloc (rngC x y)).alloc (partC a b c) := ⟨_, rfl⟩
  rw [← hw0] at HB H2
  obtain ⟨c0, c1, c2, c3, c4⟩ := H2.out.keep
  cases h0 : (goodQ a b c && !(a == -1))
  · have hl := Lib.hid (show lenQ a b c = 0 from by unfold lenQ; rw [h0]; rfl)
    rw [hl.out] at HL
    clear hl
    have hv := Lib.hid (show fitQ x y a b c = false from by unfold fitQ; rw [h0]; rfl)
    rw [hv.out]
    clear hv
    go_enter Try.func13, Try.ntmps13
    go_wp2_with fail
    rw [← hw0]
    clear hw0
    go_wp2_with (first
      | (go_at_call 16; (with_reducible refine (HL.out _).mono ?_); rintro e w1 ⟨rfl, b1⟩; replace HB := Lib.hid (below_on HB.out b1); replace H2 := Lib.hid (H2.out.below b1); obtain ⟨c0, c1, c2, c3, c4⟩ := H2.out.keep; clear b1))
    go_ret
    exact ⟨rfl, HB.out⟩
  have h00 := h0
  rw [Bool.and_eq_true] at h00
  obtain ⟨h1, h2⟩ := h00
  have ha : a ≠ -1 := by simpa using h2
  obtain ⟨⟨a1, a2⟩, ⟨b1, b2⟩, k1, k2⟩ := goodQ_in h1
  obtain ⟨ab, bc⟩ := goodQ_bytes h1 ha
  have g1 : IntKind.i64.wrap (c - 1) = c - 1 := IntWalk.i64_in _ (by omega)
  have hl := Lib.hid (show lenQ a b c = b - a + 1 from by unfold lenQ; rw [h0]; rfl)
  rw [hl.out] at HL
  have hne : (b - a + 1 == 0) = false := by rw [beq_eq_false_iff_ne]; omega
  clear hl h1 h2
  by_cases hx : x < -1
  · have dx : decide (x < -1) = true := decide_eq_true hx
    have hxa : (a == x) = false := by rw [beq_eq_false_iff_ne]; omega
    have hx1 : (x == -1) = false := by rw [beq_eq_false_iff_ne]; omega
    clear hx ha a1 a2 b1 b2 k1 k2 ab bc
    have hv := Lib.hid (show fitQ x y a b c = false from by unfold fitQ; rw [h0, hx1, hxa]; rfl)
    rw [hv.out]
    clear hv
    go_enter Try.func13, Try.ntmps13
    go_wp2_with fail
    rw [← hw0]
    clear hw0
    go_wp2_with (first
      | (go_at_call 16; (with_reducible refine (HL.out _).mono ?_); rintro e w1 ⟨rfl, b1⟩; replace HB := Lib.hid (below_on HB.out b1); replace H2 := Lib.hid (H2.out.below b1); obtain ⟨c0, c1, c2, c3, c4⟩ := H2.out.keep; clear b1))
    go_ret
    exact ⟨rfl, HB.out⟩
  have dx : decide (x < -1) = false := decide_eq_false hx
  by_cases hy : y < -1
  · have dy : decide (y < -1) = true := decide_eq_true hy
    have hv := Lib.hid (show fitQ x y a b c = false from by
      have e1 : decide (b - a + 1 ≤ y) = false := decide_eq_false (by omega)
      have e2 : decide (b ≤ y) = false := decide_eq_false (by omega)
      have e3 : (y == -1) = false := by rw [beq_eq_false_iff_ne]; omega
      unfold fitQ
      rw [h0, e1, e2, e3]
      cases (x == -1) <;> simp)
    rw [hv.out]
    clear hv hx hy ha a1 a2 b1 b2 k1 k2 ab bc
    go_enter Try.func13, Try.ntmps13
    go_wp2_with fail
    rw [← hw0]
    clear hw0
    go_wp2_with (first
      | (go_at_call 16; (with_reducible refine (HL.out _).mono ?_); rintro e w1 ⟨rfl, b1⟩; replace HB := Lib.hid (below_on HB.out b1); replace H2 := Lib.hid (H2.out.below b1); obtain ⟨c0, c1, c2, c3, c4⟩ := H2.out.keep; clear b1))
    go_ret
    exact ⟨rfl, HB.out⟩
  have dy : decide (y < -1) = false := decide_eq_false hy
  cases h3 : (x == -1)
  · clear hx hy ha a1 a2 b1 b2 k1 k2 ab bc
    cases h4 : (a == x)
    · have hv := Lib.hid (show fitQ x y a b c = false from by unfold fitQ; rw [h0, h3, h4]; rfl)
      rw [hv.out]
      clear hv
      go_enter Try.func13, Try.ntmps13
      go_wp2_with fail
      rw [← hw0]
      clear hw0
      go_wp2_with (first
      | (go_at_call 16; (with_reducible refine (HL.out _).mono ?_); rintro e w1 ⟨rfl, b1⟩; replace HB := Lib.hid (below_on HB.out b1); replace H2 := Lib.hid (H2.out.below b1); obtain ⟨c0, c1, c2, c3, c4⟩ := H2.out.keep; clear b1))
      go_ret
      exact ⟨rfl, HB.out⟩
    cases h5 : (y == -1)
    · have hv := Lib.hid (show fitQ x y a b c = decide (b ≤ y) from by unfold fitQ; rw [h0, h3, h4, h5]; rfl)
      rw [hv.out]
      clear hv
      go_enter Try.func13, Try.ntmps13
      go_wp2_with fail
      rw [← hw0]
      clear hw0
      go_wp2_with (first
      | (go_at_call 16; (with_reducible refine (HL.out _).mono ?_); rintro e w1 ⟨rfl, b1⟩; replace HB := Lib.hid (below_on HB.out b1); replace H2 := Lib.hid (H2.out.below b1); obtain ⟨c0, c1, c2, c3, c4⟩ := H2.out.keep; clear b1))
      go_ret
      exact ⟨rfl, HB.out⟩
    · have hv := Lib.hid (show fitQ x y a b c = true from by unfold fitQ; rw [h0, h3, h4, h5]; rfl)
      rw [hv.out]
      clear hv
      go_enter Try.func13, Try.ntmps13
      go_wp2_with fail
      rw [← hw0]
      clear hw0
      go_wp2_with (first
      | (go_at_call 16; (with_reducible refine (HL.out _).mono ?_); rintro e w1 ⟨rfl, b1⟩; replace HB := Lib.hid (below_on HB.out b1); replace H2 := Lib.hid (H2.out.below b1); obtain ⟨c0, c1, c2, c3, c4⟩ := H2.out.keep; clear b1))
      go_ret
      exact ⟨rfl, HB.out⟩
  · cases h4 : (b == c - 1)
    · by_cases hc : 0 ≤ c
      · have dc : decide (0 ≤ c) = true := decide_eq_true hc
        clear hx hy ha a1 a2 b1 b2 k1 k2 ab bc hc
        have hv := Lib.hid (show fitQ x y a b c = false from by unfold fitQ; rw [h0, h3, h4]; rfl)
        rw [hv.out]
        clear hv
        go_enter Try.func13, Try.ntmps13
        go_wp2_with fail
        rw [← hw0]
        clear hw0
        go_wp2_with (first
      | (go_at_call 16; (with_reducible refine (HL.out _).mono ?_); rintro e w1 ⟨rfl, b1⟩; replace HB := Lib.hid (below_on HB.out b1); replace H2 := Lib.hid (H2.out.below b1); obtain ⟨c0, c1, c2, c3, c4⟩ := H2.out.keep; clear b1))
        go_quiet (fail)
        go_wp2
        go_ret
        exact ⟨rfl, Below.drewN' HB.out _⟩
      · have dc : decide (0 ≤ c) = false := decide_eq_false hc
        clear hx hy ha a1 a2 b1 b2 k1 k2 ab bc hc
        have hv := Lib.hid (show fitQ x y a b c = false from by unfold fitQ; rw [h0, h3, h4]; rfl)
        rw [hv.out]
        clear hv
        go_enter Try.func13, Try.ntmps13
        go_wp2_with fail
        rw [← hw0]
        clear hw0
        go_wp2_with (first
      | (go_at_call 16; (with_reducible refine (HL.out _).mono ?_); rintro e w1 ⟨rfl, b1⟩; replace HB := Lib.hid (below_on HB.out b1); replace H2 := Lib.hid (H2.out.below b1); obtain ⟨c0, c1, c2, c3, c4⟩ := H2.out.keep; clear b1))
        go_quiet (fail)
        go_wp2
        go_ret
        exact ⟨rfl, Below.drewN' HB.out _⟩
    · have dc : decide (0 ≤ c) = true := decide_eq_true (by have : b = c - 1 := by simpa using h4
                                                            omega)
      clear hx hy ha a1 a2 b1 b2 k1 k2 ab bc
      have hv := Lib.hid (show fitQ x y a b c = decide (b - a + 1 ≤ y) from by unfold fitQ; rw [h0, h3, h4]; rfl)
      rw [hv.out]
      clear hv
      go_enter Try.func13, Try.ntmps13
      go_wp2_with fail
      rw [← hw0]
      clear hw0
      go_wp2_with (first
      | (go_at_call 16; (with_reducible refine (HL.out _).mono ?_); rintro e w1 ⟨rfl, b1⟩; replace HB := Lib.hid (below_on HB.out b1); replace H2 := Lib.hid (H2.out.below b1); obtain ⟨c0, c1, c2, c3, c4⟩ := H2.out.keep; clear b1))
      go_region_held3 (fun w' => w'.cell? ⟨w.heap.size, 0, none⟩ = some (.int .i64 x) ∧ w'.cell? ⟨w.heap.size, 1, none⟩ = some (.int .i64 y) ∧ w'.cell? ⟨w.heap.size + 1, 0, none⟩ = some (.int .i64 a) ∧ w'.cell? ⟨w.heap.size + 1, 1, none⟩ = some (.int .i64 b) ∧ w'.cell? ⟨w.heap.size + 1, 2, none⟩ = some (.int .i64 c))
        (first | with_reducible exact H2.out.keep | with_reducible exact H2.out.drew.keep | go_keep)
        (first
          | (go_at_call 16; (with_reducible refine (HL.out _).mono ?_); rintro e w2 ⟨rfl, b1⟩
             have HB := Lib.hid (show Below w.heap.size w w2 from by first | exact below_on HB.out b1 | exact below_on HB.out.drew b1)
             have H2 := Lib.hid (show TwoB w.heap.size x y a b c w2 from by first | exact H2.out.below b1 | exact H2.out.drew.below b1)
             clear b1))
      all_goals
        go_wp2
        go_ret
        exact ⟨rfl, HB.out⟩

end Go.Proofs.Ytaolclpjlkdkjaa
namespace Go.Proofs.Ytaolclpjlkdkjaa
open Go.RowKit

set_option maxHeartbeats 1000000 in
theorem refRun_any (s : ByteArray) (w : World) (hs : s.size ≤ 9223372036854775807) :
    Calls Try.prog 24 #[.string s] w fun e w' => e = .returned (.int .i64 (runD s : Nat)) ∧ w = w' := by
  go_enter Try.func24, Try.ntmps24
  go_wp2
  go_loop [3] (fun i => ∃ k : Nat, k ≤ s.size ∧ i = .int .i64 k ∧ scan digB s k = runD s) (fun i => s.size - (intOf i).toNat)
  case atStart => exact ⟨0, by omega, rfl, rfl⟩
  case round =>
    obtain ⟨k, hk, rfl, hb⟩ := hrel
    have HB := Lib.hid hb
    clear hb
    by_cases hlt : k < s.size
    · have HL := Lib.hid (fun W => refDigit_any s[k] W)
      cases hb : digB s[k]
      · have HT := Lib.hid (show runD s = k from by rw [← HB.out, scan_stop hlt hb])
        have HL2 : Hid (∀ W, Calls Try.prog 51 #[.int .u8 (s[k].toNat : Int)] W fun e w' => e = .returned (.bool false) ∧ W = w') := fun W => by have := HL.out W; rwa [hb] at this
        clear HL hb
        go_wp2_with (go_at_call 51; refine (HL2.out _).mono ?_; rintro e w' ⟨rfl, rfl⟩)
        go_ret
        exact ⟨by rw [HT.out]; rfl, rfl⟩
      · have HE : Hid (scan digB s (k + 1) = scan digB s k) := scan_step hlt hb
        have HL2 : Hid (∀ W, Calls Try.prog 51 #[.int .u8 (s[k].toNat : Int)] W fun e w' => e = .returned (.bool true) ∧ W = w') := fun W => by have := HL.out W; rwa [hb] at this
        clear HL hb
        go_wp2_with (go_at_call 51; refine (HL2.out _).mono ?_; rintro e w' ⟨rfl, rfl⟩)
        go_round
        case rel => exact ⟨k + 1, by omega, by go_num, HE.out.trans HB.out⟩
        case measure => simp [intOf]; omega
    · obtain rfl : k = s.size := by omega
      have HT := Lib.hid (show runD s = s.size from by rw [← HB.out, scan_end rfl])
      go_wp2
      go_ret
      exact ⟨by rw [HT.out]; rfl, rfl⟩

end Go.Proofs.Ytaolclpjlkdkjaa
