/-
  What Same and Serial of package mime answer of types. Condition: texts are as long as a mebibyte, and parameters as many.
  What package ranges' within, hasBytes, inOrder, Good, First and Len answer. No condition.
  What trap's attempt and Value tell of a function value that answers a api.Range, a struct of two cells, and of one that throws. Conditions: it turns rows of r alone, and leaves R, which is known of older memory alone.
-/
import Derived.Test.YtaolclpjlkdkjaaZ8
import Derived.StillTailTactics
import Derived.Deep.RegionWith
import Derived.BigQuiet
import Derived.Test.YtaolclpjlkdkjaaZ2
import Derived.RegionTactic
import Derived.BigRegion
import Derived.Deep.QuietTactic
import Derived.Deep.RegionHeld2
import Derived.IntWalk
import Derived.Lib.Hide
namespace Go.Proofs.Ytaolclpjlkdkjaa
open Go.RowKit Go.Maps

theorem below_on {a w w' : World} (h : Below a.heap.size a w) (hb : Below w.heap.size w w') : Below a.heap.size a w' := h.trans (hb.mono h.size)

end Go.Proofs.Ytaolclpjlkdkjaa
namespace Go.Proofs.Ytaolclpjlkdkjaa
open Go.RowKit

/-- Whether a number is read and written, or not said. -/
def inB (n : Int) : Bool := decide (-1 ≤ n) && decide (n ≤ 9007199254740991)
/-- Whether a part is good. -/
def goodQ (a b c : Int) : Bool := inB a && inB b && inB c && cond (a == -1) ((b == -1) && !(c == -1)) (decide (a ≤ b) && (decide (b < c) || c == -1))
theorem inB_yes {n : Int} (h : inB n = true) : -1 ≤ n ∧ n ≤ 9007199254740991 := by
  unfold inB at h
  simpa using h
theorem goodQ_in {a b c : Int} (h : goodQ a b c = true) : (-1 ≤ a ∧ a ≤ 9007199254740991) ∧ (-1 ≤ b ∧ b ≤ 9007199254740991) ∧ (-1 ≤ c ∧ c ≤ 9007199254740991) := by
  unfold goodQ at h
  simp only [Bool.and_eq_true] at h
  exact ⟨inB_yes h.1.1.1, inB_yes h.1.1.2, inB_yes h.1.2⟩
theorem goodQ_bytes {a b c : Int} (h : goodQ a b c = true) (ha : a ≠ -1) : a ≤ b ∧ (b < c ∨ c = -1) := by
  unfold goodQ at h
  rw [beq_false_of_ne ha] at h
  simp only [Bool.and_eq_true, decide_eq_true_eq, Bool.or_eq_true, beq_iff_eq, cond_false] at h
  exact h.2
theorem goodQ_none {a b c : Int} (h : goodQ a b c = true) (ha : a = -1) : b = -1 ∧ c ≠ -1 := by
  unfold goodQ at h
  rw [beq_iff_eq.2 ha] at h
  simp only [Bool.and_eq_true, beq_iff_eq, Bool.not_eq_true', beq_eq_false_iff_ne, cond_true] at h
  exact h.2

abbrev rngV (a b : Int) : Value := .agg #[.int .i64 a, .int .i64 b]
abbrev partV (a b c : Int) : Value := .agg #[.int .i64 a, .int .i64 b, .int .i64 c]
abbrev rngC (a b : Int) : Obj := .cells #[.int .i64 a, .int .i64 b] 24
abbrev partC (a b c : Int) : Obj := .cells #[.int .i64 a, .int .i64 b, .int .i64 c] 29

set_option maxHeartbeats 400000 in
theorem within_any (n : Int) (w : World) : Calls Try.prog 59 #[.int .i64 n] w fun e w' => e = .returned (.bool (inB n)) ∧ w = w' := by
  unfold inB
  cases h : decide (-1 ≤ n)
  all_goals
    go_enter Try.func59, Try.ntmps59
    go_wp2
    go_ret
    exact ⟨rfl, rfl⟩

set_option maxHeartbeats 400000 in
theorem hasBytes_any (a b c : Int) (w : World) : Calls Try.prog 32 #[partV a b c] w fun e w' => e = .returned (.bool (!(a == -1))) ∧ Below w.heap.size w w' := by
  have HB := Lib.hid ((Below.refl w.heap.size w).alloc (Nat.le_refl _) (partC a b c))
  go_enter Try.func32, Try.ntmps32
  go_wp2
  go_ret
  exact ⟨rfl, HB.out⟩

set_option maxHeartbeats 400000 in
theorem inOrder_any (a b : Int) (w : World) : Calls Try.prog 47 #[rngV a b] w fun e w' => e = .returned (.bool (b == -1 || decide (a ≤ b))) ∧ Below w.heap.size w w' := by
  have HB := Lib.hid ((Below.refl w.heap.size w).alloc (Nat.le_refl _) (rngC a b))
  cases h : (b == -1)
  all_goals
    go_enter Try.func47, Try.ntmps47
    go_wp2
    go_ret
    exact ⟨rfl, HB.out⟩

/-- Good. -/
theorem one_part (w : World) (a b c : Int) : Blk (w.alloc (partC a b c)) w.heap.size 29 #[.int .i64 a, .int .i64 b, .int .i64 c] := Blk.new w _ _
set_option maxRecDepth 100000 in
set_option maxHeartbeats 2000000 in
theorem pgood_any (a b c : Int) (w : World) : Calls Try.prog 31 #[partV a b c] w fun e w' => e = .returned (.bool (goodQ a b c)) ∧ Below w.heap.size w w' := by
  have HA := Lib.hid (fun W => within_any a W)
  have HB1 := Lib.hid (fun W => within_any b W)
  have HC1 := Lib.hid (fun W => within_any c W)
  have HH := Lib.hid (fun W => hasBytes_any a b c W)
  have HB := Lib.hid ((Below.refl w.heap.size w).alloc (Nat.le_refl _) (partC a b c))
  have HK := Lib.hid (one_part w a b c)
  cases h1 : inB a
  · rw [h1] at HA
    have hg := Lib.hid (show goodQ a b c = false from by unfold goodQ; rw [h1]; rfl)
    rw [hg.out]
    clear hg
    go_enter Try.func31, Try.ntmps31
    go_wp2_with (first
      | (go_at_call 59; (with_reducible refine (HA.out _).mono ?_); rintro e w1 ⟨rfl, rfl⟩)
      | (go_at_call 59; (with_reducible refine (HB1.out _).mono ?_); rintro e w1 ⟨rfl, rfl⟩)
      | (go_at_call 59; (with_reducible refine (HC1.out _).mono ?_); rintro e w1 ⟨rfl, rfl⟩)
      | (go_at_call 32; (with_reducible refine (HH.out _).mono ?_); rintro e w1 ⟨rfl, b1⟩; replace HB := Lib.hid (below_on HB.out b1); have HK := Lib.hid (HK.out.below b1 HK.out.lt); have c0 := HK.out.cell 0; have c1 := HK.out.cell 1; have c2 := HK.out.cell 2; clear b1))
    go_ret
    exact ⟨rfl, HB.out⟩
  rw [h1] at HA
  cases h2 : inB b
  · rw [h2] at HB1
    have hg := Lib.hid (show goodQ a b c = false from by unfold goodQ; rw [h1, h2]; rfl)
    rw [hg.out]
    clear hg
    go_enter Try.func31, Try.ntmps31
    go_wp2_with (first
      | (go_at_call 59; (with_reducible refine (HA.out _).mono ?_); rintro e w1 ⟨rfl, rfl⟩)
      | (go_at_call 59; (with_reducible refine (HB1.out _).mono ?_); rintro e w1 ⟨rfl, rfl⟩)
      | (go_at_call 59; (with_reducible refine (HC1.out _).mono ?_); rintro e w1 ⟨rfl, rfl⟩)
      | (go_at_call 32; (with_reducible refine (HH.out _).mono ?_); rintro e w1 ⟨rfl, b1⟩; replace HB := Lib.hid (below_on HB.out b1); have HK := Lib.hid (HK.out.below b1 HK.out.lt); have c0 := HK.out.cell 0; have c1 := HK.out.cell 1; have c2 := HK.out.cell 2; clear b1))
    go_ret
    exact ⟨rfl, HB.out⟩
  rw [h2] at HB1
  cases h3 : inB c
  · rw [h3] at HC1
    have hg := Lib.hid (show goodQ a b c = false from by unfold goodQ; rw [h1, h2, h3]; rfl)
    rw [hg.out]
    clear hg
    go_enter Try.func31, Try.ntmps31
    go_wp2_with (first
      | (go_at_call 59; (with_reducible refine (HA.out _).mono ?_); rintro e w1 ⟨rfl, rfl⟩)
      | (go_at_call 59; (with_reducible refine (HB1.out _).mono ?_); rintro e w1 ⟨rfl, rfl⟩)
      | (go_at_call 59; (with_reducible refine (HC1.out _).mono ?_); rintro e w1 ⟨rfl, rfl⟩)
      | (go_at_call 32; (with_reducible refine (HH.out _).mono ?_); rintro e w1 ⟨rfl, b1⟩; replace HB := Lib.hid (below_on HB.out b1); have HK := Lib.hid (HK.out.below b1 HK.out.lt); have c0 := HK.out.cell 0; have c1 := HK.out.cell 1; have c2 := HK.out.cell 2; clear b1))
    go_ret
    exact ⟨rfl, HB.out⟩
  rw [h3] at HC1
  cases h4 : (a == -1)
  · rw [h4] at HH
    cases h6 : decide (a ≤ b)
    · have hg := Lib.hid (show goodQ a b c = false from by unfold goodQ; rw [h1, h2, h3, h4, h6]; rfl)
      rw [hg.out]
      clear hg
      go_enter Try.func31, Try.ntmps31
      go_wp2_with (first
      | (go_at_call 59; (with_reducible refine (HA.out _).mono ?_); rintro e w1 ⟨rfl, rfl⟩)
      | (go_at_call 59; (with_reducible refine (HB1.out _).mono ?_); rintro e w1 ⟨rfl, rfl⟩)
      | (go_at_call 59; (with_reducible refine (HC1.out _).mono ?_); rintro e w1 ⟨rfl, rfl⟩)
      | (go_at_call 32; (with_reducible refine (HH.out _).mono ?_); rintro e w1 ⟨rfl, b1⟩; replace HB := Lib.hid (below_on HB.out b1); have HK := Lib.hid (HK.out.below b1 HK.out.lt); have c0 := HK.out.cell 0; have c1 := HK.out.cell 1; have c2 := HK.out.cell 2; clear b1))
      go_ret
      exact ⟨rfl, HB.out⟩
    cases h7 : decide (b < c)
    · have hg := Lib.hid (show goodQ a b c = (c == -1) from by unfold goodQ; rw [h1, h2, h3, h4, h6, h7]; rfl)
      rw [hg.out]
      clear hg
      go_enter Try.func31, Try.ntmps31
      go_wp2_with (first
      | (go_at_call 59; (with_reducible refine (HA.out _).mono ?_); rintro e w1 ⟨rfl, rfl⟩)
      | (go_at_call 59; (with_reducible refine (HB1.out _).mono ?_); rintro e w1 ⟨rfl, rfl⟩)
      | (go_at_call 59; (with_reducible refine (HC1.out _).mono ?_); rintro e w1 ⟨rfl, rfl⟩)
      | (go_at_call 32; (with_reducible refine (HH.out _).mono ?_); rintro e w1 ⟨rfl, b1⟩; replace HB := Lib.hid (below_on HB.out b1); have HK := Lib.hid (HK.out.below b1 HK.out.lt); have c0 := HK.out.cell 0; have c1 := HK.out.cell 1; have c2 := HK.out.cell 2; clear b1))
      go_ret
      exact ⟨rfl, HB.out⟩
    · have hg := Lib.hid (show goodQ a b c = true from by unfold goodQ; rw [h1, h2, h3, h4, h6, h7]; rfl)
      rw [hg.out]
      clear hg
      go_enter Try.func31, Try.ntmps31
      go_wp2_with (first
      | (go_at_call 59; (with_reducible refine (HA.out _).mono ?_); rintro e w1 ⟨rfl, rfl⟩)
      | (go_at_call 59; (with_reducible refine (HB1.out _).mono ?_); rintro e w1 ⟨rfl, rfl⟩)
      | (go_at_call 59; (with_reducible refine (HC1.out _).mono ?_); rintro e w1 ⟨rfl, rfl⟩)
      | (go_at_call 32; (with_reducible refine (HH.out _).mono ?_); rintro e w1 ⟨rfl, b1⟩; replace HB := Lib.hid (below_on HB.out b1); have HK := Lib.hid (HK.out.below b1 HK.out.lt); have c0 := HK.out.cell 0; have c1 := HK.out.cell 1; have c2 := HK.out.cell 2; clear b1))
      go_ret
      exact ⟨rfl, HB.out⟩
  · rw [h4] at HH
    cases h5 : (b == -1)
    · have hg := Lib.hid (show goodQ a b c = false from by unfold goodQ; rw [h1, h2, h3, h4, h5]; rfl)
      rw [hg.out]
      clear hg
      go_enter Try.func31, Try.ntmps31
      go_wp2_with (first
      | (go_at_call 59; (with_reducible refine (HA.out _).mono ?_); rintro e w1 ⟨rfl, rfl⟩)
      | (go_at_call 59; (with_reducible refine (HB1.out _).mono ?_); rintro e w1 ⟨rfl, rfl⟩)
      | (go_at_call 59; (with_reducible refine (HC1.out _).mono ?_); rintro e w1 ⟨rfl, rfl⟩)
      | (go_at_call 32; (with_reducible refine (HH.out _).mono ?_); rintro e w1 ⟨rfl, b1⟩; replace HB := Lib.hid (below_on HB.out b1); have HK := Lib.hid (HK.out.below b1 HK.out.lt); have c0 := HK.out.cell 0; have c1 := HK.out.cell 1; have c2 := HK.out.cell 2; clear b1))
      go_ret
      exact ⟨rfl, HB.out⟩
    · have hg := Lib.hid (show goodQ a b c = !(c == -1) from by unfold goodQ; rw [h1, h2, h3, h4, h5]; rfl)
      rw [hg.out]
      clear hg
      go_enter Try.func31, Try.ntmps31
      go_wp2_with (first
      | (go_at_call 59; (with_reducible refine (HA.out _).mono ?_); rintro e w1 ⟨rfl, rfl⟩)
      | (go_at_call 59; (with_reducible refine (HB1.out _).mono ?_); rintro e w1 ⟨rfl, rfl⟩)
      | (go_at_call 59; (with_reducible refine (HC1.out _).mono ?_); rintro e w1 ⟨rfl, rfl⟩)
      | (go_at_call 32; (with_reducible refine (HH.out _).mono ?_); rintro e w1 ⟨rfl, b1⟩; replace HB := Lib.hid (below_on HB.out b1); have HK := Lib.hid (HK.out.below b1 HK.out.lt); have c0 := HK.out.cell 0; have c1 := HK.out.cell 1; have c2 := HK.out.cell 2; clear b1))
      go_ret
      exact ⟨rfl, HB.out⟩


set_option maxHeartbeats 400000 in
theorem first24_any (a b c : Int) (w : World) : Calls Try.prog 14 #[partV a b c] w fun e w' => e = .returned (.bool (a == 0)) ∧ Below w.heap.size w w' := by
  have HB := Lib.hid ((Below.refl w.heap.size w).alloc (Nat.le_refl _) (partC a b c))
  go_enter Try.func14, Try.ntmps14
  go_wp2
  go_ret
  exact ⟨rfl, HB.out⟩

/-- How many bytes come. -/
def lenQ (a b c : Int) : Int := cond (goodQ a b c && !(a == -1)) (b - a + 1) 0
/-- Whether a part is what is asked for. -/
def fitQ (x y a b c : Int) : Bool := goodQ a b c && !(a == -1) && cond (x == -1) ((b == c - 1) && decide (b - a + 1 ≤ y)) ((a == x) && ((y == -1) || decide (b ≤ y)))
/-- What came in, in boxes of a walk's own. -/
structure TwoB (B : Nat) (x y a b c : Int) (w : World) : Prop where
  r : Blk w B 24 #[.int .i64 x, .int .i64 y]
  p : Blk w (B + 1) 29 #[.int .i64 a, .int .i64 b, .int .i64 c]
theorem TwoB.new (w : World) (x y a b c : Int) : TwoB w.heap.size x y a b c ((w.alloc (rngC x y)).alloc (partC a b c)) :=
  ⟨(Blk.new w _ _).alloc _, by have := Blk.new (w.alloc (rngC x y)) 29 #[.int .i64 a, .int .i64 b, .int .i64 c]; simpa using this⟩
theorem TwoB.below {B : Nat} {x y a b c : Int} {w w' : World} (h : TwoB B x y a b c w) (hb : Below w.heap.size w w') : TwoB B x y a b c w' := ⟨h.r.below hb h.r.lt, h.p.below hb h.p.lt⟩
theorem TwoB.drew {B : Nat} {x y a b c : Int} {w : World} (h : TwoB B x y a b c w) : TwoB B x y a b c w.drew := ⟨h.r, h.p⟩
theorem TwoB.keep {B : Nat} {x y a b c : Int} {w : World} (h : TwoB B x y a b c w) : w.cell? ⟨B, 0, none⟩ = some (.int .i64 x) ∧ w.cell? ⟨B, 1, none⟩ = some (.int .i64 y) ∧ w.cell? ⟨B + 1, 0, none⟩ = some (.int .i64 a) ∧ w.cell? ⟨B + 1, 1, none⟩ = some (.int .i64 b) ∧ w.cell? ⟨B + 1, 2, none⟩ = some (.int .i64 c) :=
  ⟨h.r.cell 0, h.r.cell 1, h.p.cell 0, h.p.cell 1, h.p.cell 2⟩

set_option maxHeartbeats 1000000 in
theorem len_any (a b c : Int) (w : World) : Calls Try.prog 15 #[partV a b c] w fun e w' => e = .returned (.int .i64 (lenQ a b c)) ∧ Below w.heap.size w w' := by
  have HG := Lib.hid (fun W => pgood_any a b c W)
  have HB := Lib.hid ((Below.refl w.heap.size w).alloc (Nat.le_refl _) (partC a b c))
  have HK := Lib.hid (one_part w a b c)
  have HH := Lib.hid (fun W => hasBytes_any a b c W)
  cases h1 : goodQ a b c
  · rw [h1] at HG
    have hl := Lib.hid (show lenQ a b c = 0 from by unfold lenQ; rw [h1]; rfl)
    rw [hl.out]
    clear hl
    go_enter Try.func15, Try.ntmps15
    go_wp2_with (first
      | (go_at_call 31; (with_reducible refine (HG.out _).mono ?_); rintro e w1 ⟨rfl, b1⟩; replace HB := Lib.hid (below_on HB.out b1); have HK := Lib.hid (HK.out.below b1 HK.out.lt); have c0 := HK.out.cell 0; have c1 := HK.out.cell 1; have c2 := HK.out.cell 2; clear b1)
      | (go_at_call 32; (with_reducible refine (HH.out _).mono ?_); rintro e w1 ⟨rfl, b1⟩; replace HB := Lib.hid (below_on HB.out b1); have HK := Lib.hid (HK.out.below b1 HK.out.lt); have c0 := HK.out.cell 0; have c1 := HK.out.cell 1; have c2 := HK.out.cell 2; clear b1))
    go_ret
    exact ⟨rfl, HB.out⟩
  rw [h1] at HG
  cases h2 : (a == -1)
  · have ha : a ≠ -1 := by simpa using h2
    obtain ⟨⟨a1, a2⟩, ⟨b1, b2⟩, _⟩ := goodQ_in h1
    obtain ⟨ab, _⟩ := goodQ_bytes h1 ha
    have g1 : IntKind.i64.wrap (b - a) = b - a := IntWalk.i64_in _ (by omega)
    have g2 : IntKind.i64.wrap (b - a + 1) = b - a + 1 := IntWalk.i64_in _ (by omega)
    have hl := Lib.hid (show lenQ a b c = b - a + 1 from by unfold lenQ; rw [h1, h2]; rfl)
    rw [hl.out]
    rw [h2] at HH
    clear hl ab a1 a2 b1 b2 ha
    go_enter Try.func15, Try.ntmps15
    go_wp2_with (first
      | (go_at_call 31; (with_reducible refine (HG.out _).mono ?_); rintro e w1 ⟨rfl, b1⟩; replace HB := Lib.hid (below_on HB.out b1); have HK := Lib.hid (HK.out.below b1 HK.out.lt); have c0 := HK.out.cell 0; have c1 := HK.out.cell 1; have c2 := HK.out.cell 2; clear b1)
      | (go_at_call 32; (with_reducible refine (HH.out _).mono ?_); rintro e w1 ⟨rfl, b1⟩; replace HB := Lib.hid (below_on HB.out b1); have HK := Lib.hid (HK.out.below b1 HK.out.lt); have c0 := HK.out.cell 0; have c1 := HK.out.cell 1; have c2 := HK.out.cell 2; clear b1))
    go_ret
    exact ⟨rfl, HB.out⟩
  · have hl := Lib.hid (show lenQ a b c = 0 from by unfold lenQ; rw [h1, h2]; rfl)
    rw [hl.out]
    clear hl
    rw [h2] at HH
    go_enter Try.func15, Try.ntmps15
    go_wp2_with (first
      | (go_at_call 31; (with_reducible refine (HG.out _).mono ?_); rintro e w1 ⟨rfl, b1⟩; replace HB := Lib.hid (below_on HB.out b1); have HK := Lib.hid (HK.out.below b1 HK.out.lt); have c0 := HK.out.cell 0; have c1 := HK.out.cell 1; have c2 := HK.out.cell 2; clear b1)
      | (go_at_call 32; (with_reducible refine (HH.out _).mono ?_); rintro e w1 ⟨rfl, b1⟩; replace HB := Lib.hid (below_on HB.out b1); have HK := Lib.hid (HK.out.below b1 HK.out.lt); have c0 := HK.out.cell 0; have c1 := HK.out.cell 1; have c2 := HK.out.cell 2; clear b1))
    go_ret
    exact ⟨rfl, HB.out⟩

set_option maxRecDepth 100000 in
set_option maxHeartbeats 2000000 in
theorem fits24_any (x y a b c : Int) (w : World) : Calls Try.prog 12 #[rngV x y, partV a b c] w fun e w' => e = .returned (.bool (fitQ x y a b c)) ∧ Below w.heap.size w w' := by
  have HG := Lib.hid (fun W => pgood_any a b c W)
  have HH := Lib.hid (fun W => hasBytes_any a b c W)
  have HL := Lib.hid (fun W => len_any a b c W)
  have HB := Lib.hid (((Below.refl w.heap.size w).alloc (Nat.le_refl _) (rngC x y)).alloc (by simp) (partC a b c))
  have H2 := Lib.hid (TwoB.new w x y a b c)
  obtain ⟨w0, hw0⟩ : ∃ w0, w0 = (w.alloc (rngC x y)).alloc (partC a b c) := ⟨_, rfl⟩
  rw [← hw0] at HB H2
  obtain ⟨c0, c1, c2, c3, c4⟩ := H2.out.keep
  cases h1 : goodQ a b c
  · rw [h1] at HG
    have hv := Lib.hid (show fitQ x y a b c = false from by unfold fitQ; rw [h1]; rfl)
    rw [hv.out]
    clear hv
    go_enter Try.func12, Try.ntmps12
    go_wp2_with fail
    rw [← hw0]
    clear hw0
    go_wp2_with (first
      | (go_at_call 31; (with_reducible refine (HG.out _).mono ?_); rintro e w1 ⟨rfl, b1⟩; replace HB := Lib.hid (below_on HB.out b1); replace H2 := Lib.hid (H2.out.below b1); obtain ⟨c0, c1, c2, c3, c4⟩ := H2.out.keep; clear b1)
      | (go_at_call 32; (with_reducible refine (HH.out _).mono ?_); rintro e w1 ⟨rfl, b1⟩; replace HB := Lib.hid (below_on HB.out b1); replace H2 := Lib.hid (H2.out.below b1); obtain ⟨c0, c1, c2, c3, c4⟩ := H2.out.keep; clear b1))
    go_ret
    exact ⟨rfl, HB.out⟩
  rw [h1] at HG
  cases h2 : (a == -1)
  · rw [h2] at HH
    have ha : a ≠ -1 := by simpa using h2
    obtain ⟨⟨a1, a2⟩, ⟨b1, b2⟩, k1, k2⟩ := goodQ_in h1
    have g1 : IntKind.i64.wrap (c - 1) = c - 1 := IntWalk.i64_in _ (by omega)
    have hl := Lib.hid (show lenQ a b c = b - a + 1 from by unfold lenQ; rw [h1, h2]; rfl)
    rw [hl.out] at HL
    clear a1 a2 b1 b2 k1 k2 ha hl
    cases h3 : (x == -1)
    · cases h4 : (a == x)
      · have hv := Lib.hid (show fitQ x y a b c = false from by unfold fitQ; rw [h1, h2, h3, h4]; rfl)
        rw [hv.out]
        clear hv
        go_enter Try.func12, Try.ntmps12
        go_wp2_with fail
        rw [← hw0]
        clear hw0
        go_wp2_with (first
      | (go_at_call 31; (with_reducible refine (HG.out _).mono ?_); rintro e w1 ⟨rfl, b1⟩; replace HB := Lib.hid (below_on HB.out b1); replace H2 := Lib.hid (H2.out.below b1); obtain ⟨c0, c1, c2, c3, c4⟩ := H2.out.keep; clear b1)
      | (go_at_call 32; (with_reducible refine (HH.out _).mono ?_); rintro e w1 ⟨rfl, b1⟩; replace HB := Lib.hid (below_on HB.out b1); replace H2 := Lib.hid (H2.out.below b1); obtain ⟨c0, c1, c2, c3, c4⟩ := H2.out.keep; clear b1))
        go_ret
        exact ⟨rfl, HB.out⟩
      cases h5 : (y == -1)
      · have hv := Lib.hid (show fitQ x y a b c = decide (b ≤ y) from by unfold fitQ; rw [h1, h2, h3, h4, h5]; rfl)
        rw [hv.out]
        clear hv
        go_enter Try.func12, Try.ntmps12
        go_wp2_with fail
        rw [← hw0]
        clear hw0
        go_wp2_with (first
      | (go_at_call 31; (with_reducible refine (HG.out _).mono ?_); rintro e w1 ⟨rfl, b1⟩; replace HB := Lib.hid (below_on HB.out b1); replace H2 := Lib.hid (H2.out.below b1); obtain ⟨c0, c1, c2, c3, c4⟩ := H2.out.keep; clear b1)
      | (go_at_call 32; (with_reducible refine (HH.out _).mono ?_); rintro e w1 ⟨rfl, b1⟩; replace HB := Lib.hid (below_on HB.out b1); replace H2 := Lib.hid (H2.out.below b1); obtain ⟨c0, c1, c2, c3, c4⟩ := H2.out.keep; clear b1))
        go_ret
        exact ⟨rfl, HB.out⟩
      · have hv := Lib.hid (show fitQ x y a b c = true from by unfold fitQ; rw [h1, h2, h3, h4, h5]; rfl)
        rw [hv.out]
        clear hv
        go_enter Try.func12, Try.ntmps12
        go_wp2_with fail
        rw [← hw0]
        clear hw0
        go_wp2_with (first
      | (go_at_call 31; (with_reducible refine (HG.out _).mono ?_); rintro e w1 ⟨rfl, b1⟩; replace HB := Lib.hid (below_on HB.out b1); replace H2 := Lib.hid (H2.out.below b1); obtain ⟨c0, c1, c2, c3, c4⟩ := H2.out.keep; clear b1)
      | (go_at_call 32; (with_reducible refine (HH.out _).mono ?_); rintro e w1 ⟨rfl, b1⟩; replace HB := Lib.hid (below_on HB.out b1); replace H2 := Lib.hid (H2.out.below b1); obtain ⟨c0, c1, c2, c3, c4⟩ := H2.out.keep; clear b1))
        go_ret
        exact ⟨rfl, HB.out⟩
    · cases h4 : (b == c - 1)
      · have hv := Lib.hid (show fitQ x y a b c = false from by unfold fitQ; rw [h1, h2, h3, h4]; rfl)
        rw [hv.out]
        clear hv
        go_enter Try.func12, Try.ntmps12
        go_wp2_with fail
        rw [← hw0]
        clear hw0
        go_wp2_with (first
      | (go_at_call 31; (with_reducible refine (HG.out _).mono ?_); rintro e w1 ⟨rfl, b1⟩; replace HB := Lib.hid (below_on HB.out b1); replace H2 := Lib.hid (H2.out.below b1); obtain ⟨c0, c1, c2, c3, c4⟩ := H2.out.keep; clear b1)
      | (go_at_call 32; (with_reducible refine (HH.out _).mono ?_); rintro e w1 ⟨rfl, b1⟩; replace HB := Lib.hid (below_on HB.out b1); replace H2 := Lib.hid (H2.out.below b1); obtain ⟨c0, c1, c2, c3, c4⟩ := H2.out.keep; clear b1))
        go_quiet (fail)
        go_wp2
        go_ret
        exact ⟨rfl, Below.drewN' HB.out _⟩
      · have hv := Lib.hid (show fitQ x y a b c = decide (b - a + 1 ≤ y) from by unfold fitQ; rw [h1, h2, h3, h4]; rfl)
        rw [hv.out]
        clear hv
        go_enter Try.func12, Try.ntmps12
        go_wp2_with fail
        rw [← hw0]
        clear hw0
        go_wp2_with (first
      | (go_at_call 31; (with_reducible refine (HG.out _).mono ?_); rintro e w1 ⟨rfl, b1⟩; replace HB := Lib.hid (below_on HB.out b1); replace H2 := Lib.hid (H2.out.below b1); obtain ⟨c0, c1, c2, c3, c4⟩ := H2.out.keep; clear b1)
      | (go_at_call 32; (with_reducible refine (HH.out _).mono ?_); rintro e w1 ⟨rfl, b1⟩; replace HB := Lib.hid (below_on HB.out b1); replace H2 := Lib.hid (H2.out.below b1); obtain ⟨c0, c1, c2, c3, c4⟩ := H2.out.keep; clear b1))
        go_region_held3 (fun w' => w'.cell? ⟨w.heap.size, 0, none⟩ = some (.int .i64 x) ∧ w'.cell? ⟨w.heap.size, 1, none⟩ = some (.int .i64 y) ∧ w'.cell? ⟨w.heap.size + 1, 0, none⟩ = some (.int .i64 a) ∧ w'.cell? ⟨w.heap.size + 1, 1, none⟩ = some (.int .i64 b) ∧ w'.cell? ⟨w.heap.size + 1, 2, none⟩ = some (.int .i64 c))
          (first | with_reducible exact H2.out.keep | with_reducible exact H2.out.drew.keep | go_keep)
          (first
            | (go_at_call 15; (with_reducible refine (HL.out _).mono ?_); rintro e w2 ⟨rfl, b1⟩
               have HB := Lib.hid (show Below w.heap.size w w2 from by first | exact below_on HB.out b1 | exact below_on HB.out.drew b1)
               have H2 := Lib.hid (show TwoB w.heap.size x y a b c w2 from by first | exact H2.out.below b1 | exact H2.out.drew.below b1)
               clear b1))
        all_goals
          go_wp2
          go_ret
          exact ⟨rfl, HB.out⟩
  · rw [h2] at HH
    have hv := Lib.hid (show fitQ x y a b c = false from by unfold fitQ; rw [h1, h2]; rfl)
    rw [hv.out]
    clear hv
    go_enter Try.func12, Try.ntmps12
    go_wp2_with fail
    rw [← hw0]
    clear hw0
    go_wp2_with (first
      | (go_at_call 31; (with_reducible refine (HG.out _).mono ?_); rintro e w1 ⟨rfl, b1⟩; replace HB := Lib.hid (below_on HB.out b1); replace H2 := Lib.hid (H2.out.below b1); obtain ⟨c0, c1, c2, c3, c4⟩ := H2.out.keep; clear b1)
      | (go_at_call 32; (with_reducible refine (HH.out _).mono ?_); rintro e w1 ⟨rfl, b1⟩; replace HB := Lib.hid (below_on HB.out b1); replace H2 := Lib.hid (H2.out.below b1); obtain ⟨c0, c1, c2, c3, c4⟩ := H2.out.keep; clear b1))
    go_ret
    exact ⟨rfl, HB.out⟩

/-- What Parse answers. -/
def askV (o : Except (Nat × Int) (Int × Int)) : Ending :=
  match o with
  | .ok (x, y) => .returned (.tuple #[rngV x y, .int .i64 0])
  | .error (_, c) => .returned (.tuple #[rngV 0 0, .int .i64 c])
theorem askV_ok {o : Except (Nat × Int) (Int × Int)} {x y : Int} (h : o = .ok (x, y)) : askV o = .returned (.tuple #[rngV x y, .int .i64 0]) := by subst h; rfl
theorem askV_no {o : Except (Nat × Int) (Int × Int)} {a : Nat} {c : Int} (h : o = .error (a, c)) : askV o = .returned (.tuple #[rngV 0 0, .int .i64 c]) := by subst h; rfl

end Go.Proofs.Ytaolclpjlkdkjaa
namespace Go.Proofs.Ytaolclpjlkdkjaa
open Go.RowKit

/-- Nothing has turned but one block. -/
structure bRangeOnly (b : Nat) (w w' : World) : Prop where
  os : w'.os = w.os
  tape : w'.tape = w.tape
  output : w'.output = w.output
  size : w'.heap.size = w.heap.size
  block : ∀ k, k ≠ b → w'.heap[k]? = w.heap[k]?
theorem bRangeOnly.refl (b : Nat) (w : World) : bRangeOnly b w w := ⟨rfl, rfl, rfl, rfl, fun _ _ => rfl⟩
theorem bRangeOnly.set {b : Nat} {w w' : World} (h : bRangeOnly b w w') (i : Nat) (u : Value) : bRangeOnly b w (w'.setCell ⟨b, i, none⟩ u) :=
  ⟨h.os, h.tape, h.output, by simpa [World.setCell] using h.size, fun k hk => (Below.heap_setCell w' ⟨b, i, none⟩ u k hk).trans (h.block k hk)⟩
theorem bRangeOnly.below {b B : Nat} {w w' : World} (h : bRangeOnly b w w') (hb : B ≤ b) : Below B w w' := ⟨h.os, h.tape, h.output, by rw [h.size]; exact Nat.le_refl _, fun k hk => h.block k (by omega)⟩
theorem bRangeOnly.mv {b B : Nat} {w w' : World} (h : bRangeOnly b w w') : Mv B [b] w w' := ⟨h.os, h.tape, h.output, by rw [h.size]; exact Nat.le_refl _, fun k _ hk => h.block k (by simpa using hk)⟩
theorem bRangeOnly.blk {b g : Nat} {w w' : World} {t : TypeId} {cs : Array Value} (h : bRangeOnly b w w') (hg : g ≠ b) (k : Blk w g t cs) : Blk w' g t cs := (h.block g hg).trans k
/-- Two blocks of two cells, each written once more as it is. -/
theorem bRange_again {w : World} {b b' : Nat} {t t' : TypeId} {x y a c : Value} (hne : b ≠ b') (x' y' a' c' : Value) (h : Blk w b t #[x, y]) (h' : Blk w b' t' #[a, c]) :
    Blk ((((w.setCell ⟨b, 0, none⟩ x').setCell ⟨b, 1, none⟩ y').setCell ⟨b', 0, none⟩ a').setCell ⟨b', 1, none⟩ c') b t #[x', y'] ∧ Blk ((((w.setCell ⟨b, 0, none⟩ x').setCell ⟨b, 1, none⟩ y').setCell ⟨b', 0, none⟩ a').setCell ⟨b', 1, none⟩ c') b' t' #[a', c'] :=
  ⟨(((h.set_ 0 x').set_ 1 y').far (by simpa using hne) a').far (by simpa using hne) c', ((((h'.far (p := ⟨b, 0, none⟩) (by simpa using hne.symm) x').far (p := ⟨b, 1, none⟩) (by simpa using hne.symm) y').set_ 0 a').set_ 1 c')⟩

theorem bRange_eq_func_nil (fn : Fn) (fi ca : Array Value) (w : World) : (binOp .eql 45 (.func fn fi ca) .nilFunc).run Try.prog w = .ok (.bool false) w := by kernel_rfl
theorem bRange_enter (a b : Value) (w : World) : (callFunc 77 (#[] ++ #[a, b])).run Try.prog w = .ok (.enter 77 (#[] ++ #[a, b])) w := by simp [go_sem]

set_option maxHeartbeats 400000 in
theorem bRange_closure_returns (g : FuncId) (fi ca : Array Value) (p : Addr) (b : Nat) (v0 v1 : Value) (va vb : Int) (w : World) (Q : World → Prop) (hp : w.cell? p = some (.func (.func g) fi ca))
    (hQ : ∀ w1, Q w1 → Blk w1 b 24 #[v0, v1])
    (hen : ∀ w : World, (callFunc g (fi ++ ca)).run Try.prog w = .ok (.enter g (fi ++ ca)) w)
    (hf : Calls Try.prog g (fi ++ ca) w fun e w1 => e = .returned (.agg #[.int .i64 va, .int .i64 vb]) ∧ Q w1) :
    Calls Try.prog 77 #[.pointer (some p), .pointer (some ⟨b, 0, none⟩)] w fun e w' => e = .returned (.tuple #[]) ∧ ∃ w1, Q w1 ∧ bRangeOnly b w1 w' ∧ Blk w' b 24 #[.int .i64 va, .int .i64 vb] := by
  go_enter Try.func77, Try.ntmps77
  go_wp2_with fail
  refine hf.mono ?_
  rintro e w1 ⟨rfl, hb1⟩
  have HP := Lib.hid (hQ w1 hb1)
  have c0 : w1.cell? ⟨b, 0, none⟩ = some v0 := HP.out.cell 0
  have c1 : w1.cell? ⟨b, 1, none⟩ = some v1 := HP.out.cell 1
  have z0 := HP.out.frozen 0
  have z1 := HP.out.frozen 1
  clear hen hf hp hQ
  go_wp2
  go_end0
  exact ⟨rfl, w1, hb1, ((bRangeOnly.refl b w1).set 0 _).set 1 _, (HP.out.set_ 0 _).set_ 1 _⟩

set_option maxHeartbeats 400000 in
theorem bRange_closure_throws (g : FuncId) (fi ca : Array Value) (p : Addr) (b : Nat) (a c : Int) (w : World) (Q : World → Prop) (hp : w.cell? p = some (.func (.func g) fi ca))
    (hen : ∀ w : World, (callFunc g (fi ++ ca)).run Try.prog w = .ok (.enter g (fi ++ ca)) w)
    (hf : Calls Try.prog g (fi ++ ca) w fun e w1 => e = pnc a c ∧ Q w1) :
    Calls Try.prog 77 #[.pointer (some p), .pointer (some ⟨b, 0, none⟩)] w fun e w' => e = pnc a c ∧ Q w' := by
  go_enter Try.func77, Try.ntmps77
  go_wp2_with fail
  refine hf.mono ?_
  rintro e w1 ⟨rfl, hb1⟩
  exact ⟨rfl, rfl, hb1⟩

/-- What attempt's own three variables are, while f runs. -/
abbrev bRange_w (g : FuncId) (fi ca : Array Value) (w : World) : World := ((w.alloc (.cells #[.func (.func g) fi ca] 45)).alloc (.cells #[.int .i64 0, .int .i64 0] 24)).alloc (.cells #[.int .i64 0, .int .i64 0] 65)

theorem bRange_w_below (g : FuncId) (fi ca : Array Value) (w : World) : Below w.heap.size w (bRange_w g fi ca w) :=
  (((Below.refl _ _).alloc (Nat.le_refl _) _).alloc (by simp) _).alloc (by simp; omega) _
theorem bRange_w_blk (g : FuncId) (fi ca : Array Value) (w : World) : Blk (bRange_w g fi ca w) (w.heap.size + 1) 24 #[.int .i64 0, .int .i64 0] ∧ Blk (bRange_w g fi ca w) (w.heap.size + 1 + 1) 65 #[.int .i64 0, .int .i64 0] := by
  have h1 := Blk.new (w.alloc (.cells #[.func (.func g) fi ca] 45)) 24 #[.int .i64 0, .int .i64 0]
  have h2 := Blk.new ((w.alloc (.cells #[.func (.func g) fi ca] 45)).alloc (.cells #[.int .i64 0, .int .i64 0] 24)) 65 #[.int .i64 0, .int .i64 0]
  have h1' : Blk ((w.alloc (.cells #[.func (.func g) fi ca] 45)).alloc (.cells #[.int .i64 0, .int .i64 0] 24)) (w.heap.size + 1) 24 #[.int .i64 0, .int .i64 0] := by simpa using h1
  exact ⟨h1'.alloc _, by simpa using h2⟩

/-- Behind Catch: attempt's variables, and that nothing else has turned but rows of r. -/
structure BRangeGot (cs : Array Value) (r : List Nat) (w w1 : World) : Prop where
  mv : Mv w.heap.size r w w1
  size : w.heap.size + 3 ≤ w1.heap.size
  own : Blk w1 (w.heap.size + 1) 24 cs
  flt : Blk w1 (w.heap.size + 1 + 1) 65 #[.int .i64 0, .int .i64 0]

theorem bRange_got (g : FuncId) (fi ca : Array Value) (r : List Nat) (w w1 : World) (hr : ∀ x ∈ r, x < w.heap.size) (h : Mv (w.heap.size + 3) r (bRange_w g fi ca w) w1) :
    BRangeGot #[.int .i64 0, .int .i64 0] r w w1 := by
  have hs := h.size
  simp at hs
  have n1 : w.heap.size + 1 ∉ r := fun hm => by have := hr _ hm; omega
  have n2 : w.heap.size + 1 + 1 ∉ r := fun hm => by have := hr _ hm; omega
  obtain ⟨k1, k2⟩ := bRange_w_blk g fi ca w
  exact ⟨(Mv.of_below (bRange_w_below g fi ca w) r).trans (h.mono (by omega) fun x hx => .inl hx), by omega, k1.mv h (by omega) n1, k2.mv h (by omega) n2⟩

theorem BRangeGot.set {cs cs' : Array Value} {r : List Nat} {w w1 w2 : World} (h : BRangeGot cs r w w1) (ho : bRangeOnly (w.heap.size + 1) w1 w2) (hb : Blk w2 (w.heap.size + 1) 24 cs') : BRangeGot cs' r w w2 := by
  obtain ⟨m, s, k1, k2⟩ := h
  exact ⟨m.trans (Mv.of_below (ho.below (by omega)) r), by rw [ho.size]; exact s, hb, ho.blk (by omega) k2⟩

theorem BRangeGot.below {cs : Array Value} {r : List Nat} {w w1 w2 : World} (h : BRangeGot cs r w w1) (hb : Below (w.heap.size + 3) w1 w2) : BRangeGot cs r w w2 := by
  obtain ⟨m, s, k1, k2⟩ := h
  have := hb.size
  exact ⟨m.trans (Mv.of_below (hb.mono (by omega)) r), by omega, k1.below hb (by omega), k2.below hb (by omega)⟩

/-- Catch over the closure. -/
theorem bRange_catch_returns (g : FuncId) (fi ca : Array Value) (va vb : Int) (w : World) (r : List Nat) (R : World → Prop) (hr : ∀ x ∈ r, x < w.heap.size)
    (hR : ∀ W1 W2, Below w.heap.size W1 W2 → R W1 → R W2) (hen : ∀ w : World, (callFunc g (fi ++ ca)).run Try.prog w = .ok (.enter g (fi ++ ca)) w)
    (hf : ∀ W, Below w.heap.size w W → Calls Try.prog g (fi ++ ca) W fun e w1 => e = .returned (.agg #[.int .i64 va, .int .i64 vb]) ∧ Mv W.heap.size r W w1 ∧ R w1) :
    Calls Try.prog 66 #[.func (.func 77) #[] #[.pointer (some ⟨w.heap.size, 0, none⟩), .pointer (some ⟨w.heap.size + 1, 0, none⟩)]] (bRange_w g fi ca w)
      fun e w' => e = .returned (.tuple #[flt 0 0, .bool false]) ∧ BRangeGot #[.int .i64 va, .int .i64 vb] r w w' ∧ R w' := by
  have hw := bRange_w_below g fi ca w
  have hsz : (bRange_w g fi ca w).heap.size = w.heap.size + 3 := by simp
  refine (catch_returns 77 #[] #[.pointer (some ⟨w.heap.size, 0, none⟩), .pointer (some ⟨w.heap.size + 1, 0, none⟩)] (bRange_w g fi ca w)
    (fun w1 => ∃ w0, (Mv (w.heap.size + 5) r (cw (bRange_w g fi ca w)) w0 ∧ R w0) ∧ bRangeOnly (w.heap.size + 1) w0 w1 ∧ Blk w1 (w.heap.size + 1) 24 #[.int .i64 va, .int .i64 vb]) ?_ (bRange_enter _ _) ?_).mono ?_
  · rintro w1 ⟨w0, ⟨h, _⟩, ho, _⟩
    refine keeps_mv (bRange_w g fi ca w) w1 ((w.heap.size + 1) :: r) (fun x hx => ?_) ?_
    · rw [hsz]
      rcases List.mem_cons.1 hx with rfl | hx
      · omega
      · have := hr x hx; omega
    · rw [hsz]
      exact (h.mono (by omega) fun x hx => .inl (List.mem_cons_of_mem _ hx)).trans (ho.mv.mono (B := w.heap.size + 3 + 2) (Nat.le_refl _) fun x hx => .inl (by simp at hx; simp [hx]))
  · have hcw := cw_below (bRange_w g fi ca w)
    refine (bRange_closure_returns g fi ca ⟨w.heap.size, 0, none⟩ (w.heap.size + 1) (.int .i64 0) (.int .i64 0) va vb (cw (bRange_w g fi ca w)) (fun w0 => Mv (w.heap.size + 5) r (cw (bRange_w g fi ca w)) w0 ∧ R w0) ?_ ?_ hen ?_).mono ?_
    · rw [hcw.cell (by simp; omega)]; simp [go_sem]
    · rintro w1 ⟨h, _⟩
      have n1 : w.heap.size + 1 ∉ r := fun hm => by have := hr _ hm; omega
      exact (((bRange_w_blk g fi ca w).1.below hcw (by rw [hsz]; omega))).mv h (by omega) n1
    · refine (hf _ (hw.trans (hcw.mono (by simp; omega)))).mono ?_
      rintro e w1 ⟨h1, h2, h3⟩
      exact ⟨h1, h2.mono (by simp) fun x hx => .inl hx, h3⟩
    · rintro e w1 ⟨rfl, w0, h, h2⟩
      exact ⟨⟨_, rfl⟩, w0, h, h2⟩
  · rintro e w' ⟨rfl, w1, ⟨w0, ⟨h, hq⟩, ho, hbk⟩, rfl⟩
    have hcw := cw_below (bRange_w g fi ca w)
    have hm : Mv (w.heap.size + 3) r (bRange_w g fi ca w) w0 := (Mv.of_below (hcw.mono (by simp)) r).trans (h.mono (by omega) fun x hx => .inl hx)
    have hg := (bRange_got g fi ca r w w0 hr hm).set ho hbk
    rw [hsz]
    have hb : ∀ B, B ≤ w.heap.size + 3 → Below B w1 (((w1.setCell ⟨w.heap.size + 3, 0, none⟩ (.int .i64 0)).setCell ⟨w.heap.size + 3, 1, none⟩ (.int .i64 0)).setCell ⟨w.heap.size + 3 + 1, 0, none⟩ (.bool false)) :=
      fun B hB => (((Below.refl _ _).setCell (by simp; omega) _).setCell (by simp; omega) _).setCell (by simp; omega) _
    exact ⟨rfl, hg.below (hb _ (Nat.le_refl _)), hR _ _ (hb _ (by omega)) (hR _ _ (ho.below (by omega)) hq)⟩

theorem bRange_catch_throws (g : FuncId) (fi ca : Array Value) (a c : Int) (w : World) (r : List Nat) (R : World → Prop) (hr : ∀ x ∈ r, x < w.heap.size)
    (hR : ∀ W1 W2, Below w.heap.size W1 W2 → R W1 → R W2) (hen : ∀ w : World, (callFunc g (fi ++ ca)).run Try.prog w = .ok (.enter g (fi ++ ca)) w)
    (hf : ∀ W, Below w.heap.size w W → Calls Try.prog g (fi ++ ca) W fun e w1 => e = pnc a c ∧ Mv W.heap.size r W w1 ∧ R w1) :
    Calls Try.prog 66 #[.func (.func 77) #[] #[.pointer (some ⟨w.heap.size, 0, none⟩), .pointer (some ⟨w.heap.size + 1, 0, none⟩)]] (bRange_w g fi ca w)
      fun e w' => e = .returned (.tuple #[flt a c, .bool true]) ∧ BRangeGot #[.int .i64 0, .int .i64 0] r w w' ∧ R w' := by
  have hw := bRange_w_below g fi ca w
  have hsz : (bRange_w g fi ca w).heap.size = w.heap.size + 3 := by simp
  refine (catch_mv_throws 77 #[] #[.pointer (some ⟨w.heap.size, 0, none⟩), .pointer (some ⟨w.heap.size + 1, 0, none⟩)] (bRange_w g fi ca w) a c r R (fun x hx => by have := hr x hx; simp; omega)
    (fun W1 W2 hb h => hR W1 W2 (hb.mono (by simp; omega)) h) (bRange_enter _ _) ?_).mono ?_
  · intro W hW
    refine bRange_closure_throws g fi ca ⟨w.heap.size, 0, none⟩ (w.heap.size + 1) a c W (fun w1 => Mv W.heap.size r W w1 ∧ R w1) ?_ hen (hf _ (hw.trans (hW.mono (by simp; omega))))
    rw [hW.cell (by simp; omega)]; simp [go_sem]
  · rintro e w' ⟨rfl, h, hq⟩
    exact ⟨rfl, bRange_got g fi ca r w w' hr (h.mono (by simp) fun x hx => .inl hx), hq⟩

/-- Behind the store of what Catch told. -/
abbrev bRange_put (n : Nat) (a c : Int) (w : World) : World := (w.setCell ⟨n + 1 + 1, 0, none⟩ (.int .i64 a)).setCell ⟨n + 1 + 1, 1, none⟩ (.int .i64 c)
theorem BRangeGot.put {cs : Array Value} {r : List Nat} {w w1 : World} (h : BRangeGot cs r w w1) (a c : Int) :
    Mv w.heap.size r w (bRange_put w.heap.size a c w1) ∧ Blk (bRange_put w.heap.size a c w1) (w.heap.size + 1) 24 cs ∧ Blk (bRange_put w.heap.size a c w1) (w.heap.size + 1 + 1) 65 #[.int .i64 a, .int .i64 c] := by
  obtain ⟨m, s, k1, k2⟩ := h
  exact ⟨(m.setCell (.inr (by simp; omega)) _).setCell (.inr (by simp; omega)) _, (k1.far (by simp) _).far (by simp) _, (k2.set_ 0 _).set_ 1 _⟩

/-- What attempt's end comes to, whatever it was that Catch told. -/
abbrev bRange_tell (x y : Value) (a c : Int) (f : Bool) : Ending := .returned (.tuple #[.agg #[x, y], .agg #[.int .i64 a, .int .i64 c], .bool f])

set_option maxHeartbeats 1000000 in
theorem bRange_returns (g : FuncId) (fi ca : Array Value) (va vb : Int) (w : World) (r : List Nat) (R : World → Prop) (hr : ∀ x ∈ r, x < w.heap.size)
    (hR : ∀ W1 W2, Below w.heap.size W1 W2 → R W1 → R W2) (hen : ∀ w : World, (callFunc g (fi ++ ca)).run Try.prog w = .ok (.enter g (fi ++ ca)) w)
    (hf : ∀ W, Below w.heap.size w W → Calls Try.prog g (fi ++ ca) W fun e w1 => e = .returned (.agg #[.int .i64 va, .int .i64 vb]) ∧ Mv W.heap.size r W w1 ∧ R w1) :
    Calls Try.prog 62 #[.func (.func g) fi ca] w fun e w' => e = bRange_tell (.int .i64 va) (.int .i64 vb) 0 0 false ∧ Mv w.heap.size r w w' ∧ R w' := by
  have hmf := make_func
  have heq := bRange_eq_func_nil
  go_enter Try.func62, Try.ntmps62
  go_wp2_with fail
  refine (bRange_catch_returns g fi ca va vb w r R hr hR hen hf).mono ?_
  rintro e w1 ⟨rfl, hb1, hq⟩
  have hR' : Hid _ := hR
  clear hen hf hmf heq hr hR
  obtain ⟨hm, k1, k2⟩ := hb1.put 0 0
  have hq2 : Hid (R (bRange_put w.heap.size 0 0 w1)) := hR'.out _ _ (((Below.refl _ _).setCell (by simp; omega) _).setCell (by simp; omega) _) hq
  have hm2 : Hid _ := hm
  have K1 := Lib.hid k1
  have K2 := Lib.hid k2
  clear hq hm k1 k2
  have c2 : w1.cell? ⟨w.heap.size + 1 + 1, 0, none⟩ = some (.int .i64 0) := hb1.flt.cell 0
  have c3 : w1.cell? ⟨w.heap.size + 1 + 1, 1, none⟩ = some (.int .i64 0) := hb1.flt.cell 1
  have z2 := hb1.flt.frozen 0
  have z3 := hb1.flt.frozen 1
  have hz := hb1.size
  clear hb1
  go_wp2_with fail
  unfold bRange_put at K1 K2 hm2 hq2
  generalize (w1.setCell ⟨w.heap.size + 1 + 1, 0, none⟩ (.int .i64 0)).setCell ⟨w.heap.size + 1 + 1, 1, none⟩ (.int .i64 0) = w2 at *
  clear c2 c3 z2 z3 hz
  have e0 : w2.cell? ⟨w.heap.size + 1, 0, none⟩ = some ((.int .i64 va)) := K1.out.cell 0
  have e1 : w2.cell? ⟨w.heap.size + 1, 1, none⟩ = some ((.int .i64 vb)) := K1.out.cell 1
  have e2 : w2.cell? ⟨w.heap.size + 1 + 1, 0, none⟩ = some (.int .i64 0) := K2.out.cell 0
  have e3 : w2.cell? ⟨w.heap.size + 1 + 1, 1, none⟩ = some (.int .i64 0) := K2.out.cell 1
  have f0 := K1.out.frozen 0
  have f1 := K1.out.frozen 1
  have f2 := K2.out.frozen 0
  have f3 := K2.out.frozen 1
  have G := Lib.hid (bRange_again (by omega) (.int .i64 va) (.int .i64 vb) (.int .i64 0) (.int .i64 0) K1.out K2.out)
  go_region
  all_goals go_wp2
  obtain ⟨G1, G2⟩ := G.out
  have g0 : _ = some ((.int .i64 va) : Value) := G1.cell 0
  have g1 : _ = some ((.int .i64 vb) : Value) := G1.cell 1
  have g2 : _ = some (.int .i64 0 : Value) := G2.cell 0
  have g3 : _ = some (.int .i64 0 : Value) := G2.cell 1
  have hb3 : Below w.heap.size w2 ((((w2.setCell ⟨w.heap.size + 1, 0, none⟩ ((.int .i64 va))).setCell ⟨w.heap.size + 1, 1, none⟩ ((.int .i64 vb))).setCell ⟨w.heap.size + 1 + 1, 0, none⟩ (.int .i64 0)).setCell ⟨w.heap.size + 1 + 1, 1, none⟩ (.int .i64 0)) :=
    ((((Below.refl _ _).setCell (by simp) _).setCell (by simp) _).setCell (by simp; omega) _).setCell (by simp; omega) _
  refine bodyPost_ret (v := .tuple #[.agg #[(.int .i64 va), (.int .i64 vb)], .agg #[.int .i64 0, .int .i64 0], .bool false]) (by simp [results, Try.results62, go_sem, g0, g1, g2, g3]) rfl ⟨rfl, ?_, ?_⟩
  · exact (hm2.out.trans (Mv.of_below hb3 r)).drew
  · exact hR'.out _ _ hb3.drew hq2.out

set_option maxHeartbeats 1000000 in
theorem bRange_throws (g : FuncId) (fi ca : Array Value) (a c : Int) (w : World) (r : List Nat) (R : World → Prop) (hr : ∀ x ∈ r, x < w.heap.size)
    (hR : ∀ W1 W2, Below w.heap.size W1 W2 → R W1 → R W2) (hen : ∀ w : World, (callFunc g (fi ++ ca)).run Try.prog w = .ok (.enter g (fi ++ ca)) w)
    (hf : ∀ W, Below w.heap.size w W → Calls Try.prog g (fi ++ ca) W fun e w1 => e = pnc a c ∧ Mv W.heap.size r W w1 ∧ R w1) :
    Calls Try.prog 62 #[.func (.func g) fi ca] w fun e w' => e = bRange_tell (.int .i64 0) (.int .i64 0) a c true ∧ Mv w.heap.size r w w' ∧ R w' := by
  have hmf := make_func
  have heq := bRange_eq_func_nil
  go_enter Try.func62, Try.ntmps62
  go_wp2_with fail
  refine (bRange_catch_throws g fi ca a c w r R hr hR hen hf).mono ?_
  rintro e w1 ⟨rfl, hb1, hq⟩
  have hR' : Hid _ := hR
  clear hen hf hmf heq hr hR
  obtain ⟨hm, k1, k2⟩ := hb1.put a c
  have hq2 : Hid (R (bRange_put w.heap.size a c w1)) := hR'.out _ _ (((Below.refl _ _).setCell (by simp; omega) _).setCell (by simp; omega) _) hq
  have hm2 : Hid _ := hm
  have K1 := Lib.hid k1
  have K2 := Lib.hid k2
  clear hq hm k1 k2
  have c2 : w1.cell? ⟨w.heap.size + 1 + 1, 0, none⟩ = some (.int .i64 0) := hb1.flt.cell 0
  have c3 : w1.cell? ⟨w.heap.size + 1 + 1, 1, none⟩ = some (.int .i64 0) := hb1.flt.cell 1
  have z2 := hb1.flt.frozen 0
  have z3 := hb1.flt.frozen 1
  have hz := hb1.size
  clear hb1
  go_wp2_with fail
  unfold bRange_put at K1 K2 hm2 hq2
  generalize (w1.setCell ⟨w.heap.size + 1 + 1, 0, none⟩ (.int .i64 a)).setCell ⟨w.heap.size + 1 + 1, 1, none⟩ (.int .i64 c) = w2 at *
  clear c2 c3 z2 z3 hz
  have e0 : w2.cell? ⟨w.heap.size + 1, 0, none⟩ = some ((.int .i64 0)) := K1.out.cell 0
  have e1 : w2.cell? ⟨w.heap.size + 1, 1, none⟩ = some ((.int .i64 0)) := K1.out.cell 1
  have e2 : w2.cell? ⟨w.heap.size + 1 + 1, 0, none⟩ = some (.int .i64 a) := K2.out.cell 0
  have e3 : w2.cell? ⟨w.heap.size + 1 + 1, 1, none⟩ = some (.int .i64 c) := K2.out.cell 1
  have f0 := K1.out.frozen 0
  have f1 := K1.out.frozen 1
  have f2 := K2.out.frozen 0
  have f3 := K2.out.frozen 1
  have G := Lib.hid (bRange_again (by omega) (.int .i64 0) (.int .i64 0) (.int .i64 a) (.int .i64 c) K1.out K2.out)
  go_region
  all_goals go_wp2
  obtain ⟨G1, G2⟩ := G.out
  have g0 : _ = some ((.int .i64 0) : Value) := G1.cell 0
  have g1 : _ = some ((.int .i64 0) : Value) := G1.cell 1
  have g2 : _ = some (.int .i64 a : Value) := G2.cell 0
  have g3 : _ = some (.int .i64 c : Value) := G2.cell 1
  have hb3 : Below w.heap.size w2 ((((w2.setCell ⟨w.heap.size + 1, 0, none⟩ ((.int .i64 0))).setCell ⟨w.heap.size + 1, 1, none⟩ ((.int .i64 0))).setCell ⟨w.heap.size + 1 + 1, 0, none⟩ (.int .i64 a)).setCell ⟨w.heap.size + 1 + 1, 1, none⟩ (.int .i64 c)) :=
    ((((Below.refl _ _).setCell (by simp) _).setCell (by simp) _).setCell (by simp; omega) _).setCell (by simp; omega) _
  refine bodyPost_ret (v := .tuple #[.agg #[(.int .i64 0), (.int .i64 0)], .agg #[.int .i64 a, .int .i64 c], .bool true]) (by simp [results, Try.results62, go_sem, g0, g1, g2, g3]) rfl ⟨rfl, ?_, ?_⟩
  · exact (hm2.out.trans (Mv.of_below hb3 r)).drew
  · exact hR'.out _ _ hb3.drew hq2.out

set_option maxHeartbeats 1000000 in
theorem valuebRange_any (g : FuncId) (fi ca : Array Value) (va vb : Int) (a c : Int) (f : Bool) (w : World) (r : List Nat) (R : World → Prop) (hr : ∀ x ∈ r, x < w.heap.size)
    (hR : ∀ W1 W2, Below w.heap.size W1 W2 → R W1 → R W2)
    (h : Calls Try.prog 62 #[.func (.func g) fi ca] ((w.alloc (.cells #[.int .i64 0, .int .i64 0] 24)).alloc (flc 0 0)) fun e w' => e = bRange_tell (.int .i64 va) (.int .i64 vb) a c f ∧ Mv (w.heap.size + 2) r ((w.alloc (.cells #[.int .i64 0, .int .i64 0] 24)).alloc (flc 0 0)) w' ∧ R w') :
    Calls Try.prog 35 #[.func (.func g) fi ca] w fun e w' => e = .returned (.tuple #[.agg #[.int .i64 va, .int .i64 vb], .agg #[.int .i64 a, .int .i64 c]]) ∧ Mv w.heap.size r w w' ∧ R w' := by
  go_enter Try.func35, Try.ntmps35
  go_wp2_with (go_at_call 62; refine h.mono ?_; rintro e w1 ⟨rfl, hb1, hq⟩)
  have hR' : Hid _ := hR
  have hz := hb1.size
  simp at hz
  have n0 : w.heap.size ∉ r := fun hm => by have := hr _ hm; omega
  have n1 : w.heap.size + 1 ∉ r := fun hm => by have := hr _ hm; omega
  obtain ⟨w2, hw2⟩ : ∃ w2, w2 = (w1.alloc (.cells #[.int .i64 va, .int .i64 vb] 24)).alloc (.cells #[.int .i64 a, .int .i64 c] 65) := ⟨_, rfl⟩
  have k0 : Blk ((w.alloc (.cells #[.int .i64 0, .int .i64 0] 24)).alloc (flc 0 0)) w.heap.size 24 #[.int .i64 0, .int .i64 0] := (Blk.new w _ _).alloc _
  have k1 : Blk ((w.alloc (.cells #[.int .i64 0, .int .i64 0] 24)).alloc (flc 0 0)) (w.heap.size + 1) 65 #[.int .i64 0, .int .i64 0] := by
    have := Blk.new (w.alloc (.cells #[.int .i64 0, .int .i64 0] 24)) 65 #[.int .i64 0, .int .i64 0]
    simpa using this
  have K0 := Lib.hid (show Blk w2 w.heap.size 24 #[.int .i64 0, .int .i64 0] from by rw [hw2]; exact ((k0.mv hb1 (by omega) n0).alloc _).alloc _)
  have K1 := Lib.hid (show Blk w2 (w.heap.size + 1) 65 #[.int .i64 0, .int .i64 0] from by rw [hw2]; exact ((k1.mv hb1 (by omega) n1).alloc _).alloc _)
  have K2 := Lib.hid (show Blk w2 w1.heap.size 24 #[.int .i64 va, .int .i64 vb] from by rw [hw2]; exact (Blk.new w1 _ _).alloc _)
  have K3 := Lib.hid (show Blk w2 (w1.heap.size + 1) 65 #[.int .i64 a, .int .i64 c] from by
    have := Blk.new (w1.alloc (.cells #[.int .i64 va, .int .i64 vb] 24)) 65 #[.int .i64 a, .int .i64 c]
    rw [hw2]
    simpa using this)
  have hbw : Hid (Mv w.heap.size r w w2) := by
    rw [hw2]
    exact (((Mv.of_below (((Below.refl _ _).alloc (Nat.le_refl _) _).alloc (by simp) _) r).trans (hb1.mono (by omega) fun x hx => .inl hx)).alloc (by omega) _).alloc (by simp; omega) _
  have hq2 : Hid (R w2) := by
    rw [hw2]
    exact hR _ _ (((Below.refl _ _).alloc (by omega) _).alloc (by simp; omega) _) hq
  clear hb1 h hq hR hr k0 k1
  go_wp2_with fail
  rw [← hw2]
  have HW2 := Lib.hid hw2
  clear hw2
  have hn : w1.heap.size + 1 < w2.heap.size := K3.out.lt
  have G := Lib.hid (bRange_again (by omega) (.int .i64 va) (.int .i64 vb) (.int .i64 a) (.int .i64 c) K0.out K1.out)
  have e0 : w2.cell? ⟨w.heap.size, 0, none⟩ = some (.int .i64 0) := K0.out.cell 0
  have e1 : w2.cell? ⟨w.heap.size, 1, none⟩ = some (.int .i64 0) := K0.out.cell 1
  have e2 : w2.cell? ⟨w.heap.size + 1, 0, none⟩ = some (.int .i64 0) := K1.out.cell 0
  have e3 : w2.cell? ⟨w.heap.size + 1, 1, none⟩ = some (.int .i64 0) := K1.out.cell 1
  have f0 := K0.out.frozen 0
  have f1 := K0.out.frozen 1
  have f2 := K1.out.frozen 0
  have f3 := K1.out.frozen 1
  have d0 : w2.cell? ⟨w1.heap.size, 0, none⟩ = some (.int .i64 va) := K2.out.cell 0
  have d1 : w2.cell? ⟨w1.heap.size, 1, none⟩ = some (.int .i64 vb) := K2.out.cell 1
  have d2 : w2.cell? ⟨w1.heap.size + 1, 0, none⟩ = some (.int .i64 a) := K3.out.cell 0
  have d3 : w2.cell? ⟨w1.heap.size + 1, 1, none⟩ = some (.int .i64 c) := K3.out.cell 1
  clear HW2 K0 K1 K2 K3
  generalize w1.heap.size = m1 at *
  go_region
  all_goals go_wp2
  obtain ⟨G1, G2⟩ := G.out
  have g0 : _ = some (.int .i64 va : Value) := G1.cell 0
  have g1 : _ = some (.int .i64 vb : Value) := G1.cell 1
  have g2 : _ = some (.int .i64 a : Value) := G2.cell 0
  have g3 : _ = some (.int .i64 c : Value) := G2.cell 1
  have hb3 : Below w.heap.size w2 ((((w2.setCell ⟨w.heap.size, 0, none⟩ (.int .i64 va)).setCell ⟨w.heap.size, 1, none⟩ (.int .i64 vb)).setCell ⟨w.heap.size + 1, 0, none⟩ (.int .i64 a)).setCell ⟨w.heap.size + 1, 1, none⟩ (.int .i64 c)) :=
    ((((Below.refl _ _).setCell (by simp) _).setCell (by simp) _).setCell (by simp) _).setCell (by simp) _
  refine bodyPost_ret (v := .tuple #[.agg #[.int .i64 va, .int .i64 vb], .agg #[.int .i64 a, .int .i64 c]]) (by simp [results, Try.results35, go_sem, g0, g1, g2, g3]) rfl ⟨rfl, ?_, ?_⟩
  · exact (hbw.out.trans (Mv.of_below hb3 r)).drew
  · exact hR'.out _ _ hb3.drew hq2.out

theorem valuebRange_returns (g : FuncId) (fi ca : Array Value) (va vb : Int) (w : World) (r : List Nat) (R : World → Prop) (hr : ∀ x ∈ r, x < w.heap.size)
    (hR : ∀ W1 W2, Below w.heap.size W1 W2 → R W1 → R W2) (hen : ∀ w : World, (callFunc g (fi ++ ca)).run Try.prog w = .ok (.enter g (fi ++ ca)) w)
    (hf : ∀ W, Below w.heap.size w W → Calls Try.prog g (fi ++ ca) W fun e w1 => e = .returned (.agg #[.int .i64 va, .int .i64 vb]) ∧ Mv W.heap.size r W w1 ∧ R w1) :
    Calls Try.prog 35 #[.func (.func g) fi ca] w fun e w' => e = .returned (.tuple #[.agg #[.int .i64 va, .int .i64 vb], flt 0 0]) ∧ Mv w.heap.size r w w' ∧ R w' := by
  refine valuebRange_any g fi ca va vb 0 0 false w r R hr hR ?_
  have hb : Below w.heap.size w ((w.alloc (.cells #[.int .i64 0, .int .i64 0] 24)).alloc (flc 0 0)) := ((Below.refl _ _).alloc (Nat.le_refl _) _).alloc (by simp) _
  refine (bRange_returns g fi ca va vb ((w.alloc (.cells #[.int .i64 0, .int .i64 0] 24)).alloc (flc 0 0)) r R (fun x hx => by have := hr x hx; simp; omega) (fun W1 W2 h => hR W1 W2 (h.mono (by simp; omega))) hen fun W hW => hf W (hb.trans (hW.mono (by simp; omega)))).mono ?_
  rintro e w' ⟨h1, h2, h3⟩
  exact ⟨h1, by simpa using h2, h3⟩

theorem valuebRange_throws (g : FuncId) (fi ca : Array Value) (a c : Int) (w : World) (r : List Nat) (R : World → Prop) (hr : ∀ x ∈ r, x < w.heap.size)
    (hR : ∀ W1 W2, Below w.heap.size W1 W2 → R W1 → R W2) (hen : ∀ w : World, (callFunc g (fi ++ ca)).run Try.prog w = .ok (.enter g (fi ++ ca)) w)
    (hf : ∀ W, Below w.heap.size w W → Calls Try.prog g (fi ++ ca) W fun e w1 => e = pnc a c ∧ Mv W.heap.size r W w1 ∧ R w1) :
    Calls Try.prog 35 #[.func (.func g) fi ca] w fun e w' => e = .returned (.tuple #[.agg #[.int .i64 0, .int .i64 0], flt a c]) ∧ Mv w.heap.size r w w' ∧ R w' := by
  refine valuebRange_any g fi ca 0 0 a c true w r R hr hR ?_
  have hb : Below w.heap.size w ((w.alloc (.cells #[.int .i64 0, .int .i64 0] 24)).alloc (flc 0 0)) := ((Below.refl _ _).alloc (Nat.le_refl _) _).alloc (by simp) _
  refine (bRange_throws g fi ca a c ((w.alloc (.cells #[.int .i64 0, .int .i64 0] 24)).alloc (flc 0 0)) r R (fun x hx => by have := hr x hx; simp; omega) (fun W1 W2 h => hR W1 W2 (h.mono (by simp; omega))) hen fun W hW => hf W (hb.trans (hW.mono (by simp; omega)))).mono ?_
  rintro e w' ⟨h1, h2, h3⟩
  exact ⟨h1, by simpa using h2, h3⟩

end Go.Proofs.Ytaolclpjlkdkjaa
