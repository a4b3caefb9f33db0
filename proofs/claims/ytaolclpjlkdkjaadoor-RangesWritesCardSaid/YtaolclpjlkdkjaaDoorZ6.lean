/-
  What Same and Serial of package mime answer of types. Condition: texts are as long as a mebibyte, and parameters as many.
  What package ranges' within, hasBytes, inOrder, Good, First and Len answer. No condition.
  Plain facts on layer 24's texts: what is said that comes (contO), and the same as the document says it. No condition.
-/
import Derived.Test.YtaolclpjlkdkjaaDoorZ4
import Derived.Test.YtaolclpjlkdkjaaDoorZ3
import Derived.Test.YtaolclpjlkdkjaaDoorZ5
import Derived.Test.YtaolclpjlkdkjaaDoorZ1
import Derived.StillTailTactics
import Derived.Deep.RegionWith
import Derived.Maps.OwnSet
import Derived.Maps.AppendAt
import Derived.Laws.OwnMore
import Derived.Laws.AppendOwn
import Derived.LoopTactic
import Derived.BigQuiet
import Derived.Test.YtaolclpjlkdkjaaDoorZ2
import Derived.RegionTactic
import Derived.BigRegion
import Derived.Deep.QuietTactic
import Derived.Deep.RegionHeld2
import Derived.IntWalk
import Derived.Lib.Hide
namespace Go.Proofs.YtaolclpjlkdkjaaDoor
open Go.RowKit Go.Maps

theorem below_on {a w w' : World} (h : Below a.heap.size a w) (hb : Below w.heap.size w w') : Below a.heap.size a w' := h.trans (hb.mono h.size)

end Go.Proofs.YtaolclpjlkdkjaaDoor
namespace Go.Proofs.YtaolclpjlkdkjaaDoor
open Go.RowKit

/-- Whether a number is read and written, or not said. -/
def inB (n : Int) : Bool := decide (-1 ≤ n) && decide (n ≤ 9007199254740991)
/-- Whether a part is good. -/
def goodQ (a b c : Int) : Bool := inB a && inB b && inB c && cond (a == -1) ((b == -1) && !(c == -1)) (decide (a ≤ b) && (decide (b < c) || c == -1))
theorem inB_yes {n : Int} (h : inB n = true) : -1 ≤ n ∧ n ≤ 9007199254740991 := by
  unfold inB at h
  simpa using h
theorem goodQ_in {a b c : Int} (h : goodQ a b c = true) : (-1 ≤ a ∧ a ≤ 9007199254740991) ∧ (-1 ≤ b ∧ b ≤ 9007199254740991) ∧ (-1 ≤ c ∧ c ≤ 9007199254740991) := by
  unfold goodQ at h
  simp only [Bool.and_eq_true] at h
  exact ⟨inB_yes h.1.1.1, inB_yes h.1.1.2, inB_yes h.1.2⟩
theorem goodQ_bytes {a b c : Int} (h : goodQ a b c = true) (ha : a ≠ -1) : a ≤ b ∧ (b < c ∨ c = -1) := by
  unfold goodQ at h
  rw [beq_false_of_ne ha] at h
  simp only [Bool.and_eq_true, decide_eq_true_eq, Bool.or_eq_true, beq_iff_eq, cond_false] at h
  exact h.2
theorem goodQ_none {a b c : Int} (h : goodQ a b c = true) (ha : a = -1) : b = -1 ∧ c ≠ -1 := by
  unfold goodQ at h
  rw [beq_iff_eq.2 ha] at h
  simp only [Bool.and_eq_true, beq_iff_eq, Bool.not_eq_true', beq_eq_false_iff_ne, cond_true] at h
  exact h.2

abbrev rngV (a b : Int) : Value := .agg #[.int .i64 a, .int .i64 b]
abbrev partV (a b c : Int) : Value := .agg #[.int .i64 a, .int .i64 b, .int .i64 c]
abbrev rngC (a b : Int) : Obj := .cells #[.int .i64 a, .int .i64 b] 23
abbrev partC (a b c : Int) : Obj := .cells #[.int .i64 a, .int .i64 b, .int .i64 c] 25

set_option maxHeartbeats 400000 in
theorem within_any (n : Int) (w : World) : Calls Tryd.prog 13 #[.int .i64 n] w fun e w' => e = .returned (.bool (inB n)) ∧ w = w' := by
  unfold inB
  cases h : decide (-1 ≤ n)
  all_goals
    go_enter Tryd.func13, Tryd.ntmps13
    go_wp2
    go_ret
    exact ⟨rfl, rfl⟩

set_option maxHeartbeats 400000 in
theorem hasBytes_any (a b c : Int) (w : World) : Calls Tryd.prog 20 #[partV a b c] w fun e w' => e = .returned (.bool (!(a == -1))) ∧ Below w.heap.size w w' := by
  have HB := Lib.hid ((Below.refl w.heap.size w).alloc (Nat.le_refl _) (partC a b c))
  go_enter Tryd.func20, Tryd.ntmps20
  go_wp2
  go_ret
  exact ⟨rfl, HB.out⟩

set_option maxHeartbeats 400000 in
theorem inOrder_any (a b : Int) (w : World) : Calls Tryd.prog 14 #[rngV a b] w fun e w' => e = .returned (.bool (b == -1 || decide (a ≤ b))) ∧ Below w.heap.size w w' := by
  have HB := Lib.hid ((Below.refl w.heap.size w).alloc (Nat.le_refl _) (rngC a b))
  cases h : (b == -1)
  all_goals
    go_enter Tryd.func14, Tryd.ntmps14
    go_wp2
    go_ret
    exact ⟨rfl, HB.out⟩

/-- Good. -/
theorem one_part (w : World) (a b c : Int) : Blk (w.alloc (partC a b c)) w.heap.size 25 #[.int .i64 a, .int .i64 b, .int .i64 c] := Blk.new w _ _
set_option maxRecDepth 100000 in
set_option maxHeartbeats 2000000 in
theorem pgood_any (a b c : Int) (w : World) : Calls Tryd.prog 8 #[partV a b c] w fun e w' => e = .returned (.bool (goodQ a b c)) ∧ Below w.heap.size w w' := by
  have HA := Lib.hid (fun W => within_any a W)
  have HB1 := Lib.hid (fun W => within_any b W)
  have HC1 := Lib.hid (fun W => within_any c W)
  have HH := Lib.hid (fun W => hasBytes_any a b c W)
  have HB := Lib.hid ((Below.refl w.heap.size w).alloc (Nat.le_refl _) (partC a b c))
  have HK := Lib.hid (one_part w a b c)
  cases h1 : inB a
  · rw [h1] at HA
    have hg := Lib.hid (show goodQ a b c = false from by unfold goodQ; rw [h1]; rfl)
    rw [hg.out]
    clear hg
    go_enter Tryd.func8, Tryd.ntmps8
    go_wp2_with (first
      | (go_at_call 13; (with_reducible refine (HA.out _).mono ?_); rintro e w1 ⟨rfl, rfl⟩)
      | (go_at_call 13; (with_reducible refine (HB1.out _).mono ?_); rintro e w1 ⟨rfl, rfl⟩)
      | (go_at_call 13; (with_reducible refine (HC1.out _).mono ?_); rintro e w1 ⟨rfl, rfl⟩)
      | (go_at_call 20; (with_reducible refine (HH.out _).mono ?_); rintro e w1 ⟨rfl, b1⟩; replace HB := Lib.hid (below_on HB.out b1); have HK := Lib.hid (HK.out.below b1 HK.out.lt); have c0 := HK.out.cell 0; have c1 := HK.out.cell 1; have c2 := HK.out.cell 2; clear b1))
    go_ret
    exact ⟨rfl, HB.out⟩
  rw [h1] at HA
  cases h2 : inB b
  · rw [h2] at HB1
    have hg := Lib.hid (show goodQ a b c = false from by unfold goodQ; rw [h1, h2]; rfl)
    rw [hg.out]
    clear hg
    go_enter Tryd.func8, Tryd.ntmps8
    go_wp2_with (first
      | (go_at_call 13; (with_reducible refine (HA.out _).mono ?_); rintro e w1 ⟨rfl, rfl⟩)
      | (go_at_call 13; (with_reducible refine (HB1.out _).mono ?_); rintro e w1 ⟨rfl, rfl⟩)
      | (go_at_call 13; (with_reducible refine (HC1.out _).mono ?_); rintro e w1 ⟨rfl, rfl⟩)
      | (go_at_call 20; (with_reducible refine (HH.out _).mono ?_); rintro e w1 ⟨rfl, b1⟩; replace HB := Lib.hid (below_on HB.out b1); have HK := Lib.hid (HK.out.below b1 HK.out.lt); have c0 := HK.out.cell 0; have c1 := HK.out.cell 1; have c2 := HK.out.cell 2; clear b1))
    go_ret
    exact ⟨rfl, HB.out⟩
  rw [h2] at HB1
  cases h3 : inB c
  · rw [h3] at HC1
    have hg := Lib.hid (show goodQ a b c = false from by unfold goodQ; rw [h1, h2, h3]; rfl)
    rw [hg.out]
    clear hg
    go_enter Tryd.func8, Tryd.ntmps8
    go_wp2_with (first
      | (go_at_call 13; (with_reducible refine (HA.out _).mono ?_); rintro e w1 ⟨rfl, rfl⟩)
      | (go_at_call 13; (with_reducible refine (HB1.out _).mono ?_); rintro e w1 ⟨rfl, rfl⟩)
      | (go_at_call 13; (with_reducible refine (HC1.out _).mono ?_); rintro e w1 ⟨rfl, rfl⟩)
      | (go_at_call 20; (with_reducible refine (HH.out _).mono ?_); rintro e w1 ⟨rfl, b1⟩; replace HB := Lib.hid (below_on HB.out b1); have HK := Lib.hid (HK.out.below b1 HK.out.lt); have c0 := HK.out.cell 0; have c1 := HK.out.cell 1; have c2 := HK.out.cell 2; clear b1))
    go_ret
    exact ⟨rfl, HB.out⟩
  rw [h3] at HC1
  cases h4 : (a == -1)
  · rw [h4] at HH
    cases h6 : decide (a ≤ b)
    · have hg := Lib.hid (show goodQ a b c = false from by unfold goodQ; rw [h1, h2, h3, h4, h6]; rfl)
      rw [hg.out]
      clear hg
      go_enter Tryd.func8, Tryd.ntmps8
      go_wp2_with (first
      | (go_at_call 13; (with_reducible refine (HA.out _).mono ?_); rintro e w1 ⟨rfl, rfl⟩)
      | (go_at_call 13; (with_reducible refine (HB1.out _).mono ?_); rintro e w1 ⟨rfl, rfl⟩)
      | (go_at_call 13; (with_reducible refine (HC1.out _).mono ?_); rintro e w1 ⟨rfl, rfl⟩)
      | (go_at_call 20; (with_reducible refine (HH.out _).mono ?_); rintro e w1 ⟨rfl, b1⟩; replace HB := Lib.hid (below_on HB.out b1); have HK := Lib.hid (HK.out.below b1 HK.out.lt); have c0 := HK.out.cell 0; have c1 := HK.out.cell 1; have c2 := HK.out.cell 2; clear b1))
      go_ret
      exact ⟨rfl, HB.out⟩
    cases h7 : decide (b < c)
    · have hg := Lib.hid (show goodQ a b c = (c == -1) from by unfold goodQ; rw [h1, h2, h3, h4, h6, h7]; rfl)
      rw [hg.out]
      clear hg
      go_enter Tryd.func8, Tryd.ntmps8
      go_wp2_with (first
      | (go_at_call 13; (with_reducible refine (HA.out _).mono ?_); rintro e w1 ⟨rfl, rfl⟩)
      | (go_at_call 13; (with_reducible refine (HB1.out _).mono ?_); rintro e w1 ⟨rfl, rfl⟩)
      | (go_at_call 13; (with_reducible refine (HC1.out _).mono ?_); rintro e w1 ⟨rfl, rfl⟩)
      | (go_at_call 20; (with_reducible refine (HH.out _).mono ?_); rintro e w1 ⟨rfl, b1⟩; replace HB := Lib.hid (below_on HB.out b1); have HK := Lib.hid (HK.out.below b1 HK.out.lt); have c0 := HK.out.cell 0; have c1 := HK.out.cell 1; have c2 := HK.out.cell 2; clear b1))
      go_ret
      exact ⟨rfl, HB.out⟩
    · have hg := Lib.hid (show goodQ a b c = true from by unfold goodQ; rw [h1, h2, h3, h4, h6, h7]; rfl)
      rw [hg.out]
      clear hg
      go_enter Tryd.func8, Tryd.ntmps8
      go_wp2_with (first
      | (go_at_call 13; (with_reducible refine (HA.out _).mono ?_); rintro e w1 ⟨rfl, rfl⟩)
      | (go_at_call 13; (with_reducible refine (HB1.out _).mono ?_); rintro e w1 ⟨rfl, rfl⟩)
      | (go_at_call 13; (with_reducible refine (HC1.out _).mono ?_); rintro e w1 ⟨rfl, rfl⟩)
      | (go_at_call 20; (with_reducible refine (HH.out _).mono ?_); rintro e w1 ⟨rfl, b1⟩; replace HB := Lib.hid (below_on HB.out b1); have HK := Lib.hid (HK.out.below b1 HK.out.lt); have c0 := HK.out.cell 0; have c1 := HK.out.cell 1; have c2 := HK.out.cell 2; clear b1))
      go_ret
      exact ⟨rfl, HB.out⟩
  · rw [h4] at HH
    cases h5 : (b == -1)
    · have hg := Lib.hid (show goodQ a b c = false from by unfold goodQ; rw [h1, h2, h3, h4, h5]; rfl)
      rw [hg.out]
      clear hg
      go_enter Tryd.func8, Tryd.ntmps8
      go_wp2_with (first
      | (go_at_call 13; (with_reducible refine (HA.out _).mono ?_); rintro e w1 ⟨rfl, rfl⟩)
      | (go_at_call 13; (with_reducible refine (HB1.out _).mono ?_); rintro e w1 ⟨rfl, rfl⟩)
      | (go_at_call 13; (with_reducible refine (HC1.out _).mono ?_); rintro e w1 ⟨rfl, rfl⟩)
      | (go_at_call 20; (with_reducible refine (HH.out _).mono ?_); rintro e w1 ⟨rfl, b1⟩; replace HB := Lib.hid (below_on HB.out b1); have HK := Lib.hid (HK.out.below b1 HK.out.lt); have c0 := HK.out.cell 0; have c1 := HK.out.cell 1; have c2 := HK.out.cell 2; clear b1))
      go_ret
      exact ⟨rfl, HB.out⟩
    · have hg := Lib.hid (show goodQ a b c = !(c == -1) from by unfold goodQ; rw [h1, h2, h3, h4, h5]; rfl)
      rw [hg.out]
      clear hg
      go_enter Tryd.func8, Tryd.ntmps8
      go_wp2_with (first
      | (go_at_call 13; (with_reducible refine (HA.out _).mono ?_); rintro e w1 ⟨rfl, rfl⟩)
      | (go_at_call 13; (with_reducible refine (HB1.out _).mono ?_); rintro e w1 ⟨rfl, rfl⟩)
      | (go_at_call 13; (with_reducible refine (HC1.out _).mono ?_); rintro e w1 ⟨rfl, rfl⟩)
      | (go_at_call 20; (with_reducible refine (HH.out _).mono ?_); rintro e w1 ⟨rfl, b1⟩; replace HB := Lib.hid (below_on HB.out b1); have HK := Lib.hid (HK.out.below b1 HK.out.lt); have c0 := HK.out.cell 0; have c1 := HK.out.cell 1; have c2 := HK.out.cell 2; clear b1))
      go_ret
      exact ⟨rfl, HB.out⟩


/-- How many bytes come. -/
def lenQ (a b c : Int) : Int := cond (goodQ a b c && !(a == -1)) (b - a + 1) 0
/-- Whether a part is what is asked for. -/
def fitQ (x y a b c : Int) : Bool := goodQ a b c && !(a == -1) && cond (x == -1) ((b == c - 1) && decide (b - a + 1 ≤ y)) ((a == x) && ((y == -1) || decide (b ≤ y)))
/-- What came in, in boxes of a walk's own. -/
structure TwoB (B : Nat) (x y a b c : Int) (w : World) : Prop where
  r : Blk w B 23 #[.int .i64 x, .int .i64 y]
  p : Blk w (B + 1) 25 #[.int .i64 a, .int .i64 b, .int .i64 c]
theorem TwoB.new (w : World) (x y a b c : Int) : TwoB w.heap.size x y a b c ((w.alloc (rngC x y)).alloc (partC a b c)) :=
  ⟨(Blk.new w _ _).alloc _, by have := Blk.new (w.alloc (rngC x y)) 25 #[.int .i64 a, .int .i64 b, .int .i64 c]; simpa using this⟩
theorem TwoB.below {B : Nat} {x y a b c : Int} {w w' : World} (h : TwoB B x y a b c w) (hb : Below w.heap.size w w') : TwoB B x y a b c w' := ⟨h.r.below hb h.r.lt, h.p.below hb h.p.lt⟩
theorem TwoB.drew {B : Nat} {x y a b c : Int} {w : World} (h : TwoB B x y a b c w) : TwoB B x y a b c w.drew := ⟨h.r, h.p⟩
theorem TwoB.keep {B : Nat} {x y a b c : Int} {w : World} (h : TwoB B x y a b c w) : w.cell? ⟨B, 0, none⟩ = some (.int .i64 x) ∧ w.cell? ⟨B, 1, none⟩ = some (.int .i64 y) ∧ w.cell? ⟨B + 1, 0, none⟩ = some (.int .i64 a) ∧ w.cell? ⟨B + 1, 1, none⟩ = some (.int .i64 b) ∧ w.cell? ⟨B + 1, 2, none⟩ = some (.int .i64 c) :=
  ⟨h.r.cell 0, h.r.cell 1, h.p.cell 0, h.p.cell 1, h.p.cell 2⟩

set_option maxHeartbeats 1000000 in
theorem len_any (a b c : Int) (w : World) : Calls Tryd.prog 22 #[partV a b c] w fun e w' => e = .returned (.int .i64 (lenQ a b c)) ∧ Below w.heap.size w w' := by
  have HG := Lib.hid (fun W => pgood_any a b c W)
  have HB := Lib.hid ((Below.refl w.heap.size w).alloc (Nat.le_refl _) (partC a b c))
  have HK := Lib.hid (one_part w a b c)
  have HH := Lib.hid (fun W => hasBytes_any a b c W)
  cases h1 : goodQ a b c
  · rw [h1] at HG
    have hl := Lib.hid (show lenQ a b c = 0 from by unfold lenQ; rw [h1]; rfl)
    rw [hl.out]
    clear hl
    go_enter Tryd.func22, Tryd.ntmps22
    go_wp2_with (first
      | (go_at_call 8; (with_reducible refine (HG.out _).mono ?_); rintro e w1 ⟨rfl, b1⟩; replace HB := Lib.hid (below_on HB.out b1); have HK := Lib.hid (HK.out.below b1 HK.out.lt); have c0 := HK.out.cell 0; have c1 := HK.out.cell 1; have c2 := HK.out.cell 2; clear b1)
      | (go_at_call 20; (with_reducible refine (HH.out _).mono ?_); rintro e w1 ⟨rfl, b1⟩; replace HB := Lib.hid (below_on HB.out b1); have HK := Lib.hid (HK.out.below b1 HK.out.lt); have c0 := HK.out.cell 0; have c1 := HK.out.cell 1; have c2 := HK.out.cell 2; clear b1))
    go_ret
    exact ⟨rfl, HB.out⟩
  rw [h1] at HG
  cases h2 : (a == -1)
  · have ha : a ≠ -1 := by simpa using h2
    obtain ⟨⟨a1, a2⟩, ⟨b1, b2⟩, _⟩ := goodQ_in h1
    obtain ⟨ab, _⟩ := goodQ_bytes h1 ha
    have g1 : IntKind.i64.wrap (b - a) = b - a := IntWalk.i64_in _ (by omega)
    have g2 : IntKind.i64.wrap (b - a + 1) = b - a + 1 := IntWalk.i64_in _ (by omega)
    have hl := Lib.hid (show lenQ a b c = b - a + 1 from by unfold lenQ; rw [h1, h2]; rfl)
    rw [hl.out]
    rw [h2] at HH
    clear hl ab a1 a2 b1 b2 ha
    go_enter Tryd.func22, Tryd.ntmps22
    go_wp2_with (first
      | (go_at_call 8; (with_reducible refine (HG.out _).mono ?_); rintro e w1 ⟨rfl, b1⟩; replace HB := Lib.hid (below_on HB.out b1); have HK := Lib.hid (HK.out.below b1 HK.out.lt); have c0 := HK.out.cell 0; have c1 := HK.out.cell 1; have c2 := HK.out.cell 2; clear b1)
      | (go_at_call 20; (with_reducible refine (HH.out _).mono ?_); rintro e w1 ⟨rfl, b1⟩; replace HB := Lib.hid (below_on HB.out b1); have HK := Lib.hid (HK.out.below b1 HK.out.lt); have c0 := HK.out.cell 0; have c1 := HK.out.cell 1; have c2 := HK.out.cell 2; clear b1))
    go_ret
    exact ⟨rfl, HB.out⟩
  · have hl := Lib.hid (show lenQ a b c = 0 from by unfold lenQ; rw [h1, h2]; rfl)
    rw [hl.out]
    clear hl
    rw [h2] at HH
    go_enter Tryd.func22, Tryd.ntmps22
    go_wp2_with (first
      | (go_at_call 8; (with_reducible refine (HG.out _).mono ?_); rintro e w1 ⟨rfl, b1⟩; replace HB := Lib.hid (below_on HB.out b1); have HK := Lib.hid (HK.out.below b1 HK.out.lt); have c0 := HK.out.cell 0; have c1 := HK.out.cell 1; have c2 := HK.out.cell 2; clear b1)
      | (go_at_call 20; (with_reducible refine (HH.out _).mono ?_); rintro e w1 ⟨rfl, b1⟩; replace HB := Lib.hid (below_on HB.out b1); have HK := Lib.hid (HK.out.below b1 HK.out.lt); have c0 := HK.out.cell 0; have c1 := HK.out.cell 1; have c2 := HK.out.cell 2; clear b1))
    go_ret
    exact ⟨rfl, HB.out⟩

/-- What Parse answers. -/
def askV (o : Except (Nat × Int) (Int × Int)) : Ending :=
  match o with
  | .ok (x, y) => .returned (.tuple #[rngV x y, .int .i64 0])
  | .error (_, c) => .returned (.tuple #[rngV 0 0, .int .i64 c])
theorem askV_ok {o : Except (Nat × Int) (Int × Int)} {x y : Int} (h : o = .ok (x, y)) : askV o = .returned (.tuple #[rngV x y, .int .i64 0]) := by subst h; rfl
theorem askV_no {o : Except (Nat × Int) (Int × Int)} {a : Nat} {c : Int} (h : o = .error (a, c)) : askV o = .returned (.tuple #[rngV 0 0, .int .i64 c]) := by subst h; rfl

end Go.Proofs.YtaolclpjlkdkjaaDoor
namespace Go.Proofs.YtaolclpjlkdkjaaDoor

/-- What three texts of digits say. -/
def contN (x y z : Option Int) (at_ : Nat) : Except (Nat × Int) (Int × Int × Int) :=
  match x, y, z with
  | some a, some b, some c => if goodQ a b c = true then .ok (a, b, c) else .error (at_, 9)
  | _, _, _ => .error (0, 9)
/-- Behind what is said of the size. -/
def contE (s : ByteArray) (k : Nat) (x y z : ByteArray) : Except (Nat × Int) (Int × Int × Int) :=
  if scan tabB s k ≠ s.size then .error (scan tabB s k, 2) else contN (numP x) (numP y) (numP z) (scan tabB s k)
/-- From the second sign on. -/
def contS (s : ByteArray) (k : Nat) (none : Bool) (x y : ByteArray) : Except (Nat × Int) (Int × Int × Int) :=
  if atB s k 47 = false then .error (k, 2)
  else if none = false ∧ atB s (k + 1) 42 = true then contE s (k + 2) x y ⟨#[]⟩
  else if scan digB s (k + 1) = k + 1 then .error (k + 1, 2)
  else contE s (scan digB s (k + 1)) x y (s.extract (k + 1) (scan digB s (k + 1)))
/-- Behind the unit and what is blank, from a place on. -/
def contM (s : ByteArray) (c : Nat) : Except (Nat × Int) (Int × Int × Int) :=
  if atB s c 42 = true then contS s (c + 1) true ⟨#[]⟩ ⟨#[]⟩
  else if scan digB s c = c then .error (c, 2)
  else if atB s (scan digB s c) 45 = false then .error (scan digB s c, 2)
  else if scan digB s (scan digB s c + 1) = scan digB s c + 1 then .error (scan digB s c + 1, 2)
  else contS s (scan digB s (scan digB s c + 1)) false (s.extract c (scan digB s c)) (s.extract (scan digB s c + 1) (scan digB s (scan digB s c + 1)))
/-- What a text says that comes, or where it is thrown, and with what code. -/
def contO (s : ByteArray) : Except (Nat × Int) (Int × Int × Int) :=
  if isUnit s (aA s) = false then .error (aU s, 2)
  else if aB s = aU s then .error (aB s, 2)
  else contM s (aB s)

theorem contO_unit {s : ByteArray} (h : isUnit s (aA s) = false) : contO s = .error (aU s, 2) := by unfold contO; rw [if_pos h]
theorem contO_blank {s : ByteArray} (h : isUnit s (aA s) = true) (h2 : aB s = aU s) : contO s = .error (aB s, 2) := by unfold contO; rw [if_neg (by rw [h]; decide), if_pos h2]
theorem contO_more {s : ByteArray} (h : isUnit s (aA s) = true) (h2 : aB s ≠ aU s) : contO s = contM s (aB s) := by unfold contO; rw [if_neg (by rw [h]; decide), if_neg h2]
theorem contM_star {s : ByteArray} {c : Nat} (h : atB s c 42 = true) : contM s c = contS s (c + 1) true ⟨#[]⟩ ⟨#[]⟩ := by unfold contM; rw [if_pos h]
theorem contM_none {s : ByteArray} {c : Nat} (h : atB s c 42 = false) (h1 : scan digB s c = c) : contM s c = .error (c, 2) := by unfold contM; rw [if_neg (by rw [h]; decide), if_pos h1]
theorem contM_minus {s : ByteArray} {c : Nat} (h : atB s c 42 = false) (h1 : scan digB s c ≠ c) (h2 : atB s (scan digB s c) 45 = false) : contM s c = .error (scan digB s c, 2) := by
  unfold contM; rw [if_neg (by rw [h]; decide), if_neg h1, if_pos h2]
theorem contM_to {s : ByteArray} {c : Nat} (h : atB s c 42 = false) (h1 : scan digB s c ≠ c) (h2 : atB s (scan digB s c) 45 = true) (h3 : scan digB s (scan digB s c + 1) = scan digB s c + 1) : contM s c = .error (scan digB s c + 1, 2) := by
  unfold contM; rw [if_neg (by rw [h]; decide), if_neg h1, if_neg (by rw [h2]; decide), if_pos h3]
theorem contM_all {s : ByteArray} {c : Nat} (h : atB s c 42 = false) (h1 : scan digB s c ≠ c) (h2 : atB s (scan digB s c) 45 = true) (h3 : scan digB s (scan digB s c + 1) ≠ scan digB s c + 1) :
    contM s c = contS s (scan digB s (scan digB s c + 1)) false (s.extract c (scan digB s c)) (s.extract (scan digB s c + 1) (scan digB s (scan digB s c + 1))) := by
  unfold contM; rw [if_neg (by rw [h]; decide), if_neg h1, if_neg (by rw [h2]; decide), if_neg h3]
theorem contS_no {s x y : ByteArray} {k : Nat} {none : Bool} (h : atB s k 47 = false) : contS s k none x y = .error (k, 2) := by unfold contS; rw [if_pos h]
theorem contS_star {s x y : ByteArray} {k : Nat} (h : atB s k 47 = true) (h2 : atB s (k + 1) 42 = true) : contS s k false x y = contE s (k + 2) x y ⟨#[]⟩ := by
  unfold contS; rw [if_neg (by rw [h]; decide), if_pos ⟨rfl, h2⟩]
theorem contS_none {s x y : ByteArray} {k : Nat} {none : Bool} (h : atB s k 47 = true) (h2 : ¬(none = false ∧ atB s (k + 1) 42 = true)) (h3 : scan digB s (k + 1) = k + 1) : contS s k none x y = .error (k + 1, 2) := by
  unfold contS; rw [if_neg (by rw [h]; decide), if_neg h2, if_pos h3]
theorem contS_size {s x y : ByteArray} {k : Nat} {none : Bool} (h : atB s k 47 = true) (h2 : ¬(none = false ∧ atB s (k + 1) 42 = true)) (h3 : scan digB s (k + 1) ≠ k + 1) :
    contS s k none x y = contE s (scan digB s (k + 1)) x y (s.extract (k + 1) (scan digB s (k + 1))) := by
  unfold contS; rw [if_neg (by rw [h]; decide), if_neg h2, if_neg h3]
theorem contE_no {s x y z : ByteArray} {k : Nat} (h : scan tabB s k ≠ s.size) : contE s k x y z = .error (scan tabB s k, 2) := by unfold contE; rw [if_pos h]
theorem contE_all {s x y z : ByteArray} {k : Nat} (h : scan tabB s k = s.size) : contE s k x y z = contN (numP x) (numP y) (numP z) (scan tabB s k) := by unfold contE; rw [if_neg (by simpa using h)]

/-- What Content answers. -/
def contV (o : Except (Nat × Int) (Int × Int × Int)) : Ending :=
  match o with
  | .ok (x, y, z) => .returned (.tuple #[partV x y z, .int .i64 0])
  | .error (_, c) => .returned (.tuple #[partV 0 0 0, .int .i64 c])
theorem contV_ok {o : Except (Nat × Int) (Int × Int × Int)} {x y z : Int} (h : o = .ok (x, y, z)) : contV o = .returned (.tuple #[partV x y z, .int .i64 0]) := by subst h; rfl
theorem contV_no {o : Except (Nat × Int) (Int × Int × Int)} {a : Nat} {c : Int} (h : o = .error (a, c)) : contV o = .returned (.tuple #[partV 0 0 0, .int .i64 c]) := by subst h; rfl

end Go.Proofs.YtaolclpjlkdkjaaDoor
