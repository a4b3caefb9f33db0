/-
  What Collect of layer 4 does to a cursor, and what it answers. Conditions: the place lies in the text, which takes at most 2^47 bytes.
  What Same and Serial of package mime answer of types. Condition: texts are as long as a mebibyte, and parameters as many.
  What package status' functions on one number answer, and the document's; isBlank; what a reason is. Condition: a text is no longer than a length can be.
-/
import Derived.Test.YteeheehoaklnbaaZ6
import Derived.Test.YteeheehoaklnbaaZ1
import Derived.Test.YteeheehoaklnbaaZ2
import Derived.Test.YteeheehoaklnbaaZ5
import Derived.Deep.RegionWith
import Derived.Test.YteeheehoaklnbaaRows
import Derived.WalkKit
import Derived.KernelRfl
import Derived.WalkSpells
import Derived.WalkLawsBesides
import Derived.Laws.Externs
import Derived.Lib.Hide
import Derived.Lib.FrozenHead2
import Derived.Test.YteeheehoaklnbaaZ4
import Derived.StillTailTactics
import Derived.LoopTactic
import Derived.BigQuiet
import Derived.OneCell
import Derived.OwnWalk
import Derived.Laws.IdiomStrings
import Derived.Laws.OwnMore
import Derived.Laws.BytesArg
import Derived.Maps.OwnSet
import Derived.Maps.AppendAt
import Derived.Laws.AppendOwn
namespace Go.Proofs.Yteeheehoaklnbaa
open Go.RowKit

theorem Mv.chain {B : Nat} {r : List Nat} {a b c : World} (h : Mv B r a b) (k : Mv b.heap.size r b c) (hB : B ≤ a.heap.size) : Mv B r a c :=
  h.trans (k.mono (Nat.le_trans hB h.size) fun _ hx => .inl hx)
theorem Mv.put {cb k : Nat} {s : ByteArray} {w w' : World} {j : Nat} (h : Cur w cb s k) (he : ∃ m, w' = (w.drewN m).setCell ⟨cb, 1, none⟩ (.int .i64 j)) : Mv w.heap.size [cb] w w' ∧ Cur w' cb s j := by
  obtain ⟨m, rfl⟩ := he
  exact ⟨((Mv.refl _ _ _).drewN m).setCell (.inl (by simp)) _, Cur.set (Blk.drewN h m) j⟩
theorem Mv.idle {B : Nat} {r : List Nat} {w w' : World} (he : ∃ m, w' = w.drewN m) : Mv B r w w' := by
  obtain ⟨m, rfl⟩ := he
  exact (Mv.refl _ _ _).drewN m

end Go.Proofs.Yteeheehoaklnbaa
namespace Go.Proofs.Yteeheehoaklnbaa
open Go.RowKit Go.Maps

theorem below_on {a w w' : World} (h : Below a.heap.size a w) (hb : Below w.heap.size w w') : Below a.heap.size a w' := h.trans (hb.mono h.size)

end Go.Proofs.Yteeheehoaklnbaa
namespace Go.Proofs.Yteeheehoaklnbaa
open Go.RowKit

abbrev stV (a b c : Int) (r : ByteArray) : Value := .agg #[.int .i64 a, .int .i64 b, .int .i64 c, .string r]
abbrev stC (a b c : Int) (r : ByteArray) : Obj := .cells #[.int .i64 a, .int .i64 b, .int .i64 c, .string r] 28

set_option maxHeartbeats 400000 in
theorem class25_any (n : Int) (w : World) : Calls Try.prog 5 #[.int .i64 n] w fun e w' => e = .returned (.int .i64 (clsZ n)) ∧ w = w' := by
  obtain ⟨r, hr⟩ : ∃ r, r = clsZ n := ⟨_, rfl⟩
  rw [← hr]
  unfold clsZ at hr
  by_cases h : n < 100 ∨ 999 < n
  · rw [if_pos h] at hr
    subst hr
    rcases h with h | h
    · have h1 : decide (n < 100) = true := decide_eq_true h
      clear h
      go_enter Try.func5, Try.ntmps5
      go_wp2
      go_ret
      exact ⟨rfl, rfl⟩
    · have h1 : decide (n < 100) = false := decide_eq_false (by omega)
      have h2 : decide (999 < n) = true := decide_eq_true h
      clear h
      go_enter Try.func5, Try.ntmps5
      go_wp2
      go_ret
      exact ⟨rfl, rfl⟩
  · rw [if_neg h] at hr
    have h1 : decide (n < 100) = false := decide_eq_false (by omega)
    have h2 : decide (999 < n) = false := decide_eq_false (by omega)
    have gd : n.tdiv 100 = r := by rw [hr]; exact Int.tdiv_eq_ediv_of_nonneg (by omega)
    have g1 : 0 ≤ r := by omega
    have g2 : r ≤ 9 := by omega
    clear h hr
    go_enter Try.func5, Try.ntmps5
    go_wp2
    go_ret
    exact ⟨rfl, rfl⟩

set_option maxHeartbeats 400000 in
theorem rclass25_any (n : Int) (w : World) : Calls Try.prog 6 #[.int .i64 n] w fun e w' => e = .returned (.int .i64 (clsZ n)) ∧ w = w' := by
  obtain ⟨r, hr⟩ : ∃ r, r = clsZ n := ⟨_, rfl⟩
  rw [← hr]
  unfold clsZ at hr
  by_cases h : n < 100 ∨ 999 < n
  · rw [if_pos h] at hr
    subst hr
    rcases h with h | h
    · have h1 : decide (99 < n) = false := decide_eq_false (by omega)
      clear h
      go_enter Try.func6, Try.ntmps6
      go_wp2
      go_ret
      exact ⟨rfl, rfl⟩
    · have h1 : decide (99 < n) = true := decide_eq_true (by omega)
      have h2 : decide (n < 1000) = false := decide_eq_false (by omega)
      clear h
      go_enter Try.func6, Try.ntmps6
      go_wp2
      go_ret
      exact ⟨rfl, rfl⟩
  · rw [if_neg h] at hr
    have h1 : decide (99 < n) = true := decide_eq_true (by omega)
    have h2 : decide (n < 1000) = true := decide_eq_true (by omega)
    have gd : n.tdiv 100 = r := by rw [hr]; exact Int.tdiv_eq_ediv_of_nonneg (by omega)
    have g1 : 0 ≤ r := by omega
    have g2 : r ≤ 9 := by omega
    clear h hr
    go_enter Try.func6, Try.ntmps6
    go_wp2
    go_ret
    exact ⟨rfl, rfl⟩

set_option maxHeartbeats 400000 in
theorem ok25_any (n : Int) (w : World) : Calls Try.prog 7 #[.int .i64 n] w fun e w' => e = .returned (.bool (clsZ n == 2)) ∧ w = w' := by
  have HC := Lib.hid (class25_any n w)
  generalize clsZ n = c at *
  go_enter Try.func7, Try.ntmps7
  go_wp2_with (go_at_call 5; (with_reducible refine HC.out.mono ?_); rintro e w1 ⟨rfl, rfl⟩)
  go_ret
  exact ⟨rfl, rfl⟩

set_option maxHeartbeats 400000 in
theorem partial25_any (n : Int) (w : World) : Calls Try.prog 12 #[.int .i64 n] w fun e w' => e = .returned (.bool (n == 206)) ∧ w = w' := by
  go_enter Try.func12, Try.ntmps12
  go_wp2
  go_ret
  exact ⟨rfl, rfl⟩

/-- Whether a number is one of five. -/
def ofB (l : List Int) (n : Int) : Bool := l.any fun k => k == n
abbrev nulL : List Int := [101, 103, 204, 205, 304]
abbrev redL : List Int := [301, 302, 303, 307, 308]

set_option maxHeartbeats 1000000 in
theorem null25_any (n : Int) (w : World) : Calls Try.prog 8 #[.int .i64 n] w fun e w' => e = .returned (.bool (ofB nulL n)) ∧ w = w' := by
  go_enter Try.func8, Try.ntmps8
  go_wp2
  all_goals
    go_ret
    refine ⟨?_, rfl⟩
    first | (simp_all [ofB]; done) | (simp_all [ofB]; omega)
set_option maxHeartbeats 1000000 in
theorem redirect25_any (n : Int) (w : World) : Calls Try.prog 10 #[.int .i64 n] w fun e w' => e = .returned (.bool (ofB redL n)) ∧ w = w' := by
  go_enter Try.func10, Try.ntmps10
  go_wp2
  all_goals
    go_ret
    refine ⟨?_, rfl⟩
    first | (simp_all [ofB]; done) | (simp_all [ofB]; omega)

def worW (n : Int) : ByteArray := if clsZ n = 1 then ⟨#[105, 110, 102, 111, 114, 109, 97, 116, 105, 111, 110, 97, 108]⟩ else if clsZ n = 2 then ⟨#[111, 107]⟩ else if clsZ n = 3 then ⟨#[114, 101, 100, 105, 114, 101, 99, 116]⟩ else if clsZ n = 4 then ⟨#[99, 108, 105, 101, 110, 116]⟩ else if clsZ n = 5 then ⟨#[115, 101, 114, 118, 101, 114]⟩ else ⟨#[111, 116, 104, 101, 114]⟩
theorem cls_ten (n : Int) : clsZ n = 0 ∨ clsZ n = 1 ∨ clsZ n = 2 ∨ clsZ n = 3 ∨ clsZ n = 4 ∨ clsZ n = 5 ∨ clsZ n = 6 ∨ clsZ n = 7 ∨ clsZ n = 8 ∨ clsZ n = 9 := by
  have := clsZ_range n
  omega

set_option maxHeartbeats 1000000 in
theorem word25_any (n : Int) (w : World) : Calls Try.prog 13 #[.int .i64 n] w fun e w' => e = .returned (.string (worW n)) ∧ w = w' := by
  have HC := Lib.hid (class25_any n w)
  unfold worW
  have HT := cls_ten n
  generalize clsZ n = c at *
  rcases HT with rfl | rfl | rfl | rfl | rfl | rfl | rfl | rfl | rfl | rfl
  all_goals
    go_enter Try.func13, Try.ntmps13
    go_wp2_with (go_at_call 5; (with_reducible refine HC.out.mono ?_); rintro e w1 ⟨rfl, rfl⟩)
    go_ret
    exact ⟨rfl, rfl⟩
set_option maxHeartbeats 1000000 in
theorem rword25_any (n : Int) (w : World) : Calls Try.prog 14 #[.int .i64 n] w fun e w' => e = .returned (.string (worW n)) ∧ Below w.heap.size w w' := by
  have HC := Lib.hid (fun W => rclass25_any n W)
  unfold worW
  have HT := cls_ten n
  generalize clsZ n = c at *
  rcases HT with rfl | rfl | rfl | rfl | rfl | rfl | rfl | rfl | rfl | rfl
  all_goals
    go_enter Try.func14, Try.ntmps14
    go_wp2_with (go_at_call 6; (with_reducible refine (HC.out _).mono ?_); rintro e w1 ⟨rfl, rfl⟩)
    go_ret
    exact ⟨rfl, (Below.refl w.heap.size w).alloc (Nat.le_refl _) _⟩

set_option maxHeartbeats 400000 in
theorem isBlank_any (b : UInt8) (w : World) : Calls Try.prog 36 #[.int .u8 (b.toNat : Int)] w fun e w' => e = .returned (.bool (blaB b)) ∧ w = w' := by
  have e : blaB b = ((b.toNat : Int) == 32) := by
    unfold blaB
    rw [Bool.eq_iff_iff, beq_iff_eq, beq_iff_eq]
    omega
  rw [e]
  clear e
  go_enter Try.func36, Try.ntmps36
  go_wp2
  go_ret
  exact ⟨rfl, rfl⟩

set_option maxHeartbeats 400000 in
theorem version_any (n : Int) (w : World) : Calls Try.prog 55 #[.int .i64 n] w fun e w' => e = .returned (.bool (verB n)) ∧ w = w' := by
  unfold verB
  cases h : decide (0 ≤ n) <;>
  · go_enter Try.func55, Try.ntmps55
    go_wp2
    go_ret
    exact ⟨rfl, rfl⟩

set_option maxHeartbeats 400000 in
theorem beginsTab_any (r : ByteArray) (w : World) (_hs : r.size ≤ 9223372036854775807) : Calls Try.prog 64 #[.string r] w fun e w' => e = .returned (.bool (bgtB r)) ∧ w = w' := by
  unfold bgtB
  cases h : (r.toList == [])
  · have hz : 0 < r.size := by
      rcases Nat.eq_zero_or_pos r.size with h0 | h0
      · have : r.toList = [] := List.length_eq_zero_iff.1 (by rw [toList_size]; exact h0)
        rw [this] at h
        cases h
      · exact h0
    rw [getElem!_pos r 0 hz]
    have HT := Lib.hid (tab_any r[0] w)
    go_enter Try.func64, Try.ntmps64
    go_wp2_with (go_at_call 38; (with_reducible refine HT.out.mono ?_); rintro e w1 ⟨rfl, rfl⟩)
    go_ret
    exact ⟨rfl, rfl⟩
  · go_enter Try.func64, Try.ntmps64
    go_wp2
    go_ret
    exact ⟨rfl, rfl⟩

end Go.Proofs.Yteeheehoaklnbaa
