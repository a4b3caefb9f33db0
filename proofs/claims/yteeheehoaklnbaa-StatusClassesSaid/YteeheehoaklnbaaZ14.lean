/-
  What Cut answers: the first n bytes. Condition: the text is no longer than a length can be.
  What Few of layer 10's statements answers. Condition: the texts are as long as a length can be; what an argument's reading gives.
  The laws StatusClasses and StatusReads. No condition.
-/
import Derived.Test.YteeheehoaklnbaaRows
import Derived.WalkKit
import Derived.WalkSpells
import Derived.WalkLawsBesides
import Derived.Test.YteeheehoaklnbaaZ7
import Derived.Deep.AppendLies
import Derived.Deep.RegionHeld3
import Derived.Deep.RegionWith
import Derived.Deep.DeepCutAuto
import Derived.Test.YteeheehoaklnbaaZ13
namespace Go.Proofs.Yteeheehoaklnbaa
open Go.RowKit

/-- The first n bytes. -/
def cutB (s : ByteArray) (n : Nat) : ByteArray := if n < s.size then s.extract 0 n else s
theorem cutB_size (s : ByteArray) (n : Nat) : (cutB s n).size ≤ n := by
  unfold cutB
  split
  · simp; omega
  · omega

set_option maxHeartbeats 400000 in
theorem cut_any (s : ByteArray) (n : Nat) (w : World) (_hs : s.size ≤ 9223372036854775807) :
    Calls Try.prog 16 #[.string s, .int .i64 n] w fun e w' => e = .returned (.string (cutB s n)) ∧ w = w' := by
  by_cases h : n < s.size
  · have hx : cutB s n = s.extract 0 n := by simp [cutB, h]
    have h1 : decide ((n : Int) < (s.size : Int)) = true := by simpa using h
    have h2 : decide (n < s.size) = true := by simpa using h
    rw [hx]
    clear hx
    go_enter Try.func16, Try.ntmps16
    go_wp2
    go_ret
    exact ⟨rfl, rfl⟩
  · have hx : cutB s n = s := by simp [cutB, h]
    have h1 : decide ((n : Int) < (s.size : Int)) = false := by simp; omega
    have h2 : decide (n < s.size) = false := by simpa using h
    rw [hx]
    clear hx
    go_enter Try.func16, Try.ntmps16
    go_wp2
    go_ret
    exact ⟨rfl, rfl⟩

end Go.Proofs.Yteeheehoaklnbaa
namespace Go.Proofs.Yteeheehoaklnbaa
open Go.RowKit

theorem set_cell {w : World} {p q : Addr} {u v : Value} (h : w.cell? p = some v) (hne : p.block ≠ q.block) : (w.setCell q u).cell? p = some v := (World.cell?_of_block (w := w) (Below.heap_setCell w q u p.block hne)).trans h
theorem cutB_id {s : ByteArray} {n : Nat} (h : s.size ≤ n) : cutB s n = s := by unfold cutB; rw [if_neg (by omega)]
end Go.Proofs.Yteeheehoaklnbaa
namespace Go.Proofs.Yteeheehoaklnbaa
open Go.RowKit

theorem cls_two (n : Int) : (clsZ n == 2) = (decide (200 ≤ n) && decide (n < 300)) := by
  unfold clsZ
  rw [Bool.eq_iff_iff, beq_iff_eq, Bool.and_eq_true, decide_eq_true_eq, decide_eq_true_eq]
  split <;> omega

set_option maxRecDepth 100000 in
set_option maxHeartbeats 4000000 in
theorem classes_any (n : Int) (w : World) : Calls Try.prog 3 #[.int .i64 n] w fun e w' => e = .returned (.bool true) ∧ Below w.heap.size w w' := by
  have HLV := Lib.hid lives25_any
  have H1 := Lib.hid (fun W => class25_any n W)
  have H2 := Lib.hid (fun W => rclass25_any n W)
  have H3 := Lib.hid (fun W => ok25_any n W)
  have H4 := Lib.hid (fun W => null25_any n W)
  have H5 := Lib.hid (fun W => rnull25_any n W)
  have H6 := Lib.hid (fun W => redirect25_any n W)
  have H7 := Lib.hid (fun W => rredirect25_any n W)
  have H8 := Lib.hid (fun W => partial25_any n W)
  have H9 := Lib.hid (fun W => word25_any n W)
  have HA := Lib.hid (fun W => rword25_any n W)
  rw [cls_two] at H3
  have HB := Lib.hid (Below.refl w.heap.size w)
  generalize clsZ n = c at *
  generalize ofB nulL n = x at *
  generalize ofB redL n = y at *
  generalize worW n = z at *
  cases g1 : decide (200 ≤ n) <;> rw [g1] at H3
  all_goals
    cases g2 : decide (n < 300) <;> rw [g2] at H3
  all_goals
    have HB := HB
    go_enter Try.func3, Try.ntmps3
    go_wp2_with (first
      | (go_at_call 5; (with_reducible refine (H1.out _).mono ?_); rintro e w1 ⟨rfl, rfl⟩)
      | (go_at_call 6; (with_reducible refine (H2.out _).mono ?_); rintro e w1 ⟨rfl, rfl⟩)
      | (go_at_call 7; (with_reducible refine (H3.out _).mono ?_); rintro e w1 ⟨rfl, rfl⟩)
      | (go_at_call 8; (with_reducible refine (H4.out _).mono ?_); rintro e w1 ⟨rfl, rfl⟩)
      | (go_at_call 9; (with_reducible refine (H5.out _).mono ?_); rintro e w1 ⟨rfl, b1⟩; replace HB := Lib.hid (below_on HB.out b1); clear b1)
      | (go_at_call 10; (with_reducible refine (H6.out _).mono ?_); rintro e w1 ⟨rfl, rfl⟩)
      | (go_at_call 11; (with_reducible refine (H7.out _).mono ?_); rintro e w1 ⟨rfl, b1⟩; replace HB := Lib.hid (below_on HB.out b1); clear b1)
      | (go_at_call 12; (with_reducible refine (H8.out _).mono ?_); rintro e w1 ⟨rfl, rfl⟩)
      | (go_at_call 13; (with_reducible refine (H9.out _).mono ?_); rintro e w1 ⟨rfl, rfl⟩)
      | (go_at_call 14; (with_reducible refine (HA.out _).mono ?_); rintro e w1 ⟨rfl, b1⟩; replace HB := Lib.hid (below_on HB.out b1); clear b1)
      | (go_at_call 15; (with_reducible refine (HLV.out _).mono ?_); rintro e w1 ⟨rfl, b1⟩; replace HB := Lib.hid (below_on HB.out b1); clear b1))
    go_ret
    exact ⟨rfl, HB.out⟩

set_option maxRecDepth 100000 in
set_option maxHeartbeats 4000000 in
theorem sreads_walk (s x r : ByteArray) (a b c e0 : Int) (w : World)
    (HC : Hid (∀ W, Calls Try.prog 16 #[.string s, .int .i64 100] W fun e w' => e = .returned (.string x) ∧ W = w'))
    (HP : Hid (∀ W, Calls Try.prog 17 #[.string x] W fun e w' => e = .returned (.tuple #[stV a b c r, .int .i64 e0]) ∧ Below W.heap.size W w'))
    (HR : Hid (∀ W, Calls Try.prog 18 #[.string x] W fun e w' => e = .returned (.tuple #[stV a b c r, .int .i64 e0]) ∧ Below W.heap.size W w')) :
    Calls Try.prog 4 #[.string s] w fun e w' => e = .returned (.bool true) ∧ Below w.heap.size w w' := by
  have HLV := Lib.hid lives25_any
  go_enter Try.func4, Try.ntmps4
  go_wp2_with (go_at_call 16; (with_reducible refine (HC.out _).mono ?_); rintro e w1 ⟨rfl, rfl⟩)
  refine (HP.out _).mono ?_
  rintro e w1 ⟨rfl, b1⟩
  have HB1 := Lib.hid (show Below w.heap.size w (w1.alloc (stC a b c r)) from b1.alloc b1.size _)
  have HZ1 := Lib.hid (Blk.new w1 28 #[.int .i64 a, .int .i64 b, .int .i64 c, .string r])
  clear b1 HP HC
  go_wp2_with fail
  refine (HR.out _).mono ?_
  rintro e w2 ⟨rfl, b2⟩
  obtain ⟨w3, hw3⟩ : ∃ w3, w3 = w2.alloc (stC a b c r) := ⟨_, rfl⟩
  have HB2 := Lib.hid (show Below w.heap.size w w3 from by rw [hw3]; exact (below_on HB1.out b2).alloc (below_on HB1.out b2).size _)
  have HZ2 := Lib.hid (show Blk w3 w2.heap.size 28 #[.int .i64 a, .int .i64 b, .int .i64 c, .string r] from by rw [hw3]; exact Blk.new w2 _ _)
  replace HZ1 := Lib.hid (show Blk w3 w1.heap.size _ _ from by rw [hw3]; exact (HZ1.out.below b2 HZ1.out.lt).alloc _)
  clear b2 HR HB1
  go_upto_region 4 with fail
  rw [← hw3]
  clear hw3
  have c0 := HZ1.out.cell 0
  have c1 := HZ1.out.cell 1
  have c2 := HZ1.out.cell 2
  have c3 := HZ1.out.cell 3
  have d0 := HZ2.out.cell 0
  have d1 := HZ2.out.cell 1
  have d2 := HZ2.out.cell 2
  have d3 := HZ2.out.cell 3
  go_wp2_with fail
  refine (HLV.out _).mono ?_
  rintro e w6 ⟨rfl, b6⟩
  have HB6 := Lib.hid (below_on HB2.out b6)
  clear b6
  go_wp2
  go_ret
  exact ⟨rfl, HB6.out⟩

theorem sreads_any (s : ByteArray) (w : World) (hs : s.size ≤ 9223372036854775807) :
    Calls Try.prog 4 #[.string s] w fun e w' => e = .returned (.bool true) ∧ Below w.heap.size w w' := by
  have hx : (cutB s 100).size ≤ 100 := cutB_size s 100
  obtain ⟨a, b, c, r, e, h1⟩ := lineV_some (linO (cutP tabB (cutB s 100)))
  refine sreads_walk s (cutB s 100) r a b c e w (Lib.hid fun W => cut_any s 100 W hs) (Lib.hid fun W => ?_) (Lib.hid fun W => ?_)
  · rw [← h1]; exact sline_any _ W (by omega)
  · rw [← h1]; exact rline25_any _ W (by omega)

end Go.Proofs.Yteeheehoaklnbaa
