/-
  The law MaskMatches returns true for any text, pattern and text behind. Condition: texts are as long as a length can be.
-/
import Derived.Test.YtjkafeoenghdeaaMk8
import Derived.Test.YtjkafeoenghdeaaCls
import Derived.RegionTactic
import Derived.Deep.RegionWith
import Derived.Deep.DeepCutAuto
namespace Go.Proofs.Ytjkafeoenghdeaa
open Go.RowKit

/-- The worlds in which a pattern lies in the block that came first. -/
def PatAt (w : World) (q : Pat) (W : World) : Prop := Below w.heap.size w W ∧ Blk W w.heap.size 23 #[.string q.b, .string q.m, .string q.k, .string q.t]
theorem PatAt.drew {w W : World} {q : Pat} (h : PatAt w q W) : PatAt w q W.drew := ⟨h.1.drew, h.2⟩
theorem PatAt.step {w W W' : World} {q : Pat} (h : PatAt w q W) (hb : Below W.heap.size W W') : PatAt w q W' := ⟨h.1.trans (hb.mono h.1.size), h.2.below hb h.2.lt⟩
theorem PatAt.next {w : World} {q : Pat} {x : Wld (PatAt w q)} {W' : World} (hb : Below x.val.heap.size x.val W') : PatAt w q W' := x.ok.step hb

set_option maxHeartbeats 4000000 in
set_option maxRecDepth 100000 in
theorem matches_none (s more u v : ByteArray) (p q : Pat) (n : Nat) (w : World) (_hu : u.size ≤ 150) (_hv : v.size ≤ 100)
    (HCS : Hid (∀ W, Calls Try.prog 6 #[.string s, .int .i64 150] W fun e w' => e = .returned (.string u) ∧ W = w'))
    (HCM : Hid (∀ W, Calls Try.prog 6 #[.string more, .int .i64 100] W fun e w' => e = .returned (.string v) ∧ W = w'))
    (HFW : Hid (∀ W, Calls Try.prog 7 #[patV p.b p.m p.k p.t] W fun e w' => e = .returned (patV q.b q.m q.k q.t) ∧ Below W.heap.size W w'))
    (HMT : Hid (∀ W, Calls Try.prog 8 #[.string u, patV q.b q.m q.k q.t] W fun e w' => e = .returned (.bool false) ∧ Below W.heap.size W w'))
    (HOP : Hid (∀ W, Calls Try.prog 9 #[.string u, patV q.b q.m q.k q.t] W fun e w' => e = .returned (.bool false) ∧ Below W.heap.size W w'))
    (HGD : Hid (∀ W, Calls Try.prog 10 #[patV q.b q.m q.k q.t] W fun e w' => e = .returned (.bool false) ∧ Below W.heap.size W w'))
    (HRG : Hid (∀ W, Calls Try.prog 11 #[patV q.b q.m q.k q.t] W fun e w' => e = .returned (.bool false) ∧ Below W.heap.size W w'))
    (HBG : Hid (∀ W, Calls Try.prog 12 #[.string u, patV q.b q.m q.k q.t] W fun e w' => e = .returned (.int .i64 (n : Nat)) ∧ Below W.heap.size W w'))
    (HRB : Hid (∀ W, Calls Try.prog 13 #[.string u, patV q.b q.m q.k q.t] W fun e w' => e = .returned (.int .i64 (n : Nat)) ∧ Below W.heap.size W w'))
    (HRM : Hid (∀ W, Calls Try.prog 14 #[.string u, patV q.b q.m q.k q.t] W fun e w' => e = .returned (.bool false) ∧ Below W.heap.size W w'))
    (HLV : Hid (∀ W, Calls Try.prog 15 #[] W fun e w' => e = .returned (.bool true) ∧ Below W.heap.size W w')) :
    Calls Try.prog 3 #[.string s, patV p.b p.m p.k p.t, .string more] w fun e w' => e = .returned (.bool true) ∧ Below w.heap.size w w' := by
  obtain ⟨w0, hw0⟩ : ∃ w0, w0 = w.alloc (.cells #[.string p.b, .string p.m, .string p.k, .string p.t] 23) := ⟨_, rfl⟩
  have HB0 := Lib.hid (show Below w.heap.size w w0 from by rw [hw0]; exact (Below.refl w.heap.size w).alloc (Nat.le_refl _) _)
  have HP0 := Lib.hid (show Blk w0 w.heap.size 23 #[.string p.b, .string p.m, .string p.k, .string p.t] from by rw [hw0]; exact Blk.new _ _ _)
  have HZ := Lib.hid (show w.heap.size < w0.heap.size from HP0.out.lt)
  have c0 := HP0.out.cell 0
  have c1 := HP0.out.cell 1
  have c2 := HP0.out.cell 2
  have c3 := HP0.out.cell 3
  go_enter Try.func3, Try.ntmps3
  go_wp2_with fail
  rw [← hw0]
  clear hw0
  go_cut [0, 2] from 11 to 16 (fun s0 s2 wx => s0 = .string u ∧ s2 = .string v ∧ Blk wx w.heap.size 23 #[.string q.b, .string q.m, .string q.k, .string q.t] ∧ Below w.heap.size w wx)
  case first =>
    go_region_with (first
      | (go_at_call 6; (with_reducible refine (HCS.out _).mono ?_); rintro e w1 ⟨rfl, rfl⟩)
      | (go_at_call 6; (with_reducible refine (HCM.out _).mono ?_); rintro e w1 ⟨rfl, rfl⟩)
      | (go_at_call 7; (with_reducible refine (HFW.out _).mono ?_); rintro e w1 ⟨rfl, hb1⟩; have HP1 := Lib.hid (Blk.below (w := w0.drew) HP0.out hb1 HZ.out); have HB1 := Lib.hid (HB0.out.drew.trans (hb1.mono (B' := w.heap.size) HB0.out.size)); clear c0 c1 c2 c3 hb1; have c0 := HP1.out.cell 0; have c1 := HP1.out.cell 1; have c2 := HP1.out.cell 2; have c3 := HP1.out.cell 3; have z0 := HP1.out.frozen 0; have z1 := HP1.out.frozen 1; have z2 := HP1.out.frozen 2; have z3 := HP1.out.frozen 3))
    all_goals
      go_wp2_with fail
      go_meet
      exact ⟨rfl, rfl, (((HP1.out.set_ 0 _).set_ 1 _).set_ 2 _).set_ 3 _, (((HB1.out.setCell (by simp) _).setCell (by simp) _).setCell (by simp) _).setCell (by simp) _⟩
  case rest =>
    obtain ⟨rfl, rfl, hP1, hB1⟩ := hcut
    have HX1 := Lib.hid (show PatAt w q _ from ⟨hB1, hP1⟩)
    have inst : Nonempty (Wld (PatAt w q)) := ⟨⟨_, HX1.out⟩⟩
    clear hP1 hB1 HB0 HP0 HZ c0 c1 c2 c3 HCS HCM HFW
    have f0 : ∀ x : Wld (PatAt w q), x.val.cell? ⟨w.heap.size, 0, none⟩ = some (.string q.b) := fun x => x.ok.2.cell 0
    have f1 : ∀ x : Wld (PatAt w q), x.val.cell? ⟨w.heap.size, 1, none⟩ = some (.string q.m) := fun x => x.ok.2.cell 1
    have f2 : ∀ x : Wld (PatAt w q), x.val.cell? ⟨w.heap.size, 2, none⟩ = some (.string q.k) := fun x => x.ok.2.cell 2
    have f3 : ∀ x : Wld (PatAt w q), x.val.cell? ⟨w.heap.size, 3, none⟩ = some (.string q.t) := fun x => x.ok.2.cell 3
    go_wp2_with fail
    refine wp_region_class (PatAt w q) (by kernel_rfl) (by kernel_rfl) HX1.out.drew ?_
    repeat (go_big_quiet_step (first
      | (go_at_call 8; exact Calls.cls (HMT.out _) fun _ h => PatAt.next h)
      | (go_at_call 9; exact Calls.cls (HOP.out _) fun _ h => PatAt.next h)))
    refine wpQuiet_nil ?_
    intro w3 hX3
    have HX3 := Lib.hid hX3
    clear hX3 HX1
    go_wp2_with fail
    refine wp_region_class (PatAt w q) (by kernel_rfl) (by kernel_rfl) HX3.out.drew ?_
    repeat (go_big_quiet_step (first
      | (go_at_call 10; exact Calls.cls (HGD.out _) fun _ h => PatAt.next h)
      | (go_at_call 11; exact Calls.cls (HRG.out _) fun _ h => PatAt.next h)
      | (go_at_call 12; exact Calls.cls (HBG.out _) fun _ h => PatAt.next h)
      | (go_at_call 13; exact Calls.cls (HRB.out _) fun _ h => PatAt.next h)
      | (go_at_call 14; exact Calls.cls (HRM.out _) fun _ h => PatAt.next h)))
    refine wpQuiet_nil ?_
    intro w4 hX4
    have HX4 := Lib.hid hX4
    clear f0 f1 f2 f3 inst HX3 HMT HOP HGD HBG HRB HRM
    have c0 := hX4.2.cell 0
    have c1 := hX4.2.cell 1
    have c2 := hX4.2.cell 2
    have c3 := hX4.2.cell 3
    clear hX4
    go_wp2_with (first
      | (go_at_call 11; (with_reducible refine (HRG.out _).mono ?_); rintro e w5 ⟨rfl, hb5⟩; have HX5 := Lib.hid (HX4.out.step hb5); clear hb5 c0 c1 c2 c3 HX4; have c0 := HX5.out.2.cell 0; have c1 := HX5.out.2.cell 1; have c2 := HX5.out.2.cell 2; have c3 := HX5.out.2.cell 3)
      | (go_at_call 16; (with_reducible refine (HIS.out _).mono ?_); rintro e w6 ⟨rfl, hb6⟩; have HX6 := Lib.hid (HX5.out.step hb6); clear hb6 c0 c1 c2 c3 HX5; have c0 := HX6.out.2.cell 0; have c1 := HX6.out.2.cell 1; have c2 := HX6.out.2.cell 2; have c3 := HX6.out.2.cell 3)
      | (go_at_call 8; (with_reducible refine (HMV.out _).mono ?_); rintro e w7 ⟨rfl, hb7⟩; have HX7 := Lib.hid (HX6.out.step hb7); clear hb7 c0 c1 c2 c3 HX6; have c0 := HX7.out.2.cell 0; have c1 := HX7.out.2.cell 1; have c2 := HX7.out.2.cell 2; have c3 := HX7.out.2.cell 3)
      | (go_at_call 15; (with_reducible refine (HLV.out _).mono ?_); rintro e w9 ⟨rfl, hb9⟩; have HB9 := Lib.hid hb9; clear hb9))
    go_ret
    exact ⟨rfl, HX5.out.1.trans (HB9.out.mono HX5.out.1.size)⟩

set_option maxHeartbeats 4000000 in
set_option maxRecDepth 100000 in
theorem matches_not (s more u v : ByteArray) (p q : Pat) (n : Nat) (w : World) (_hu : u.size ≤ 150) (_hv : v.size ≤ 100)
    (HCS : Hid (∀ W, Calls Try.prog 6 #[.string s, .int .i64 150] W fun e w' => e = .returned (.string u) ∧ W = w'))
    (HCM : Hid (∀ W, Calls Try.prog 6 #[.string more, .int .i64 100] W fun e w' => e = .returned (.string v) ∧ W = w'))
    (HFW : Hid (∀ W, Calls Try.prog 7 #[patV p.b p.m p.k p.t] W fun e w' => e = .returned (patV q.b q.m q.k q.t) ∧ Below W.heap.size W w'))
    (HMT : Hid (∀ W, Calls Try.prog 8 #[.string u, patV q.b q.m q.k q.t] W fun e w' => e = .returned (.bool false) ∧ Below W.heap.size W w'))
    (HOP : Hid (∀ W, Calls Try.prog 9 #[.string u, patV q.b q.m q.k q.t] W fun e w' => e = .returned (.bool false) ∧ Below W.heap.size W w'))
    (HGD : Hid (∀ W, Calls Try.prog 10 #[patV q.b q.m q.k q.t] W fun e w' => e = .returned (.bool true) ∧ Below W.heap.size W w'))
    (HRG : Hid (∀ W, Calls Try.prog 11 #[patV q.b q.m q.k q.t] W fun e w' => e = .returned (.bool true) ∧ Below W.heap.size W w'))
    (HBG : Hid (∀ W, Calls Try.prog 12 #[.string u, patV q.b q.m q.k q.t] W fun e w' => e = .returned (.int .i64 (n : Nat)) ∧ Below W.heap.size W w'))
    (HRB : Hid (∀ W, Calls Try.prog 13 #[.string u, patV q.b q.m q.k q.t] W fun e w' => e = .returned (.int .i64 (n : Nat)) ∧ Below W.heap.size W w'))
    (HRM : Hid (∀ W, Calls Try.prog 14 #[.string u, patV q.b q.m q.k q.t] W fun e w' => e = .returned (.bool false) ∧ Below W.heap.size W w'))
    (HIS : Hid (∀ W, Calls Try.prog 16 #[.string u, patV q.b q.m q.k q.t] W fun e w' => e = .returned (.tuple #[.bool false, .bool false]) ∧ Below W.heap.size W w'))
    (HMV : Hid (∀ W, Calls Try.prog 8 #[.string (u ++ v), patV q.b q.m q.k q.t] W fun e w' => e = .returned (.bool false) ∧ Below W.heap.size W w'))
    (HLV : Hid (∀ W, Calls Try.prog 15 #[] W fun e w' => e = .returned (.bool true) ∧ Below W.heap.size W w')) :
    Calls Try.prog 3 #[.string s, patV p.b p.m p.k p.t, .string more] w fun e w' => e = .returned (.bool true) ∧ Below w.heap.size w w' := by
  obtain ⟨w0, hw0⟩ : ∃ w0, w0 = w.alloc (.cells #[.string p.b, .string p.m, .string p.k, .string p.t] 23) := ⟨_, rfl⟩
  have HB0 := Lib.hid (show Below w.heap.size w w0 from by rw [hw0]; exact (Below.refl w.heap.size w).alloc (Nat.le_refl _) _)
  have HP0 := Lib.hid (show Blk w0 w.heap.size 23 #[.string p.b, .string p.m, .string p.k, .string p.t] from by rw [hw0]; exact Blk.new _ _ _)
  have HZ := Lib.hid (show w.heap.size < w0.heap.size from HP0.out.lt)
  have c0 := HP0.out.cell 0
  have c1 := HP0.out.cell 1
  have c2 := HP0.out.cell 2
  have c3 := HP0.out.cell 3
  go_enter Try.func3, Try.ntmps3
  go_wp2_with fail
  rw [← hw0]
  clear hw0
  go_cut [0, 2] from 11 to 16 (fun s0 s2 wx => s0 = .string u ∧ s2 = .string v ∧ Blk wx w.heap.size 23 #[.string q.b, .string q.m, .string q.k, .string q.t] ∧ Below w.heap.size w wx)
  case first =>
    go_region_with (first
      | (go_at_call 6; (with_reducible refine (HCS.out _).mono ?_); rintro e w1 ⟨rfl, rfl⟩)
      | (go_at_call 6; (with_reducible refine (HCM.out _).mono ?_); rintro e w1 ⟨rfl, rfl⟩)
      | (go_at_call 7; (with_reducible refine (HFW.out _).mono ?_); rintro e w1 ⟨rfl, hb1⟩; have HP1 := Lib.hid (Blk.below (w := w0.drew) HP0.out hb1 HZ.out); have HB1 := Lib.hid (HB0.out.drew.trans (hb1.mono (B' := w.heap.size) HB0.out.size)); clear c0 c1 c2 c3 hb1; have c0 := HP1.out.cell 0; have c1 := HP1.out.cell 1; have c2 := HP1.out.cell 2; have c3 := HP1.out.cell 3; have z0 := HP1.out.frozen 0; have z1 := HP1.out.frozen 1; have z2 := HP1.out.frozen 2; have z3 := HP1.out.frozen 3))
    all_goals
      go_wp2_with fail
      go_meet
      exact ⟨rfl, rfl, (((HP1.out.set_ 0 _).set_ 1 _).set_ 2 _).set_ 3 _, (((HB1.out.setCell (by simp) _).setCell (by simp) _).setCell (by simp) _).setCell (by simp) _⟩
  case rest =>
    obtain ⟨rfl, rfl, hP1, hB1⟩ := hcut
    have HX1 := Lib.hid (show PatAt w q _ from ⟨hB1, hP1⟩)
    have inst : Nonempty (Wld (PatAt w q)) := ⟨⟨_, HX1.out⟩⟩
    clear hP1 hB1 HB0 HP0 HZ c0 c1 c2 c3 HCS HCM HFW
    have f0 : ∀ x : Wld (PatAt w q), x.val.cell? ⟨w.heap.size, 0, none⟩ = some (.string q.b) := fun x => x.ok.2.cell 0
    have f1 : ∀ x : Wld (PatAt w q), x.val.cell? ⟨w.heap.size, 1, none⟩ = some (.string q.m) := fun x => x.ok.2.cell 1
    have f2 : ∀ x : Wld (PatAt w q), x.val.cell? ⟨w.heap.size, 2, none⟩ = some (.string q.k) := fun x => x.ok.2.cell 2
    have f3 : ∀ x : Wld (PatAt w q), x.val.cell? ⟨w.heap.size, 3, none⟩ = some (.string q.t) := fun x => x.ok.2.cell 3
    go_wp2_with fail
    refine wp_region_class (PatAt w q) (by kernel_rfl) (by kernel_rfl) HX1.out.drew ?_
    repeat (go_big_quiet_step (first
      | (go_at_call 8; exact Calls.cls (HMT.out _) fun _ h => PatAt.next h)
      | (go_at_call 9; exact Calls.cls (HOP.out _) fun _ h => PatAt.next h)))
    refine wpQuiet_nil ?_
    intro w3 hX3
    have HX3 := Lib.hid hX3
    clear hX3 HX1
    go_wp2_with fail
    refine wp_region_class (PatAt w q) (by kernel_rfl) (by kernel_rfl) HX3.out.drew ?_
    repeat (go_big_quiet_step (first
      | (go_at_call 10; exact Calls.cls (HGD.out _) fun _ h => PatAt.next h)
      | (go_at_call 11; exact Calls.cls (HRG.out _) fun _ h => PatAt.next h)
      | (go_at_call 12; exact Calls.cls (HBG.out _) fun _ h => PatAt.next h)
      | (go_at_call 13; exact Calls.cls (HRB.out _) fun _ h => PatAt.next h)
      | (go_at_call 14; exact Calls.cls (HRM.out _) fun _ h => PatAt.next h)))
    refine wpQuiet_nil ?_
    intro w4 hX4
    have HX4 := Lib.hid hX4
    clear f0 f1 f2 f3 inst HX3 HMT HOP HGD HBG HRB HRM
    have c0 := hX4.2.cell 0
    have c1 := hX4.2.cell 1
    have c2 := hX4.2.cell 2
    have c3 := hX4.2.cell 3
    clear hX4
    go_wp2_with (first
      | (go_at_call 11; (with_reducible refine (HRG.out _).mono ?_); rintro e w5 ⟨rfl, hb5⟩; have HX5 := Lib.hid (HX4.out.step hb5); clear hb5 c0 c1 c2 c3 HX4; have c0 := HX5.out.2.cell 0; have c1 := HX5.out.2.cell 1; have c2 := HX5.out.2.cell 2; have c3 := HX5.out.2.cell 3)
      | (go_at_call 16; (with_reducible refine (HIS.out _).mono ?_); rintro e w6 ⟨rfl, hb6⟩; have HX6 := Lib.hid (HX5.out.step hb6); clear hb6 c0 c1 c2 c3 HX5; have c0 := HX6.out.2.cell 0; have c1 := HX6.out.2.cell 1; have c2 := HX6.out.2.cell 2; have c3 := HX6.out.2.cell 3)
      | (go_at_call 8; (with_reducible refine (HMV.out _).mono ?_); rintro e w7 ⟨rfl, hb7⟩; have HX7 := Lib.hid (HX6.out.step hb7); clear hb7 c0 c1 c2 c3 HX6; have c0 := HX7.out.2.cell 0; have c1 := HX7.out.2.cell 1; have c2 := HX7.out.2.cell 2; have c3 := HX7.out.2.cell 3)
      | (go_at_call 15; (with_reducible refine (HLV.out _).mono ?_); rintro e w9 ⟨rfl, hb9⟩; have HB9 := Lib.hid hb9; clear hb9))
    go_ret
    exact ⟨rfl, HX7.out.1.trans (HB9.out.mono HX7.out.1.size)⟩

set_option maxHeartbeats 4000000 in
set_option maxRecDepth 100000 in
theorem matches_all (s more u v : ByteArray) (p q : Pat) (n : Nat) (w : World) (_hu : u.size ≤ 150) (_hv : v.size ≤ 100)
    (HCS : Hid (∀ W, Calls Try.prog 6 #[.string s, .int .i64 150] W fun e w' => e = .returned (.string u) ∧ W = w'))
    (HCM : Hid (∀ W, Calls Try.prog 6 #[.string more, .int .i64 100] W fun e w' => e = .returned (.string v) ∧ W = w'))
    (HFW : Hid (∀ W, Calls Try.prog 7 #[patV p.b p.m p.k p.t] W fun e w' => e = .returned (patV q.b q.m q.k q.t) ∧ Below W.heap.size W w'))
    (HMT : Hid (∀ W, Calls Try.prog 8 #[.string u, patV q.b q.m q.k q.t] W fun e w' => e = .returned (.bool true) ∧ Below W.heap.size W w'))
    (HOP : Hid (∀ W, Calls Try.prog 9 #[.string u, patV q.b q.m q.k q.t] W fun e w' => e = .returned (.bool false) ∧ Below W.heap.size W w'))
    (HGD : Hid (∀ W, Calls Try.prog 10 #[patV q.b q.m q.k q.t] W fun e w' => e = .returned (.bool true) ∧ Below W.heap.size W w'))
    (HRG : Hid (∀ W, Calls Try.prog 11 #[patV q.b q.m q.k q.t] W fun e w' => e = .returned (.bool true) ∧ Below W.heap.size W w'))
    (HBG : Hid (∀ W, Calls Try.prog 12 #[.string u, patV q.b q.m q.k q.t] W fun e w' => e = .returned (.int .i64 (n : Nat)) ∧ Below W.heap.size W w'))
    (HRB : Hid (∀ W, Calls Try.prog 13 #[.string u, patV q.b q.m q.k q.t] W fun e w' => e = .returned (.int .i64 (n : Nat)) ∧ Below W.heap.size W w'))
    (HRM : Hid (∀ W, Calls Try.prog 14 #[.string u, patV q.b q.m q.k q.t] W fun e w' => e = .returned (.bool true) ∧ Below W.heap.size W w'))
    (HIS : Hid (∀ W, Calls Try.prog 16 #[.string u, patV q.b q.m q.k q.t] W fun e w' => e = .returned (.tuple #[.bool true, .bool true]) ∧ Below W.heap.size W w'))
    (HMV : Hid (∀ W, Calls Try.prog 8 #[.string (u ++ v), patV q.b q.m q.k q.t] W fun e w' => e = .returned (.bool true) ∧ Below W.heap.size W w'))
    (HLV : Hid (∀ W, Calls Try.prog 15 #[] W fun e w' => e = .returned (.bool true) ∧ Below W.heap.size W w')) :
    Calls Try.prog 3 #[.string s, patV p.b p.m p.k p.t, .string more] w fun e w' => e = .returned (.bool true) ∧ Below w.heap.size w w' := by
  obtain ⟨w0, hw0⟩ : ∃ w0, w0 = w.alloc (.cells #[.string p.b, .string p.m, .string p.k, .string p.t] 23) := ⟨_, rfl⟩
  have HB0 := Lib.hid (show Below w.heap.size w w0 from by rw [hw0]; exact (Below.refl w.heap.size w).alloc (Nat.le_refl _) _)
  have HP0 := Lib.hid (show Blk w0 w.heap.size 23 #[.string p.b, .string p.m, .string p.k, .string p.t] from by rw [hw0]; exact Blk.new _ _ _)
  have HZ := Lib.hid (show w.heap.size < w0.heap.size from HP0.out.lt)
  have c0 := HP0.out.cell 0
  have c1 := HP0.out.cell 1
  have c2 := HP0.out.cell 2
  have c3 := HP0.out.cell 3
  go_enter Try.func3, Try.ntmps3
  go_wp2_with fail
  rw [← hw0]
  clear hw0
  go_cut [0, 2] from 11 to 16 (fun s0 s2 wx => s0 = .string u ∧ s2 = .string v ∧ Blk wx w.heap.size 23 #[.string q.b, .string q.m, .string q.k, .string q.t] ∧ Below w.heap.size w wx)
  case first =>
    go_region_with (first
      | (go_at_call 6; (with_reducible refine (HCS.out _).mono ?_); rintro e w1 ⟨rfl, rfl⟩)
      | (go_at_call 6; (with_reducible refine (HCM.out _).mono ?_); rintro e w1 ⟨rfl, rfl⟩)
      | (go_at_call 7; (with_reducible refine (HFW.out _).mono ?_); rintro e w1 ⟨rfl, hb1⟩; have HP1 := Lib.hid (Blk.below (w := w0.drew) HP0.out hb1 HZ.out); have HB1 := Lib.hid (HB0.out.drew.trans (hb1.mono (B' := w.heap.size) HB0.out.size)); clear c0 c1 c2 c3 hb1; have c0 := HP1.out.cell 0; have c1 := HP1.out.cell 1; have c2 := HP1.out.cell 2; have c3 := HP1.out.cell 3; have z0 := HP1.out.frozen 0; have z1 := HP1.out.frozen 1; have z2 := HP1.out.frozen 2; have z3 := HP1.out.frozen 3))
    all_goals
      go_wp2_with fail
      go_meet
      exact ⟨rfl, rfl, (((HP1.out.set_ 0 _).set_ 1 _).set_ 2 _).set_ 3 _, (((HB1.out.setCell (by simp) _).setCell (by simp) _).setCell (by simp) _).setCell (by simp) _⟩
  case rest =>
    obtain ⟨rfl, rfl, hP1, hB1⟩ := hcut
    have HX1 := Lib.hid (show PatAt w q _ from ⟨hB1, hP1⟩)
    have inst : Nonempty (Wld (PatAt w q)) := ⟨⟨_, HX1.out⟩⟩
    clear hP1 hB1 HB0 HP0 HZ c0 c1 c2 c3 HCS HCM HFW
    have f0 : ∀ x : Wld (PatAt w q), x.val.cell? ⟨w.heap.size, 0, none⟩ = some (.string q.b) := fun x => x.ok.2.cell 0
    have f1 : ∀ x : Wld (PatAt w q), x.val.cell? ⟨w.heap.size, 1, none⟩ = some (.string q.m) := fun x => x.ok.2.cell 1
    have f2 : ∀ x : Wld (PatAt w q), x.val.cell? ⟨w.heap.size, 2, none⟩ = some (.string q.k) := fun x => x.ok.2.cell 2
    have f3 : ∀ x : Wld (PatAt w q), x.val.cell? ⟨w.heap.size, 3, none⟩ = some (.string q.t) := fun x => x.ok.2.cell 3
    go_wp2_with fail
    refine wp_region_class (PatAt w q) (by kernel_rfl) (by kernel_rfl) HX1.out.drew ?_
    repeat (go_big_quiet_step (first
      | (go_at_call 8; exact Calls.cls (HMT.out _) fun _ h => PatAt.next h)
      | (go_at_call 9; exact Calls.cls (HOP.out _) fun _ h => PatAt.next h)))
    refine wpQuiet_nil ?_
    intro w3 hX3
    have HX3 := Lib.hid hX3
    clear hX3 HX1
    go_wp2_with fail
    refine wp_region_class (PatAt w q) (by kernel_rfl) (by kernel_rfl) HX3.out.drew ?_
    repeat (go_big_quiet_step (first
      | (go_at_call 10; exact Calls.cls (HGD.out _) fun _ h => PatAt.next h)
      | (go_at_call 11; exact Calls.cls (HRG.out _) fun _ h => PatAt.next h)
      | (go_at_call 12; exact Calls.cls (HBG.out _) fun _ h => PatAt.next h)
      | (go_at_call 13; exact Calls.cls (HRB.out _) fun _ h => PatAt.next h)
      | (go_at_call 14; exact Calls.cls (HRM.out _) fun _ h => PatAt.next h)))
    refine wpQuiet_nil ?_
    intro w4 hX4
    have HX4 := Lib.hid hX4
    clear f0 f1 f2 f3 inst HX3 HMT HOP HGD HBG HRB HRM
    have c0 := hX4.2.cell 0
    have c1 := hX4.2.cell 1
    have c2 := hX4.2.cell 2
    have c3 := hX4.2.cell 3
    clear hX4
    go_wp2_with (first
      | (go_at_call 11; (with_reducible refine (HRG.out _).mono ?_); rintro e w5 ⟨rfl, hb5⟩; have HX5 := Lib.hid (HX4.out.step hb5); clear hb5 c0 c1 c2 c3 HX4; have c0 := HX5.out.2.cell 0; have c1 := HX5.out.2.cell 1; have c2 := HX5.out.2.cell 2; have c3 := HX5.out.2.cell 3)
      | (go_at_call 16; (with_reducible refine (HIS.out _).mono ?_); rintro e w6 ⟨rfl, hb6⟩; have HX6 := Lib.hid (HX5.out.step hb6); clear hb6 c0 c1 c2 c3 HX5; have c0 := HX6.out.2.cell 0; have c1 := HX6.out.2.cell 1; have c2 := HX6.out.2.cell 2; have c3 := HX6.out.2.cell 3)
      | (go_at_call 8; (with_reducible refine (HMV.out _).mono ?_); rintro e w7 ⟨rfl, hb7⟩; have HX7 := Lib.hid (HX6.out.step hb7); clear hb7 c0 c1 c2 c3 HX6; have c0 := HX7.out.2.cell 0; have c1 := HX7.out.2.cell 1; have c2 := HX7.out.2.cell 2; have c3 := HX7.out.2.cell 3)
      | (go_at_call 15; (with_reducible refine (HLV.out _).mono ?_); rintro e w9 ⟨rfl, hb9⟩; have HB9 := Lib.hid hb9; clear hb9))
    go_ret
    exact ⟨rfl, HX7.out.1.trans (HB9.out.mono HX7.out.1.size)⟩

set_option maxHeartbeats 4000000 in
set_option maxRecDepth 100000 in
theorem matches_part (s more u v : ByteArray) (p q : Pat) (n : Nat) (w : World) (_hu : u.size ≤ 150) (_hv : v.size ≤ 100)
    (HCS : Hid (∀ W, Calls Try.prog 6 #[.string s, .int .i64 150] W fun e w' => e = .returned (.string u) ∧ W = w'))
    (HCM : Hid (∀ W, Calls Try.prog 6 #[.string more, .int .i64 100] W fun e w' => e = .returned (.string v) ∧ W = w'))
    (HFW : Hid (∀ W, Calls Try.prog 7 #[patV p.b p.m p.k p.t] W fun e w' => e = .returned (patV q.b q.m q.k q.t) ∧ Below W.heap.size W w'))
    (HMT : Hid (∀ W, Calls Try.prog 8 #[.string u, patV q.b q.m q.k q.t] W fun e w' => e = .returned (.bool false) ∧ Below W.heap.size W w'))
    (HOP : Hid (∀ W, Calls Try.prog 9 #[.string u, patV q.b q.m q.k q.t] W fun e w' => e = .returned (.bool true) ∧ Below W.heap.size W w'))
    (HGD : Hid (∀ W, Calls Try.prog 10 #[patV q.b q.m q.k q.t] W fun e w' => e = .returned (.bool true) ∧ Below W.heap.size W w'))
    (HRG : Hid (∀ W, Calls Try.prog 11 #[patV q.b q.m q.k q.t] W fun e w' => e = .returned (.bool true) ∧ Below W.heap.size W w'))
    (HBG : Hid (∀ W, Calls Try.prog 12 #[.string u, patV q.b q.m q.k q.t] W fun e w' => e = .returned (.int .i64 (n : Nat)) ∧ Below W.heap.size W w'))
    (HRB : Hid (∀ W, Calls Try.prog 13 #[.string u, patV q.b q.m q.k q.t] W fun e w' => e = .returned (.int .i64 (n : Nat)) ∧ Below W.heap.size W w'))
    (HRM : Hid (∀ W, Calls Try.prog 14 #[.string u, patV q.b q.m q.k q.t] W fun e w' => e = .returned (.bool false) ∧ Below W.heap.size W w'))
    (HIS : Hid (∀ W, Calls Try.prog 16 #[.string u, patV q.b q.m q.k q.t] W fun e w' => e = .returned (.tuple #[.bool true, .bool false]) ∧ Below W.heap.size W w'))
    (HLV : Hid (∀ W, Calls Try.prog 15 #[] W fun e w' => e = .returned (.bool true) ∧ Below W.heap.size W w')) :
    Calls Try.prog 3 #[.string s, patV p.b p.m p.k p.t, .string more] w fun e w' => e = .returned (.bool true) ∧ Below w.heap.size w w' := by
  obtain ⟨w0, hw0⟩ : ∃ w0, w0 = w.alloc (.cells #[.string p.b, .string p.m, .string p.k, .string p.t] 23) := ⟨_, rfl⟩
  have HB0 := Lib.hid (show Below w.heap.size w w0 from by rw [hw0]; exact (Below.refl w.heap.size w).alloc (Nat.le_refl _) _)
  have HP0 := Lib.hid (show Blk w0 w.heap.size 23 #[.string p.b, .string p.m, .string p.k, .string p.t] from by rw [hw0]; exact Blk.new _ _ _)
  have HZ := Lib.hid (show w.heap.size < w0.heap.size from HP0.out.lt)
  have c0 := HP0.out.cell 0
  have c1 := HP0.out.cell 1
  have c2 := HP0.out.cell 2
  have c3 := HP0.out.cell 3
  go_enter Try.func3, Try.ntmps3
  go_wp2_with fail
  rw [← hw0]
  clear hw0
  go_cut [0, 2] from 11 to 16 (fun s0 s2 wx => s0 = .string u ∧ s2 = .string v ∧ Blk wx w.heap.size 23 #[.string q.b, .string q.m, .string q.k, .string q.t] ∧ Below w.heap.size w wx)
  case first =>
    go_region_with (first
      | (go_at_call 6; (with_reducible refine (HCS.out _).mono ?_); rintro e w1 ⟨rfl, rfl⟩)
      | (go_at_call 6; (with_reducible refine (HCM.out _).mono ?_); rintro e w1 ⟨rfl, rfl⟩)
      | (go_at_call 7; (with_reducible refine (HFW.out _).mono ?_); rintro e w1 ⟨rfl, hb1⟩; have HP1 := Lib.hid (Blk.below (w := w0.drew) HP0.out hb1 HZ.out); have HB1 := Lib.hid (HB0.out.drew.trans (hb1.mono (B' := w.heap.size) HB0.out.size)); clear c0 c1 c2 c3 hb1; have c0 := HP1.out.cell 0; have c1 := HP1.out.cell 1; have c2 := HP1.out.cell 2; have c3 := HP1.out.cell 3; have z0 := HP1.out.frozen 0; have z1 := HP1.out.frozen 1; have z2 := HP1.out.frozen 2; have z3 := HP1.out.frozen 3))
    all_goals
      go_wp2_with fail
      go_meet
      exact ⟨rfl, rfl, (((HP1.out.set_ 0 _).set_ 1 _).set_ 2 _).set_ 3 _, (((HB1.out.setCell (by simp) _).setCell (by simp) _).setCell (by simp) _).setCell (by simp) _⟩
  case rest =>
    obtain ⟨rfl, rfl, hP1, hB1⟩ := hcut
    have HX1 := Lib.hid (show PatAt w q _ from ⟨hB1, hP1⟩)
    have inst : Nonempty (Wld (PatAt w q)) := ⟨⟨_, HX1.out⟩⟩
    clear hP1 hB1 HB0 HP0 HZ c0 c1 c2 c3 HCS HCM HFW
    have f0 : ∀ x : Wld (PatAt w q), x.val.cell? ⟨w.heap.size, 0, none⟩ = some (.string q.b) := fun x => x.ok.2.cell 0
    have f1 : ∀ x : Wld (PatAt w q), x.val.cell? ⟨w.heap.size, 1, none⟩ = some (.string q.m) := fun x => x.ok.2.cell 1
    have f2 : ∀ x : Wld (PatAt w q), x.val.cell? ⟨w.heap.size, 2, none⟩ = some (.string q.k) := fun x => x.ok.2.cell 2
    have f3 : ∀ x : Wld (PatAt w q), x.val.cell? ⟨w.heap.size, 3, none⟩ = some (.string q.t) := fun x => x.ok.2.cell 3
    go_wp2_with fail
    refine wp_region_class (PatAt w q) (by kernel_rfl) (by kernel_rfl) HX1.out.drew ?_
    repeat (go_big_quiet_step (first
      | (go_at_call 8; exact Calls.cls (HMT.out _) fun _ h => PatAt.next h)
      | (go_at_call 9; exact Calls.cls (HOP.out _) fun _ h => PatAt.next h)))
    refine wpQuiet_nil ?_
    intro w3 hX3
    have HX3 := Lib.hid hX3
    clear hX3 HX1
    go_wp2_with fail
    refine wp_region_class (PatAt w q) (by kernel_rfl) (by kernel_rfl) HX3.out.drew ?_
    repeat (go_big_quiet_step (first
      | (go_at_call 10; exact Calls.cls (HGD.out _) fun _ h => PatAt.next h)
      | (go_at_call 11; exact Calls.cls (HRG.out _) fun _ h => PatAt.next h)
      | (go_at_call 12; exact Calls.cls (HBG.out _) fun _ h => PatAt.next h)
      | (go_at_call 13; exact Calls.cls (HRB.out _) fun _ h => PatAt.next h)
      | (go_at_call 14; exact Calls.cls (HRM.out _) fun _ h => PatAt.next h)))
    refine wpQuiet_nil ?_
    intro w4 hX4
    have HX4 := Lib.hid hX4
    clear f0 f1 f2 f3 inst HX3 HMT HOP HGD HBG HRB HRM
    have c0 := hX4.2.cell 0
    have c1 := hX4.2.cell 1
    have c2 := hX4.2.cell 2
    have c3 := hX4.2.cell 3
    clear hX4
    go_wp2_with (first
      | (go_at_call 11; (with_reducible refine (HRG.out _).mono ?_); rintro e w5 ⟨rfl, hb5⟩; have HX5 := Lib.hid (HX4.out.step hb5); clear hb5 c0 c1 c2 c3 HX4; have c0 := HX5.out.2.cell 0; have c1 := HX5.out.2.cell 1; have c2 := HX5.out.2.cell 2; have c3 := HX5.out.2.cell 3)
      | (go_at_call 16; (with_reducible refine (HIS.out _).mono ?_); rintro e w6 ⟨rfl, hb6⟩; have HX6 := Lib.hid (HX5.out.step hb6); clear hb6 c0 c1 c2 c3 HX5; have c0 := HX6.out.2.cell 0; have c1 := HX6.out.2.cell 1; have c2 := HX6.out.2.cell 2; have c3 := HX6.out.2.cell 3)
      | (go_at_call 8; (with_reducible refine (HMV.out _).mono ?_); rintro e w7 ⟨rfl, hb7⟩; have HX7 := Lib.hid (HX6.out.step hb7); clear hb7 c0 c1 c2 c3 HX6; have c0 := HX7.out.2.cell 0; have c1 := HX7.out.2.cell 1; have c2 := HX7.out.2.cell 2; have c3 := HX7.out.2.cell 3)
      | (go_at_call 15; (with_reducible refine (HLV.out _).mono ?_); rintro e w9 ⟨rfl, hb9⟩; have HB9 := Lib.hid hb9; clear hb9))
    go_ret
    exact ⟨rfl, HX6.out.1.trans (HB9.out.mono HX6.out.1.size)⟩

end Go.Proofs.Ytjkafeoenghdeaa
