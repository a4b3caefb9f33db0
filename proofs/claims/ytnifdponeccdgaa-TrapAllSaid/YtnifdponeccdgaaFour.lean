/-
  Which of up to four deeds is the first that fails, or tells of a code: the law's walk, for every four deeds and every number. No condition.
-/
import Derived.Test.YtnifdponeccdgaaList
import Derived.Deep.RegionHeld3
namespace Go.Proofs.Ytnifdponeccdgaa
open Go.RowKit

/-- How far the law's own loop has come: which one is first from j on, and what of. -/
def atOf (l : List D) (j : Nat) : Int := (j : Int) + (outc (l.drop j)).1
def coOf (l : List D) (j : Nat) : Int := (outc (l.drop j)).2
def ival : Nat → Int
  | 0 => -1
  | j + 1 => j

theorem atOf_end (l : List D) : atOf l l.length = l.length ∧ coOf l l.length = 0 := by simp [atOf, coOf, outc]
theorem drop_cons (l : List D) (j : Nat) (h : j < l.length) : l.drop j = l.getD j default :: l.drop (j + 1) := by
  rw [List.drop_eq_getElem_cons h]; simp [h]
theorem atOf_fails (l : List D) (j : Nat) (h : j < l.length) (d : D) (hd : l.getD j default = d) (hf : d.f = true) : atOf l j = j ∧ coOf l j = tc d.c := by
  unfold atOf coOf; rw [drop_cons l j h, hd]; simp [outc, hf]
theorem atOf_tells (l : List D) (j : Nat) (h : j < l.length) (d : D) (hd : l.getD j default = d) (hf : d.f = false) (hn : ¬ d.n = 0) : atOf l j = j ∧ coOf l j = d.n := by
  unfold atOf coOf; rw [drop_cons l j h, hd]; simp [outc, hf, hn]
theorem atOf_passes (l : List D) (j : Nat) (h : j < l.length) (d : D) (hd : l.getD j default = d) (hf : d.f = false) (hn : d.n = 0) : atOf l j = atOf l (j + 1) ∧ coOf l j = coOf l (j + 1) := by
  unfold atOf coOf; rw [drop_cons l j h, hd]; simp [outc, hf, hn]; omega

theorem field_code (x y : Int) (w : World) : (Instr.field 26 (.agg #[.int .i64 x, .int .i64 y]) 1).run Try.prog w = .ok (.int .i64 y) w := by kernel_rfl

theorem first16 (a0 c0 : Int) (f0 : Bool) (n0 a1 c1 : Int) (f1 : Bool) (n1 a2 c2 : Int) (f2 : Bool) (n2 a3 c3 : Int) (f3 : Bool) (n3 : Int) (k : Nat) (hk : k ≤ 4) (w : World) :
    Calls Try.prog 16 #[.agg (four a0 c0 f0 n0 a1 c1 f1 n1 a2 c2 f2 n2 a3 c3 f3 n3), .int .i64 (k : Int)] w fun e w' => e = .returned (.tuple #[.int .i64 (atOf (List.take k [⟨a0, c0, f0, n0⟩, ⟨a1, c1, f1, n1⟩, ⟨a2, c2, f2, n2⟩, ⟨a3, c3, f3, n3⟩]) 0), .int .i64 (coOf (List.take k [⟨a0, c0, f0, n0⟩, ⟨a1, c1, f1, n1⟩, ⟨a2, c2, f2, n2⟩, ⟨a3, c3, f3, n3⟩]) 0)]) ∧ Below w.heap.size w w' := by
  match k, hk with
  | 0, _ => exact first16_0 a0 c0 f0 n0 a1 c1 f1 n1 a2 c2 f2 n2 a3 c3 f3 n3 w
  | 1, _ =>
    have e1 : atOf (List.take 1 [⟨a0, c0, f0, n0⟩, ⟨a1, c1, f1, n1⟩, ⟨a2, c2, f2, n2⟩, ⟨a3, c3, f3, n3⟩]) 0 = ((outc [⟨a0, c0, f0, n0⟩]).1 : Int) := by simp [atOf]
    have e2 : coOf (List.take 1 [⟨a0, c0, f0, n0⟩, ⟨a1, c1, f1, n1⟩, ⟨a2, c2, f2, n2⟩, ⟨a3, c3, f3, n3⟩]) 0 = (outc [⟨a0, c0, f0, n0⟩]).2 := by simp [coOf]
    rw [e1, e2]
    exact first16_1 a0 c0 f0 n0 a1 c1 f1 n1 a2 c2 f2 n2 a3 c3 f3 n3 (outc [⟨a0, c0, f0, n0⟩]).1 (outc [⟨a0, c0, f0, n0⟩]).2 rfl w
  | 2, _ =>
    have e1 : atOf (List.take 2 [⟨a0, c0, f0, n0⟩, ⟨a1, c1, f1, n1⟩, ⟨a2, c2, f2, n2⟩, ⟨a3, c3, f3, n3⟩]) 0 = ((outc [⟨a0, c0, f0, n0⟩, ⟨a1, c1, f1, n1⟩]).1 : Int) := by simp [atOf]
    have e2 : coOf (List.take 2 [⟨a0, c0, f0, n0⟩, ⟨a1, c1, f1, n1⟩, ⟨a2, c2, f2, n2⟩, ⟨a3, c3, f3, n3⟩]) 0 = (outc [⟨a0, c0, f0, n0⟩, ⟨a1, c1, f1, n1⟩]).2 := by simp [coOf]
    rw [e1, e2]
    exact first16_2 a0 c0 f0 n0 a1 c1 f1 n1 a2 c2 f2 n2 a3 c3 f3 n3 (outc [⟨a0, c0, f0, n0⟩, ⟨a1, c1, f1, n1⟩]).1 (outc [⟨a0, c0, f0, n0⟩, ⟨a1, c1, f1, n1⟩]).2 rfl w
  | 3, _ =>
    have e1 : atOf (List.take 3 [⟨a0, c0, f0, n0⟩, ⟨a1, c1, f1, n1⟩, ⟨a2, c2, f2, n2⟩, ⟨a3, c3, f3, n3⟩]) 0 = ((outc [⟨a0, c0, f0, n0⟩, ⟨a1, c1, f1, n1⟩, ⟨a2, c2, f2, n2⟩]).1 : Int) := by simp [atOf]
    have e2 : coOf (List.take 3 [⟨a0, c0, f0, n0⟩, ⟨a1, c1, f1, n1⟩, ⟨a2, c2, f2, n2⟩, ⟨a3, c3, f3, n3⟩]) 0 = (outc [⟨a0, c0, f0, n0⟩, ⟨a1, c1, f1, n1⟩, ⟨a2, c2, f2, n2⟩]).2 := by simp [coOf]
    rw [e1, e2]
    exact first16_3 a0 c0 f0 n0 a1 c1 f1 n1 a2 c2 f2 n2 a3 c3 f3 n3 (outc [⟨a0, c0, f0, n0⟩, ⟨a1, c1, f1, n1⟩, ⟨a2, c2, f2, n2⟩]).1 (outc [⟨a0, c0, f0, n0⟩, ⟨a1, c1, f1, n1⟩, ⟨a2, c2, f2, n2⟩]).2 rfl w
  | 4, _ =>
    have e1 : atOf (List.take 4 [⟨a0, c0, f0, n0⟩, ⟨a1, c1, f1, n1⟩, ⟨a2, c2, f2, n2⟩, ⟨a3, c3, f3, n3⟩]) 0 = ((outc [⟨a0, c0, f0, n0⟩, ⟨a1, c1, f1, n1⟩, ⟨a2, c2, f2, n2⟩, ⟨a3, c3, f3, n3⟩]).1 : Int) := by simp [atOf]
    have e2 : coOf (List.take 4 [⟨a0, c0, f0, n0⟩, ⟨a1, c1, f1, n1⟩, ⟨a2, c2, f2, n2⟩, ⟨a3, c3, f3, n3⟩]) 0 = (outc [⟨a0, c0, f0, n0⟩, ⟨a1, c1, f1, n1⟩, ⟨a2, c2, f2, n2⟩, ⟨a3, c3, f3, n3⟩]).2 := by simp [coOf]
    rw [e1, e2]
    exact first16_4 a0 c0 f0 n0 a1 c1 f1 n1 a2 c2 f2 n2 a3 c3 f3 n3 (outc [⟨a0, c0, f0, n0⟩, ⟨a1, c1, f1, n1⟩, ⟨a2, c2, f2, n2⟩, ⟨a3, c3, f3, n3⟩]).1 (outc [⟨a0, c0, f0, n0⟩, ⟨a1, c1, f1, n1⟩, ⟨a2, c2, f2, n2⟩, ⟨a3, c3, f3, n3⟩]).2 rfl w

set_option maxRecDepth 100000 in
set_option maxHeartbeats 4000000 in
theorem trapFirst_any (a0 c0 : Int) (f0 : Bool) (n0 a1 c1 : Int) (f1 : Bool) (n1 a2 c2 : Int) (f2 : Bool) (n2 a3 c3 : Int) (f3 : Bool) (n3 : Int) (m : Int) (k : Nat) (hk : k ≤ 4) (hm0 : 0 ≤ m) (hm1 : m ≤ 255) (hm : m % 5 = (k : Int)) (w : World) :
    Calls Try.prog 5 #[.agg (four a0 c0 f0 n0 a1 c1 f1 n1 a2 c2 f2 n2 a3 c3 f3 n3), .int .u8 m] w fun e w' => e = .returned (.bool true) ∧ Below w.heap.size w w' := by
  have h16 := first16 a0 c0 f0 n0 a1 c1 f1 n1 a2 c2 f2 n2 a3 c3 f3 n3 k hk
  have HL : ∃ l : List D, Hid (l = List.take k [⟨a0, c0, f0, n0⟩, ⟨a1, c1, f1, n1⟩, ⟨a2, c2, f2, n2⟩, ⟨a3, c3, f3, n3⟩]) := ⟨_, rfl⟩
  obtain ⟨l, HL⟩ := HL
  rw [← HL.out] at h16
  have hlen : l.length = k := by rw [HL.out]; simp; omega
  rw [← hm] at h16
  have HE : Hid _ := Lib.hid (atOf_end l)
  have HM : Hid _ := Lib.hid hm
  have hfc := field_code
  have HN : Hid _ := Lib.hid hlen
  clear hm hlen
  go_enter Try.func5, Try.ntmps5
  go_wp2_with fail
  go_loopw [6, 7, 8] (fun a c i wr => ∃ j : Nat, j ≤ k ∧ a = .int .i64 (atOf l j) ∧ c = .int .i64 (coOf l j) ∧ i = .int .i64 (ival j) ∧ Below (w.heap.size + 1) (w.alloc (.cells (four a0 c0 f0 n0 a1 c1 f1 n1 a2 c2 f2 n2 a3 c3 f3 n3) 35)) wr) (fun _ _ i _ => (intOf i + 1).toNat)
  case atStart =>
    have he := HE.out
    rw [HN.out] at he
    refine ⟨k, Nat.le_refl _, ?_, ?_, ?_, Below.refl _ _⟩
    · rw [he.1, HM.out]
    · rw [he.2]
    · rw [HM.out]; cases k with
      | zero => rfl
      | succ k => simp [ival]
  case round =>
    obtain ⟨j, hj, rfl, rfl, hi, hbr⟩ := hrel
    have hz := hbr.size
    simp at hz
    obtain rfl | rfl | rfl | rfl | rfl : j = 0 ∨ j = 1 ∨ j = 2 ∨ j = 3 ∨ j = 4 := by omega
    · rw [show ival 0 = -1 from rfl] at hi
      subst hi
      have hbl : ∀ i v, (four a0 c0 f0 n0 a1 c1 f1 n1 a2 c2 f2 n2 a3 c3 f3 n3)[i]? = some v → wr.cell? ⟨w.heap.size, i, none⟩ = some v := fun i v h => (hbr.cell (p := ⟨w.heap.size, i, none⟩) (by simp)).trans (by rw [World.cell?_alloc_at _ _ _ _ rfl]; exact h)
      clear HE HM HN
      go_wp2_with fail
      refine (h16 _).mono ?_
      rintro e w1 ⟨rfl, hb1⟩
      have hz1 := hb1.size
      clear h16 hbl HL
      go_wp2_with (go_at_call 14; refine (lives_any _).mono ?_; rintro e w2 ⟨rfl, hb2⟩)
      go_ret
      exact ⟨rfl, ((((Below.refl _ _).alloc (Nat.le_refl _) _).trans (hbr.mono (by omega))).trans (hb1.mono (by omega))).trans (hb2.mono (by omega))⟩
    · rw [show ival 1 = 0 from rfl] at hi
      subst hi
      have hkq : 0 < l.length := by rw [HN.out]; omega
      have hdq : l.getD 0 default = ⟨a0, c0, f0, n0⟩ := by rw [HL.out, List.getD_eq_getElem?_getD, List.getElem?_take_of_lt (by omega)]; rfl
      have ca : wr.cell? ⟨w.heap.size, 0, none⟩ = some (.int .i64 a0) := (hbr.cell (p := ⟨w.heap.size, 0, none⟩) (by simp)).trans (by rw [World.cell?_alloc_at _ _ _ _ rfl]; rfl)
      have cc : wr.cell? ⟨w.heap.size, 1, none⟩ = some (.int .i64 c0) := (hbr.cell (p := ⟨w.heap.size, 1, none⟩) (by simp)).trans (by rw [World.cell?_alloc_at _ _ _ _ rfl]; rfl)
      have cf : wr.cell? ⟨w.heap.size, 2, none⟩ = some (.bool f0) := (hbr.cell (p := ⟨w.heap.size, 2, none⟩) (by simp)).trans (by rw [World.cell?_alloc_at _ _ _ _ rfl]; rfl)
      have cn : wr.cell? ⟨w.heap.size, 3, none⟩ = some (.int .i64 n0) := (hbr.cell (p := ⟨w.heap.size, 3, none⟩) (by simp)).trans (by rw [World.cell?_alloc_at _ _ _ _ rfl]; rfl)
      have hkk : 0 ≤ k := by omega
      clear h16 HE HM HN HL
      by_cases hfq : f0 = true
      · have HA : Hid _ := Lib.hid (atOf_fails l 0 hkq _ hdq hfq)
        rw [hfq] at cf
        clear hfq hdq
        go_wp2_with fail
        go_region_held3 (fun w' => w'.cell? ⟨w.heap.size, 0, none⟩ = some (.int .i64 a0) ∧ w'.cell? ⟨w.heap.size, 1, none⟩ = some (.int .i64 c0) ∧ w.heap.size + 1 ≤ w'.heap.size ∧ Below (w.heap.size + 1) (w.alloc (.cells (four a0 c0 f0 n0 a1 c1 f1 n1 a2 c2 f2 n2 a3 c3 f3 n3) 35)) w')
          (first
            | exact ⟨ca, cc, hz, hbr.drew⟩
            | (go_split_ands; exact ⟨‹_›, ‹_›, ‹_›, ‹_›⟩)
            | (go_split_ands; refine ⟨(hb4.cell (by simp; omega)).trans ‹_›, (hb4.cell (by simp; omega)).trans ‹_›, Nat.le_trans ‹_› hb4.size, Below.trans ‹_› (hb4.mono (by omega))⟩))
          (first
            | (go_at_call 13; refine (thrown_any _ _ _).mono ?_; rintro e w4 ⟨rfl, hb4⟩))
        all_goals
          go_split_ands
          go_wp2
          obtain ⟨hA, hC⟩ := HA.out
          refine ⟨⟨0, hkk, by rw [hA]; rfl, by rw [hC], rfl, by assumption⟩, by simp [intOf]⟩
      · have hfq' : f0 = false := by simpa using hfq
        rw [hfq'] at cf
        by_cases hnq : n0 = 0
        · have HA : Hid _ := Lib.hid (atOf_passes l 0 hkq _ hdq hfq' hnq)
          rw [hnq] at cn
          clear hfq hfq' hnq hdq
          go_wp2
          obtain ⟨hA, hC⟩ := HA.out
          refine ⟨⟨0, hkk, by rw [hA], by rw [hC], rfl, hbr⟩, by simp [intOf]⟩
        · have HA : Hid _ := Lib.hid (atOf_tells l 0 hkq _ hdq hfq' hnq)
          have hn1 : (n0 == 0) = false := by simpa using hnq
          have hn2 : (n0 != 0) = true := by simpa using hnq
          clear hfq hfq' hnq hdq
          go_wp2_with fail
          go_quiet (fail)
          go_wp2
          obtain ⟨hA, hC⟩ := HA.out
          refine ⟨⟨0, hkk, by rw [hA]; rfl, by rw [hC], rfl, ⟨hbr.os, hbr.tape, hbr.output, hbr.size, hbr.block⟩⟩, by simp [intOf]⟩
    · rw [show ival 2 = 1 from rfl] at hi
      subst hi
      have hkq : 1 < l.length := by rw [HN.out]; omega
      have hdq : l.getD 1 default = ⟨a1, c1, f1, n1⟩ := by rw [HL.out, List.getD_eq_getElem?_getD, List.getElem?_take_of_lt (by omega)]; rfl
      have ca : wr.cell? ⟨w.heap.size, 4, none⟩ = some (.int .i64 a1) := (hbr.cell (p := ⟨w.heap.size, 4, none⟩) (by simp)).trans (by rw [World.cell?_alloc_at _ _ _ _ rfl]; rfl)
      have cc : wr.cell? ⟨w.heap.size, 5, none⟩ = some (.int .i64 c1) := (hbr.cell (p := ⟨w.heap.size, 5, none⟩) (by simp)).trans (by rw [World.cell?_alloc_at _ _ _ _ rfl]; rfl)
      have cf : wr.cell? ⟨w.heap.size, 6, none⟩ = some (.bool f1) := (hbr.cell (p := ⟨w.heap.size, 6, none⟩) (by simp)).trans (by rw [World.cell?_alloc_at _ _ _ _ rfl]; rfl)
      have cn : wr.cell? ⟨w.heap.size, 7, none⟩ = some (.int .i64 n1) := (hbr.cell (p := ⟨w.heap.size, 7, none⟩) (by simp)).trans (by rw [World.cell?_alloc_at _ _ _ _ rfl]; rfl)
      have hkk : 1 ≤ k := by omega
      clear h16 HE HM HN HL
      by_cases hfq : f1 = true
      · have HA : Hid _ := Lib.hid (atOf_fails l 1 hkq _ hdq hfq)
        rw [hfq] at cf
        clear hfq hdq
        go_wp2_with fail
        go_region_held3 (fun w' => w'.cell? ⟨w.heap.size, 4, none⟩ = some (.int .i64 a1) ∧ w'.cell? ⟨w.heap.size, 5, none⟩ = some (.int .i64 c1) ∧ w.heap.size + 1 ≤ w'.heap.size ∧ Below (w.heap.size + 1) (w.alloc (.cells (four a0 c0 f0 n0 a1 c1 f1 n1 a2 c2 f2 n2 a3 c3 f3 n3) 35)) w')
          (first
            | exact ⟨ca, cc, hz, hbr.drew⟩
            | (go_split_ands; exact ⟨‹_›, ‹_›, ‹_›, ‹_›⟩)
            | (go_split_ands; refine ⟨(hb4.cell (by simp; omega)).trans ‹_›, (hb4.cell (by simp; omega)).trans ‹_›, Nat.le_trans ‹_› hb4.size, Below.trans ‹_› (hb4.mono (by omega))⟩))
          (first
            | (go_at_call 13; refine (thrown_any _ _ _).mono ?_; rintro e w4 ⟨rfl, hb4⟩))
        all_goals
          go_split_ands
          go_wp2
          obtain ⟨hA, hC⟩ := HA.out
          refine ⟨⟨1, hkk, by rw [hA]; rfl, by rw [hC], rfl, by assumption⟩, by simp [intOf]⟩
      · have hfq' : f1 = false := by simpa using hfq
        rw [hfq'] at cf
        by_cases hnq : n1 = 0
        · have HA : Hid _ := Lib.hid (atOf_passes l 1 hkq _ hdq hfq' hnq)
          rw [hnq] at cn
          clear hfq hfq' hnq hdq
          go_wp2
          obtain ⟨hA, hC⟩ := HA.out
          refine ⟨⟨1, hkk, by rw [hA], by rw [hC], rfl, hbr⟩, by simp [intOf]⟩
        · have HA : Hid _ := Lib.hid (atOf_tells l 1 hkq _ hdq hfq' hnq)
          have hn1 : (n1 == 0) = false := by simpa using hnq
          have hn2 : (n1 != 0) = true := by simpa using hnq
          clear hfq hfq' hnq hdq
          go_wp2_with fail
          go_quiet (fail)
          go_wp2
          obtain ⟨hA, hC⟩ := HA.out
          refine ⟨⟨1, hkk, by rw [hA]; rfl, by rw [hC], rfl, ⟨hbr.os, hbr.tape, hbr.output, hbr.size, hbr.block⟩⟩, by simp [intOf]⟩
    · rw [show ival 3 = 2 from rfl] at hi
      subst hi
      have hkq : 2 < l.length := by rw [HN.out]; omega
      have hdq : l.getD 2 default = ⟨a2, c2, f2, n2⟩ := by rw [HL.out, List.getD_eq_getElem?_getD, List.getElem?_take_of_lt (by omega)]; rfl
      have ca : wr.cell? ⟨w.heap.size, 8, none⟩ = some (.int .i64 a2) := (hbr.cell (p := ⟨w.heap.size, 8, none⟩) (by simp)).trans (by rw [World.cell?_alloc_at _ _ _ _ rfl]; rfl)
      have cc : wr.cell? ⟨w.heap.size, 9, none⟩ = some (.int .i64 c2) := (hbr.cell (p := ⟨w.heap.size, 9, none⟩) (by simp)).trans (by rw [World.cell?_alloc_at _ _ _ _ rfl]; rfl)
      have cf : wr.cell? ⟨w.heap.size, 10, none⟩ = some (.bool f2) := (hbr.cell (p := ⟨w.heap.size, 10, none⟩) (by simp)).trans (by rw [World.cell?_alloc_at _ _ _ _ rfl]; rfl)
      have cn : wr.cell? ⟨w.heap.size, 11, none⟩ = some (.int .i64 n2) := (hbr.cell (p := ⟨w.heap.size, 11, none⟩) (by simp)).trans (by rw [World.cell?_alloc_at _ _ _ _ rfl]; rfl)
      have hkk : 2 ≤ k := by omega
      clear h16 HE HM HN HL
      by_cases hfq : f2 = true
      · have HA : Hid _ := Lib.hid (atOf_fails l 2 hkq _ hdq hfq)
        rw [hfq] at cf
        clear hfq hdq
        go_wp2_with fail
        go_region_held3 (fun w' => w'.cell? ⟨w.heap.size, 8, none⟩ = some (.int .i64 a2) ∧ w'.cell? ⟨w.heap.size, 9, none⟩ = some (.int .i64 c2) ∧ w.heap.size + 1 ≤ w'.heap.size ∧ Below (w.heap.size + 1) (w.alloc (.cells (four a0 c0 f0 n0 a1 c1 f1 n1 a2 c2 f2 n2 a3 c3 f3 n3) 35)) w')
          (first
            | exact ⟨ca, cc, hz, hbr.drew⟩
            | (go_split_ands; exact ⟨‹_›, ‹_›, ‹_›, ‹_›⟩)
            | (go_split_ands; refine ⟨(hb4.cell (by simp; omega)).trans ‹_›, (hb4.cell (by simp; omega)).trans ‹_›, Nat.le_trans ‹_› hb4.size, Below.trans ‹_› (hb4.mono (by omega))⟩))
          (first
            | (go_at_call 13; refine (thrown_any _ _ _).mono ?_; rintro e w4 ⟨rfl, hb4⟩))
        all_goals
          go_split_ands
          go_wp2
          obtain ⟨hA, hC⟩ := HA.out
          refine ⟨⟨2, hkk, by rw [hA]; rfl, by rw [hC], rfl, by assumption⟩, by simp [intOf]⟩
      · have hfq' : f2 = false := by simpa using hfq
        rw [hfq'] at cf
        by_cases hnq : n2 = 0
        · have HA : Hid _ := Lib.hid (atOf_passes l 2 hkq _ hdq hfq' hnq)
          rw [hnq] at cn
          clear hfq hfq' hnq hdq
          go_wp2
          obtain ⟨hA, hC⟩ := HA.out
          refine ⟨⟨2, hkk, by rw [hA], by rw [hC], rfl, hbr⟩, by simp [intOf]⟩
        · have HA : Hid _ := Lib.hid (atOf_tells l 2 hkq _ hdq hfq' hnq)
          have hn1 : (n2 == 0) = false := by simpa using hnq
          have hn2 : (n2 != 0) = true := by simpa using hnq
          clear hfq hfq' hnq hdq
          go_wp2_with fail
          go_quiet (fail)
          go_wp2
          obtain ⟨hA, hC⟩ := HA.out
          refine ⟨⟨2, hkk, by rw [hA]; rfl, by rw [hC], rfl, ⟨hbr.os, hbr.tape, hbr.output, hbr.size, hbr.block⟩⟩, by simp [intOf]⟩
    · rw [show ival 4 = 3 from rfl] at hi
      subst hi
      have hkq : 3 < l.length := by rw [HN.out]; omega
      have hdq : l.getD 3 default = ⟨a3, c3, f3, n3⟩ := by rw [HL.out, List.getD_eq_getElem?_getD, List.getElem?_take_of_lt (by omega)]; rfl
      have ca : wr.cell? ⟨w.heap.size, 12, none⟩ = some (.int .i64 a3) := (hbr.cell (p := ⟨w.heap.size, 12, none⟩) (by simp)).trans (by rw [World.cell?_alloc_at _ _ _ _ rfl]; rfl)
      have cc : wr.cell? ⟨w.heap.size, 13, none⟩ = some (.int .i64 c3) := (hbr.cell (p := ⟨w.heap.size, 13, none⟩) (by simp)).trans (by rw [World.cell?_alloc_at _ _ _ _ rfl]; rfl)
      have cf : wr.cell? ⟨w.heap.size, 14, none⟩ = some (.bool f3) := (hbr.cell (p := ⟨w.heap.size, 14, none⟩) (by simp)).trans (by rw [World.cell?_alloc_at _ _ _ _ rfl]; rfl)
      have cn : wr.cell? ⟨w.heap.size, 15, none⟩ = some (.int .i64 n3) := (hbr.cell (p := ⟨w.heap.size, 15, none⟩) (by simp)).trans (by rw [World.cell?_alloc_at _ _ _ _ rfl]; rfl)
      have hkk : 3 ≤ k := by omega
      clear h16 HE HM HN HL
      by_cases hfq : f3 = true
      · have HA : Hid _ := Lib.hid (atOf_fails l 3 hkq _ hdq hfq)
        rw [hfq] at cf
        clear hfq hdq
        go_wp2_with fail
        go_region_held3 (fun w' => w'.cell? ⟨w.heap.size, 12, none⟩ = some (.int .i64 a3) ∧ w'.cell? ⟨w.heap.size, 13, none⟩ = some (.int .i64 c3) ∧ w.heap.size + 1 ≤ w'.heap.size ∧ Below (w.heap.size + 1) (w.alloc (.cells (four a0 c0 f0 n0 a1 c1 f1 n1 a2 c2 f2 n2 a3 c3 f3 n3) 35)) w')
          (first
            | exact ⟨ca, cc, hz, hbr.drew⟩
            | (go_split_ands; exact ⟨‹_›, ‹_›, ‹_›, ‹_›⟩)
            | (go_split_ands; refine ⟨(hb4.cell (by simp; omega)).trans ‹_›, (hb4.cell (by simp; omega)).trans ‹_›, Nat.le_trans ‹_› hb4.size, Below.trans ‹_› (hb4.mono (by omega))⟩))
          (first
            | (go_at_call 13; refine (thrown_any _ _ _).mono ?_; rintro e w4 ⟨rfl, hb4⟩))
        all_goals
          go_split_ands
          go_wp2
          obtain ⟨hA, hC⟩ := HA.out
          refine ⟨⟨3, hkk, by rw [hA]; rfl, by rw [hC], rfl, by assumption⟩, by simp [intOf]⟩
      · have hfq' : f3 = false := by simpa using hfq
        rw [hfq'] at cf
        by_cases hnq : n3 = 0
        · have HA : Hid _ := Lib.hid (atOf_passes l 3 hkq _ hdq hfq' hnq)
          rw [hnq] at cn
          clear hfq hfq' hnq hdq
          go_wp2
          obtain ⟨hA, hC⟩ := HA.out
          refine ⟨⟨3, hkk, by rw [hA], by rw [hC], rfl, hbr⟩, by simp [intOf]⟩
        · have HA : Hid _ := Lib.hid (atOf_tells l 3 hkq _ hdq hfq' hnq)
          have hn1 : (n3 == 0) = false := by simpa using hnq
          have hn2 : (n3 != 0) = true := by simpa using hnq
          clear hfq hfq' hnq hdq
          go_wp2_with fail
          go_quiet (fail)
          go_wp2
          obtain ⟨hA, hC⟩ := HA.out
          refine ⟨⟨3, hkk, by rw [hA]; rfl, by rw [hC], rfl, ⟨hbr.os, hbr.tape, hbr.output, hbr.size, hbr.block⟩⟩, by simp [intOf]⟩


end Go.Proofs.Ytnifdponeccdgaa
