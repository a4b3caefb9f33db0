/-
  What number, Parse, Strict and Prefix of layer 5 answer. Condition: the text is as long as a length can be.
  What package ranges' reader does: check, blanks, unit, mark, digits, end, number. Conditions: the place lies in the text, which is no longer than a length can be.
  What the document's Good of layer 25, and Text of both sides, answer. Condition: for package status' Text the library's table of powers of ten is laid.
-/
import Derived.Test.YteeheehoaklnbaaDoorZ3
import Derived.Test.YteeheehoaklnbaaDoorZ11
import Derived.Lib.Strings
import Derived.Test.YteeheehoaklnbaaDoorZ4
import Derived.Test.YteeheehoaklnbaaDoorZ6
import Derived.Test.YteeheehoaklnbaaDoorZ2
import Derived.Deep.RegionHeld2
import Derived.LoopTactic
import Derived.BigQuiet
import Derived.OneCell
import Derived.OwnWalk
import Derived.Laws.IdiomStrings
import Derived.Laws.OwnMore
import Derived.Laws.BytesArg
import Derived.Test.YteeheehoaklnbaaDoorZ8
import Derived.Test.YteeheehoaklnbaaDoorZ9
import Derived.Test.YteeheehoaklnbaaDoorZ10
namespace Go.Proofs.YteeheehoaklnbaaDoor
open Go.RowKit

set_option maxHeartbeats 1000000 in
theorem number_any (s : ByteArray) (w : World) (hd : ∀ j (hj : j < s.size), digB s[j] = true) (hs : s.size ≤ 9223372036854775807) :
    Calls Tryd.prog 59 #[.string s] w fun e w' => e = .returned (numV s s.size) ∧ w = w' := by
  go_enter Tryd.func59, Tryd.ntmps59
  go_wp2
  go_loop [8, 4] (fun i n => ∃ k : Nat, k ≤ s.size ∧ i = .int .i64 k ∧ n = .int .i64 (numK s k : Nat) ∧ numK s k ≤ 9007199254740991) (fun i _ => s.size - (intOf i).toNat)
  case atStart => exact ⟨0, by omega, rfl, rfl, by rw [numK_zero]; omega⟩
  case round =>
    obtain ⟨k, hk, rfl, rfl, hm⟩ := hrel
    by_cases hlt : k < s.size
    · obtain ⟨g1, g2⟩ := digB_range (hd k hlt)
      have HN := Lib.hid (numK_succ hlt)
      have HM := Lib.hid (numK_mono s (show k + 1 ≤ s.size by omega))
      by_cases hov : numK s (k + 1) ≤ 9007199254740991
      · have HO := Lib.hid hov
        rw [HN.out] at hov
        obtain ⟨a, ha⟩ : ∃ a, a = numK s k := ⟨_, rfl⟩
        rw [← ha] at hm hov HN ⊢
        have HA := Lib.hid ha
        have d1 : decide ((9007199254740991 : Int) < (a : Int) * 10 + ((s[k].toNat : Int) - 48)) = false := by simp; omega
        clear ha hd
        go_wp2
        go_round
        case rel => exact ⟨k + 1, by omega, by go_num, by rw [HN.out]; go_num, HO.out⟩
        case measure => simp [intOf]; omega
      · have HV := Lib.hid (numV_no (s := s) (k := s.size) (by have := HM.out; omega))
        rw [HN.out] at hov
        obtain ⟨a, ha⟩ : ∃ a, a = numK s k := ⟨_, rfl⟩
        rw [← ha] at hm hov HN ⊢
        have d1 : decide ((9007199254740991 : Int) < (a : Int) * 10 + ((s[k].toNat : Int) - 48)) = true := by simp; omega
        clear ha hd
        go_wp2
        go_ret2
        exact ⟨by rw [HV.out]; first | done | rfl, rfl⟩
    · obtain rfl : k = s.size := by omega
      have HV := Lib.hid (numV_yes hm)
      go_wp2
      go_ret2
      exact ⟨by rw [HV.out]; first | done | rfl, rfl⟩

theorem digits_all (s : ByteArray) (hs : s.size ≤ 9223372036854775807) (h : allB digB s = true) : Hid (∀ W, Calls Tryd.prog 59 #[.string s] W fun e w' => e = .returned (numV s s.size) ∧ W = w') :=
  fun W => number_any s W (allB_digits h) hs

set_option maxHeartbeats 1000000 in
theorem parse_any (s : ByteArray) (w : World) (hs : s.size ≤ 9223372036854775807) :
    Calls Tryd.prog 49 #[.string s] w fun e w' => e = .returned (parV s) ∧ Below w.heap.size w w' := by
  by_cases h0 : s.size = 0
  · have HV := Lib.hid (parV_empty h0)
    obtain rfl : s = ⟨#[]⟩ := by
      cases s with | mk d => simp at h0; rw [h0]; rfl
    go_enter Tryd.func49, Tryd.ntmps49
    go_wp2
    go_ret2
    exact ⟨by rw [HV.out]; first | done | rfl, Below.refl _ _⟩
  · have e0 : (s.toList == []) = false := by
      rw [beq_eq_false_iff_ne]
      intro h
      rw [Lib.toList_data] at h
      have := congrArg List.length h
      rw [Array.length_toList] at this
      exact h0 this
    have HA : Hid (∀ W, Calls Tryd.prog 26 #[.string s, .func (.func 47) #[] #[]] W fun e w' => e = .returned (.bool (allB digB s)) ∧ Below W.heap.size W w') := fun W => all_Dig s W hs
    cases ha : allB digB s
    · rw [ha] at HA
      have HV := Lib.hid (parV_form ha)
      clear ha h0
      go_enter Tryd.func49, Tryd.ntmps49
      go_wp2_with (go_at_call 26; refine (HA.out _).mono ?_; rintro e w1 ⟨rfl, hb⟩)
      go_ret2
      exact ⟨by rw [HV.out]; first | done | rfl, hb⟩
    · have HN := digits_all s hs ha
      by_cases h1 : numK s s.size ≤ 9007199254740991
      · have HV := Lib.hid (parV_ok h0 ha h1)
        rw [ha] at HA
        rw [numV_yes h1] at HN
        clear ha h0 h1
        generalize numK s s.size = n at *
        go_enter Tryd.func49, Tryd.ntmps49
        go_wp2_with (first
          | (go_at_call 26; refine (HA.out _).mono ?_; rintro e w1 ⟨rfl, hb⟩)
          | (go_at_call 59; refine (HN.out _).mono ?_; rintro e w1 ⟨rfl, rfl⟩))
        go_ret2
        exact ⟨by rw [HV.out]; first | done | rfl, hb⟩
      · have HV := Lib.hid (parV_range h0 ha (by omega))
        rw [ha] at HA
        rw [numV_no (by omega)] at HN
        clear ha h0 h1
        go_enter Tryd.func49, Tryd.ntmps49
        go_wp2_with (first
          | (go_at_call 26; refine (HA.out _).mono ?_; rintro e w1 ⟨rfl, hb⟩)
          | (go_at_call 59; refine (HN.out _).mono ?_; rintro e w1 ⟨rfl, rfl⟩))
        go_ret2
        exact ⟨by rw [HV.out]; first | done | rfl, hb⟩

end Go.Proofs.YteeheehoaklnbaaDoor
namespace Go.Proofs.YteeheehoaklnbaaDoor
open Go.RowKit

theorem size_bool (x : ByteArray) : (x.toList == []) = decide (x.size = 0) := by
  rw [Bool.eq_iff_iff, beq_iff_eq, decide_eq_true_eq, ← toList_size]
  exact List.length_eq_zero_iff.symm

set_option maxHeartbeats 400000 in
theorem must_ok (n : Int) (w : World) :
    Calls Tryd.prog 48 #[.int .i64 n, .int .i64 0] w fun e w' => e = .returned (.int .i64 n) ∧ w = w' := by
  go_enter Tryd.func48, Tryd.ntmps48
  go_wp2_with (go_at_call 50; (with_reducible refine (check_ok _ _ _).mono ?_); rintro e w1 ⟨rfl, rfl⟩)
  go_ret
  exact ⟨rfl, rfl⟩

set_option maxHeartbeats 400000 in
theorem must_not (n : Int) (w : World) :
    Calls Tryd.prog 48 #[.int .i64 n, .int .i64 9] w fun e w' => e = pnc 0 9 ∧ w = w' := by
  go_enter Tryd.func48, Tryd.ntmps48
  go_wp2_with (go_at_call 50; (with_reducible refine (check_not _ _ _).mono ?_); rintro e w1 ⟨rfl, rfl⟩)
  exact ⟨rfl, rfl, rfl⟩

end Go.Proofs.YteeheehoaklnbaaDoor
namespace Go.Proofs.YteeheehoaklnbaaDoor
open Go.RowKit

theorem rea_empty : reaB ⟨#[]⟩ = allB quoB ⟨#[]⟩ := by kernel_rfl
theorem rea_none {r : ByteArray} (h : r.size = 0) : reaB r = allB quoB r := by
  rw [data_nil h, rea_empty]
theorem rea_some {r : ByteArray} {m : Nat} (h : r.size = m + 1) : reaB r = (!(tabB (r[0]'(by omega)) || tabB (r[m]'(by omega))) && allB quoB r) := by
  unfold reaB bgtB
  rw [cut_back h, size_bool r, decide_eq_false (by omega), getElem!_pos r 0 (by omega)]
  cases allB quoB r <;> cases tabB (r[0]'(by omega)) <;> cases tabB (r[m]'(by omega)) <;> rfl
theorem ver_ten (n : Int) : verB n = (decide (0 ≤ n) && decide (n < 10)) := by
  unfold verB
  congr 1
  rw [decide_eq_decide]
  omega
theorem cls_zero (n : Int) : (clsZ n != 0) = decide (0 < clsZ n) := by
  have := clsZ_range n
  rw [Bool.eq_iff_iff, bne_iff_ne, decide_eq_true_eq]
  omega

set_option maxRecDepth 100000 in
set_option maxHeartbeats 4000000 in
theorem rgood_parts (t0 t1 a0 a1 b0 b1 k0 q B : Bool) (a b c k : Int) (r : ByteArray) (w : World)
    (hr : r.size = 0 ∨ ∃ m, r.size = m + 1 ∧ ∀ h : m < r.size, tabB (r[0]'(by omega)) = t0 ∧ tabB r[m] = t1)
    (ha0 : decide (0 ≤ a) = a0) (ha1 : decide (a < 10) = a1) (hb0 : decide (0 ≤ b) = b0) (hb1 : decide (b < 10) = b1) (hk : decide (0 < k) = k0) (hz : r.size ≤ 9223372036854775807)
    (HC : Hid (∀ W, Calls Tryd.prog 16 #[.int .i64 c] W fun e w' => e = .returned (.int .i64 k) ∧ W = w'))
    (HQ : Hid (∀ W, Calls Tryd.prog 17 #[.string r] W fun e w' => e = .returned (.bool q) ∧ W = w'))
    (hB0 : r.size = 0 → B = (a0 && a1 && (b0 && b1) && k0 && q))
    (hB1 : r.size ≠ 0 → B = (a0 && a1 && (b0 && b1) && k0 && (!(t0 || t1) && q))) :
    Calls Tryd.prog 7 #[stV a b c r] w fun e w' => e = .returned (.bool B) ∧ Below w.heap.size w w' := by
  obtain ⟨w0, hw0⟩ : ∃ w0, w0 = w.alloc (stC a b c r) := ⟨_, rfl⟩
  have HB0 := Lib.hid (show Below w.heap.size w w0 from by rw [hw0]; exact (Below.refl w.heap.size w).alloc (Nat.le_refl _) _)
  have HP := Lib.hid (show Blk w0 w.heap.size 23 #[.int .i64 a, .int .i64 b, .int .i64 c, .string r] from by rw [hw0]; exact Blk.new _ _ _)
  have c0 := HP.out.cell 0
  have c1 := HP.out.cell 1
  have c2 := HP.out.cell 2
  have c3 := HP.out.cell 3
  have he := size_bool r
  rcases hr with h0 | ⟨m, hm, ht⟩
  · rw [decide_eq_true h0] at he
    have hB := hB0 h0
    clear hB0 hB1 h0
    cases a0
    · skip
      have HV := Lib.hid (show B = false from by rw [hB]; first | rfl | simp)
      clear hB
      go_enter Tryd.func7, Tryd.ntmps7
      go_wp2_with fail
      rw [← hw0]
      clear hw0
      go_wp2_with (first
        | (go_at_call 16; (with_reducible refine (HC.out _).mono ?_); rintro e w1 ⟨rfl, rfl⟩)
        | (go_at_call 17; (with_reducible refine (HQ.out _).mono ?_); rintro e w1 ⟨rfl, rfl⟩))
      go_ret
      exact ⟨by rw [HV.out]; rfl, HB0.out⟩
    cases a1
    · skip
      have HV := Lib.hid (show B = false from by rw [hB]; first | rfl | simp)
      clear hB
      go_enter Tryd.func7, Tryd.ntmps7
      go_wp2_with fail
      rw [← hw0]
      clear hw0
      go_wp2_with (first
        | (go_at_call 16; (with_reducible refine (HC.out _).mono ?_); rintro e w1 ⟨rfl, rfl⟩)
        | (go_at_call 17; (with_reducible refine (HQ.out _).mono ?_); rintro e w1 ⟨rfl, rfl⟩))
      go_ret
      exact ⟨by rw [HV.out]; rfl, HB0.out⟩
    cases b0
    · skip
      have HV := Lib.hid (show B = false from by rw [hB]; first | rfl | simp)
      clear hB
      go_enter Tryd.func7, Tryd.ntmps7
      go_wp2_with fail
      rw [← hw0]
      clear hw0
      go_wp2_with (first
        | (go_at_call 16; (with_reducible refine (HC.out _).mono ?_); rintro e w1 ⟨rfl, rfl⟩)
        | (go_at_call 17; (with_reducible refine (HQ.out _).mono ?_); rintro e w1 ⟨rfl, rfl⟩))
      go_ret
      exact ⟨by rw [HV.out]; rfl, HB0.out⟩
    cases b1
    · skip
      have HV := Lib.hid (show B = false from by rw [hB]; first | rfl | simp)
      clear hB
      go_enter Tryd.func7, Tryd.ntmps7
      go_wp2_with fail
      rw [← hw0]
      clear hw0
      go_wp2_with (first
        | (go_at_call 16; (with_reducible refine (HC.out _).mono ?_); rintro e w1 ⟨rfl, rfl⟩)
        | (go_at_call 17; (with_reducible refine (HQ.out _).mono ?_); rintro e w1 ⟨rfl, rfl⟩))
      go_ret
      exact ⟨by rw [HV.out]; rfl, HB0.out⟩
    cases k0
    · skip
      have HV := Lib.hid (show B = false from by rw [hB]; first | rfl | simp)
      clear hB
      go_enter Tryd.func7, Tryd.ntmps7
      go_wp2_with fail
      rw [← hw0]
      clear hw0
      go_wp2_with (first
        | (go_at_call 16; (with_reducible refine (HC.out _).mono ?_); rintro e w1 ⟨rfl, rfl⟩)
        | (go_at_call 17; (with_reducible refine (HQ.out _).mono ?_); rintro e w1 ⟨rfl, rfl⟩))
      go_ret
      exact ⟨by rw [HV.out]; rfl, HB0.out⟩
    have HV := Lib.hid (show B = q from by rw [hB]; first | rfl | simp)
    clear hB
    go_enter Tryd.func7, Tryd.ntmps7
    go_wp2_with fail
    rw [← hw0]
    clear hw0
    go_wp2_with (first
      | (go_at_call 16; (with_reducible refine (HC.out _).mono ?_); rintro e w1 ⟨rfl, rfl⟩)
      | (go_at_call 17; (with_reducible refine (HQ.out _).mono ?_); rintro e w1 ⟨rfl, rfl⟩))
    go_ret
    exact ⟨by rw [HV.out]; rfl, HB0.out⟩
  · rw [decide_eq_false (by omega)] at he
    have hB := hB1 (by omega)
    clear hB0 hB1
    have hlt : m < r.size := by omega
    have hlt0 : 0 < r.size := by omega
    obtain ⟨ht0, ht1⟩ := ht hlt
    obtain ⟨u0, hu0⟩ : ∃ u, r[0] = u := ⟨_, rfl⟩
    obtain ⟨u1, hu1⟩ : ∃ u, r[m] = u := ⟨_, rfl⟩
    rw [hu0] at ht0
    rw [hu1] at ht1
    have HT0 := Lib.hid (fun W => refTab_any u0 W)
    have HT1 := Lib.hid (fun W => refTab_any u1 W)
    rw [ht0] at HT0
    rw [ht1] at HT1
    have g2 : ((m + 1 : Nat) : Int) - 1 = (m : Int) := by omega
    clear ht ht0 ht1
    cases t0
    rotate_left
    · skip
      have HV := Lib.hid (show B = false from by rw [hB]; first | rfl | simp)
      clear hB
      go_enter Tryd.func7, Tryd.ntmps7
      go_wp2_with fail
      rw [← hw0]
      clear hw0
      go_wp2_with (first
        | (go_at_call 15; first | (with_reducible refine (HT0.out _).mono ?_) | (with_reducible refine (HT1.out _).mono ?_)
           rintro e w1 ⟨rfl, rfl⟩)
        | (go_at_call 16; (with_reducible refine (HC.out _).mono ?_); rintro e w1 ⟨rfl, rfl⟩)
        | (go_at_call 17; (with_reducible refine (HQ.out _).mono ?_); rintro e w1 ⟨rfl, rfl⟩))
      go_ret
      exact ⟨by rw [HV.out]; rfl, HB0.out⟩
    cases t1
    rotate_left
    · skip
      have HV := Lib.hid (show B = false from by rw [hB]; first | rfl | simp)
      clear hB
      go_enter Tryd.func7, Tryd.ntmps7
      go_wp2_with fail
      rw [← hw0]
      clear hw0
      go_wp2_with (first
        | (go_at_call 15; first | (with_reducible refine (HT0.out _).mono ?_) | (with_reducible refine (HT1.out _).mono ?_)
           rintro e w1 ⟨rfl, rfl⟩)
        | (go_at_call 16; (with_reducible refine (HC.out _).mono ?_); rintro e w1 ⟨rfl, rfl⟩)
        | (go_at_call 17; (with_reducible refine (HQ.out _).mono ?_); rintro e w1 ⟨rfl, rfl⟩))
      go_ret
      exact ⟨by rw [HV.out]; rfl, HB0.out⟩
    cases a0
    · skip
      have HV := Lib.hid (show B = false from by rw [hB]; first | rfl | simp)
      clear hB
      go_enter Tryd.func7, Tryd.ntmps7
      go_wp2_with fail
      rw [← hw0]
      clear hw0
      go_wp2_with (first
        | (go_at_call 15; first | (with_reducible refine (HT0.out _).mono ?_) | (with_reducible refine (HT1.out _).mono ?_)
           rintro e w1 ⟨rfl, rfl⟩)
        | (go_at_call 16; (with_reducible refine (HC.out _).mono ?_); rintro e w1 ⟨rfl, rfl⟩)
        | (go_at_call 17; (with_reducible refine (HQ.out _).mono ?_); rintro e w1 ⟨rfl, rfl⟩))
      go_ret
      exact ⟨by rw [HV.out]; rfl, HB0.out⟩
    cases a1
    · skip
      have HV := Lib.hid (show B = false from by rw [hB]; first | rfl | simp)
      clear hB
      go_enter Tryd.func7, Tryd.ntmps7
      go_wp2_with fail
      rw [← hw0]
      clear hw0
      go_wp2_with (first
        | (go_at_call 15; first | (with_reducible refine (HT0.out _).mono ?_) | (with_reducible refine (HT1.out _).mono ?_)
           rintro e w1 ⟨rfl, rfl⟩)
        | (go_at_call 16; (with_reducible refine (HC.out _).mono ?_); rintro e w1 ⟨rfl, rfl⟩)
        | (go_at_call 17; (with_reducible refine (HQ.out _).mono ?_); rintro e w1 ⟨rfl, rfl⟩))
      go_ret
      exact ⟨by rw [HV.out]; rfl, HB0.out⟩
    cases b0
    · skip
      have HV := Lib.hid (show B = false from by rw [hB]; first | rfl | simp)
      clear hB
      go_enter Tryd.func7, Tryd.ntmps7
      go_wp2_with fail
      rw [← hw0]
      clear hw0
      go_wp2_with (first
        | (go_at_call 15; first | (with_reducible refine (HT0.out _).mono ?_) | (with_reducible refine (HT1.out _).mono ?_)
           rintro e w1 ⟨rfl, rfl⟩)
        | (go_at_call 16; (with_reducible refine (HC.out _).mono ?_); rintro e w1 ⟨rfl, rfl⟩)
        | (go_at_call 17; (with_reducible refine (HQ.out _).mono ?_); rintro e w1 ⟨rfl, rfl⟩))
      go_ret
      exact ⟨by rw [HV.out]; rfl, HB0.out⟩
    cases b1
    · skip
      have HV := Lib.hid (show B = false from by rw [hB]; first | rfl | simp)
      clear hB
      go_enter Tryd.func7, Tryd.ntmps7
      go_wp2_with fail
      rw [← hw0]
      clear hw0
      go_wp2_with (first
        | (go_at_call 15; first | (with_reducible refine (HT0.out _).mono ?_) | (with_reducible refine (HT1.out _).mono ?_)
           rintro e w1 ⟨rfl, rfl⟩)
        | (go_at_call 16; (with_reducible refine (HC.out _).mono ?_); rintro e w1 ⟨rfl, rfl⟩)
        | (go_at_call 17; (with_reducible refine (HQ.out _).mono ?_); rintro e w1 ⟨rfl, rfl⟩))
      go_ret
      exact ⟨by rw [HV.out]; rfl, HB0.out⟩
    cases k0
    · skip
      have HV := Lib.hid (show B = false from by rw [hB]; first | rfl | simp)
      clear hB
      go_enter Tryd.func7, Tryd.ntmps7
      go_wp2_with fail
      rw [← hw0]
      clear hw0
      go_wp2_with (first
        | (go_at_call 15; first | (with_reducible refine (HT0.out _).mono ?_) | (with_reducible refine (HT1.out _).mono ?_)
           rintro e w1 ⟨rfl, rfl⟩)
        | (go_at_call 16; (with_reducible refine (HC.out _).mono ?_); rintro e w1 ⟨rfl, rfl⟩)
        | (go_at_call 17; (with_reducible refine (HQ.out _).mono ?_); rintro e w1 ⟨rfl, rfl⟩))
      go_ret
      exact ⟨by rw [HV.out]; rfl, HB0.out⟩
    have HV := Lib.hid (show B = q from by rw [hB]; first | rfl | simp)
    clear hB
    go_enter Tryd.func7, Tryd.ntmps7
    go_wp2_with fail
    rw [← hw0]
    clear hw0
    go_wp2_with (first
      | (go_at_call 15; first | (with_reducible refine (HT0.out _).mono ?_) | (with_reducible refine (HT1.out _).mono ?_)
         rintro e w1 ⟨rfl, rfl⟩)
      | (go_at_call 16; (with_reducible refine (HC.out _).mono ?_); rintro e w1 ⟨rfl, rfl⟩)
      | (go_at_call 17; (with_reducible refine (HQ.out _).mono ?_); rintro e w1 ⟨rfl, rfl⟩))
    go_ret
    exact ⟨by rw [HV.out]; rfl, HB0.out⟩

theorem rgood25_any (a b c : Int) (r : ByteArray) (w : World) (hs : r.size ≤ 9223372036854775807) :
    Calls Tryd.prog 7 #[stV a b c r] w fun e w' => e = .returned (.bool (stgQ a b c r)) ∧ Below w.heap.size w w' := by
  by_cases h0 : r.size = 0
  · refine rgood_parts false false _ _ _ _ _ (allB quoB r) _ a b c (clsZ c) r w (.inl h0) rfl rfl rfl rfl rfl hs (Lib.hid fun W => rclass25_any c W) (Lib.hid fun W => rQuoted_any r W hs) (fun _ => ?_) (fun h => absurd h0 h)
    unfold stgQ
    rw [ver_ten, ver_ten, cls_zero, rea_none h0]
  · obtain ⟨m, hm⟩ : ∃ m, r.size = m + 1 := ⟨r.size - 1, by omega⟩
    refine rgood_parts (tabB (r[0]'(by omega))) (tabB (r[m]'(by omega))) _ _ _ _ _ (allB quoB r) _ a b c (clsZ c) r w (.inr ⟨m, hm, fun _ => ⟨rfl, rfl⟩⟩) rfl rfl rfl rfl rfl hs (Lib.hid fun W => rclass25_any c W) (Lib.hid fun W => rQuoted_any r W hs) (fun h => absurd h h0) (fun _ => ?_)
    unfold stgQ
    rw [ver_ten, ver_ten, cls_zero, rea_some hm]

end Go.Proofs.YteeheehoaklnbaaDoor
