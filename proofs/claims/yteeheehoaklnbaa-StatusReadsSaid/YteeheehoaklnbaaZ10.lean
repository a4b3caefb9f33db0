/-
  What Count and All answer where they are asked of Digit. Condition: the text is as long as a length can be.
  What number, Parse, Strict and Prefix of layer 5 answer. Condition: the text is as long as a length can be.
  What package ranges' reader does: check, blanks, unit, mark, digits, end, number. Conditions: the place lies in the text, which is no longer than a length can be.
-/
import Derived.Test.YteeheehoaklnbaaZ3
import Derived.Lib.Strings
import Derived.Test.YteeheehoaklnbaaZ4
import Derived.Test.YteeheehoaklnbaaZ6
import Derived.Test.YteeheehoaklnbaaZ7
import Derived.Test.YteeheehoaklnbaaZ9
import Derived.Test.YteeheehoaklnbaaZ2
import Derived.Deep.RegionHeld2
import Derived.LoopTactic
import Derived.BigQuiet
import Derived.OneCell
import Derived.OwnWalk
import Derived.Laws.IdiomStrings
import Derived.Laws.OwnMore
import Derived.Laws.BytesArg
namespace Go.Proofs.Yteeheehoaklnbaa
open Go.RowKit

abbrev fnDig : Value := .func (.func 47) #[] #[]

set_option maxHeartbeats 2000000 in
theorem all1_Dig (sb fb lb : Nat) (s : ByteArray) (w : World) (hsb : w.cell? ⟨sb, 0, none⟩ = some (.string s)) (hf : w.cell? ⟨fb, 0, none⟩ = some fnDig)
    (hl : w.heap[lb]? = some (.cells #[.bool false] 4 (0, 0))) (hs : s.size ≤ 9223372036854775807) :
    Calls Try.prog 66 #[.pointer (some ⟨sb, 0, none⟩), .pointer (some ⟨fb, 0, none⟩), .pointer (some ⟨lb, 0, none⟩)] w fun e w' => e = .returned (.tuple #[]) ∧ Mv w.heap.size [lb] w w' ∧
      w'.heap[lb]? = some (.cells #[.bool (allB digB s)] 4 (0, 0)) := by
  have l0 := cell_of_one hl
  have lz := free_of_one hl
  go_enter Try.func66, Try.ntmps66
  go_wp2
  go_loopw [6] (fun v wr => ∃ i : Nat, i ≤ s.size ∧ v = .int .i64 i ∧ (∀ j (hj : j < s.size), j < i → digB s[j] = true) ∧ Mv w.heap.size [] w wr) (fun v _ => s.size - (intOf v).toNat)
  case atStart => exact ⟨0, Nat.zero_le _, rfl, fun j _ h => absurd h (by omega), Mv.refl _ _ _⟩
  case round =>
    obtain ⟨i, hi, rfl, hno, hm⟩ := hrel
    have d1 : wr.cell? ⟨sb, 0, none⟩ = some (.string s) := (hm.cell (p := ⟨sb, 0, none⟩) (World.block_lt_of_cell? w _ hsb) (by simp)).trans hsb
    have d2 : wr.cell? ⟨fb, 0, none⟩ = some fnDig := (hm.cell (p := ⟨fb, 0, none⟩) (World.block_lt_of_cell? w _ hf) (by simp)).trans hf
    have d3 : wr.cell? ⟨lb, 0, none⟩ = some (.bool false) := (hm.cell (p := ⟨lb, 0, none⟩) (World.block_lt_of_cell? w _ l0) (by simp)).trans l0
    have dz : wr.frozen? ⟨lb, 0, none⟩ = false := (hm.frozen (p := ⟨lb, 0, none⟩) (World.block_lt_of_cell? w _ l0) (by simp)).trans lz
    have HW := Lib.hid ((hm.block lb (World.block_lt_of_cell? w _ l0) (by simp)).trans hl)
    have HM := Lib.hid (hm.mono (r' := [lb]) (Nat.le_refl _) (by simp))
    have HM0 := Lib.hid hm
    have HN := Lib.hid hno
    clear hno hm hsb hf hl l0 lz
    by_cases hlt : i < s.size
    · have HL := Lib.hid (fun W => digit_any s[i] W)
      cases hb : digB s[i]
      · have HC := Lib.hid (allB_no hlt hb)
        have HL2 : Hid (∀ W, Calls Try.prog 47 #[.int .u8 (s[i].toNat : Int)] W fun e w' => e = .returned (.bool false) ∧ w' = W) := fun W => by
          have := HL.out W
          rw [hb] at this
          exact this.mono fun _ _ h => ⟨h.1, h.2.symm⟩
        clear HL hb
        go_wp2
        go_quiet ((go_at_call 47; exact Calls.quiet_of_same (HL2.out _)))
        go_wp2
        refine bodyPost_ret (results_none rfl _ _ _) rfl ?_
        exact ⟨rfl, HM.out.drewN _, by rw [HC.out]; exact HW.out⟩
      · have HP := Lib.hid hb
        have HL2 : Hid (∀ W, Calls Try.prog 47 #[.int .u8 (s[i].toNat : Int)] W fun e w' => e = .returned (.bool true) ∧ w' = W) := fun W => by
          have := HL.out W
          rw [hb] at this
          exact this.mono fun _ _ h => ⟨h.1, h.2.symm⟩
        clear HL hb
        go_wp2
        go_quiet ((go_at_call 47; exact Calls.quiet_of_same (HL2.out _)))
        go_wp2
        go_roundw
        case rel => exact ⟨i + 1, by omega, by go_num, fun j hj h => if e : j = i then by subst e; exact HP.out else HN.out j hj (by omega), HM0.out.drewN _⟩
        case measure => simp [intOf]; omega
    · obtain rfl : i = s.size := by omega
      have HC := Lib.hid (allB_yes fun j hj => HN.out j hj hj)
      go_wp2
      go_end0
      exact ⟨rfl, HM.out.setCell (.inl (by simp)) _, by rw [HC.out]; exact one_setCell HW.out⟩

theorem catch_all1_Dig (sb fb lb : Nat) (s : ByteArray) (w : World) (hsb : w.cell? ⟨sb, 0, none⟩ = some (.string s)) (hf : w.cell? ⟨fb, 0, none⟩ = some fnDig)
    (hl : w.heap[lb]? = some (.cells #[.bool false] 4 (0, 0))) (hs : s.size ≤ 9223372036854775807) :
    Calls Try.prog 44 #[.func (.func 66) #[] #[.pointer (some ⟨sb, 0, none⟩), .pointer (some ⟨fb, 0, none⟩), .pointer (some ⟨lb, 0, none⟩)]] w fun e w' =>
      e = .returned (.tuple #[flt 0 0, .bool false]) ∧ Mv w.heap.size [lb] w w' ∧ w'.heap[lb]? = some (.cells #[.bool (allB digB s)] 4 (0, 0)) := by
  have la : lb < w.heap.size := lt_of_block hl
  refine catch_mv_returns 66 #[] #[.pointer (some ⟨sb, 0, none⟩), .pointer (some ⟨fb, 0, none⟩), .pointer (some ⟨lb, 0, none⟩)] w [lb]
    (fun W => W.heap[lb]? = some (.cells #[.bool (allB digB s)] 4 (0, 0)))
    (one_lt' la) (fun W1 W2 hb h1 => (hb.block lb la).trans h1) (fun _ => by simp [go_sem]) fun W hW => ?_
  refine (all1_Dig sb fb lb s W ((hW.cell (p := ⟨sb, 0, none⟩) (World.block_lt_of_cell? w _ hsb)).trans hsb) ((hW.cell (p := ⟨fb, 0, none⟩) (World.block_lt_of_cell? w _ hf)).trans hf) ((hW.block lb la).trans hl) hs).mono ?_
  rintro e w' ⟨rfl, h1, h2⟩
  exact ⟨⟨_, rfl⟩, h1, h2⟩

set_option maxHeartbeats 2000000 in
theorem all_Dig (s : ByteArray) (w : World) (hs : s.size ≤ 9223372036854775807) :
    Calls Try.prog 60 #[.string s, fnDig] w fun e w' => e = .returned (.bool (allB digB s)) ∧ Below w.heap.size w w' := by
  have hq := eq_fn_nil
  have hmf := make_func
  obtain ⟨W3, hW⟩ : ∃ W3, W3 = (((w.alloc (.cells #[.string s] 9)).alloc (.cells #[fnDig] 46)).alloc (.cells #[.bool false] 4)) := ⟨_, rfl⟩
  have c2 : W3.heap[w.heap.size + 1 + 1]? = some (.cells #[.bool false] 4 (0, 0)) := by
    have := Blk.new ((w.alloc (.cells #[.string s] 9)).alloc (.cells #[fnDig] 46)) 4 #[.bool false]
    rw [hW]
    simpa [Blk] using this
  have c0 : W3.cell? ⟨w.heap.size, 0, none⟩ = some (.string s) := by rw [hW]; simp [go_sem]
  have c1 : W3.cell? ⟨w.heap.size + 1, 0, none⟩ = some fnDig := by rw [hW]; simp [go_sem]
  have HB := Lib.hid (show Below w.heap.size w W3 by
    rw [hW]
    exact (((Below.refl _ _).alloc (Nat.le_refl _) _).alloc (by simp) _).alloc (by simp; omega) _)
  have HZ := Lib.hid (show W3.heap.size = w.heap.size + 3 by rw [hW]; simp)
  have HC := Lib.hid (catch_all1_Dig w.heap.size (w.heap.size + 1) (w.heap.size + 1 + 1) s W3 c0 c1 c2 hs)
  clear c0 c1 c2
  have HW := Lib.hid hW
  clear hW
  go_enter Try.func60, Try.ntmps60
  go_wp2_with (go_at_call 44; rw [← HW.out]; refine HC.out.mono ?_; rintro e w1 ⟨rfl, hm, h1⟩; have j3 := cell_of_one h1; have HM := Lib.hid hm; clear hm h1)
  go_ret
  exact ⟨rfl, HB.out.trans (HM.out.below (B' := w.heap.size) (by have := HZ.out; omega) (by simp; omega))⟩

end Go.Proofs.Yteeheehoaklnbaa
namespace Go.Proofs.Yteeheehoaklnbaa
open Go.RowKit

set_option maxHeartbeats 1000000 in
theorem number_any (s : ByteArray) (w : World) (hd : ∀ j (hj : j < s.size), digB s[j] = true) (hs : s.size ≤ 9223372036854775807) :
    Calls Try.prog 61 #[.string s] w fun e w' => e = .returned (numV s s.size) ∧ w = w' := by
  go_enter Try.func61, Try.ntmps61
  go_wp2
  go_loop [8, 4] (fun i n => ∃ k : Nat, k ≤ s.size ∧ i = .int .i64 k ∧ n = .int .i64 (numK s k : Nat) ∧ numK s k ≤ 9007199254740991) (fun i _ => s.size - (intOf i).toNat)
  case atStart => exact ⟨0, by omega, rfl, rfl, by rw [numK_zero]; omega⟩
  case round =>
    obtain ⟨k, hk, rfl, rfl, hm⟩ := hrel
    by_cases hlt : k < s.size
    · obtain ⟨g1, g2⟩ := digB_range (hd k hlt)
      have HN := Lib.hid (numK_succ hlt)
      have HM := Lib.hid (numK_mono s (show k + 1 ≤ s.size by omega))
      by_cases hov : numK s (k + 1) ≤ 9007199254740991
      · have HO := Lib.hid hov
        rw [HN.out] at hov
        obtain ⟨a, ha⟩ : ∃ a, a = numK s k := ⟨_, rfl⟩
        rw [← ha] at hm hov HN ⊢
        have HA := Lib.hid ha
        have d1 : decide ((9007199254740991 : Int) < (a : Int) * 10 + ((s[k].toNat : Int) - 48)) = false := by simp; omega
        clear ha hd
        go_wp2
        go_round
        case rel => exact ⟨k + 1, by omega, by go_num, by rw [HN.out]; go_num, HO.out⟩
        case measure => simp [intOf]; omega
      · have HV := Lib.hid (numV_no (s := s) (k := s.size) (by have := HM.out; omega))
        rw [HN.out] at hov
        obtain ⟨a, ha⟩ : ∃ a, a = numK s k := ⟨_, rfl⟩
        rw [← ha] at hm hov HN ⊢
        have d1 : decide ((9007199254740991 : Int) < (a : Int) * 10 + ((s[k].toNat : Int) - 48)) = true := by simp; omega
        clear ha hd
        go_wp2
        go_ret2
        exact ⟨by rw [HV.out]; first | done | rfl, rfl⟩
    · obtain rfl : k = s.size := by omega
      have HV := Lib.hid (numV_yes hm)
      go_wp2
      go_ret2
      exact ⟨by rw [HV.out]; first | done | rfl, rfl⟩

theorem digits_all (s : ByteArray) (hs : s.size ≤ 9223372036854775807) (h : allB digB s = true) : Hid (∀ W, Calls Try.prog 61 #[.string s] W fun e w' => e = .returned (numV s s.size) ∧ W = w') :=
  fun W => number_any s W (allB_digits h) hs

set_option maxHeartbeats 1000000 in
theorem parse_any (s : ByteArray) (w : World) (hs : s.size ≤ 9223372036854775807) :
    Calls Try.prog 49 #[.string s] w fun e w' => e = .returned (parV s) ∧ Below w.heap.size w w' := by
  by_cases h0 : s.size = 0
  · have HV := Lib.hid (parV_empty h0)
    obtain rfl : s = ⟨#[]⟩ := by
      cases s with | mk d => simp at h0; rw [h0]; rfl
    go_enter Try.func49, Try.ntmps49
    go_wp2
    go_ret2
    exact ⟨by rw [HV.out]; first | done | rfl, Below.refl _ _⟩
  · have e0 : (s.toList == []) = false := by
      rw [beq_eq_false_iff_ne]
      intro h
      rw [Lib.toList_data] at h
      have := congrArg List.length h
      rw [Array.length_toList] at this
      exact h0 this
    have HA : Hid (∀ W, Calls Try.prog 60 #[.string s, .func (.func 47) #[] #[]] W fun e w' => e = .returned (.bool (allB digB s)) ∧ Below W.heap.size W w') := fun W => all_Dig s W hs
    cases ha : allB digB s
    · rw [ha] at HA
      have HV := Lib.hid (parV_form ha)
      clear ha h0
      go_enter Try.func49, Try.ntmps49
      go_wp2_with (go_at_call 60; refine (HA.out _).mono ?_; rintro e w1 ⟨rfl, hb⟩)
      go_ret2
      exact ⟨by rw [HV.out]; first | done | rfl, hb⟩
    · have HN := digits_all s hs ha
      by_cases h1 : numK s s.size ≤ 9007199254740991
      · have HV := Lib.hid (parV_ok h0 ha h1)
        rw [ha] at HA
        rw [numV_yes h1] at HN
        clear ha h0 h1
        generalize numK s s.size = n at *
        go_enter Try.func49, Try.ntmps49
        go_wp2_with (first
          | (go_at_call 60; refine (HA.out _).mono ?_; rintro e w1 ⟨rfl, hb⟩)
          | (go_at_call 61; refine (HN.out _).mono ?_; rintro e w1 ⟨rfl, rfl⟩))
        go_ret2
        exact ⟨by rw [HV.out]; first | done | rfl, hb⟩
      · have HV := Lib.hid (parV_range h0 ha (by omega))
        rw [ha] at HA
        rw [numV_no (by omega)] at HN
        clear ha h0 h1
        go_enter Try.func49, Try.ntmps49
        go_wp2_with (first
          | (go_at_call 60; refine (HA.out _).mono ?_; rintro e w1 ⟨rfl, hb⟩)
          | (go_at_call 61; refine (HN.out _).mono ?_; rintro e w1 ⟨rfl, rfl⟩))
        go_ret2
        exact ⟨by rw [HV.out]; first | done | rfl, hb⟩

end Go.Proofs.Yteeheehoaklnbaa
namespace Go.Proofs.Yteeheehoaklnbaa
open Go.RowKit

theorem size_bool (x : ByteArray) : (x.toList == []) = decide (x.size = 0) := by
  rw [Bool.eq_iff_iff, beq_iff_eq, decide_eq_true_eq, ← toList_size]
  exact List.length_eq_zero_iff.symm

set_option maxHeartbeats 400000 in
theorem must_ok (n : Int) (w : World) :
    Calls Try.prog 48 #[.int .i64 n, .int .i64 0] w fun e w' => e = .returned (.int .i64 n) ∧ w = w' := by
  go_enter Try.func48, Try.ntmps48
  go_wp2_with (go_at_call 50; (with_reducible refine (check_ok _ _ _).mono ?_); rintro e w1 ⟨rfl, rfl⟩)
  go_ret
  exact ⟨rfl, rfl⟩

set_option maxHeartbeats 400000 in
theorem must_not (n : Int) (w : World) :
    Calls Try.prog 48 #[.int .i64 n, .int .i64 9] w fun e w' => e = pnc 0 9 ∧ w = w' := by
  go_enter Try.func48, Try.ntmps48
  go_wp2_with (go_at_call 50; (with_reducible refine (check_not _ _ _).mono ?_); rintro e w1 ⟨rfl, rfl⟩)
  exact ⟨rfl, rfl, rfl⟩

end Go.Proofs.Yteeheehoaklnbaa
