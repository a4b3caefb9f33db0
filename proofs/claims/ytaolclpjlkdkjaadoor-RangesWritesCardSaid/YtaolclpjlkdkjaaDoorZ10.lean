/-
  What Count and All answer where they are asked of Digit. Condition: the text is as long as a length can be.
  What number, Parse, Strict and Prefix of layer 5 answer. Condition: the text is as long as a length can be.
  What package ranges' reader does: check, blanks, unit, mark, digits, end, number. Conditions: the place lies in the text, which is no longer than a length can be.
-/
import Derived.Test.YtaolclpjlkdkjaaDoorZ3
import Derived.Lib.Strings
import Derived.Test.YtaolclpjlkdkjaaDoorZ4
import Derived.Test.YtaolclpjlkdkjaaDoorZ5
import Derived.Test.YtaolclpjlkdkjaaDoorZ9
import Derived.Deep.RegionHeld2
namespace Go.Proofs.YtaolclpjlkdkjaaDoor
open Go.RowKit

abbrev fnDig : Value := .func (.func 33) #[] #[]

set_option maxHeartbeats 2000000 in
theorem all1_Dig (sb fb lb : Nat) (s : ByteArray) (w : World) (hsb : w.cell? ⟨sb, 0, none⟩ = some (.string s)) (hf : w.cell? ⟨fb, 0, none⟩ = some fnDig)
    (hl : w.heap[lb]? = some (.cells #[.bool false] 4 (0, 0))) (hs : s.size ≤ 9223372036854775807) :
    Calls Tryd.prog 69 #[.pointer (some ⟨sb, 0, none⟩), .pointer (some ⟨fb, 0, none⟩), .pointer (some ⟨lb, 0, none⟩)] w fun e w' => e = .returned (.tuple #[]) ∧ Mv w.heap.size [lb] w w' ∧
      w'.heap[lb]? = some (.cells #[.bool (allB digB s)] 4 (0, 0)) := by
  have l0 := cell_of_one hl
  have lz := free_of_one hl
  go_enter Tryd.func69, Tryd.ntmps69
  go_wp2
  go_loopw [6] (fun v wr => ∃ i : Nat, i ≤ s.size ∧ v = .int .i64 i ∧ (∀ j (hj : j < s.size), j < i → digB s[j] = true) ∧ Mv w.heap.size [] w wr) (fun v _ => s.size - (intOf v).toNat)
  case atStart => exact ⟨0, Nat.zero_le _, rfl, fun j _ h => absurd h (by omega), Mv.refl _ _ _⟩
  case round =>
    obtain ⟨i, hi, rfl, hno, hm⟩ := hrel
    have d1 : wr.cell? ⟨sb, 0, none⟩ = some (.string s) := (hm.cell (p := ⟨sb, 0, none⟩) (World.block_lt_of_cell? w _ hsb) (by simp)).trans hsb
    have d2 : wr.cell? ⟨fb, 0, none⟩ = some fnDig := (hm.cell (p := ⟨fb, 0, none⟩) (World.block_lt_of_cell? w _ hf) (by simp)).trans hf
    have d3 : wr.cell? ⟨lb, 0, none⟩ = some (.bool false) := (hm.cell (p := ⟨lb, 0, none⟩) (World.block_lt_of_cell? w _ l0) (by simp)).trans l0
    have dz : wr.frozen? ⟨lb, 0, none⟩ = false := (hm.frozen (p := ⟨lb, 0, none⟩) (World.block_lt_of_cell? w _ l0) (by simp)).trans lz
    have HW := Lib.hid ((hm.block lb (World.block_lt_of_cell? w _ l0) (by simp)).trans hl)
    have HM := Lib.hid (hm.mono (r' := [lb]) (Nat.le_refl _) (by simp))
    have HM0 := Lib.hid hm
    have HN := Lib.hid hno
    clear hno hm hsb hf hl l0 lz
    by_cases hlt : i < s.size
    · have HL := Lib.hid (fun W => digit_any s[i] W)
      cases hb : digB s[i]
      · have HC := Lib.hid (allB_no hlt hb)
        have HL2 : Hid (∀ W, Calls Tryd.prog 33 #[.int .u8 (s[i].toNat : Int)] W fun e w' => e = .returned (.bool false) ∧ w' = W) := fun W => by
          have := HL.out W
          rw [hb] at this
          exact this.mono fun _ _ h => ⟨h.1, h.2.symm⟩
        clear HL hb
        go_wp2
        go_quiet ((go_at_call 33; exact Calls.quiet_of_same (HL2.out _)))
        go_wp2
        refine bodyPost_ret (results_none rfl _ _ _) rfl ?_
        exact ⟨rfl, HM.out.drewN _, by rw [HC.out]; exact HW.out⟩
      · have HP := Lib.hid hb
        have HL2 : Hid (∀ W, Calls Tryd.prog 33 #[.int .u8 (s[i].toNat : Int)] W fun e w' => e = .returned (.bool true) ∧ w' = W) := fun W => by
          have := HL.out W
          rw [hb] at this
          exact this.mono fun _ _ h => ⟨h.1, h.2.symm⟩
        clear HL hb
        go_wp2
        go_quiet ((go_at_call 33; exact Calls.quiet_of_same (HL2.out _)))
        go_wp2
        go_roundw
        case rel => exact ⟨i + 1, by omega, by go_num, fun j hj h => if e : j = i then by subst e; exact HP.out else HN.out j hj (by omega), HM0.out.drewN _⟩
        case measure => simp [intOf]; omega
    · obtain rfl : i = s.size := by omega
      have HC := Lib.hid (allB_yes fun j hj => HN.out j hj hj)
      go_wp2
      go_end0
      exact ⟨rfl, HM.out.setCell (.inl (by simp)) _, by rw [HC.out]; exact one_setCell HW.out⟩

theorem catch_all1_Dig (sb fb lb : Nat) (s : ByteArray) (w : World) (hsb : w.cell? ⟨sb, 0, none⟩ = some (.string s)) (hf : w.cell? ⟨fb, 0, none⟩ = some fnDig)
    (hl : w.heap[lb]? = some (.cells #[.bool false] 4 (0, 0))) (hs : s.size ≤ 9223372036854775807) :
    Calls Tryd.prog 49 #[.func (.func 69) #[] #[.pointer (some ⟨sb, 0, none⟩), .pointer (some ⟨fb, 0, none⟩), .pointer (some ⟨lb, 0, none⟩)]] w fun e w' =>
      e = .returned (.tuple #[flt 0 0, .bool false]) ∧ Mv w.heap.size [lb] w w' ∧ w'.heap[lb]? = some (.cells #[.bool (allB digB s)] 4 (0, 0)) := by
  have la : lb < w.heap.size := lt_of_block hl
  refine catch_mv_returns 69 #[] #[.pointer (some ⟨sb, 0, none⟩), .pointer (some ⟨fb, 0, none⟩), .pointer (some ⟨lb, 0, none⟩)] w [lb]
    (fun W => W.heap[lb]? = some (.cells #[.bool (allB digB s)] 4 (0, 0)))
    (one_lt' la) (fun W1 W2 hb h1 => (hb.block lb la).trans h1) (fun _ => by simp [go_sem]) fun W hW => ?_
  refine (all1_Dig sb fb lb s W ((hW.cell (p := ⟨sb, 0, none⟩) (World.block_lt_of_cell? w _ hsb)).trans hsb) ((hW.cell (p := ⟨fb, 0, none⟩) (World.block_lt_of_cell? w _ hf)).trans hf) ((hW.block lb la).trans hl) hs).mono ?_
  rintro e w' ⟨rfl, h1, h2⟩
  exact ⟨⟨_, rfl⟩, h1, h2⟩

set_option maxHeartbeats 2000000 in
theorem all_Dig (s : ByteArray) (w : World) (hs : s.size ≤ 9223372036854775807) :
    Calls Tryd.prog 64 #[.string s, fnDig] w fun e w' => e = .returned (.bool (allB digB s)) ∧ Below w.heap.size w w' := by
  have hq := eq_fn_nil
  have hmf := make_func
  obtain ⟨W3, hW⟩ : ∃ W3, W3 = (((w.alloc (.cells #[.string s] 9)).alloc (.cells #[fnDig] 60)).alloc (.cells #[.bool false] 4)) := ⟨_, rfl⟩
  have c2 : W3.heap[w.heap.size + 1 + 1]? = some (.cells #[.bool false] 4 (0, 0)) := by
    have := Blk.new ((w.alloc (.cells #[.string s] 9)).alloc (.cells #[fnDig] 60)) 4 #[.bool false]
    rw [hW]
    simpa [Blk] using this
  have c0 : W3.cell? ⟨w.heap.size, 0, none⟩ = some (.string s) := by rw [hW]; simp [go_sem]
  have c1 : W3.cell? ⟨w.heap.size + 1, 0, none⟩ = some fnDig := by rw [hW]; simp [go_sem]
  have HB := Lib.hid (show Below w.heap.size w W3 by
    rw [hW]
    exact (((Below.refl _ _).alloc (Nat.le_refl _) _).alloc (by simp) _).alloc (by simp; omega) _)
  have HZ := Lib.hid (show W3.heap.size = w.heap.size + 3 by rw [hW]; simp)
  have HC := Lib.hid (catch_all1_Dig w.heap.size (w.heap.size + 1) (w.heap.size + 1 + 1) s W3 c0 c1 c2 hs)
  clear c0 c1 c2
  have HW := Lib.hid hW
  clear hW
  go_enter Tryd.func64, Tryd.ntmps64
  go_wp2_with (go_at_call 49; rw [← HW.out]; refine HC.out.mono ?_; rintro e w1 ⟨rfl, hm, h1⟩; have j3 := cell_of_one h1; have HM := Lib.hid hm; clear hm h1)
  go_ret
  exact ⟨rfl, HB.out.trans (HM.out.below (B' := w.heap.size) (by have := HZ.out; omega) (by simp; omega))⟩

end Go.Proofs.YtaolclpjlkdkjaaDoor
namespace Go.Proofs.YtaolclpjlkdkjaaDoor
open Go.RowKit

set_option maxHeartbeats 1000000 in
theorem number_any (s : ByteArray) (w : World) (hd : ∀ j (hj : j < s.size), digB s[j] = true) (hs : s.size ≤ 9223372036854775807) :
    Calls Tryd.prog 65 #[.string s] w fun e w' => e = .returned (numV s s.size) ∧ w = w' := by
  go_enter Tryd.func65, Tryd.ntmps65
  go_wp2
  go_loop [8, 4] (fun i n => ∃ k : Nat, k ≤ s.size ∧ i = .int .i64 k ∧ n = .int .i64 (numK s k : Nat) ∧ numK s k ≤ 9007199254740991) (fun i _ => s.size - (intOf i).toNat)
  case atStart => exact ⟨0, by omega, rfl, rfl, by rw [numK_zero]; omega⟩
  case round =>
    obtain ⟨k, hk, rfl, rfl, hm⟩ := hrel
    by_cases hlt : k < s.size
    · obtain ⟨g1, g2⟩ := digB_range (hd k hlt)
      have HN := Lib.hid (numK_succ hlt)
      have HM := Lib.hid (numK_mono s (show k + 1 ≤ s.size by omega))
      by_cases hov : numK s (k + 1) ≤ 9007199254740991
      · have HO := Lib.hid hov
        rw [HN.out] at hov
        obtain ⟨a, ha⟩ : ∃ a, a = numK s k := ⟨_, rfl⟩
        rw [← ha] at hm hov HN ⊢
        have HA := Lib.hid ha
        have d1 : decide ((9007199254740991 : Int) < (a : Int) * 10 + ((s[k].toNat : Int) - 48)) = false := by simp; omega
        clear ha hd
        go_wp2
        go_round
        case rel => exact ⟨k + 1, by omega, by go_num, by rw [HN.out]; go_num, HO.out⟩
        case measure => simp [intOf]; omega
      · have HV := Lib.hid (numV_no (s := s) (k := s.size) (by have := HM.out; omega))
        rw [HN.out] at hov
        obtain ⟨a, ha⟩ : ∃ a, a = numK s k := ⟨_, rfl⟩
        rw [← ha] at hm hov HN ⊢
        have d1 : decide ((9007199254740991 : Int) < (a : Int) * 10 + ((s[k].toNat : Int) - 48)) = true := by simp; omega
        clear ha hd
        go_wp2
        go_ret2
        exact ⟨by rw [HV.out]; first | done | rfl, rfl⟩
    · obtain rfl : k = s.size := by omega
      have HV := Lib.hid (numV_yes hm)
      go_wp2
      go_ret2
      exact ⟨by rw [HV.out]; first | done | rfl, rfl⟩

theorem digits_all (s : ByteArray) (hs : s.size ≤ 9223372036854775807) (h : allB digB s = true) : Hid (∀ W, Calls Tryd.prog 65 #[.string s] W fun e w' => e = .returned (numV s s.size) ∧ W = w') :=
  fun W => number_any s W (allB_digits h) hs

set_option maxHeartbeats 1000000 in
theorem parse_any (s : ByteArray) (w : World) (hs : s.size ≤ 9223372036854775807) :
    Calls Tryd.prog 54 #[.string s] w fun e w' => e = .returned (parV s) ∧ Below w.heap.size w w' := by
  by_cases h0 : s.size = 0
  · have HV := Lib.hid (parV_empty h0)
    obtain rfl : s = ⟨#[]⟩ := by
      cases s with | mk d => simp at h0; rw [h0]; rfl
    go_enter Tryd.func54, Tryd.ntmps54
    go_wp2
    go_ret2
    exact ⟨by rw [HV.out]; first | done | rfl, Below.refl _ _⟩
  · have e0 : (s.toList == []) = false := by
      rw [beq_eq_false_iff_ne]
      intro h
      rw [Lib.toList_data] at h
      have := congrArg List.length h
      rw [Array.length_toList] at this
      exact h0 this
    have HA : Hid (∀ W, Calls Tryd.prog 64 #[.string s, .func (.func 33) #[] #[]] W fun e w' => e = .returned (.bool (allB digB s)) ∧ Below W.heap.size W w') := fun W => all_Dig s W hs
    cases ha : allB digB s
    · rw [ha] at HA
      have HV := Lib.hid (parV_form ha)
      clear ha h0
      go_enter Tryd.func54, Tryd.ntmps54
      go_wp2_with (go_at_call 64; refine (HA.out _).mono ?_; rintro e w1 ⟨rfl, hb⟩)
      go_ret2
      exact ⟨by rw [HV.out]; first | done | rfl, hb⟩
    · have HN := digits_all s hs ha
      by_cases h1 : numK s s.size ≤ 9007199254740991
      · have HV := Lib.hid (parV_ok h0 ha h1)
        rw [ha] at HA
        rw [numV_yes h1] at HN
        clear ha h0 h1
        generalize numK s s.size = n at *
        go_enter Tryd.func54, Tryd.ntmps54
        go_wp2_with (first
          | (go_at_call 64; refine (HA.out _).mono ?_; rintro e w1 ⟨rfl, hb⟩)
          | (go_at_call 65; refine (HN.out _).mono ?_; rintro e w1 ⟨rfl, rfl⟩))
        go_ret2
        exact ⟨by rw [HV.out]; first | done | rfl, hb⟩
      · have HV := Lib.hid (parV_range h0 ha (by omega))
        rw [ha] at HA
        rw [numV_no (by omega)] at HN
        clear ha h0 h1
        go_enter Tryd.func54, Tryd.ntmps54
        go_wp2_with (first
          | (go_at_call 64; refine (HA.out _).mono ?_; rintro e w1 ⟨rfl, hb⟩)
          | (go_at_call 65; refine (HN.out _).mono ?_; rintro e w1 ⟨rfl, rfl⟩))
        go_ret2
        exact ⟨by rw [HV.out]; first | done | rfl, hb⟩

end Go.Proofs.YtaolclpjlkdkjaaDoor
namespace Go.Proofs.YtaolclpjlkdkjaaDoor
open Go.RowKit

/-- A reader, as a value. -/
abbrev rdV (cb : Nat) : Value := .agg #[cptr cb]
abbrev unitV : Ending := .returned (.tuple #[])

set_option maxHeartbeats 400000 in
theorem rcheck_not (cb k : Nat) (s : ByteArray) (w : World) (h : Cur w cb s k) :
    Calls Tryd.prog 34 #[rdV cb, .bool false] w fun e w' => e = pnc k 2 ∧ Below w.heap.size w w' := by
  have HC := Lib.hid (h.alloc (.cells #[cptr cb] 47))
  have HB := Lib.hid ((Below.refl w.heap.size w).alloc (Nat.le_refl _) (.cells #[cptr cb] 47))
  clear h
  go_enter Tryd.func34, Tryd.ntmps34
  go_wp2_with (first
    | (go_at_call 38; refine (at_any cb k s _ HC.out).mono ?_; rintro e w1 ⟨rfl, rfl⟩)
    | (go_at_call 37; (with_reducible refine (check_not _ _ _).mono ?_); rintro e w1 ⟨rfl, rfl⟩))
  exact ⟨rfl, rfl, HB.out⟩

set_option maxHeartbeats 400000 in
theorem rcheck_ok (cb k : Nat) (s : ByteArray) (w : World) (h : Cur w cb s k) :
    Calls Tryd.prog 34 #[rdV cb, .bool true] w fun e w' => e = unitV ∧ Below w.heap.size w w' := by
  have HC := Lib.hid (h.alloc (.cells #[cptr cb] 47))
  have HB := Lib.hid ((Below.refl w.heap.size w).alloc (Nat.le_refl _) (.cells #[cptr cb] 47))
  clear h
  go_enter Tryd.func34, Tryd.ntmps34
  go_wp2_with (first
    | (go_at_call 38; refine (at_any cb k s _ HC.out).mono ?_; rintro e w1 ⟨rfl, rfl⟩)
    | (go_at_call 37; (with_reducible refine (check_ok _ _ _).mono ?_); rintro e w1 ⟨rfl, rfl⟩))
  go_end0
  exact ⟨rfl, HB.out⟩

theorem rcheck_any (cb k : Nat) (s : ByteArray) (b : Bool) (w : World) (h : Cur w cb s k) :
    Calls Tryd.prog 34 #[rdV cb, .bool b] w fun e w' => ((b = true ∧ e = unitV) ∨ (b = false ∧ e = pnc k 2)) ∧ Below w.heap.size w w' := by
  cases b
  · exact (rcheck_not cb k s w h).mono fun e w' ⟨h1, h2⟩ => ⟨.inr ⟨rfl, h1⟩, h2⟩
  · exact (rcheck_ok cb k s w h).mono fun e w' ⟨h1, h2⟩ => ⟨.inl ⟨rfl, h1⟩, h2⟩

set_option maxHeartbeats 400000 in
theorem blanks_any (cb k : Nat) (s : ByteArray) (w : World) (h : Cur w cb s k) (hk : k ≤ s.size) (hs : s.size ≤ 9223372036854775807) :
    Calls Tryd.prog 29 #[rdV cb] w fun e w' => e = .returned (.string (s.extract k (scan tabB s k))) ∧ Mv w.heap.size [cb] w w' ∧ Cur w' cb s (scan tabB s k) := by
  have HW := Lib.hid (while_tab cb k s _ (h.alloc (.cells #[cptr cb] 47)) hk hs)
  have HM := Lib.hid ((Mv.refl w.heap.size [cb] w).alloc (Nat.le_refl _) (.cells #[cptr cb] 47))
  clear h
  go_enter Tryd.func29, Tryd.ntmps29
  go_wp2_with fail
  refine HW.out.mono ?_
  rintro e w1 ⟨rfl, m1, c1⟩
  have HM1 := Lib.hid (HM.out.chain m1 (by simp))
  have HC1 := Lib.hid c1
  clear m1 c1
  go_wp2
  go_ret
  exact ⟨rfl, HM1.out, HC1.out⟩

/-- A walk of a method: its own reader, and the cursor. -/
structure Rdr (a w : World) (cb : Nat) (s : ByteArray) (k : Nat) : Prop where
  mv : Mv a.heap.size [cb] a w
  cur : Cur w cb s k
  own : Blk w a.heap.size 47 #[cptr cb]
  lt : cb < a.heap.size
theorem Rdr.new {w : World} {cb k : Nat} {s : ByteArray} (h : Cur w cb s k) : Rdr w (w.alloc (.cells #[cptr cb] 47)) cb s k :=
  ⟨(Mv.refl _ _ _).alloc (Nat.le_refl _) _, h.alloc _, Blk.new w _ _, h.lt⟩
theorem Rdr.step {a w w' : World} {cb k j : Nat} {s : ByteArray} (h : Rdr a w cb s k) (m : Mv w.heap.size [cb] w w') (c : Cur w' cb s j) : Rdr a w' cb s j :=
  ⟨h.mv.chain m (Nat.le_refl _), c, h.own.mv m h.own.lt (by have := h.lt; simp; omega), h.lt⟩
theorem Rdr.below {a w w' : World} {cb k : Nat} {s : ByteArray} (h : Rdr a w cb s k) (b : Below w.heap.size w w') : Rdr a w' cb s k := h.step (Mv.of_below b _) (h.cur.below b h.cur.lt)
theorem Rdr.drew {a w : World} {cb k : Nat} {s : ByteArray} (h : Rdr a w cb s k) : Rdr a w.drew cb s k := ⟨h.mv.drew, h.cur.drew, h.own.drew, h.lt⟩
theorem Rdr.drewN {a w : World} {cb k : Nat} {s : ByteArray} (h : Rdr a w cb s k) (n : Nat) : Rdr a (w.drewN n) cb s k := ⟨h.mv.drewN n, h.cur.drewN n, h.own.drewN n, h.lt⟩
theorem Rdr.keep {a w : World} {cb k : Nat} {s : ByteArray} (h : Rdr a w cb s k) : w.cell? ⟨a.heap.size, 0, none⟩ = some (cptr cb) := h.own.cell 0
theorem Rdr.left {a w w' : World} {cb k : Nat} {s : ByteArray} (h : Rdr a w cb s k) (b : Below w.heap.size w w') : Mv a.heap.size [cb] a w' := h.mv.chain (Mv.of_below b _) (Nat.le_refl _)

set_option maxRecDepth 100000 in
set_option maxHeartbeats 1000000 in
theorem unit_any (cb k : Nat) (s : ByteArray) (w : World) (h : Cur w cb s k) (hk : k ≤ s.size) (hs : s.size ≤ 9223372036854775807) :
    Calls Tryd.prog 30 #[rdV cb] w fun e w' => ((isUnit s k = true ∧ e = unitV ∧ Cur w' cb s (scan letB s k)) ∨ (isUnit s k = false ∧ e = pnc (scan letB s k) 2)) ∧ Mv w.heap.size [cb] w w' := by
  have HR0 := Lib.hid (Rdr.new h)
  have HW := Lib.hid (fun W (hW : Cur W cb s k) => while_letter cb k s W hW hk hs)
  have g2 := scan_le letB s k hk
  have HS := Lib.hid (fun W => same_any (s.extract k (scan letB s k)) bytS W (by simp; omega) (by decide))
  have HU := Lib.hid (show isUnit s k = sameB (s.extract k (scan letB s k)) bytS from rfl)
  have HK := Lib.hid (fun W (hW : Cur W cb s (scan letB s k)) => rcheck_any cb (scan letB s k) s (sameB (s.extract k (scan letB s k)) bytS) W hW)
  generalize isUnit s k = z at *
  generalize scan letB s k = u at *
  generalize s.extract k u = x at *
  rw [← HU.out] at HS HK
  clear h HU
  have d0 := HR0.out.keep
  go_enter Tryd.func30, Tryd.ntmps30
  go_wp2_with fail
  go_region_held2 (fun w' => w'.cell? ⟨w.heap.size, 0, none⟩ = some (cptr cb))
    (first | with_reducible exact HR0.out.keep | with_reducible exact HR0.out.drew.keep | with_reducible exact HR1.out.keep | with_reducible exact (HR1.out.drewN _).keep | with_reducible exact HR2.out.keep)
    (first
      | (go_at_call 32; (with_reducible refine (HW.out _ (by first | exact HR0.out.cur | exact HR0.out.drew.cur)).mono ?_); rintro e w1 ⟨rfl, m1, c1⟩
         have HR1 := Lib.hid (show Rdr w w1 cb s u from by first | exact HR0.out.step m1 c1 | exact HR0.out.drew.step m1 c1)
         clear m1 c1)
      | (go_at_call 47; (with_reducible refine (HS.out _).mono ?_); rintro e w2 ⟨rfl, n, rfl⟩)
      | (go_at_call 34; (refine (HK.out _ (by first | exact HR1.out.cur | exact (HR1.out.drewN _).cur)).mono ?_); rintro e w3 ⟨⟨h2, rfl⟩ | ⟨h2, rfl⟩, b2⟩
         rotate_left
         focus (exact ⟨rfl, .inr ⟨h2, rfl⟩, by first | exact HR1.out.left b2 | exact (HR1.out.drewN _).left b2⟩)
         have HR2 := Lib.hid (show Rdr w w3 cb s u from by first | exact HR1.out.below b2 | exact (HR1.out.drewN _).below b2)
         clear b2))
  all_goals
    go_wp2
    go_end0
    exact ⟨.inl ⟨h2, rfl, HR2.out.cur⟩, HR2.out.mv⟩

set_option maxRecDepth 100000 in
set_option maxHeartbeats 1000000 in
theorem rsgn_any (cb k : Nat) (s : ByteArray) (c : UInt8) (w : World) (h : Cur w cb s k) (hk : k ≤ s.size) (hs : s.size ≤ 9223372036854775807) :
    Calls Tryd.prog 31 #[rdV cb, .string ⟨#[c]⟩] w fun e w' => ((atB s k c = true ∧ e = unitV ∧ Cur w' cb s (k + 1)) ∨ (atB s k c = false ∧ e = pnc k 2)) ∧ Mv w.heap.size [cb] w w' := by
  have HR0 := Lib.hid (Rdr.new h)
  obtain ⟨j, hj1, hj0⟩ : ∃ j, (atB s k c = true → j = k + 1) ∧ (atB s k c = false → j = k) := by
    cases atB s k c
    · exact ⟨k, by simp, fun _ => rfl⟩
    · exact ⟨k + 1, fun _ => rfl, by simp⟩
  have HS : Hid (∀ W, Cur W cb s k → Calls Tryd.prog 42 #[cptr cb, .string ⟨#[c]⟩] W fun e w' => e = .returned (.bool (atB s k c)) ∧ Mv W.heap.size [cb] W w' ∧ Cur w' cb s j) := fun W hW => by
    have hp := pref_one c hk
    cases hc : atB s k c
    · rw [hc] at hp
      rw [hj0 hc]
      refine (skip_no cb k s ⟨#[c]⟩ W hW hk hs (by show 1 ≤ _; omega) hp).mono ?_
      rintro e w1 ⟨rfl, m, rfl⟩
      exact ⟨rfl, (Mv.refl _ _ _).drewN m, hW.drewN m⟩
    · rw [hc] at hp
      rw [hj1 hc]
      have hlt := atB_in hc
      refine (skip_yes cb k s ⟨#[c]⟩ W hW hk hs (by show 1 ≤ _; omega) hp (by show k + 1 ≤ _; omega)).mono ?_
      rintro e w1 ⟨rfl, i1⟩
      obtain ⟨m1, c1⟩ := Mv.put hW i1
      exact ⟨rfl, m1, c1⟩
  have HK := Lib.hid (fun W (hW : Cur W cb s j) => rcheck_any cb j s (atB s k c) W hW)
  generalize atB s k c = z at *
  generalize (⟨#[c]⟩ : ByteArray) = t at *
  clear h
  have HJ1 := Lib.hid hj1
  have HJ0 := Lib.hid hj0
  have d0 := HR0.out.keep
  clear hj1 hj0
  go_enter Tryd.func31, Tryd.ntmps31
  go_wp2_with fail
  go_region_held2 (fun w' => w'.cell? ⟨w.heap.size, 0, none⟩ = some (cptr cb))
    (first | with_reducible exact HR0.out.keep | with_reducible exact HR0.out.drew.keep | with_reducible exact HR1.out.keep | with_reducible exact HR2.out.keep)
    (first
      | (go_at_call 42; (with_reducible refine (HS.out _ (by first | exact HR0.out.cur | exact HR0.out.drew.cur)).mono ?_); rintro e w1 ⟨rfl, m1, c1⟩
         have HR1 := Lib.hid (show Rdr w w1 cb s j from by first | exact HR0.out.step m1 c1 | exact HR0.out.drew.step m1 c1)
         clear m1 c1)
      | (go_at_call 34; (refine (HK.out _ HR1.out.cur).mono ?_); rintro e w3 ⟨⟨h2, rfl⟩ | ⟨h2, rfl⟩, b2⟩
         rotate_left
         focus (exact ⟨rfl, .inr ⟨h2, by rw [HJ0.out h2]⟩, HR1.out.left b2⟩)
         have HR2 := Lib.hid (HR1.out.below b2)
         clear b2))
  all_goals
    go_wp2
    go_end0
    exact ⟨.inl ⟨h2, rfl, by rw [← HJ1.out h2]; exact HR2.out.cur⟩, HR2.out.mv⟩

theorem size_bool (x : ByteArray) : (x.toList == []) = decide (x.size = 0) := by
  rw [Bool.eq_iff_iff, beq_iff_eq, decide_eq_true_eq, ← toList_size]
  exact List.length_eq_zero_iff.symm

set_option maxRecDepth 100000 in
set_option maxHeartbeats 1000000 in
theorem digits_any (cb k : Nat) (s : ByteArray) (w : World) (h : Cur w cb s k) (hk : k ≤ s.size) (hs : s.size ≤ 9223372036854775807) :
    Calls Tryd.prog 43 #[rdV cb] w fun e w' => ((scan digB s k ≠ k ∧ e = .returned (.string (s.extract k (scan digB s k))) ∧ Cur w' cb s (scan digB s k)) ∨ (scan digB s k = k ∧ e = pnc k 2)) ∧ Mv w.heap.size [cb] w w' := by
  obtain ⟨w0, hw0⟩ : ∃ w0, w0 = w.alloc (.cells #[cptr cb] 47) := ⟨_, rfl⟩
  have HC0 := Lib.hid (show Cur w0 cb s k from by rw [hw0]; exact h.alloc _)
  have HM0 := Lib.hid (show Mv w.heap.size [cb] w w0 from by rw [hw0]; exact (Mv.refl w.heap.size [cb] w).alloc (Nat.le_refl _) _)
  have HD0 := Lib.hid (show Blk w0 w.heap.size 47 #[cptr cb] from by rw [hw0]; exact Blk.new w _ _)
  have hz0 : w.heap.size ≤ w0.heap.size := HM0.out.size
  have hlc := h.lt
  have HW := Lib.hid (while_digit cb k s w0 HC0.out hk hs)
  have hx := size_bool (s.extract k (scan digB s k))
  rw [run_size hk] at hx
  have g1 := scan_ge digB s k
  have HK0 := Lib.hid (fun W (hW : Cur W cb s (scan digB s k)) => rcheck_not cb (scan digB s k) s W hW)
  have HK1 := Lib.hid (fun W (hW : Cur W cb s (scan digB s k)) => rcheck_ok cb (scan digB s k) s W hW)
  generalize scan digB s k = d at *
  generalize s.extract k d = x at *
  have d0 := HD0.out.cell 0
  clear h
  by_cases hd : d = k
  · have hx0 : (x.toList == []) = true := by rw [hx]; exact decide_eq_true (by omega)
    clear hx
    go_enter Tryd.func43, Tryd.ntmps43
    go_wp2_with fail
    rw [← hw0]
    refine HW.out.mono ?_
    rintro e w1 ⟨rfl, m1, c1⟩
    have HM1 := Lib.hid (HM0.out.chain m1 (Nat.le_refl _))
    have HC1 := Lib.hid c1
    have HD1 := Lib.hid (HD0.out.mv m1 HD0.out.lt (by simp; omega))
    have d1 : w1.cell? ⟨w.heap.size, 0, none⟩ = some (cptr cb) := HD1.out.cell 0
    clear m1 c1 hw0 d0
    go_wp2_with fail
    refine (HK0.out _ HC1.out).mono ?_
    rintro e w2 ⟨rfl, b2⟩
    exact ⟨rfl, .inr ⟨hd, by rw [hd]⟩, HM1.out.chain (Mv.of_below b2 [cb]) (Nat.le_refl _)⟩
  · have hx0 : (x.toList == []) = false := by rw [hx]; exact decide_eq_false (by omega)
    clear hx
    go_enter Tryd.func43, Tryd.ntmps43
    go_wp2_with fail
    rw [← hw0]
    refine HW.out.mono ?_
    rintro e w1 ⟨rfl, m1, c1⟩
    have HM1 := Lib.hid (HM0.out.chain m1 (Nat.le_refl _))
    have HC1 := Lib.hid c1
    have HD1 := Lib.hid (HD0.out.mv m1 HD0.out.lt (by simp; omega))
    have d1 : w1.cell? ⟨w.heap.size, 0, none⟩ = some (cptr cb) := HD1.out.cell 0
    clear m1 c1 hw0 d0
    go_wp2_with fail
    refine (HK1.out _ HC1.out).mono ?_
    rintro e w2 ⟨rfl, b2⟩
    have HM2 := Lib.hid (HM1.out.chain (Mv.of_below b2 [cb]) (Nat.le_refl _))
    have HC2 := Lib.hid (HC1.out.below b2 HC1.out.lt)
    clear b2
    go_wp2
    go_ret
    exact ⟨.inl ⟨hd, rfl, HC2.out⟩, HM2.out⟩

set_option maxRecDepth 100000 in
set_option maxHeartbeats 1000000 in
theorem end0_any (cb k : Nat) (s : ByteArray) (w : World) (h : Cur w cb s k) (hk : k ≤ s.size) (hs : s.size ≤ 9223372036854775807) :
    Calls Tryd.prog 35 #[rdV cb] w fun e w' => ((scan tabB s k = s.size ∧ e = unitV ∧ Cur w' cb s (scan tabB s k)) ∨ (scan tabB s k ≠ s.size ∧ e = pnc (scan tabB s k) 2)) ∧ Mv w.heap.size [cb] w w' := by
  obtain ⟨w0, hw0⟩ : ∃ w0, w0 = w.alloc (.cells #[cptr cb] 47) := ⟨_, rfl⟩
  have HR0 := Lib.hid (show Rdr w w0 cb s k from by rw [hw0]; exact Rdr.new h)
  have HW := Lib.hid (blanks_any cb k s w0 HR0.out.cur hk hs)
  have g2 := scan_le tabB s k hk
  have HE := Lib.hid (fun W (hW : Cur W cb s (scan tabB s k)) => end_any cb (scan tabB s k) s W hW g2 hs)
  have HK := Lib.hid (fun W (hW : Cur W cb s (scan tabB s k)) => rcheck_any cb (scan tabB s k) s (decide (scan tabB s k = s.size)) W hW)
  generalize scan tabB s k = d at *
  generalize s.extract k d = x at *
  have d0 := HR0.out.keep
  clear h
  go_enter Tryd.func35, Tryd.ntmps35
  go_wp2_with fail
  rw [← hw0]
  refine HW.out.mono ?_
  rintro e w1 ⟨rfl, m1, c1⟩
  have HR1 := Lib.hid (HR0.out.step m1 c1)
  have d1 := HR1.out.keep
  clear m1 c1 hw0 d0 HW
  go_wp2_with fail
  go_region_held2 (fun w' => w'.cell? ⟨w.heap.size, 0, none⟩ = some (cptr cb))
    (first | with_reducible exact HR1.out.keep | with_reducible exact HR1.out.drew.keep | with_reducible exact HR2.out.keep | with_reducible exact HR3.out.keep)
    (first
      | (go_at_call 52; (with_reducible refine (HE.out _ (by first | exact HR1.out.cur | exact HR1.out.drew.cur)).mono ?_); rintro e w2 ⟨rfl, hn⟩
         have HR2 := Lib.hid (show Rdr w w2 cb s d from by obtain ⟨n, rfl⟩ := hn; first | exact HR1.out.drewN n | exact HR1.out.drew.drewN n)
         clear hn)
      | (go_at_call 34; (refine (HK.out _ HR2.out.cur).mono ?_); rintro e w3 ⟨⟨h2, rfl⟩ | ⟨h2, rfl⟩, b2⟩
         rotate_left
         focus (exact ⟨rfl, .inr ⟨of_decide_eq_false h2, rfl⟩, HR2.out.left b2⟩)
         have HR3 := Lib.hid (HR2.out.below b2)
         clear b2))
  all_goals
    go_wp2
    go_end0
    exact ⟨.inl ⟨of_decide_eq_true h2, rfl, HR3.out.cur⟩, HR3.out.mv⟩

set_option maxHeartbeats 400000 in
theorem must_ok (n : Int) (w : World) :
    Calls Tryd.prog 53 #[.int .i64 n, .int .i64 0] w fun e w' => e = .returned (.int .i64 n) ∧ w = w' := by
  go_enter Tryd.func53, Tryd.ntmps53
  go_wp2_with (go_at_call 37; (with_reducible refine (check_ok _ _ _).mono ?_); rintro e w1 ⟨rfl, rfl⟩)
  go_ret
  exact ⟨rfl, rfl⟩

set_option maxHeartbeats 400000 in
theorem must_not (n : Int) (w : World) :
    Calls Tryd.prog 53 #[.int .i64 n, .int .i64 9] w fun e w' => e = pnc 0 9 ∧ w = w' := by
  go_enter Tryd.func53, Tryd.ntmps53
  go_wp2_with (go_at_call 37; (with_reducible refine (check_not _ _ _).mono ?_); rintro e w1 ⟨rfl, rfl⟩)
  exact ⟨rfl, rfl, rfl⟩

set_option maxHeartbeats 400000 in
theorem numb_any (cb : Nat) (x : ByteArray) (w : World) (hd : allB digB x = true) (hs : x.size ≤ 9223372036854775807) :
    Calls Tryd.prog 36 #[rdV cb, .string x] w fun e w' => ((∃ n, numP x = some n ∧ e = .returned (.int .i64 n)) ∨ (numP x = none ∧ e = pnc 0 9)) ∧ Below w.heap.size w w' := by
  have HB := Lib.hid ((Below.refl w.heap.size w).alloc (Nat.le_refl _) (.cells #[cptr cb] 47))
  have hx := size_bool x
  by_cases h0 : x.size = 0
  · rw [decide_eq_true h0] at hx
    have hn := Lib.hid (numP_empty h0)
    clear h0 hs
    go_enter Tryd.func36, Tryd.ntmps36
    go_wp2
    go_ret
    exact ⟨.inl ⟨_, hn.out, rfl⟩, HB.out⟩
  · rw [decide_eq_false h0] at hx
    by_cases h1 : numK x x.size ≤ 9007199254740991
    · have HP := Lib.hid (fun W => parse_any x W hs)
      rw [parV_ok h0 hd h1] at HP
      have hn := Lib.hid (numP_ok h0 h1)
      clear hs h0 h1 hd
      generalize numK x x.size = n at *
      go_enter Tryd.func36, Tryd.ntmps36
      go_wp2_with fail
      refine (HP.out _).mono ?_
      rintro e w1 ⟨rfl, b1⟩
      have HB1 := Lib.hid (HB.out.trans (b1.mono HB.out.size))
      clear b1
      go_wp2_with (go_at_call 53; (with_reducible refine (must_ok _ _).mono ?_); rintro e w1 ⟨rfl, rfl⟩)
      go_ret
      exact ⟨.inl ⟨_, hn.out, rfl⟩, HB1.out⟩
    · have HP := Lib.hid (fun W => parse_any x W hs)
      rw [parV_range h0 hd (by omega)] at HP
      have hn := Lib.hid (numP_great h0 h1)
      clear hs h0 h1 hd
      go_enter Tryd.func36, Tryd.ntmps36
      go_wp2_with fail
      refine (HP.out _).mono ?_
      rintro e w1 ⟨rfl, b1⟩
      have HB1 := Lib.hid (HB.out.trans (b1.mono HB.out.size))
      clear b1
      go_wp2_with (go_at_call 53; (with_reducible refine (must_not _ _).mono ?_); rintro e w1 ⟨rfl, rfl⟩)
      exact ⟨rfl, .inr ⟨hn.out, rfl⟩, HB1.out⟩

end Go.Proofs.YtaolclpjlkdkjaaDoor
