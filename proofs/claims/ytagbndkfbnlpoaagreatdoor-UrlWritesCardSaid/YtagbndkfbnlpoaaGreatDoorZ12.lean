/-
  What package url's escaped, escape and stands answer. Condition: the text is as long as a length can be.
  What Count and All answer where they are asked of Digit. Condition: the text is as long as a length can be.
  What number, Parse, Strict and Prefix of layer 5 answer. Condition: the text is as long as a length can be.
-/
import Derived.Test.YtagbndkfbnlpoaaGreatDoorZ9
import Derived.Test.YtagbndkfbnlpoaaGreatDoorZ2
import Derived.Test.YtagbndkfbnlpoaaGreatDoorZ6
import Derived.Test.YtagbndkfbnlpoaaGreatDoorZ7
import Derived.Test.YtagbndkfbnlpoaaGreatDoorZ11
import Derived.BigQuiet
import Derived.Test.YtagbndkfbnlpoaaGreatDoorZ4
import Derived.Lib.Strings
namespace Go.Proofs.YtagbndkfbnlpoaaGreatDoor
open Go.RowKit

/-- A byte's value to the base 16, 0 of none. -/
def hexN (b : UInt8) : Int := if 0 ≤ hexB b then hexB b else 0
theorem hexN_range (b : UInt8) : 0 ≤ hexN b ∧ hexN b ≤ 15 := by
  have := hexB_range b
  unfold hexN
  split <;> omega
theorem hex_two (b : UInt8) (w : World) : Calls Tryz.prog 90 #[.int .u8 (b.toNat : Int)] w fun e w' => e = .returned (.tuple #[.int .i64 (hexN b), .bool (hexY b)]) ∧ w = w' := by
  refine (hex_any b w).mono fun e w' h => ⟨?_, h.2⟩
  rw [h.1]
  unfold hexV hexN hexY
  by_cases h0 : 0 ≤ hexB b
  · rw [if_pos h0, if_pos h0, decide_eq_true h0]
  · rw [if_neg h0, if_neg h0, decide_eq_false h0]

set_option maxHeartbeats 1000000 in
theorem escaped_short (s : ByteArray) (w : World) (h : s.size < 3) :
    Calls Tryz.prog 71 #[.string s] w fun e w' => e = .returned (.tuple #[.int .u8 0, .bool false]) ∧ w = w' := by
  have g : ((s.size : Int) < 3) := by omega
  clear h
  go_enter Tryz.func71, Tryz.ntmps71
  go_wp2
  exact bodyPost_ret (v := .tuple #[.int .u8 0, .bool false]) (by simp [results, Tryz.results71, go_sem]) rfl ⟨rfl, rfl⟩
set_option maxHeartbeats 1000000 in
theorem escaped_other (s : ByteArray) (a : UInt8) (w : World) (h : 3 ≤ s.size) (h0 : s[0] = a) (ha : a ≠ 37) :
    Calls Tryz.prog 71 #[.string s] w fun e w' => e = .returned (.tuple #[.int .u8 0, .bool false]) ∧ w = w' := by
  have g : ¬ ((s.size : Int) < 3) := by omega
  have g1 : ((a.toNat : Int) != 37) = true := by rw [bne_iff_ne]; intro e; exact ha (UInt8.toNat_inj.1 (by show _ = 37; omega))
  have hz : 0 < s.size := by omega
  clear ha
  go_enter Tryz.func71, Tryz.ntmps71
  go_wp2
  exact bodyPost_ret (v := .tuple #[.int .u8 0, .bool false]) (by simp [results, Tryz.results71, go_sem]) rfl ⟨rfl, rfl⟩
set_option maxHeartbeats 2000000 in
theorem escaped_pct (s : ByteArray) (x y : UInt8) (p q : Bool) (a b : Int) (w : World) (h : 3 ≤ s.size) (h0 : s[0] = 37) (h1 : s[1] = x) (h2 : s[2] = y) (ra : 0 ≤ a ∧ a ≤ 15) (rb : 0 ≤ b ∧ b ≤ 15)
    (HX : Hid (∀ W, Calls Tryz.prog 90 #[.int .u8 (x.toNat : Int)] W fun e w' => e = .returned (.tuple #[.int .i64 a, .bool p]) ∧ W = w'))
    (HY : Hid (∀ W, Calls Tryz.prog 90 #[.int .u8 (y.toNat : Int)] W fun e w' => e = .returned (.tuple #[.int .i64 b, .bool q]) ∧ W = w')) :
    Calls Tryz.prog 71 #[.string s] w fun e w' => e = .returned (.tuple #[.int .u8 (a * 16 + b), .bool (p && q)]) ∧ w = w' := by
  have g : ¬ ((s.size : Int) < 3) := by omega
  have g1 : ((((37 : UInt8).toNat : Nat) : Int) != 37) = false := by rfl
  have z0 : 0 < s.size := by omega
  have z1 : 1 < s.size := by omega
  have z2 : 2 < s.size := by omega
  obtain ⟨ra0, ra1⟩ := ra
  obtain ⟨rb0, rb1⟩ := rb
  have k0 : 0 ≤ a * 16 + b := by omega
  have k1 : a * 16 + b ≤ 255 := by omega
  cases p
  all_goals
    go_enter Tryz.func71, Tryz.ntmps71
    go_wp2_with (go_at_call 90; first | (with_reducible refine (HX.out _).mono ?_) | (with_reducible refine (HY.out _).mono ?_)
                 rintro e w1 ⟨rfl, rfl⟩)
    refine bodyPost_ret (v := .tuple #[.int .u8 (a * 16 + b), .bool _]) (by simp [results, Tryz.results71, go_sem]) rfl ⟨rfl, rfl⟩

theorem hexD_at : (List.range 16).all (fun n => ((⟨#[48, 49, 50, 51, 52, 53, 54, 55, 56, 57, 65, 66, 67, 68, 69, 70]⟩ : ByteArray)[n]! == digG n)) = true := by kernel_rfl
set_option maxHeartbeats 2000000 in
theorem escape_any (b : UInt8) (w : World) :
    Calls Tryz.prog 73 #[.int .u8 (b.toNat : Int)] w fun e w' => e = .returned (.string ⟨#[37, digG (b.toNat / 16), digG (b.toNat % 16)]⟩) ∧ Below w.heap.size w w' := by
  obtain ⟨S, hS⟩ : ∃ S : ByteArray, S = ⟨#[48, 49, 50, 51, 52, 53, 54, 55, 56, 57, 65, 66, 67, 68, 69, 70]⟩ := ⟨_, rfl⟩
  have hz : S.size = 16 := by rw [hS]; rfl
  have hb := b.toNat_lt
  obtain ⟨u, hu⟩ : ∃ u, u = b.toNat / 16 := ⟨_, rfl⟩
  obtain ⟨v, hv⟩ : ∃ v, v = b.toNat % 16 := ⟨_, rfl⟩
  have hul : u < S.size := by omega
  have hvl : v < S.size := by omega
  have hxu : S[u] = digG u := by
    have := (List.all_eq_true.1 hexD_at) u (List.mem_range.2 (by omega))
    rw [← hS, getElem!_pos S u hul] at this
    simpa using this
  have hxv : S[v] = digG v := by
    have := (List.all_eq_true.1 hexD_at) v (List.mem_range.2 (by omega))
    rw [← hS, getElem!_pos S v hvl] at this
    simpa using this
  rw [← hu, ← hv]
  obtain ⟨x, hx⟩ : ∃ x, digG u = x := ⟨_, rfl⟩
  obtain ⟨y, hy⟩ : ∃ y, digG v = y := ⟨_, rfl⟩
  rw [hx] at hxu ⊢
  rw [hy] at hxv ⊢
  have eu : (b.toNat : Int).tdiv 16 = (u : Int) := by rw [hu]; rfl
  have ev : (b.toNat : Int).tmod 16 = (v : Int) := by rw [hv]; rfl
  have hcv : (convert 38 9 (.slice (some ⟨w.heap.size, 0, none⟩) 3 3)).run Tryz.prog (w.alloc (.cells #[.int .u8 37, .int .u8 (x.toNat : Int), .int .u8 (y.toNat : Int)] 5)).drew = .ok (.string ⟨#[37, x, y]⟩) (w.alloc (.cells #[.int .u8 37, .int .u8 (x.toNat : Int), .int .u8 (y.toNat : Int)] 5)).drew := run_convert_bytes_back (P := Tryz.prog) (w.alloc (.cells #[.int .u8 37, .int .u8 (x.toNat : Int), .int .u8 (y.toNat : Int)] 5)).drew 38 9 5 ⟨w.heap.size, 0, none⟩ 3 [37, x, y] Tryz.underlying38 Tryz.underlying5 Tryz.underlying9 (fun j hj => by
    have e : (⟨w.heap.size, 0, none⟩ : Addr).add j = ⟨w.heap.size, j, none⟩ := by cases j <;> simp [Addr.add]
    rw [e]
    have hh := (Blk.new w 5 #[.int .u8 37, .int .u8 (x.toNat : Int), .int .u8 (y.toNat : Int)]).drew
    match j, hj with
    | 0, _ => exact hh.cell 0
    | 1, _ => exact hh.cell 1
    | 2, _ => exact hh.cell 2)
  clear hx hy hu hv
  go_enter Tryz.func73, Tryz.ntmps73
  rw [← hS]
  clear hS
  go_wp2_with fail
  go_region
  go_wp2
  go_ret
  exact ⟨rfl, (((Below.refl w.heap.size w).alloc (Nat.le_refl _) _)).drew⟩

theorem idx_has (b : UInt8) : decide (firstIdx ⟨#[34, 60, 62, 96]⟩ b < 0) = !hasB ⟨#[34, 60, 62, 96]⟩ b := by
  have := bytes_all (p := fun b => decide (firstIdx ⟨#[34, 60, 62, 96]⟩ b < 0) == !hasB ⟨#[34, 60, 62, 96]⟩ b) (by kernel_rfl) b
  simpa using this
set_option maxHeartbeats 1000000 in
theorem stands_any (b : UInt8) (w : World) : Calls Tryz.prog 74 #[.int .u8 (b.toNat : Int)] w fun e w' => e = .returned (.bool (ownB b)) ∧ w = w' := by
  have HI := Lib.hid (fun W => indexByte_any ⟨#[34, 60, 62, 96]⟩ b W)
  have hi := idx_has b
  unfold ownB
  generalize hasB ⟨#[34, 60, 62, 96]⟩ b = h at *
  generalize firstIdx ⟨#[34, 60, 62, 96]⟩ b = i at *
  have e1 : decide (33 ≤ b.toNat) = decide ((32 : Int) < (b.toNat : Int)) := by rw [decide_eq_decide]; omega
  have e2 : decide (b.toNat ≤ 126) = decide ((b.toNat : Int) ≤ 126) := by rw [decide_eq_decide]; omega
  rw [e1, e2, ← hi]
  clear e1 e2 hi
  cases h1 : decide ((32 : Int) < (b.toNat : Int)) <;> cases h2 : decide ((b.toNat : Int) ≤ 126)
  all_goals
    go_enter Tryz.func74, Tryz.ntmps74
    go_wp2_with (go_at_call 92; (with_reducible refine (HI.out _).mono ?_); rintro e w' ⟨rfl, rfl⟩)
    go_ret
    exact ⟨rfl, rfl⟩

end Go.Proofs.YtagbndkfbnlpoaaGreatDoor
namespace Go.Proofs.YtagbndkfbnlpoaaGreatDoor
open Go.RowKit

abbrev fnDig : Value := .func (.func 59) #[] #[]

set_option maxHeartbeats 2000000 in
theorem all1_Dig (sb fb lb : Nat) (s : ByteArray) (w : World) (hsb : w.cell? ⟨sb, 0, none⟩ = some (.string s)) (hf : w.cell? ⟨fb, 0, none⟩ = some fnDig)
    (hl : w.heap[lb]? = some (.cells #[.bool false] 4 (0, 0))) (hs : s.size ≤ 9223372036854775807) :
    Calls Tryz.prog 80 #[.pointer (some ⟨sb, 0, none⟩), .pointer (some ⟨fb, 0, none⟩), .pointer (some ⟨lb, 0, none⟩)] w fun e w' => e = .returned (.tuple #[]) ∧ Mv w.heap.size [lb] w w' ∧
      w'.heap[lb]? = some (.cells #[.bool (allB digB s)] 4 (0, 0)) := by
  have l0 := cell_of_one hl
  have lz := free_of_one hl
  go_enter Tryz.func80, Tryz.ntmps80
  go_wp2
  go_loopw [6] (fun v wr => ∃ i : Nat, i ≤ s.size ∧ v = .int .i64 i ∧ (∀ j (hj : j < s.size), j < i → digB s[j] = true) ∧ Mv w.heap.size [] w wr) (fun v _ => s.size - (intOf v).toNat)
  case atStart => exact ⟨0, Nat.zero_le _, rfl, fun j _ h => absurd h (by omega), Mv.refl _ _ _⟩
  case round =>
    obtain ⟨i, hi, rfl, hno, hm⟩ := hrel
    have d1 : wr.cell? ⟨sb, 0, none⟩ = some (.string s) := (hm.cell (p := ⟨sb, 0, none⟩) (World.block_lt_of_cell? w _ hsb) (by simp)).trans hsb
    have d2 : wr.cell? ⟨fb, 0, none⟩ = some fnDig := (hm.cell (p := ⟨fb, 0, none⟩) (World.block_lt_of_cell? w _ hf) (by simp)).trans hf
    have d3 : wr.cell? ⟨lb, 0, none⟩ = some (.bool false) := (hm.cell (p := ⟨lb, 0, none⟩) (World.block_lt_of_cell? w _ l0) (by simp)).trans l0
    have dz : wr.frozen? ⟨lb, 0, none⟩ = false := (hm.frozen (p := ⟨lb, 0, none⟩) (World.block_lt_of_cell? w _ l0) (by simp)).trans lz
    have HW := Lib.hid ((hm.block lb (World.block_lt_of_cell? w _ l0) (by simp)).trans hl)
    have HM := Lib.hid (hm.mono (r' := [lb]) (Nat.le_refl _) (by simp))
    have HM0 := Lib.hid hm
    have HN := Lib.hid hno
    clear hno hm hsb hf hl l0 lz
    by_cases hlt : i < s.size
    · have HL := Lib.hid (fun W => digit_any s[i] W)
      cases hb : digB s[i]
      · have HC := Lib.hid (allB_no hlt hb)
        have HL2 : Hid (∀ W, Calls Tryz.prog 59 #[.int .u8 (s[i].toNat : Int)] W fun e w' => e = .returned (.bool false) ∧ w' = W) := fun W => by
          have := HL.out W
          rw [hb] at this
          exact this.mono fun _ _ h => ⟨h.1, h.2.symm⟩
        clear HL hb
        go_wp2
        go_quiet ((go_at_call 59; exact Calls.quiet_of_same (HL2.out _)))
        go_wp2
        refine bodyPost_ret (results_none rfl _ _ _) rfl ?_
        exact ⟨rfl, HM.out.drewN _, by rw [HC.out]; exact HW.out⟩
      · have HP := Lib.hid hb
        have HL2 : Hid (∀ W, Calls Tryz.prog 59 #[.int .u8 (s[i].toNat : Int)] W fun e w' => e = .returned (.bool true) ∧ w' = W) := fun W => by
          have := HL.out W
          rw [hb] at this
          exact this.mono fun _ _ h => ⟨h.1, h.2.symm⟩
        clear HL hb
        go_wp2
        go_quiet ((go_at_call 59; exact Calls.quiet_of_same (HL2.out _)))
        go_wp2
        go_roundw
        case rel => exact ⟨i + 1, by omega, by go_num, fun j hj h => if e : j = i then by subst e; exact HP.out else HN.out j hj (by omega), HM0.out.drewN _⟩
        case measure => simp [intOf]; omega
    · obtain rfl : i = s.size := by omega
      have HC := Lib.hid (allB_yes fun j hj => HN.out j hj hj)
      go_wp2
      go_end0
      exact ⟨rfl, HM.out.setCell (.inl (by simp)) _, by rw [HC.out]; exact one_setCell HW.out⟩

theorem catch_all1_Dig (sb fb lb : Nat) (s : ByteArray) (w : World) (hsb : w.cell? ⟨sb, 0, none⟩ = some (.string s)) (hf : w.cell? ⟨fb, 0, none⟩ = some fnDig)
    (hl : w.heap[lb]? = some (.cells #[.bool false] 4 (0, 0))) (hs : s.size ≤ 9223372036854775807) :
    Calls Tryz.prog 79 #[.func (.func 80) #[] #[.pointer (some ⟨sb, 0, none⟩), .pointer (some ⟨fb, 0, none⟩), .pointer (some ⟨lb, 0, none⟩)]] w fun e w' =>
      e = .returned (.tuple #[flt 0 0, .bool false]) ∧ Mv w.heap.size [lb] w w' ∧ w'.heap[lb]? = some (.cells #[.bool (allB digB s)] 4 (0, 0)) := by
  have la : lb < w.heap.size := lt_of_block hl
  refine catch_mv_returns 80 #[] #[.pointer (some ⟨sb, 0, none⟩), .pointer (some ⟨fb, 0, none⟩), .pointer (some ⟨lb, 0, none⟩)] w [lb]
    (fun W => W.heap[lb]? = some (.cells #[.bool (allB digB s)] 4 (0, 0)))
    (one_lt' la) (fun W1 W2 hb h1 => (hb.block lb la).trans h1) (fun _ => by simp [go_sem]) fun W hW => ?_
  refine (all1_Dig sb fb lb s W ((hW.cell (p := ⟨sb, 0, none⟩) (World.block_lt_of_cell? w _ hsb)).trans hsb) ((hW.cell (p := ⟨fb, 0, none⟩) (World.block_lt_of_cell? w _ hf)).trans hf) ((hW.block lb la).trans hl) hs).mono ?_
  rintro e w' ⟨rfl, h1, h2⟩
  exact ⟨⟨_, rfl⟩, h1, h2⟩

set_option maxHeartbeats 2000000 in
theorem all_Dig (s : ByteArray) (w : World) (hs : s.size ≤ 9223372036854775807) :
    Calls Tryz.prog 57 #[.string s, fnDig] w fun e w' => e = .returned (.bool (allB digB s)) ∧ Below w.heap.size w w' := by
  have hq := eq_fn_nil
  have hmf := make_func
  obtain ⟨W3, hW⟩ : ∃ W3, W3 = (((w.alloc (.cells #[.string s] 9)).alloc (.cells #[fnDig] 63)).alloc (.cells #[.bool false] 4)) := ⟨_, rfl⟩
  have c2 : W3.heap[w.heap.size + 1 + 1]? = some (.cells #[.bool false] 4 (0, 0)) := by
    have := Blk.new ((w.alloc (.cells #[.string s] 9)).alloc (.cells #[fnDig] 63)) 4 #[.bool false]
    rw [hW]
    simpa [Blk] using this
  have c0 : W3.cell? ⟨w.heap.size, 0, none⟩ = some (.string s) := by rw [hW]; simp [go_sem]
  have c1 : W3.cell? ⟨w.heap.size + 1, 0, none⟩ = some fnDig := by rw [hW]; simp [go_sem]
  have HB := Lib.hid (show Below w.heap.size w W3 by
    rw [hW]
    exact (((Below.refl _ _).alloc (Nat.le_refl _) _).alloc (by simp) _).alloc (by simp; omega) _)
  have HZ := Lib.hid (show W3.heap.size = w.heap.size + 3 by rw [hW]; simp)
  have HC := Lib.hid (catch_all1_Dig w.heap.size (w.heap.size + 1) (w.heap.size + 1 + 1) s W3 c0 c1 c2 hs)
  clear c0 c1 c2
  have HW := Lib.hid hW
  clear hW
  go_enter Tryz.func57, Tryz.ntmps57
  go_wp2_with (go_at_call 79; rw [← HW.out]; refine HC.out.mono ?_; rintro e w1 ⟨rfl, hm, h1⟩; have j3 := cell_of_one h1; have HM := Lib.hid hm; clear hm h1)
  go_ret
  exact ⟨rfl, HB.out.trans (HM.out.below (B' := w.heap.size) (by have := HZ.out; omega) (by simp; omega))⟩

end Go.Proofs.YtagbndkfbnlpoaaGreatDoor
namespace Go.Proofs.YtagbndkfbnlpoaaGreatDoor
open Go.RowKit

set_option maxHeartbeats 1000000 in
theorem number_any (s : ByteArray) (w : World) (hd : ∀ j (hj : j < s.size), digB s[j] = true) (hs : s.size ≤ 9223372036854775807) :
    Calls Tryz.prog 77 #[.string s] w fun e w' => e = .returned (numV s s.size) ∧ w = w' := by
  go_enter Tryz.func77, Tryz.ntmps77
  go_wp2
  go_loop [8, 4] (fun i n => ∃ k : Nat, k ≤ s.size ∧ i = .int .i64 k ∧ n = .int .i64 (numK s k : Nat) ∧ numK s k ≤ 9007199254740991) (fun i _ => s.size - (intOf i).toNat)
  case atStart => exact ⟨0, by omega, rfl, rfl, by rw [numK_zero]; omega⟩
  case round =>
    obtain ⟨k, hk, rfl, rfl, hm⟩ := hrel
    by_cases hlt : k < s.size
    · obtain ⟨g1, g2⟩ := digB_range (hd k hlt)
      have HN := Lib.hid (numK_succ hlt)
      have HM := Lib.hid (numK_mono s (show k + 1 ≤ s.size by omega))
      by_cases hov : numK s (k + 1) ≤ 9007199254740991
      · have HO := Lib.hid hov
        rw [HN.out] at hov
        obtain ⟨a, ha⟩ : ∃ a, a = numK s k := ⟨_, rfl⟩
        rw [← ha] at hm hov HN ⊢
        have HA := Lib.hid ha
        have d1 : decide ((9007199254740991 : Int) < (a : Int) * 10 + ((s[k].toNat : Int) - 48)) = false := by simp; omega
        clear ha hd
        go_wp2
        go_round
        case rel => exact ⟨k + 1, by omega, by go_num, by rw [HN.out]; go_num, HO.out⟩
        case measure => simp [intOf]; omega
      · have HV := Lib.hid (numV_no (s := s) (k := s.size) (by have := HM.out; omega))
        rw [HN.out] at hov
        obtain ⟨a, ha⟩ : ∃ a, a = numK s k := ⟨_, rfl⟩
        rw [← ha] at hm hov HN ⊢
        have d1 : decide ((9007199254740991 : Int) < (a : Int) * 10 + ((s[k].toNat : Int) - 48)) = true := by simp; omega
        clear ha hd
        go_wp2
        go_ret2
        exact ⟨by rw [HV.out]; first | done | rfl, rfl⟩
    · obtain rfl : k = s.size := by omega
      have HV := Lib.hid (numV_yes hm)
      go_wp2
      go_ret2
      exact ⟨by rw [HV.out]; first | done | rfl, rfl⟩

theorem digits_all (s : ByteArray) (hs : s.size ≤ 9223372036854775807) (h : allB digB s = true) : Hid (∀ W, Calls Tryz.prog 77 #[.string s] W fun e w' => e = .returned (numV s s.size) ∧ W = w') :=
  fun W => number_any s W (allB_digits h) hs

set_option maxHeartbeats 1000000 in
theorem parse_any (s : ByteArray) (w : World) (hs : s.size ≤ 9223372036854775807) :
    Calls Tryz.prog 49 #[.string s] w fun e w' => e = .returned (parV s) ∧ Below w.heap.size w w' := by
  by_cases h0 : s.size = 0
  · have HV := Lib.hid (parV_empty h0)
    obtain rfl : s = ⟨#[]⟩ := by
      cases s with | mk d => simp at h0; rw [h0]; rfl
    go_enter Tryz.func49, Tryz.ntmps49
    go_wp2
    go_ret2
    exact ⟨by rw [HV.out]; first | done | rfl, Below.refl _ _⟩
  · have e0 : (s.toList == []) = false := by
      rw [beq_eq_false_iff_ne]
      intro h
      rw [Lib.toList_data] at h
      have := congrArg List.length h
      rw [Array.length_toList] at this
      exact h0 this
    have HA : Hid (∀ W, Calls Tryz.prog 57 #[.string s, .func (.func 59) #[] #[]] W fun e w' => e = .returned (.bool (allB digB s)) ∧ Below W.heap.size W w') := fun W => all_Dig s W hs
    cases ha : allB digB s
    · rw [ha] at HA
      have HV := Lib.hid (parV_form ha)
      clear ha h0
      go_enter Tryz.func49, Tryz.ntmps49
      go_wp2_with (go_at_call 57; refine (HA.out _).mono ?_; rintro e w1 ⟨rfl, hb⟩)
      go_ret2
      exact ⟨by rw [HV.out]; first | done | rfl, hb⟩
    · have HN := digits_all s hs ha
      by_cases h1 : numK s s.size ≤ 9007199254740991
      · have HV := Lib.hid (parV_ok h0 ha h1)
        rw [ha] at HA
        rw [numV_yes h1] at HN
        clear ha h0 h1
        generalize numK s s.size = n at *
        go_enter Tryz.func49, Tryz.ntmps49
        go_wp2_with (first
          | (go_at_call 57; refine (HA.out _).mono ?_; rintro e w1 ⟨rfl, hb⟩)
          | (go_at_call 77; refine (HN.out _).mono ?_; rintro e w1 ⟨rfl, rfl⟩))
        go_ret2
        exact ⟨by rw [HV.out]; first | done | rfl, hb⟩
      · have HV := Lib.hid (parV_range h0 ha (by omega))
        rw [ha] at HA
        rw [numV_no (by omega)] at HN
        clear ha h0 h1
        go_enter Tryz.func49, Tryz.ntmps49
        go_wp2_with (first
          | (go_at_call 57; refine (HA.out _).mono ?_; rintro e w1 ⟨rfl, hb⟩)
          | (go_at_call 77; refine (HN.out _).mono ?_; rintro e w1 ⟨rfl, rfl⟩))
        go_ret2
        exact ⟨by rw [HV.out]; first | done | rfl, hb⟩

end Go.Proofs.YtagbndkfbnlpoaaGreatDoor
