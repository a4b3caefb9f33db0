/-
  What the document's own Parse answers, and lives of layer 5. Condition: the text is as long as a length can be.
  What the document's cut, unit, num and Parse of layer 24 answer. Condition: the text is no longer than 80 bytes, or a length can be.
  What the document's Parse of layer 24 answers. Condition: the text is no longer than 2^47 - 4096.
-/
import Derived.Test.YtaolclpjlkdkjaaZ12
import Derived.Test.YtaolclpjlkdkjaaZ4
import Derived.Test.YtaolclpjlkdkjaaZ9
import Derived.Test.YtaolclpjlkdkjaaZ8
import Derived.Test.YtaolclpjlkdkjaaZ6
namespace Go.Proofs.Ytaolclpjlkdkjaa
open Go.RowKit

set_option maxHeartbeats 2000000 in
theorem refParse_any (s : ByteArray) (w : World) (hs : s.size ≤ 9223372036854775807) :
    Calls Try.prog 52 #[.string s] w fun e w' => e = .returned (parV s) ∧ w = w' := by
  by_cases h0 : s.size = 0
  · have HV := Lib.hid (parV_empty h0)
    obtain rfl : s = ⟨#[]⟩ := by
      cases s with | mk d => simp at h0; rw [h0]; rfl
    go_enter Try.func52, Try.ntmps52
    go_wp2
    refine wp_loop_rounds 1 ?_
    rw [rounds_succ]
    go_wp2
    go_ret2
    exact ⟨by rw [HV.out]; first | done | rfl, rfl⟩
  have e0 : (s.toList == []) = false := by
    rw [beq_eq_false_iff_ne]
    intro h
    rw [Lib.toList_data] at h
    have := congrArg List.length h
    rw [Array.length_toList] at this
    exact h0 this
  go_enter Try.func52, Try.ntmps52
  go_wp2
  go_loop [6, 4, 5] (fun i n o => ∃ (k : Nat) (v : Int), k ≤ s.size ∧ i = .int .i64 k ∧ n = .int .i64 v ∧ (∀ j (hj : j < s.size), j < k → digB s[j] = true) ∧
    (o = .bool false ∧ v = (numK s k : Nat) ∧ numK s k ≤ 9007199254740991 ∨ o = .bool true ∧ 9007199254740991 < numK s k)) (fun i _ _ => s.size - (intOf i).toNat)
  case atStart => exact ⟨0, 0, by omega, rfl, rfl, fun j _ h => absurd h (by omega), .inl ⟨rfl, rfl, by rw [numK_zero]; omega⟩⟩
  case round =>
    obtain ⟨k, v, hk, rfl, rfl, hd, ho⟩ := hrel
    have HD := Lib.hid hd
    clear hd
    by_cases hlt : k < s.size
    · have HL := Lib.hid (fun W => refDigit_any s[k] W)
      cases hb : digB s[k]
      · have HV := Lib.hid (parV_form (s := s) (allB_no hlt hb))
        have HL2 : Hid (∀ W, Calls Try.prog 51 #[.int .u8 (s[k].toNat : Int)] W fun e w' => e = .returned (.bool false) ∧ W = w') := fun W => by have := HL.out W; rwa [hb] at this
        clear HL hb
        rcases ho with ⟨rfl, rfl, _⟩ | ⟨rfl, _⟩ <;>
        · go_wp2_with (go_at_call 51; refine (HL2.out _).mono ?_; rintro e w' ⟨rfl, rfl⟩)
          go_ret2
          exact ⟨by rw [HV.out]; first | done | rfl, rfl⟩
      · obtain ⟨g1, g2⟩ := digB_range hb
        have HN := Lib.hid (numK_succ hlt)
        have HE : Hid (∀ j (hj : j < s.size), j < k + 1 → digB s[j] = true) := fun j hj h => if e : j = k then by subst e; exact hb else HD.out j hj (by omega)
        have HL2 : Hid (∀ W, Calls Try.prog 51 #[.int .u8 (s[k].toNat : Int)] W fun e w' => e = .returned (.bool true) ∧ W = w') := fun W => by have := HL.out W; rwa [hb] at this
        clear HL hb
        rcases ho with ⟨rfl, rfl, hm⟩ | ⟨rfl, hm⟩
        · by_cases hov : numK s (k + 1) ≤ 9007199254740991
          · have HO := Lib.hid hov
            rw [HN.out] at hov
            obtain ⟨a, ha⟩ : ∃ a, a = numK s k := ⟨_, rfl⟩
            rw [← ha] at hm hov HN ⊢
            have d1 : decide ((9007199254740991 : Int) < 10 * (a : Int) + ((s[k].toNat : Int) - 48)) = false := by simp; omega
            clear ha
            go_wp2_with (go_at_call 51; refine (HL2.out _).mono ?_; rintro e w' ⟨rfl, rfl⟩)
            go_round
            case rel => exact ⟨k + 1, _, by omega, by go_num, rfl, HE.out, .inl ⟨rfl, by rw [HN.out]; omega, HO.out⟩⟩
            case measure => simp [intOf]; omega
          · have HO := Lib.hid (show 9007199254740991 < numK s (k + 1) by omega)
            rw [HN.out] at hov
            obtain ⟨a, ha⟩ : ∃ a, a = numK s k := ⟨_, rfl⟩
            rw [← ha] at hm hov HN ⊢
            have d1 : decide ((9007199254740991 : Int) < 10 * (a : Int) + ((s[k].toNat : Int) - 48)) = true := by simp; omega
            clear ha
            go_wp2_with (go_at_call 51; refine (HL2.out _).mono ?_; rintro e w' ⟨rfl, rfl⟩)
            go_round
            case rel => exact ⟨k + 1, _, by omega, by go_num, rfl, HE.out, .inr ⟨rfl, HO.out⟩⟩
            case measure => simp [intOf]; omega
        · have HO := Lib.hid (Nat.lt_of_lt_of_le hm (numK_mono s (Nat.le_succ k)))
          clear hm
          go_wp2_with (go_at_call 51; refine (HL2.out _).mono ?_; rintro e w' ⟨rfl, rfl⟩)
          go_round
          case rel => exact ⟨k + 1, _, by omega, by go_num, rfl, HE.out, .inr ⟨rfl, HO.out⟩⟩
          case measure => simp [intOf]; omega
    · obtain rfl : k = s.size := by omega
      have hall : allB digB s = true := allB_yes fun j hj => HD.out j hj hj
      rcases ho with ⟨rfl, rfl, hm⟩ | ⟨rfl, hm⟩
      · have HV := Lib.hid (parV_ok h0 hall hm)
        clear hall
        go_wp2
        go_ret2
        exact ⟨by rw [HV.out]; first | done | rfl, rfl⟩
      · have HV := Lib.hid (parV_range h0 hall hm)
        clear hall
        go_wp2
        go_ret2
        exact ⟨by rw [HV.out]; first | done | rfl, rfl⟩

end Go.Proofs.Ytaolclpjlkdkjaa
namespace Go.Proofs.Ytaolclpjlkdkjaa
open Go.RowKit

set_option maxHeartbeats 2000000 in
theorem cut24_any (s : ByteArray) (w : World) (hs : s.size ≤ 9223372036854775807) :
    Calls Try.prog 23 #[.string s] w fun e w' => e = .returned (.string (s.extract (scan tabB s 0) s.size)) ∧ w = w' := by
  obtain ⟨z, hZ⟩ : ∃ z, z = s.extract (scan tabB s 0) s.size := ⟨_, rfl⟩
  rw [← hZ]
  have HZ := Lib.hid hZ
  clear hZ
  go_enter Try.func23, Try.ntmps23
  go_wp2
  go_loop [0] (fun i => ∃ (k : Nat) (x : ByteArray), k ≤ s.size ∧ i = .string x ∧ x = s.extract k s.size ∧ scan tabB s k = scan tabB s 0) (fun i => strLen i)
  case atStart => exact ⟨0, s, Nat.zero_le _, rfl, (extract_all s).symm, rfl⟩
  case round =>
    obtain ⟨k, x, hk, rfl, hx, hb⟩ := hrel
    have HB := Lib.hid hb
    have HX := Lib.hid hx
    clear hb
    have hzx : x.size = s.size - k := by rw [hx]; simp
    have hzs : x.size ≤ 9223372036854775807 := by omega
    clear hx
    by_cases hlt : k < s.size
    · have hx0 : 0 < x.size := by omega
      have HZZ := Lib.hid hzx
      clear hzx
      have g1 : (0 : Int) < (x.size : Int) := by omega
      have HA := Lib.hid (show x[0] = s[k] from by
        rw [← getElem!_pos x 0 hx0, ← getElem!_pos s k hlt, HX.out, extract_at (by rw [← HX.out]; exact hx0), Nat.add_zero])
      have HL := Lib.hid (fun W => refTab_any x[0] W)
      cases hb : tabB x[0]
      · have HT := Lib.hid (show z = x from by rw [HZ.out, ← HB.out, scan_stop hlt (by rw [← HA.out]; exact hb), HX.out])
        have HL2 : Hid (∀ W, Calls Try.prog 28 #[.int .u8 (x[0].toNat : Int)] W fun e w' => e = .returned (.bool false) ∧ W = w') := fun W => by have := HL.out W; rwa [hb] at this
        clear HL hb
        go_wp2_with (go_at_call 28; refine (HL2.out _).mono ?_; rintro e w' ⟨rfl, rfl⟩)
        go_ret
        exact ⟨by rw [HT.out]; rfl, rfl⟩
      · have HN := Lib.hid (scan_step hlt (by rw [← HA.out]; exact hb))
        have HL2 : Hid (∀ W, Calls Try.prog 28 #[.int .u8 (x[0].toNat : Int)] W fun e w' => e = .returned (.bool true) ∧ W = w') := fun W => by have := HL.out W; rwa [hb] at this
        have HTL := Lib.hid (show x.extract 1 x.size = s.extract (k + 1) s.size from by rw [HX.out]; exact sufx_suf s (i := 1) (by omega))
        have hzt : (x.extract 1 x.size).size = x.size - 1 := by simp
        clear HL hb
        go_wp2_with (go_at_call 28; refine (HL2.out _).mono ?_; rintro e w' ⟨rfl, rfl⟩)
        go_round
        case rel => exact ⟨k + 1, _, by omega, rfl, HTL.out, by rw [HN.out, HB.out]⟩
        case measure => simp [strLen]; omega
    · have HT := Lib.hid (show z = x from by
        have hke : k = s.size := by omega
        have := HX.out
        rw [HZ.out, ← HB.out, scan_end hke, this])
      have hx0 : ¬ 0 < x.size := by omega
      have g1 : ¬ (0 : Int) < (x.size : Int) := by omega
      go_wp2
      go_ret
      exact ⟨by rw [HT.out]; rfl, rfl⟩
/-- cut of what stands from a place on. -/
theorem cutsuf_any (s : ByteArray) (k : Nat) (hk : k ≤ s.size) (w : World) (hs : s.size ≤ 9223372036854775807) :
    Calls Try.prog 23 #[.string (s.extract k s.size)] w fun e w' => e = .returned (.string (s.extract (scan tabB s k) s.size)) ∧ w = w' := by
  have h1 := scan_le tabB (s.extract k s.size) 0 (Nat.zero_le _)
  have hz : (s.extract k s.size).size = s.size - k := by simp
  have := cut24_any (s.extract k s.size) w (by omega)
  rw [sufx_suf s (by omega), ← scan_suf0 tabB s hk] at this
  exact this

/-- What num answers. -/
def numT (x : ByteArray) : Value :=
  match numP x with
  | some n => .tuple #[.int .i64 n, .bool true]
  | none => .tuple #[.int .i64 0, .bool false]
set_option maxHeartbeats 400000 in
theorem num24_any (x : ByteArray) (w : World) (hd : allB digB x = true) (hs : x.size ≤ 9223372036854775807) :
    Calls Try.prog 25 #[.string x] w fun e w' => e = .returned (numT x) ∧ w = w' := by
  have hx : (x.toList == []) = decide (x.size = 0) := by
    rw [Bool.eq_iff_iff, beq_iff_eq, decide_eq_true_eq, ← toList_size]
    exact List.length_eq_zero_iff.symm
  by_cases h0 : x.size = 0
  · rw [decide_eq_true h0] at hx
    have hn := Lib.hid (show numT x = .tuple #[.int .i64 (-1), .bool true] from by unfold numT; rw [numP_empty h0])
    rw [hn.out]
    clear h0 hs hn
    go_enter Try.func25, Try.ntmps25
    go_wp2
    go_ret2
    exact ⟨rfl, rfl⟩
  · rw [decide_eq_false h0] at hx
    by_cases h1 : numK x x.size ≤ 9007199254740991
    · have HP := Lib.hid (fun W => refParse_any x W hs)
      rw [parV_ok h0 hd h1] at HP
      have hn := Lib.hid (show numT x = .tuple #[.int .i64 (numK x x.size : Nat), .bool true] from by unfold numT; rw [numP_ok h0 h1])
      rw [hn.out]
      clear hs h0 h1 hd hn
      generalize numK x x.size = n at *
      go_enter Try.func25, Try.ntmps25
      go_wp2_with (go_at_call 52; (with_reducible refine (HP.out _).mono ?_); rintro e w1 ⟨rfl, rfl⟩)
      go_ret2
      exact ⟨rfl, rfl⟩
    · have HP := Lib.hid (fun W => refParse_any x W hs)
      rw [parV_range h0 hd (by omega)] at HP
      have hn := Lib.hid (show numT x = .tuple #[.int .i64 0, .bool false] from by unfold numT; rw [numP_great h0 h1])
      rw [hn.out]
      clear hs h0 h1 hd hn
      go_enter Try.func25, Try.ntmps25
      go_wp2_with (go_at_call 52; (with_reducible refine (HP.out _).mono ?_); rintro e w1 ⟨rfl, rfl⟩)
      go_ret2
      exact ⟨rfl, rfl⟩

/-- What unit answers of a text without tabs and blanks ahead. -/
def unitT (x : ByteArray) : Value := if unitD x 0 = true then .tuple #[.string (x.extract 5 x.size), .bool true] else .tuple #[.string ⟨#[]⟩, .bool false]
theorem unitD_short {x : ByteArray} (h : x.size < 5) : unitT x = .tuple #[.string ⟨#[]⟩, .bool false] := by
  have e : unitD x 0 = false := by
    unfold unitD
    rw [decide_eq_false (by omega)]
    rfl
  unfold unitT
  rw [e]
  rfl
theorem unitD_word {x : ByteArray} (h : 5 ≤ x.size) (h2 : ((lowS (x.extract 0 5)).toList == bytS.toList) = false) : unitT x = .tuple #[.string ⟨#[]⟩, .bool false] := by
  have e : unitD x 0 = false := by
    unfold unitD
    rw [decide_eq_true (by omega), Nat.zero_add, h2]
    rfl
  unfold unitT
  rw [e]
  rfl
theorem unitD_all {x : ByteArray} (h : x.size = 5) (h2 : ((lowS (x.extract 0 5)).toList == bytS.toList) = true) : unitT x = .tuple #[.string (x.extract 5 x.size), .bool true] := by
  have e : unitD x 0 = true := by
    unfold unitD
    rw [decide_eq_true (by omega), Nat.zero_add, h2, decide_eq_true (by omega)]
    rfl
  unfold unitT
  rw [e]
  rfl
theorem unitD_more {x : ByteArray} (h : 5 < x.size) (h2 : ((lowS (x.extract 0 5)).toList == bytS.toList) = true) (h3 : letB x[5] = false) : unitT x = .tuple #[.string (x.extract 5 x.size), .bool true] := by
  have e : unitD x 0 = true := by
    unfold unitD
    rw [decide_eq_true (by omega), Nat.zero_add, h2, decide_eq_false (by omega), getElem!_pos x 5 h, h3]
    rfl
  unfold unitT
  rw [e]
  rfl
theorem unitD_letter {x : ByteArray} (h : 5 < x.size) (h3 : letB x[5] = true) : unitT x = .tuple #[.string ⟨#[]⟩, .bool false] := by
  have e : unitD x 0 = false := by
    unfold unitD
    rw [Nat.zero_add, decide_eq_false (show ¬x.size ≤ 5 by omega), getElem!_pos x 5 h, h3]
    simp
  unfold unitT
  rw [e]
  rfl

set_option maxHeartbeats 1000000 in
theorem unit24_any (s : ByteArray) (w : World) (hs : s.size ≤ 140737488351232) :
    Calls Try.prog 22 #[.string s] w fun e w' => e = .returned (unitT (s.extract (scan tabB s 0) s.size)) ∧ Below w.heap.size w w' := by
  have HC := Lib.hid (fun W => cut24_any s W (by omega))
  have hz : (s.extract (scan tabB s 0) s.size).size ≤ 140737488351232 := by simp; omega
  generalize s.extract (scan tabB s 0) s.size = x at *
  have HB := Lib.hid (Below.refl w.heap.size w)
  clear hs
  have g5 : ∀ h : 5 ≤ x.size, (x.extract 0 5).size ≤ 140737488351232 := fun h => by simp; omega
  by_cases h5 : x.size < 5
  · have hv := Lib.hid (unitD_short h5)
    have d5 : decide ((x.size : Int) < 5) = true := decide_eq_true (by omega)
    rw [hv.out]
    clear hv h5 g5
    go_enter Try.func22, Try.ntmps22
    go_wp2_with (go_at_call 23; (with_reducible refine (HC.out _).mono ?_); rintro e w1 ⟨rfl, rfl⟩)
    go_ret2
    exact ⟨rfl, HB.out⟩
  have h5' : 5 ≤ x.size := by omega
  have d5 : decide ((x.size : Int) < 5) = false := decide_eq_false (by omega)
  have HL := Lib.hid (fun W => refLowerS_any (x.extract 0 5) W (g5 h5'))
  clear g5
  cases hl : ((lowS (x.extract 0 5)).toList == bytS.toList)
  · have hv := Lib.hid (unitD_word h5' hl)
    rw [hv.out]
    have hl2 : ((lowS (x.extract 0 5)).toList == [98, 121, 116, 101, 115]) = false := by rw [show ([98, 121, 116, 101, 115] : List UInt8) = bytS.toList from by kernel_rfl]; exact hl
    generalize lowS (x.extract 0 5) = l at *
    clear hv
    go_enter Try.func22, Try.ntmps22
    go_wp2_with (first
      | (go_at_call 23; (with_reducible refine (HC.out _).mono ?_); rintro e w1 ⟨rfl, rfl⟩)
      | (go_at_call 49; (with_reducible refine (HL.out _).mono ?_); rintro e w1 ⟨rfl, b1⟩; replace HB := Lib.hid (below_on HB.out b1); clear b1))
    go_ret2
    exact ⟨rfl, HB.out⟩
  have hl2 : (lowS (x.extract 0 5)).toList = [98, 121, 116, 101, 115] := (eq_of_beq hl).trans (by kernel_rfl)
  by_cases h6 : x.size = 5
  · have hv := Lib.hid (unitD_all h6 hl)
    have d6 : decide ((5 : Int) < (x.size : Int)) = false := decide_eq_false (by omega)
    rw [hv.out]
    generalize lowS (x.extract 0 5) = l at *
    clear hv h6
    go_enter Try.func22, Try.ntmps22
    go_wp2_with (first
      | (go_at_call 23; (with_reducible refine (HC.out _).mono ?_); rintro e w1 ⟨rfl, rfl⟩)
      | (go_at_call 49; (with_reducible refine (HL.out _).mono ?_); rintro e w1 ⟨rfl, b1⟩; replace HB := Lib.hid (below_on HB.out b1); clear b1))
    go_ret2
    exact ⟨rfl, HB.out⟩
  have h7 : 5 < x.size := by omega
  have d6 : decide ((5 : Int) < (x.size : Int)) = true := decide_eq_true (by omega)
  have HT := Lib.hid (fun W => refLetter_any x[5] W)
  cases h8 : letB x[5]
  · have hv := Lib.hid (unitD_more h7 hl h8)
    rw [hv.out]
    rw [h8] at HT
    generalize lowS (x.extract 0 5) = l at *
    clear hv h6
    go_enter Try.func22, Try.ntmps22
    go_wp2_with (first
      | (go_at_call 23; (with_reducible refine (HC.out _).mono ?_); rintro e w1 ⟨rfl, rfl⟩)
      | (go_at_call 49; (with_reducible refine (HL.out _).mono ?_); rintro e w1 ⟨rfl, b1⟩; replace HB := Lib.hid (below_on HB.out b1); clear b1)
      | (go_at_call 50; (with_reducible refine (HT.out _).mono ?_); rintro e w1 ⟨rfl, rfl⟩))
    go_ret2
    exact ⟨rfl, HB.out⟩
  · have hv := Lib.hid (unitD_letter h7 h8)
    rw [hv.out]
    rw [h8] at HT
    generalize lowS (x.extract 0 5) = l at *
    clear hv h6
    go_enter Try.func22, Try.ntmps22
    go_wp2_with (first
      | (go_at_call 23; (with_reducible refine (HC.out _).mono ?_); rintro e w1 ⟨rfl, rfl⟩)
      | (go_at_call 49; (with_reducible refine (HL.out _).mono ?_); rintro e w1 ⟨rfl, b1⟩; replace HB := Lib.hid (below_on HB.out b1); clear b1)
      | (go_at_call 50; (with_reducible refine (HT.out _).mono ?_); rintro e w1 ⟨rfl, rfl⟩))
    go_ret2
    exact ⟨rfl, HB.out⟩

end Go.Proofs.Ytaolclpjlkdkjaa
namespace Go.Proofs.Ytaolclpjlkdkjaa
open Go.RowKit

/-- Two ranges of a walk's own. -/
structure TwoR (B : Nat) (w : World) : Prop where
  r : Blk w B 24 #[.int .i64 0, .int .i64 0]
  n : Blk w (B + 1) 24 #[.int .i64 0, .int .i64 0]
theorem TwoR.new (w : World) : TwoR w.heap.size ((w.alloc (rngC 0 0)).alloc (rngC 0 0)) :=
  ⟨(Blk.new w _ _).alloc _, by have := Blk.new (w.alloc (rngC 0 0)) 24 #[.int .i64 0, .int .i64 0]; simpa using this⟩
theorem TwoR.below {B : Nat} {w w' : World} (h : TwoR B w) (hb : Below w.heap.size w w') : TwoR B w' := ⟨h.r.below hb h.r.lt, h.n.below hb h.n.lt⟩
theorem TwoR.keep {B : Nat} {w : World} (h : TwoR B w) : w.cell? ⟨B, 0, none⟩ = some (.int .i64 0) ∧ w.cell? ⟨B, 1, none⟩ = some (.int .i64 0) ∧ w.cell? ⟨B + 1, 0, none⟩ = some (.int .i64 0) ∧ w.cell? ⟨B + 1, 1, none⟩ = some (.int .i64 0) :=
  ⟨h.r.cell 0, h.r.cell 1, h.n.cell 0, h.n.cell 1⟩
theorem TwoR.puts {B : Nat} {w : World} (h : TwoR B w) (u v : Value) : ((w.setCell ⟨B, 0, none⟩ u).setCell ⟨B, 1, none⟩ v).cell? ⟨B, 0, none⟩ = some u ∧ ((w.setCell ⟨B, 0, none⟩ u).setCell ⟨B, 1, none⟩ v).cell? ⟨B, 1, none⟩ = some v :=
  ⟨((h.r.set_ 0 u).set_ 1 v).cell 0, ((h.r.set_ 0 u).set_ 1 v).cell 1⟩

/-- What num answers, by what it makes. -/
def numW (o : Option Int) : Value :=
  match o with
  | some n => .tuple #[.int .i64 n, .bool true]
  | none => .tuple #[.int .i64 0, .bool false]
theorem numW_none : numW none = .tuple #[.int .i64 0, .bool false] := rfl
theorem numW_some (n : Int) : numW (some n) = .tuple #[.int .i64 n, .bool true] := rfl
theorem numT_W (x : ByteArray) : numT x = numW (numP x) := rfl
abbrev rngE (x y c : Int) : Ending := .returned (.tuple #[rngV x y, .int .i64 c])

set_option maxRecDepth 100000 in
set_option maxHeartbeats 16000000 in
theorem rparse_walk (s x1 x2 x4 x5 x6 x7 _xf _xt : ByteArray) (z1 : Bool) (k1 k2 : Nat) (n1 n2 : Option Int) (A : Ending) (w : World)
    (HU0 : ∀ W, Calls Try.prog 22 #[.string s] W fun e w' => e = .returned (.tuple #[.string x1, .bool z1]) ∧ Below W.heap.size W w')
    (HC1 : Hid (∀ W, Calls Try.prog 23 #[.string x1] W fun e w' => e = .returned (.string x2) ∧ W = w'))
    (HC2 : Hid (∀ W, Calls Try.prog 23 #[.string (x2.extract 1 x2.size)] W fun e w' => e = .returned (.string x4) ∧ W = w'))
    (HR1 : Hid (∀ W, Calls Try.prog 24 #[.string x4] W fun e w' => e = .returned (.int .i64 k1) ∧ W = w'))
    (HC3 : Hid (∀ W, Calls Try.prog 23 #[.string (x4.extract k1 x4.size)] W fun e w' => e = .returned (.string x5) ∧ W = w'))
    (HC4 : Hid (∀ W, Calls Try.prog 23 #[.string (x5.extract 1 x5.size)] W fun e w' => e = .returned (.string x6) ∧ W = w'))
    (HR2 : Hid (∀ W, Calls Try.prog 24 #[.string x6] W fun e w' => e = .returned (.int .i64 k2) ∧ W = w'))
    (HC5 : Hid (∀ W, Calls Try.prog 23 #[.string (x6.extract k2 x6.size)] W fun e w' => e = .returned (.string x7) ∧ W = w'))
    (HN1 : Hid (∀ W, Calls Try.prog 25 #[.string (x4.extract 0 k1)] W fun e w' => e = .returned (numW n1) ∧ W = w'))
    (HN2 : Hid (∀ W, Calls Try.prog 25 #[.string (x6.extract 0 k2)] W fun e w' => e = .returned (numW n2) ∧ W = w'))
    (l2 : x2.size ≤ 9223372036854775807) (_l4 : x4.size ≤ 9223372036854775807) (l5 : x5.size ≤ 9223372036854775807) (_l6 : x6.size ≤ 9223372036854775807) (lk1 : k1 ≤ x4.size) (lk2 : k2 ≤ x6.size)
    (E2 : (x2.toList == []) = decide (x2.size = 0)) (E5 : (x5.toList == []) = decide (x5.size = 0)) (E7 : (x7.toList == []) = decide (x7.size = 0))
    (EF : ((x4.extract 0 k1).toList == []) = decide (k1 = 0)) (ET : ((x6.extract 0 k2).toList == []) = decide (k2 = 0))
    (A1 : z1 = false → A = rngE 0 0 2)
    (A2 : z1 = true → atB x2 0 61 = false → A = rngE 0 0 2)
    (A3 : z1 = true → atB x2 0 61 = true → atB x5 0 45 = false → A = rngE 0 0 2)
    (A4 : z1 = true → atB x2 0 61 = true → atB x5 0 45 = true → x7.size ≠ 0 ∨ (k1 = 0 ∧ k2 = 0) → A = rngE 0 0 2)
    (A5 : z1 = true → atB x2 0 61 = true → atB x5 0 45 = true → x7.size = 0 → ¬(k1 = 0 ∧ k2 = 0) → (n1 = none ∨ n2 = none ∨ ∃ a b, n1 = some a ∧ n2 = some b ∧ 0 ≤ b ∧ b < a) → A = rngE 0 0 9)
    (A6 : ∀ a b, z1 = true → atB x2 0 61 = true → atB x5 0 45 = true → x7.size = 0 → ¬(k1 = 0 ∧ k2 = 0) → n1 = some a → n2 = some b → ¬(0 ≤ b ∧ b < a) → A = rngE a b 0) :
    Calls Try.prog 8 #[.string s] w fun r w' => r = A ∧ Below w.heap.size w w' := by
  obtain ⟨w0, hw0⟩ : ∃ w0, w0 = (w.alloc (rngC 0 0)).alloc (rngC 0 0) := ⟨_, rfl⟩
  have HB := Lib.hid (show Below w.heap.size w w0 from by rw [hw0]; exact ((Below.refl _ _).alloc (Nat.le_refl _) _).alloc (by simp) _)
  have HK := Lib.hid (show TwoR w.heap.size w0 from by rw [hw0]; exact TwoR.new w)
  have HU := Lib.hid (HU0 w0)
  clear HU0
  have u61 : ∀ (x : ByteArray) (h : 0 < x.size) (c : UInt8), ((x[0].toNat : Int) == (c.toNat : Int)) = atB x 0 c := fun x h c => by
    rw [atB_at h, Bool.eq_iff_iff, beq_iff_eq, beq_iff_eq]
    exact ⟨fun e => UInt8.toNat_inj.1 (by omega), fun e => by rw [e]⟩
  cases hz1 : z1
  · subst hz1
    have hv := Lib.hid (A1 rfl)
    rw [hv.out]
    clear hv A1 A2 A3 A4 A5 A6
    go_enter Try.func8, Try.ntmps8
    go_wp2_with fail
    rw [← hw0]
    clear hw0
    refine HU.out.mono ?_
    rintro r w1 ⟨rfl, b1⟩
    have HB1 := Lib.hid (HB.out.trans (b1.mono HB.out.size))
    have HK1 := Lib.hid (HK.out.below b1)
    obtain ⟨e0, e1, e2, e3⟩ := HK1.out.keep
    have f0 := HK1.out.r.frozen 0
    have f1 := HK1.out.r.frozen 1
    clear b1 HU HB HK
    go_wp2_with (first
      | (go_at_call 23; (first | (with_reducible refine (HC1.out _).mono ?_) | (with_reducible refine (HC2.out _).mono ?_) | (with_reducible refine (HC3.out _).mono ?_) | (with_reducible refine (HC4.out _).mono ?_) | (with_reducible refine (HC5.out _).mono ?_)); rintro r w9 ⟨rfl, rfl⟩)
      | (go_at_call 24; (first | (with_reducible refine (HR1.out _).mono ?_) | (with_reducible refine (HR2.out _).mono ?_)); rintro r w9 ⟨rfl, rfl⟩)
      | (go_at_call 25; (first | (with_reducible refine (HN1.out _).mono ?_) | (with_reducible refine (HN2.out _).mono ?_)); rintro r w9 ⟨rfl, rfl⟩))
    obtain ⟨j0, j1⟩ := HK1.out.puts (.int .i64 0) (.int .i64 0)
    exact bodyPost_ret (v := .tuple #[rngV 0 0, .int .i64 2]) (by simp [results, Try.results8, go_sem, j0, j1]) rfl ⟨rfl, (HB1.out.setCell (by exact Nat.le_refl _) _).setCell (by exact Nat.le_refl _) _⟩
  subst hz1
  by_cases h2 : x2.size = 0
  · have q2 : atB x2 0 61 = false := atB_out (by omega)
    rw [decide_eq_true h2] at E2
    clear u61
    have hv := Lib.hid (A2 rfl q2)
    rw [hv.out]
    clear hv A1 A2 A3 A4 A5 A6
    go_enter Try.func8, Try.ntmps8
    go_wp2_with fail
    rw [← hw0]
    clear hw0
    refine HU.out.mono ?_
    rintro r w1 ⟨rfl, b1⟩
    have HB1 := Lib.hid (HB.out.trans (b1.mono HB.out.size))
    have HK1 := Lib.hid (HK.out.below b1)
    obtain ⟨e0, e1, e2, e3⟩ := HK1.out.keep
    have f0 := HK1.out.r.frozen 0
    have f1 := HK1.out.r.frozen 1
    clear b1 HU HB HK
    go_wp2_with (first
      | (go_at_call 23; (first | (with_reducible refine (HC1.out _).mono ?_) | (with_reducible refine (HC2.out _).mono ?_) | (with_reducible refine (HC3.out _).mono ?_) | (with_reducible refine (HC4.out _).mono ?_) | (with_reducible refine (HC5.out _).mono ?_)); rintro r w9 ⟨rfl, rfl⟩)
      | (go_at_call 24; (first | (with_reducible refine (HR1.out _).mono ?_) | (with_reducible refine (HR2.out _).mono ?_)); rintro r w9 ⟨rfl, rfl⟩)
      | (go_at_call 25; (first | (with_reducible refine (HN1.out _).mono ?_) | (with_reducible refine (HN2.out _).mono ?_)); rintro r w9 ⟨rfl, rfl⟩))
    obtain ⟨j0, j1⟩ := HK1.out.puts (.int .i64 0) (.int .i64 0)
    exact bodyPost_ret (v := .tuple #[rngV 0 0, .int .i64 2]) (by simp [results, Try.results8, go_sem, j0, j1]) rfl ⟨rfl, (HB1.out.setCell (by exact Nat.le_refl _) _).setCell (by exact Nat.le_refl _) _⟩
  rw [decide_eq_false h2] at E2
  have p2 : 0 < x2.size := by omega
  have v2 := u61 x2 p2 61
  cases q2 : atB x2 0 61
  · rw [q2] at v2
    replace v2 : ((x2[0].toNat : Int) == 61) = false := v2
    clear u61
    have hv := Lib.hid (A2 rfl q2)
    rw [hv.out]
    clear hv A1 A2 A3 A4 A5 A6
    go_enter Try.func8, Try.ntmps8
    go_wp2_with fail
    rw [← hw0]
    clear hw0
    refine HU.out.mono ?_
    rintro r w1 ⟨rfl, b1⟩
    have HB1 := Lib.hid (HB.out.trans (b1.mono HB.out.size))
    have HK1 := Lib.hid (HK.out.below b1)
    obtain ⟨e0, e1, e2, e3⟩ := HK1.out.keep
    have f0 := HK1.out.r.frozen 0
    have f1 := HK1.out.r.frozen 1
    clear b1 HU HB HK
    go_wp2_with (first
      | (go_at_call 23; (first | (with_reducible refine (HC1.out _).mono ?_) | (with_reducible refine (HC2.out _).mono ?_) | (with_reducible refine (HC3.out _).mono ?_) | (with_reducible refine (HC4.out _).mono ?_) | (with_reducible refine (HC5.out _).mono ?_)); rintro r w9 ⟨rfl, rfl⟩)
      | (go_at_call 24; (first | (with_reducible refine (HR1.out _).mono ?_) | (with_reducible refine (HR2.out _).mono ?_)); rintro r w9 ⟨rfl, rfl⟩)
      | (go_at_call 25; (first | (with_reducible refine (HN1.out _).mono ?_) | (with_reducible refine (HN2.out _).mono ?_)); rintro r w9 ⟨rfl, rfl⟩))
    obtain ⟨j0, j1⟩ := HK1.out.puts (.int .i64 0) (.int .i64 0)
    exact bodyPost_ret (v := .tuple #[rngV 0 0, .int .i64 2]) (by simp [results, Try.results8, go_sem, j0, j1]) rfl ⟨rfl, (HB1.out.setCell (by exact Nat.le_refl _) _).setCell (by exact Nat.le_refl _) _⟩
  rw [q2] at v2
  replace v2 : ((x2[0].toNat : Int) == 61) = true := v2
  have w2 : x2[0].toNat = 61 := by have := eq_of_beq v2; omega
  have p2' : (1 : Int) ≤ (x2.size : Int) := by omega
  by_cases h5 : x5.size = 0
  · have q5 : atB x5 0 45 = false := atB_out (by omega)
    rw [decide_eq_true h5] at E5
    clear u61
    have hv := Lib.hid (A3 rfl q2 q5)
    rw [hv.out]
    clear hv A1 A2 A3 A4 A5 A6
    go_enter Try.func8, Try.ntmps8
    go_wp2_with fail
    rw [← hw0]
    clear hw0
    refine HU.out.mono ?_
    rintro r w1 ⟨rfl, b1⟩
    have HB1 := Lib.hid (HB.out.trans (b1.mono HB.out.size))
    have HK1 := Lib.hid (HK.out.below b1)
    obtain ⟨e0, e1, e2, e3⟩ := HK1.out.keep
    have f0 := HK1.out.r.frozen 0
    have f1 := HK1.out.r.frozen 1
    clear b1 HU HB HK
    go_wp2_with (first
      | (go_at_call 23; (first | (with_reducible refine (HC1.out _).mono ?_) | (with_reducible refine (HC2.out _).mono ?_) | (with_reducible refine (HC3.out _).mono ?_) | (with_reducible refine (HC4.out _).mono ?_) | (with_reducible refine (HC5.out _).mono ?_)); rintro r w9 ⟨rfl, rfl⟩)
      | (go_at_call 24; (first | (with_reducible refine (HR1.out _).mono ?_) | (with_reducible refine (HR2.out _).mono ?_)); rintro r w9 ⟨rfl, rfl⟩)
      | (go_at_call 25; (first | (with_reducible refine (HN1.out _).mono ?_) | (with_reducible refine (HN2.out _).mono ?_)); rintro r w9 ⟨rfl, rfl⟩))
    obtain ⟨j0, j1⟩ := HK1.out.puts (.int .i64 0) (.int .i64 0)
    exact bodyPost_ret (v := .tuple #[rngV 0 0, .int .i64 2]) (by simp [results, Try.results8, go_sem, j0, j1]) rfl ⟨rfl, (HB1.out.setCell (by exact Nat.le_refl _) _).setCell (by exact Nat.le_refl _) _⟩
  rw [decide_eq_false h5] at E5
  have p5 : 0 < x5.size := by omega
  have v5 := u61 x5 p5 45
  clear u61
  cases q5 : atB x5 0 45
  · rw [q5] at v5
    replace v5 : ((x5[0].toNat : Int) == 45) = false := v5
    have hv := Lib.hid (A3 rfl q2 q5)
    rw [hv.out]
    clear hv A1 A2 A3 A4 A5 A6
    go_enter Try.func8, Try.ntmps8
    go_wp2_with fail
    rw [← hw0]
    clear hw0
    refine HU.out.mono ?_
    rintro r w1 ⟨rfl, b1⟩
    have HB1 := Lib.hid (HB.out.trans (b1.mono HB.out.size))
    have HK1 := Lib.hid (HK.out.below b1)
    obtain ⟨e0, e1, e2, e3⟩ := HK1.out.keep
    have f0 := HK1.out.r.frozen 0
    have f1 := HK1.out.r.frozen 1
    clear b1 HU HB HK
    go_wp2_with (first
      | (go_at_call 23; (first | (with_reducible refine (HC1.out _).mono ?_) | (with_reducible refine (HC2.out _).mono ?_) | (with_reducible refine (HC3.out _).mono ?_) | (with_reducible refine (HC4.out _).mono ?_) | (with_reducible refine (HC5.out _).mono ?_)); rintro r w9 ⟨rfl, rfl⟩)
      | (go_at_call 24; (first | (with_reducible refine (HR1.out _).mono ?_) | (with_reducible refine (HR2.out _).mono ?_)); rintro r w9 ⟨rfl, rfl⟩)
      | (go_at_call 25; (first | (with_reducible refine (HN1.out _).mono ?_) | (with_reducible refine (HN2.out _).mono ?_)); rintro r w9 ⟨rfl, rfl⟩))
    obtain ⟨j0, j1⟩ := HK1.out.puts (.int .i64 0) (.int .i64 0)
    exact bodyPost_ret (v := .tuple #[rngV 0 0, .int .i64 2]) (by simp [results, Try.results8, go_sem, j0, j1]) rfl ⟨rfl, (HB1.out.setCell (by exact Nat.le_refl _) _).setCell (by exact Nat.le_refl _) _⟩
  rw [q5] at v5
  replace v5 : ((x5[0].toNat : Int) == 45) = true := v5
  have w5 : x5[0].toNat = 45 := by have := eq_of_beq v5; omega
  have p5' : (1 : Int) ≤ (x5.size : Int) := by omega
  by_cases h7 : x7.size = 0
  rotate_left
  · rw [decide_eq_false h7] at E7
    have hv := Lib.hid (A4 rfl q2 q5 (.inl h7))
    rw [hv.out]
    clear hv A1 A2 A3 A4 A5 A6
    go_enter Try.func8, Try.ntmps8
    go_wp2_with fail
    rw [← hw0]
    clear hw0
    refine HU.out.mono ?_
    rintro r w1 ⟨rfl, b1⟩
    have HB1 := Lib.hid (HB.out.trans (b1.mono HB.out.size))
    have HK1 := Lib.hid (HK.out.below b1)
    obtain ⟨e0, e1, e2, e3⟩ := HK1.out.keep
    have f0 := HK1.out.r.frozen 0
    have f1 := HK1.out.r.frozen 1
    clear b1 HU HB HK
    go_wp2_with (first
      | (go_at_call 23; (first | (with_reducible refine (HC1.out _).mono ?_) | (with_reducible refine (HC2.out _).mono ?_) | (with_reducible refine (HC3.out _).mono ?_) | (with_reducible refine (HC4.out _).mono ?_) | (with_reducible refine (HC5.out _).mono ?_)); rintro r w9 ⟨rfl, rfl⟩)
      | (go_at_call 24; (first | (with_reducible refine (HR1.out _).mono ?_) | (with_reducible refine (HR2.out _).mono ?_)); rintro r w9 ⟨rfl, rfl⟩)
      | (go_at_call 25; (first | (with_reducible refine (HN1.out _).mono ?_) | (with_reducible refine (HN2.out _).mono ?_)); rintro r w9 ⟨rfl, rfl⟩))
    obtain ⟨j0, j1⟩ := HK1.out.puts (.int .i64 0) (.int .i64 0)
    exact bodyPost_ret (v := .tuple #[rngV 0 0, .int .i64 2]) (by simp [results, Try.results8, go_sem, j0, j1]) rfl ⟨rfl, (HB1.out.setCell (by exact Nat.le_refl _) _).setCell (by exact Nat.le_refl _) _⟩
  rw [decide_eq_true h7] at E7
  by_cases hf : k1 = 0
  · by_cases ht : k2 = 0
    · have hft := Lib.hid (show k1 = 0 ∧ k2 = 0 from ⟨hf, ht⟩)
      rw [decide_eq_true hf] at EF
      rw [decide_eq_true ht] at ET
      clear hf ht
      have hv := Lib.hid (A4 rfl q2 q5 (.inr hft.out))
      rw [hv.out]
      clear hv A1 A2 A3 A4 A5 A6
      go_enter Try.func8, Try.ntmps8
      go_wp2_with fail
      rw [← hw0]
      clear hw0
      refine HU.out.mono ?_
      rintro r w1 ⟨rfl, b1⟩
      have HB1 := Lib.hid (HB.out.trans (b1.mono HB.out.size))
      have HK1 := Lib.hid (HK.out.below b1)
      obtain ⟨e0, e1, e2, e3⟩ := HK1.out.keep
      have f0 := HK1.out.r.frozen 0
      have f1 := HK1.out.r.frozen 1
      clear b1 HU HB HK
      go_wp2_with (first
        | (go_at_call 23; (first | (with_reducible refine (HC1.out _).mono ?_) | (with_reducible refine (HC2.out _).mono ?_) | (with_reducible refine (HC3.out _).mono ?_) | (with_reducible refine (HC4.out _).mono ?_) | (with_reducible refine (HC5.out _).mono ?_)); rintro r w9 ⟨rfl, rfl⟩)
        | (go_at_call 24; (first | (with_reducible refine (HR1.out _).mono ?_) | (with_reducible refine (HR2.out _).mono ?_)); rintro r w9 ⟨rfl, rfl⟩)
        | (go_at_call 25; (first | (with_reducible refine (HN1.out _).mono ?_) | (with_reducible refine (HN2.out _).mono ?_)); rintro r w9 ⟨rfl, rfl⟩))
      obtain ⟨j0, j1⟩ := HK1.out.puts (.int .i64 0) (.int .i64 0)
      exact bodyPost_ret (v := .tuple #[rngV 0 0, .int .i64 2]) (by simp [results, Try.results8, go_sem, j0, j1]) rfl ⟨rfl, (HB1.out.setCell (by exact Nat.le_refl _) _).setCell (by exact Nat.le_refl _) _⟩
    have hft := Lib.hid (show ¬(k1 = 0 ∧ k2 = 0) from fun h => ht h.2)
    rw [decide_eq_true hf] at EF
    rw [decide_eq_false ht] at ET
    clear hf ht
    cases n1 with
    | none =>
      rw [numW_none] at HN1
      cases n2 with
      | none =>
        rw [numW_none] at HN2
        have hv := Lib.hid (A5 rfl q2 q5 h7 hft.out (.inl rfl))
        rw [hv.out]
        clear hv A1 A2 A3 A4 A5 A6
        go_enter Try.func8, Try.ntmps8
        go_wp2_with fail
        rw [← hw0]
        clear hw0
        refine HU.out.mono ?_
        rintro r w1 ⟨rfl, b1⟩
        have HB1 := Lib.hid (HB.out.trans (b1.mono HB.out.size))
        have HK1 := Lib.hid (HK.out.below b1)
        obtain ⟨e0, e1, e2, e3⟩ := HK1.out.keep
        have f0 := HK1.out.r.frozen 0
        have f1 := HK1.out.r.frozen 1
        clear b1 HU HB HK
        go_wp2_with (first
          | (go_at_call 23; (first | (with_reducible refine (HC1.out _).mono ?_) | (with_reducible refine (HC2.out _).mono ?_) | (with_reducible refine (HC3.out _).mono ?_) | (with_reducible refine (HC4.out _).mono ?_) | (with_reducible refine (HC5.out _).mono ?_)); rintro r w9 ⟨rfl, rfl⟩)
          | (go_at_call 24; (first | (with_reducible refine (HR1.out _).mono ?_) | (with_reducible refine (HR2.out _).mono ?_)); rintro r w9 ⟨rfl, rfl⟩)
          | (go_at_call 25; (first | (with_reducible refine (HN1.out _).mono ?_) | (with_reducible refine (HN2.out _).mono ?_)); rintro r w9 ⟨rfl, rfl⟩))
        obtain ⟨j0, j1⟩ := HK1.out.puts (.int .i64 0) (.int .i64 0)
        exact bodyPost_ret (v := .tuple #[rngV 0 0, .int .i64 9]) (by simp [results, Try.results8, go_sem, j0, j1]) rfl ⟨rfl, (HB1.out.setCell (by exact Nat.le_refl _) _).setCell (by exact Nat.le_refl _) _⟩
      | some b =>
        rw [numW_some] at HN2
        have hv := Lib.hid (A5 rfl q2 q5 h7 hft.out (.inl rfl))
        rw [hv.out]
        clear hv A1 A2 A3 A4 A5 A6
        go_enter Try.func8, Try.ntmps8
        go_wp2_with fail
        rw [← hw0]
        clear hw0
        refine HU.out.mono ?_
        rintro r w1 ⟨rfl, b1⟩
        have HB1 := Lib.hid (HB.out.trans (b1.mono HB.out.size))
        have HK1 := Lib.hid (HK.out.below b1)
        obtain ⟨e0, e1, e2, e3⟩ := HK1.out.keep
        have f0 := HK1.out.r.frozen 0
        have f1 := HK1.out.r.frozen 1
        clear b1 HU HB HK
        go_wp2_with (first
          | (go_at_call 23; (first | (with_reducible refine (HC1.out _).mono ?_) | (with_reducible refine (HC2.out _).mono ?_) | (with_reducible refine (HC3.out _).mono ?_) | (with_reducible refine (HC4.out _).mono ?_) | (with_reducible refine (HC5.out _).mono ?_)); rintro r w9 ⟨rfl, rfl⟩)
          | (go_at_call 24; (first | (with_reducible refine (HR1.out _).mono ?_) | (with_reducible refine (HR2.out _).mono ?_)); rintro r w9 ⟨rfl, rfl⟩)
          | (go_at_call 25; (first | (with_reducible refine (HN1.out _).mono ?_) | (with_reducible refine (HN2.out _).mono ?_)); rintro r w9 ⟨rfl, rfl⟩))
        obtain ⟨j0, j1⟩ := HK1.out.puts (.int .i64 0) (.int .i64 0)
        exact bodyPost_ret (v := .tuple #[rngV 0 0, .int .i64 9]) (by simp [results, Try.results8, go_sem, j0, j1]) rfl ⟨rfl, (HB1.out.setCell (by exact Nat.le_refl _) _).setCell (by exact Nat.le_refl _) _⟩
    | some a =>
      rw [numW_some] at HN1
      cases n2 with
      | none =>
        rw [numW_none] at HN2
        have hv := Lib.hid (A5 rfl q2 q5 h7 hft.out (.inr (.inl rfl)))
        rw [hv.out]
        clear hv A1 A2 A3 A4 A5 A6
        go_enter Try.func8, Try.ntmps8
        go_wp2_with fail
        rw [← hw0]
        clear hw0
        refine HU.out.mono ?_
        rintro r w1 ⟨rfl, b1⟩
        have HB1 := Lib.hid (HB.out.trans (b1.mono HB.out.size))
        have HK1 := Lib.hid (HK.out.below b1)
        obtain ⟨e0, e1, e2, e3⟩ := HK1.out.keep
        have f0 := HK1.out.r.frozen 0
        have f1 := HK1.out.r.frozen 1
        clear b1 HU HB HK
        go_wp2_with (first
          | (go_at_call 23; (first | (with_reducible refine (HC1.out _).mono ?_) | (with_reducible refine (HC2.out _).mono ?_) | (with_reducible refine (HC3.out _).mono ?_) | (with_reducible refine (HC4.out _).mono ?_) | (with_reducible refine (HC5.out _).mono ?_)); rintro r w9 ⟨rfl, rfl⟩)
          | (go_at_call 24; (first | (with_reducible refine (HR1.out _).mono ?_) | (with_reducible refine (HR2.out _).mono ?_)); rintro r w9 ⟨rfl, rfl⟩)
          | (go_at_call 25; (first | (with_reducible refine (HN1.out _).mono ?_) | (with_reducible refine (HN2.out _).mono ?_)); rintro r w9 ⟨rfl, rfl⟩))
        obtain ⟨j0, j1⟩ := HK1.out.puts (.int .i64 0) (.int .i64 0)
        exact bodyPost_ret (v := .tuple #[rngV 0 0, .int .i64 9]) (by simp [results, Try.results8, go_sem, j0, j1]) rfl ⟨rfl, (HB1.out.setCell (by exact Nat.le_refl _) _).setCell (by exact Nat.le_refl _) _⟩
      | some b =>
        rw [numW_some] at HN2
        by_cases hb : 0 ≤ b
        · have db : decide (0 ≤ b) = true := decide_eq_true hb
          by_cases hab : b < a
          · have dab : decide (b < a) = true := decide_eq_true hab
            have hv := Lib.hid (A5 rfl q2 q5 h7 hft.out (.inr (.inr ⟨a, b, rfl, rfl, hb, hab⟩)))
            rw [hv.out]
            clear hv A1 A2 A3 A4 A5 A6
            go_enter Try.func8, Try.ntmps8
            go_wp2_with fail
            rw [← hw0]
            clear hw0
            refine HU.out.mono ?_
            rintro r w1 ⟨rfl, b1⟩
            have HB1 := Lib.hid (HB.out.trans (b1.mono HB.out.size))
            have HK1 := Lib.hid (HK.out.below b1)
            obtain ⟨e0, e1, e2, e3⟩ := HK1.out.keep
            have f0 := HK1.out.r.frozen 0
            have f1 := HK1.out.r.frozen 1
            clear b1 HU HB HK
            go_wp2_with (first
              | (go_at_call 23; (first | (with_reducible refine (HC1.out _).mono ?_) | (with_reducible refine (HC2.out _).mono ?_) | (with_reducible refine (HC3.out _).mono ?_) | (with_reducible refine (HC4.out _).mono ?_) | (with_reducible refine (HC5.out _).mono ?_)); rintro r w9 ⟨rfl, rfl⟩)
              | (go_at_call 24; (first | (with_reducible refine (HR1.out _).mono ?_) | (with_reducible refine (HR2.out _).mono ?_)); rintro r w9 ⟨rfl, rfl⟩)
              | (go_at_call 25; (first | (with_reducible refine (HN1.out _).mono ?_) | (with_reducible refine (HN2.out _).mono ?_)); rintro r w9 ⟨rfl, rfl⟩))
            obtain ⟨j0, j1⟩ := HK1.out.puts (.int .i64 0) (.int .i64 0)
            exact bodyPost_ret (v := .tuple #[rngV 0 0, .int .i64 9]) (by simp [results, Try.results8, go_sem, j0, j1]) rfl ⟨rfl, (HB1.out.setCell (by exact Nat.le_refl _) _).setCell (by exact Nat.le_refl _) _⟩
          · have dab : decide (b < a) = false := decide_eq_false hab
            have hv := Lib.hid (A6 a b rfl q2 q5 h7 hft.out rfl rfl (fun h => hab h.2))
            rw [hv.out]
            clear hv A1 A2 A3 A4 A5 A6
            go_enter Try.func8, Try.ntmps8
            go_wp2_with fail
            rw [← hw0]
            clear hw0
            refine HU.out.mono ?_
            rintro r w1 ⟨rfl, b1⟩
            have HB1 := Lib.hid (HB.out.trans (b1.mono HB.out.size))
            have HK1 := Lib.hid (HK.out.below b1)
            obtain ⟨e0, e1, e2, e3⟩ := HK1.out.keep
            have f0 := HK1.out.r.frozen 0
            have f1 := HK1.out.r.frozen 1
            clear b1 HU HB HK
            go_wp2_with (first
              | (go_at_call 23; (first | (with_reducible refine (HC1.out _).mono ?_) | (with_reducible refine (HC2.out _).mono ?_) | (with_reducible refine (HC3.out _).mono ?_) | (with_reducible refine (HC4.out _).mono ?_) | (with_reducible refine (HC5.out _).mono ?_)); rintro r w9 ⟨rfl, rfl⟩)
              | (go_at_call 24; (first | (with_reducible refine (HR1.out _).mono ?_) | (with_reducible refine (HR2.out _).mono ?_)); rintro r w9 ⟨rfl, rfl⟩)
              | (go_at_call 25; (first | (with_reducible refine (HN1.out _).mono ?_) | (with_reducible refine (HN2.out _).mono ?_)); rintro r w9 ⟨rfl, rfl⟩))
            obtain ⟨j0, j1⟩ := HK1.out.puts (.int .i64 a) (.int .i64 b)
            exact bodyPost_ret (v := .tuple #[rngV a b, .int .i64 0]) (by simp [results, Try.results8, go_sem, j0, j1]) rfl ⟨rfl, (HB1.out.setCell (by exact Nat.le_refl _) _).setCell (by exact Nat.le_refl _) _⟩
        · have db : decide (0 ≤ b) = false := decide_eq_false hb
          have hv := Lib.hid (A6 a b rfl q2 q5 h7 hft.out rfl rfl (fun h => hb h.1))
          rw [hv.out]
          clear hv A1 A2 A3 A4 A5 A6
          go_enter Try.func8, Try.ntmps8
          go_wp2_with fail
          rw [← hw0]
          clear hw0
          refine HU.out.mono ?_
          rintro r w1 ⟨rfl, b1⟩
          have HB1 := Lib.hid (HB.out.trans (b1.mono HB.out.size))
          have HK1 := Lib.hid (HK.out.below b1)
          obtain ⟨e0, e1, e2, e3⟩ := HK1.out.keep
          have f0 := HK1.out.r.frozen 0
          have f1 := HK1.out.r.frozen 1
          clear b1 HU HB HK
          go_wp2_with (first
            | (go_at_call 23; (first | (with_reducible refine (HC1.out _).mono ?_) | (with_reducible refine (HC2.out _).mono ?_) | (with_reducible refine (HC3.out _).mono ?_) | (with_reducible refine (HC4.out _).mono ?_) | (with_reducible refine (HC5.out _).mono ?_)); rintro r w9 ⟨rfl, rfl⟩)
            | (go_at_call 24; (first | (with_reducible refine (HR1.out _).mono ?_) | (with_reducible refine (HR2.out _).mono ?_)); rintro r w9 ⟨rfl, rfl⟩)
            | (go_at_call 25; (first | (with_reducible refine (HN1.out _).mono ?_) | (with_reducible refine (HN2.out _).mono ?_)); rintro r w9 ⟨rfl, rfl⟩))
          obtain ⟨j0, j1⟩ := HK1.out.puts (.int .i64 a) (.int .i64 b)
          exact bodyPost_ret (v := .tuple #[rngV a b, .int .i64 0]) (by simp [results, Try.results8, go_sem, j0, j1]) rfl ⟨rfl, (HB1.out.setCell (by exact Nat.le_refl _) _).setCell (by exact Nat.le_refl _) _⟩
  have hft := Lib.hid (show ¬(k1 = 0 ∧ k2 = 0) from fun h => hf h.1)
  rw [decide_eq_false hf] at EF
  clear hf ET
  cases n1 with
  | none =>
    rw [numW_none] at HN1
    cases n2 with
    | none =>
      rw [numW_none] at HN2
      have hv := Lib.hid (A5 rfl q2 q5 h7 hft.out (.inl rfl))
      rw [hv.out]
      clear hv A1 A2 A3 A4 A5 A6
      go_enter Try.func8, Try.ntmps8
      go_wp2_with fail
      rw [← hw0]
      clear hw0
      refine HU.out.mono ?_
      rintro r w1 ⟨rfl, b1⟩
      have HB1 := Lib.hid (HB.out.trans (b1.mono HB.out.size))
      have HK1 := Lib.hid (HK.out.below b1)
      obtain ⟨e0, e1, e2, e3⟩ := HK1.out.keep
      have f0 := HK1.out.r.frozen 0
      have f1 := HK1.out.r.frozen 1
      clear b1 HU HB HK
      go_wp2_with (first
        | (go_at_call 23; (first | (with_reducible refine (HC1.out _).mono ?_) | (with_reducible refine (HC2.out _).mono ?_) | (with_reducible refine (HC3.out _).mono ?_) | (with_reducible refine (HC4.out _).mono ?_) | (with_reducible refine (HC5.out _).mono ?_)); rintro r w9 ⟨rfl, rfl⟩)
        | (go_at_call 24; (first | (with_reducible refine (HR1.out _).mono ?_) | (with_reducible refine (HR2.out _).mono ?_)); rintro r w9 ⟨rfl, rfl⟩)
        | (go_at_call 25; (first | (with_reducible refine (HN1.out _).mono ?_) | (with_reducible refine (HN2.out _).mono ?_)); rintro r w9 ⟨rfl, rfl⟩))
      obtain ⟨j0, j1⟩ := HK1.out.puts (.int .i64 0) (.int .i64 0)
      exact bodyPost_ret (v := .tuple #[rngV 0 0, .int .i64 9]) (by simp [results, Try.results8, go_sem, j0, j1]) rfl ⟨rfl, (HB1.out.setCell (by exact Nat.le_refl _) _).setCell (by exact Nat.le_refl _) _⟩
    | some b =>
      rw [numW_some] at HN2
      have hv := Lib.hid (A5 rfl q2 q5 h7 hft.out (.inl rfl))
      rw [hv.out]
      clear hv A1 A2 A3 A4 A5 A6
      go_enter Try.func8, Try.ntmps8
      go_wp2_with fail
      rw [← hw0]
      clear hw0
      refine HU.out.mono ?_
      rintro r w1 ⟨rfl, b1⟩
      have HB1 := Lib.hid (HB.out.trans (b1.mono HB.out.size))
      have HK1 := Lib.hid (HK.out.below b1)
      obtain ⟨e0, e1, e2, e3⟩ := HK1.out.keep
      have f0 := HK1.out.r.frozen 0
      have f1 := HK1.out.r.frozen 1
      clear b1 HU HB HK
      go_wp2_with (first
        | (go_at_call 23; (first | (with_reducible refine (HC1.out _).mono ?_) | (with_reducible refine (HC2.out _).mono ?_) | (with_reducible refine (HC3.out _).mono ?_) | (with_reducible refine (HC4.out _).mono ?_) | (with_reducible refine (HC5.out _).mono ?_)); rintro r w9 ⟨rfl, rfl⟩)
        | (go_at_call 24; (first | (with_reducible refine (HR1.out _).mono ?_) | (with_reducible refine (HR2.out _).mono ?_)); rintro r w9 ⟨rfl, rfl⟩)
        | (go_at_call 25; (first | (with_reducible refine (HN1.out _).mono ?_) | (with_reducible refine (HN2.out _).mono ?_)); rintro r w9 ⟨rfl, rfl⟩))
      obtain ⟨j0, j1⟩ := HK1.out.puts (.int .i64 0) (.int .i64 0)
      exact bodyPost_ret (v := .tuple #[rngV 0 0, .int .i64 9]) (by simp [results, Try.results8, go_sem, j0, j1]) rfl ⟨rfl, (HB1.out.setCell (by exact Nat.le_refl _) _).setCell (by exact Nat.le_refl _) _⟩
  | some a =>
    rw [numW_some] at HN1
    cases n2 with
    | none =>
      rw [numW_none] at HN2
      have hv := Lib.hid (A5 rfl q2 q5 h7 hft.out (.inr (.inl rfl)))
      rw [hv.out]
      clear hv A1 A2 A3 A4 A5 A6
      go_enter Try.func8, Try.ntmps8
      go_wp2_with fail
      rw [← hw0]
      clear hw0
      refine HU.out.mono ?_
      rintro r w1 ⟨rfl, b1⟩
      have HB1 := Lib.hid (HB.out.trans (b1.mono HB.out.size))
      have HK1 := Lib.hid (HK.out.below b1)
      obtain ⟨e0, e1, e2, e3⟩ := HK1.out.keep
      have f0 := HK1.out.r.frozen 0
      have f1 := HK1.out.r.frozen 1
      clear b1 HU HB HK
      go_wp2_with (first
        | (go_at_call 23; (first | (with_reducible refine (HC1.out _).mono ?_) | (with_reducible refine (HC2.out _).mono ?_) | (with_reducible refine (HC3.out _).mono ?_) | (with_reducible refine (HC4.out _).mono ?_) | (with_reducible refine (HC5.out _).mono ?_)); rintro r w9 ⟨rfl, rfl⟩)
        | (go_at_call 24; (first | (with_reducible refine (HR1.out _).mono ?_) | (with_reducible refine (HR2.out _).mono ?_)); rintro r w9 ⟨rfl, rfl⟩)
        | (go_at_call 25; (first | (with_reducible refine (HN1.out _).mono ?_) | (with_reducible refine (HN2.out _).mono ?_)); rintro r w9 ⟨rfl, rfl⟩))
      obtain ⟨j0, j1⟩ := HK1.out.puts (.int .i64 0) (.int .i64 0)
      exact bodyPost_ret (v := .tuple #[rngV 0 0, .int .i64 9]) (by simp [results, Try.results8, go_sem, j0, j1]) rfl ⟨rfl, (HB1.out.setCell (by exact Nat.le_refl _) _).setCell (by exact Nat.le_refl _) _⟩
    | some b =>
      rw [numW_some] at HN2
      by_cases hb : 0 ≤ b
      · have db : decide (0 ≤ b) = true := decide_eq_true hb
        by_cases hab : b < a
        · have dab : decide (b < a) = true := decide_eq_true hab
          have hv := Lib.hid (A5 rfl q2 q5 h7 hft.out (.inr (.inr ⟨a, b, rfl, rfl, hb, hab⟩)))
          rw [hv.out]
          clear hv A1 A2 A3 A4 A5 A6
          go_enter Try.func8, Try.ntmps8
          go_wp2_with fail
          rw [← hw0]
          clear hw0
          refine HU.out.mono ?_
          rintro r w1 ⟨rfl, b1⟩
          have HB1 := Lib.hid (HB.out.trans (b1.mono HB.out.size))
          have HK1 := Lib.hid (HK.out.below b1)
          obtain ⟨e0, e1, e2, e3⟩ := HK1.out.keep
          have f0 := HK1.out.r.frozen 0
          have f1 := HK1.out.r.frozen 1
          clear b1 HU HB HK
          go_wp2_with (first
            | (go_at_call 23; (first | (with_reducible refine (HC1.out _).mono ?_) | (with_reducible refine (HC2.out _).mono ?_) | (with_reducible refine (HC3.out _).mono ?_) | (with_reducible refine (HC4.out _).mono ?_) | (with_reducible refine (HC5.out _).mono ?_)); rintro r w9 ⟨rfl, rfl⟩)
            | (go_at_call 24; (first | (with_reducible refine (HR1.out _).mono ?_) | (with_reducible refine (HR2.out _).mono ?_)); rintro r w9 ⟨rfl, rfl⟩)
            | (go_at_call 25; (first | (with_reducible refine (HN1.out _).mono ?_) | (with_reducible refine (HN2.out _).mono ?_)); rintro r w9 ⟨rfl, rfl⟩))
          obtain ⟨j0, j1⟩ := HK1.out.puts (.int .i64 0) (.int .i64 0)
          exact bodyPost_ret (v := .tuple #[rngV 0 0, .int .i64 9]) (by simp [results, Try.results8, go_sem, j0, j1]) rfl ⟨rfl, (HB1.out.setCell (by exact Nat.le_refl _) _).setCell (by exact Nat.le_refl _) _⟩
        · have dab : decide (b < a) = false := decide_eq_false hab
          have hv := Lib.hid (A6 a b rfl q2 q5 h7 hft.out rfl rfl (fun h => hab h.2))
          rw [hv.out]
          clear hv A1 A2 A3 A4 A5 A6
          go_enter Try.func8, Try.ntmps8
          go_wp2_with fail
          rw [← hw0]
          clear hw0
          refine HU.out.mono ?_
          rintro r w1 ⟨rfl, b1⟩
          have HB1 := Lib.hid (HB.out.trans (b1.mono HB.out.size))
          have HK1 := Lib.hid (HK.out.below b1)
          obtain ⟨e0, e1, e2, e3⟩ := HK1.out.keep
          have f0 := HK1.out.r.frozen 0
          have f1 := HK1.out.r.frozen 1
          clear b1 HU HB HK
          go_wp2_with (first
            | (go_at_call 23; (first | (with_reducible refine (HC1.out _).mono ?_) | (with_reducible refine (HC2.out _).mono ?_) | (with_reducible refine (HC3.out _).mono ?_) | (with_reducible refine (HC4.out _).mono ?_) | (with_reducible refine (HC5.out _).mono ?_)); rintro r w9 ⟨rfl, rfl⟩)
            | (go_at_call 24; (first | (with_reducible refine (HR1.out _).mono ?_) | (with_reducible refine (HR2.out _).mono ?_)); rintro r w9 ⟨rfl, rfl⟩)
            | (go_at_call 25; (first | (with_reducible refine (HN1.out _).mono ?_) | (with_reducible refine (HN2.out _).mono ?_)); rintro r w9 ⟨rfl, rfl⟩))
          obtain ⟨j0, j1⟩ := HK1.out.puts (.int .i64 a) (.int .i64 b)
          exact bodyPost_ret (v := .tuple #[rngV a b, .int .i64 0]) (by simp [results, Try.results8, go_sem, j0, j1]) rfl ⟨rfl, (HB1.out.setCell (by exact Nat.le_refl _) _).setCell (by exact Nat.le_refl _) _⟩
      · have db : decide (0 ≤ b) = false := decide_eq_false hb
        have hv := Lib.hid (A6 a b rfl q2 q5 h7 hft.out rfl rfl (fun h => hb h.1))
        rw [hv.out]
        clear hv A1 A2 A3 A4 A5 A6
        go_enter Try.func8, Try.ntmps8
        go_wp2_with fail
        rw [← hw0]
        clear hw0
        refine HU.out.mono ?_
        rintro r w1 ⟨rfl, b1⟩
        have HB1 := Lib.hid (HB.out.trans (b1.mono HB.out.size))
        have HK1 := Lib.hid (HK.out.below b1)
        obtain ⟨e0, e1, e2, e3⟩ := HK1.out.keep
        have f0 := HK1.out.r.frozen 0
        have f1 := HK1.out.r.frozen 1
        clear b1 HU HB HK
        go_wp2_with (first
          | (go_at_call 23; (first | (with_reducible refine (HC1.out _).mono ?_) | (with_reducible refine (HC2.out _).mono ?_) | (with_reducible refine (HC3.out _).mono ?_) | (with_reducible refine (HC4.out _).mono ?_) | (with_reducible refine (HC5.out _).mono ?_)); rintro r w9 ⟨rfl, rfl⟩)
          | (go_at_call 24; (first | (with_reducible refine (HR1.out _).mono ?_) | (with_reducible refine (HR2.out _).mono ?_)); rintro r w9 ⟨rfl, rfl⟩)
          | (go_at_call 25; (first | (with_reducible refine (HN1.out _).mono ?_) | (with_reducible refine (HN2.out _).mono ?_)); rintro r w9 ⟨rfl, rfl⟩))
        obtain ⟨j0, j1⟩ := HK1.out.puts (.int .i64 a) (.int .i64 b)
        exact bodyPost_ret (v := .tuple #[rngV a b, .int .i64 0]) (by simp [results, Try.results8, go_sem, j0, j1]) rfl ⟨rfl, (HB1.out.setCell (by exact Nat.le_refl _) _).setCell (by exact Nat.le_refl _) _⟩

end Go.Proofs.Ytaolclpjlkdkjaa
