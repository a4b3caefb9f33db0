/-
  The laws Mp4Tells and Mp4Grows. Condition: what an argument's reading gives.
-/
import Derived.Test.YtbibcpbldnedhaaYj
import Derived.Outline
namespace Go.Proofs.Ytbibcpbldnedhaa
open Go.RowKit

set_option maxHeartbeats 2000000 in
set_option maxRecDepth 100000 in
theorem mp4Tells_any (s : ByteArray) (w : World) (hs : s.size ≤ 9223372036854775807) :
    Calls Try.prog 3 #[.string s] w fun e w' => e = .returned (.bool true) ∧ Below w.heap.size w w' := by
  have HCS : Hid (∀ W, Calls Try.prog 6 #[.string s, .int .i64 300] W fun e w' => e = .returned (.string (cutB s 300)) ∧ W = w') := Lib.hid fun W => cut_any s 300 W hs
  have hu := cutB_size s 300
  generalize cutB s 300 = u at *
  have HSZ := Lib.hid (fun W => mp4Size_any u W (by omega))
  have HRS := Lib.hid (fun W => rsize16_any u W (by omega))
  have HHD := Lib.hid (fun W => mp4Head_any u W (by omega))
  have HRH := Lib.hid (fun W => rhead16_any u W (by omega))
  have HIS := Lib.hid (fun W => mp4Is_any u W (by omega))
  have HRI := Lib.hid (fun W => ris16_any u W (by omega))
  have HBR := Lib.hid (fun W => mp4Brands_any u W (by omega))
  have HRB := Lib.hid (fun W => rbrands16_any u W (by omega))
  have HSA := Lib.hid (fun W A B c d (h : TxIn W A (namL u (namN u))) (h' : TxIn W B (namL u (namN u))) => rsame4_any A B c d (namL u (namN u)) W h h' (by have := namL_len u (namN u); have := namN_le u; omega))
  have HLV := Lib.hid lives16_any
  have HB := Lib.hid (Below.refl w.heap.size w)
  have hn := fourB_lt u 0
  have key : ∃ (n : Nat) (z : Int) (d : Bool), sizN u = n ∧ sizI u = z ∧ decide (4 ≤ u.size) = d ∧ ((d = true ∧ z = (n : Int) ∧ n < 4294967296) ∨ (d = false ∧ z = -1 ∧ n = 0)) := by
    refine ⟨_, _, _, rfl, rfl, rfl, ?_⟩
    unfold sizN sizI
    by_cases h : 4 ≤ u.size
    · exact .inl ⟨decide_eq_true h, by rw [if_pos h, if_pos h], by rw [if_pos h]; exact hn⟩
    · exact .inr ⟨decide_eq_false h, if_neg h, if_neg h⟩
  obtain ⟨n, z, d, e1, e2, e3, hk⟩ := key
  rw [e1, e3] at HSZ
  rw [e2] at HRS
  clear e1 e2 e3 hn hu hs
  generalize filmH u = fh at *
  generalize filmB u = fb at *
  generalize namL u (namN u) = xs at *
  rcases hk with ⟨rfl, rfl, hk⟩ | ⟨rfl, rfl, rfl⟩
  all_goals
    as_aux_lemma =>
    go_enter Try.func3, Try.ntmps3
    go_wp2_with (first
      | (go_at_call 6; (with_reducible refine (HCS.out _).mono ?_); rintro e w1 ⟨rfl, rfl⟩)
      | (go_at_call 7; (with_reducible refine (HSZ.out _).mono ?_); rintro e w1 ⟨rfl, b1⟩; have HB := Lib.hid (HB.out.trans (b1.mono HB.out.size)); clear b1)
      | (go_at_call 8; (with_reducible refine (HRS.out _).mono ?_); rintro e w1 ⟨rfl, m, rfl⟩; have HB := Lib.hid (Below.drewN' HB.out m))
      | (go_at_call 9; (with_reducible refine (HHD.out _).mono ?_); rintro e w1 ⟨rfl, b1⟩; have HB := Lib.hid (HB.out.trans (b1.mono HB.out.size)); clear b1)
      | (go_at_call 10; (with_reducible refine (HRH.out _).mono ?_); rintro e w1 ⟨rfl, m, rfl⟩; have HB := Lib.hid (Below.drewN' HB.out m))
      | (go_at_call 11; (with_reducible refine (HIS.out _).mono ?_); rintro e w1 ⟨rfl, b1⟩; have HB := Lib.hid (HB.out.trans (b1.mono HB.out.size)); clear b1)
      | (go_at_call 12; (with_reducible refine (HRI.out _).mono ?_); rintro e w1 ⟨rfl, b1⟩; have HB := Lib.hid (HB.out.trans (b1.mono HB.out.size)); clear b1)
      | (go_at_call 14; (with_reducible refine (HBR.out _).mono ?_); rintro e w1 ⟨v, rfl, ho, b1⟩; have HB := Lib.hid (HB.out.trans (b1.mono HB.out.size)); obtain ⟨A, c, rfl, hx, _⟩ := TxIn.of_own ho; have HX := Lib.hid hx; clear b1 ho hx)
      | (go_at_call 15; (with_reducible refine (HRB.out _).mono ?_); rintro e w1 ⟨v, rfl, ho, b1⟩; have HB := Lib.hid (HB.out.trans (b1.mono HB.out.size)); obtain ⟨A2, c2, rfl, hx, _⟩ := TxIn.of_own ho; have HX1 := Lib.hid (HX.out.below b1); have HX2 := Lib.hid hx; clear b1 ho hx)
      | (go_at_call 13; refine (HSA.out _ _ _ _ _ HX1.out HX2.out).mono ?_; rintro e w1 ⟨rfl, b1⟩; have HB := Lib.hid (HB.out.trans (b1.mono HB.out.size)); clear b1)
      | (go_at_call 16; (with_reducible refine (HLV.out _).mono ?_); rintro e w1 ⟨rfl, b1⟩; have HB := Lib.hid (HB.out.trans (b1.mono HB.out.size)); clear b1))
    go_ret
    exact ⟨by simp, HB.out⟩

set_option maxHeartbeats 2000000 in
set_option maxRecDepth 100000 in
theorem mp4Grows_any (s t : ByteArray) (w : World) (hs : s.size ≤ 9223372036854775807) (ht : t.size ≤ 9223372036854775807) :
    Calls Try.prog 4 #[.string s, .string t] w fun e w' => e = .returned (.bool true) ∧ Below w.heap.size w w' := by
  have HCS : Hid (∀ W, Calls Try.prog 6 #[.string s, .int .i64 200] W fun e w' => e = .returned (.string (cutB s 200)) ∧ W = w') := Lib.hid fun W => cut_any s 200 W hs
  have HCT : Hid (∀ W, Calls Try.prog 6 #[.string t, .int .i64 100] W fun e w' => e = .returned (.string (cutB t 100)) ∧ W = w') := Lib.hid fun W => cut_any t 100 W ht
  have hu := cutB_size s 200
  have hv := cutB_size t 100
  generalize cutB s 200 = u at *
  generalize cutB t 100 = v at *
  have HLV := Lib.hid lives16_any
  have HIS := Lib.hid (fun W => mp4Is_any u W (by omega))
  have HB := Lib.hid (Below.refl w.heap.size w)
  clear hs ht
  cases hf : filmB u
  · rw [hf] at HIS
    go_enter Try.func4, Try.ntmps4
    go_wp2_with (first
      | (go_at_call 6; (first | with_reducible refine (HCS.out _).mono ?_ | with_reducible refine (HCT.out _).mono ?_); rintro e w1 ⟨rfl, rfl⟩)
      | (go_at_call 11; (with_reducible refine (HIS.out _).mono ?_); rintro e w1 ⟨rfl, b1⟩; have HB := Lib.hid (HB.out.trans (b1.mono HB.out.size)); clear b1)
      | (go_at_call 16; (with_reducible refine (HLV.out _).mono ?_); rintro e w1 ⟨rfl, b1⟩; have HB := Lib.hid (HB.out.trans (b1.mono HB.out.size)); clear b1))
    go_ret
    exact ⟨rfl, HB.out⟩
  · rw [hf] at HIS
    have HIA := Lib.hid (fun W => mp4Is_any (u ++ v) W (by rw [ByteArray.size_append]; omega))
    rw [filmB_app v hf] at HIA
    have HBR := Lib.hid (fun W => mp4Brands_any u W (by omega))
    have hnn := namN_le u
    have HF := Lib.hid (show filmA u (namN u) = true from hf)
    have HL := Lib.hid (namL_len u (namN u))
    have HA := Lib.hid (fun i h => namL_at u (namN u) i h)
    have hsum : ¬ 9223372036854775807 < u.size + v.size := by omega
    clear hf
    go_enter Try.func4, Try.ntmps4
    go_wp2_with (first
      | (go_at_call 6; (first | with_reducible refine (HCS.out _).mono ?_ | with_reducible refine (HCT.out _).mono ?_); rintro e w1 ⟨rfl, rfl⟩)
      | (go_at_call 11; (with_reducible refine (HIS.out _).mono ?_); rintro e w1 ⟨rfl, b1⟩; have HB := Lib.hid (HB.out.trans (b1.mono HB.out.size)); clear b1))
    refine (HBR.out _).mono ?_
    rintro e w2 ⟨v2, rfl, ho, b1⟩
    have HB2 := Lib.hid (HB.out.trans (b1.mono HB.out.size))
    obtain ⟨A, c, rfl, hx, _⟩ := TxIn.of_own ho
    have HX := Lib.hid hx
    rw [HL.out]
    clear b1 ho hx HB HBR
    go_wp2
    go_loopw [7, 6] (fun i d wr => ∃ k : Nat, k ≤ namN u ∧ i = .int .i64 (k : Nat) ∧ d = .bool (filmA u k) ∧ wr = w2) (fun i _ _ => namN u - (intOf i).toNat)
    case atStart => exact ⟨0, Nat.zero_le _, rfl, rfl, rfl⟩
    case round =>
      obtain ⟨k, hk, rfl, rfl, rfl⟩ := hrel
      by_cases hlt : k < namN u
      · obtain ⟨g, rfl, hg, hc⟩ := HX.out k (by rw [HL.out]; exact hlt)
        rw [HA.out] at hc
        have hz := namT_size hlt
        have HS := Lib.hid (show filmA u (k + 1) = (filmA u k || mp4B (namT u k)) from rfl)
        have HM : Hid (mp4B (namT u k) = ((namT u k).extract 0 3).toList.beq [109, 112, 52]) := by unfold mp4B; rw [mp4S_list]; exact rfl
        generalize namT u k = x at *
        generalize filmA u k = d at *
        have hz' : ((x.size : Int) == 4) = true := by rw [hz]; rfl
        cases d
        · cases hb : ((x.extract 0 3).toList == [109, 112, 52])
          all_goals
            have HM2 := Lib.hid (HS.out.trans (by rw [HM.out, show (x.extract 0 3).toList.beq [109, 112, 52] = _ from hb] : _ = (false || _)))
            clear HM HS
            go_wp2
            go_roundw
            case rel => exact ⟨k + 1, by omega, by go_num, by rw [HM2.out]; rfl, trivial⟩
            case measure => simp [intOf]; omega
        · have HM2 := Lib.hid (HS.out.trans (Bool.true_or _))
          clear HM HS
          go_wp2
          go_roundw
          case rel => exact ⟨k + 1, by omega, by go_num, by rw [HM2.out], trivial⟩
          case measure => simp [intOf]; omega
      · obtain rfl : k = namN u := by omega
        rw [HF.out]
        go_wp2_with (first
          | (go_at_call 11; (with_reducible refine (HIA.out _).mono ?_); rintro e w1 ⟨rfl, b1⟩; have HB2 := Lib.hid (HB2.out.trans (b1.mono HB2.out.size)); clear b1)
          | (go_at_call 16; (with_reducible refine (HLV.out _).mono ?_); rintro e w1 ⟨rfl, b1⟩; have HB2 := Lib.hid (HB2.out.trans (b1.mono HB2.out.size)); clear b1))
        go_ret
        exact ⟨rfl, HB2.out⟩

end Go.Proofs.Ytbibcpbldnedhaa
