/-
  The laws WebmTells, WebmNumbers and WebmWrites. Condition: what an argument's reading gives.
-/
import Derived.Test.YtcjcbbahhphcdaaDoorUi
import Derived.Test.YtcjcbbahhphcdaaDoorUd
import Derived.Test.YtcjcbbahhphcdaaDoorUf
import Derived.Test.YtcjcbbahhphcdaaDoorUg
import Derived.Test.YtcjcbbahhphcdaaDoorCut
import Derived.Test.YtcjcbbahhphcdaaDoorCls
namespace Go.Proofs.YtcjcbbahhphcdaaDoor
open Go.RowKit

abbrev filmS : ByteArray := ⟨#[26, 69, 223, 163, 66, 130, 132, 119, 101, 98, 109, 46]⟩
abbrev oneS : ByteArray := ⟨#[129]⟩
theorem lives17_any (w : World) :
    Calls Tryd.prog 12 #[] w fun e w' => e = .returned (.bool true) ∧ w = w' := by
  have HN := Lib.hid (fun W => number_one oneS W (by kernel_rfl) (by decide))
  rw [show (numG oneS) = (1, 1) from by kernel_rfl] at HN
  have HI := Lib.hid (fun W => wis_any filmS W (by decide))
  rw [show filW filmS = true from by kernel_rfl] at HI
  go_enter Tryd.func12, Tryd.ntmps12
  go_wp2_with (first
    | (go_at_call 13; (with_reducible refine (HN.out _).mono ?_); rintro e w1 ⟨rfl, rfl⟩)
    | (go_at_call 7; (with_reducible refine (HI.out _).mono ?_); rintro e w1 ⟨rfl, rfl⟩))
  go_ret
  exact ⟨rfl, rfl⟩

theorem mark_doc (u : ByteArray) : begS u mrkS = (decide (4 ≤ u.size) && (u.extract 0 4).toList == [26, 69, 223, 163]) := by
  unfold begS
  rw [show mrkS.toList = [26, 69, 223, 163] from by kernel_rfl]
  rfl

set_option maxHeartbeats 1000000 in
theorem webmTells_any (s t : ByteArray) (w : World) (hs : s.size ≤ 9223372036854775807) (ht : t.size ≤ 9223372036854775807) :
    Calls Tryd.prog 3 #[.string s, .string t] w fun e w' => e = .returned (.bool true) ∧ Below w.heap.size w w' := by
  have HCS : Hid (∀ W, Calls Tryd.prog 6 #[.string s, .int .i64 120] W fun e w' => e = .returned (.string (cutB s 120)) ∧ W = w') := Lib.hid fun W => cut_any s 120 W hs
  have HCT : Hid (∀ W, Calls Tryd.prog 6 #[.string t, .int .i64 8] W fun e w' => e = .returned (.string (cutB t 8)) ∧ W = w') := Lib.hid fun W => cut_any t 8 W ht
  have hu := cutB_size s 120
  have hv := cutB_size t 8
  generalize cutB s 120 = u at *
  generalize cutB t 8 = v at *
  have HIS := Lib.hid (fun W => wis_any u W (by omega))
  have HRI := Lib.hid (fun W => ris_any u W (by omega))
  have HMK := Lib.hid (fun W => mark_any u W)
  have HPD := Lib.hid (fun W => padded_any u v W (by omega) (by omega))
  have HRP := Lib.hid (fun W => rpadded_any u v W (by omega) (by omega))
  have HLV := Lib.hid lives17_any
  have HD := mark_doc u
  generalize filW u = fi at *
  generalize padB u v = pd at *
  generalize begS u mrkS = mk at *
  by_cases h4 : 4 ≤ u.size
  · cases hc : ((u.extract 0 4).toList == [26, 69, 223, 163])
    all_goals
      have he : Hid (mk = _) := Lib.hid (HD.trans (by rw [hc, decide_eq_true h4, Bool.true_and]))
      rw [he.out] at HMK
      clear HD he
      as_aux_lemma =>
      go_enter Tryd.func3, Tryd.ntmps3
      go_wp2_with (first
        | (go_at_call 6; (first | with_reducible refine (HCS.out _).mono ?_ | with_reducible refine (HCT.out _).mono ?_); rintro e w1 ⟨rfl, rfl⟩)
        | (go_at_call 7; (with_reducible refine (HIS.out _).mono ?_); rintro e w1 ⟨rfl, rfl⟩)
        | (go_at_call 8; (with_reducible refine (HRI.out _).mono ?_); rintro e w1 ⟨rfl, rfl⟩)
        | (go_at_call 9; (with_reducible refine (HMK.out _).mono ?_); rintro e w1 ⟨rfl, rfl⟩)
        | (go_at_call 10; (with_reducible refine (HPD.out _).mono ?_); rintro e w1 ⟨rfl, rfl⟩)
        | (go_at_call 11; (with_reducible refine (HRP.out _).mono ?_); rintro e w1 ⟨rfl, rfl⟩)
        | (go_at_call 12; (with_reducible refine (HLV.out _).mono ?_); rintro e w1 ⟨rfl, rfl⟩))
      go_ret
      exact ⟨by simp, Below.refl _ _⟩
  · have he : Hid (mk = false) := Lib.hid (HD.trans (by rw [decide_eq_false h4, Bool.false_and]))
    rw [he.out] at HMK
    clear HD he
    as_aux_lemma =>
    go_enter Tryd.func3, Tryd.ntmps3
    go_wp2_with (first
      | (go_at_call 6; (first | with_reducible refine (HCS.out _).mono ?_ | with_reducible refine (HCT.out _).mono ?_); rintro e w1 ⟨rfl, rfl⟩)
      | (go_at_call 7; (with_reducible refine (HIS.out _).mono ?_); rintro e w1 ⟨rfl, rfl⟩)
      | (go_at_call 8; (with_reducible refine (HRI.out _).mono ?_); rintro e w1 ⟨rfl, rfl⟩)
      | (go_at_call 9; (with_reducible refine (HMK.out _).mono ?_); rintro e w1 ⟨rfl, rfl⟩)
      | (go_at_call 10; (with_reducible refine (HPD.out _).mono ?_); rintro e w1 ⟨rfl, rfl⟩)
      | (go_at_call 11; (with_reducible refine (HRP.out _).mono ?_); rintro e w1 ⟨rfl, rfl⟩)
      | (go_at_call 12; (with_reducible refine (HLV.out _).mono ?_); rintro e w1 ⟨rfl, rfl⟩))
    go_ret
    exact ⟨by simp, Below.refl _ _⟩

theorem numG_pos {s : ByteArray} (h : numO s = true) : 1 ≤ (numG s).2 := by
  rw [numG_yes h]
  exact widB_pos _

set_option maxHeartbeats 1000000 in
theorem webmNumbers_any (s : ByteArray) (b : UInt8) (w : World) (hs : s.size ≤ 9223372036854775807) :
    Calls Tryd.prog 4 #[.string s, .int .u8 (b.toNat : Int)] w fun e w' => e = .returned (.bool true) ∧ Below w.heap.size w w' := by
  have HCS : Hid (∀ W, Calls Tryd.prog 6 #[.string s, .int .i64 20] W fun e w' => e = .returned (.string (cutB s 20)) ∧ W = w') := Lib.hid fun W => cut_any s 20 W hs
  have hu := cutB_size s 20
  generalize cutB s 20 = u at *
  have HWD := Lib.hid (fun W => width_any b W)
  have HRW := Lib.hid (fun W => rwidth_any b W)
  have HLV := Lib.hid lives17_any
  generalize widB b = wd at *
  cases ho : numO u
  · have HN := Lib.hid (fun W => number_none u W ho (by omega))
    have HR := Lib.hid (fun W => rnumber_none u W ho (by omega))
    clear ho
    go_enter Tryd.func4, Tryd.ntmps4
    go_wp2_with (first
      | (go_at_call 6; (with_reducible refine (HCS.out _).mono ?_); rintro e w1 ⟨rfl, rfl⟩)
      | (go_at_call 13; (with_reducible refine (HN.out _).mono ?_); rintro e w1 ⟨rfl, rfl⟩)
      | (go_at_call 14; (with_reducible refine (HR.out _).mono ?_); rintro e w1 ⟨rfl, rfl⟩)
      | (go_at_call 15; (with_reducible refine (HWD.out _).mono ?_); rintro e w1 ⟨rfl, rfl⟩)
      | (go_at_call 16; (with_reducible refine (HRW.out _).mono ?_); rintro e w1 ⟨rfl, rfl⟩)
      | (go_at_call 12; (with_reducible refine (HLV.out _).mono ?_); rintro e w1 ⟨rfl, rfl⟩))
    go_ret
    exact ⟨by simp, Below.refl _ _⟩
  · have HN := Lib.hid (fun W => number_one u W ho (by omega))
    have HR := Lib.hid (fun W => rnumber_one u W ho (by omega))
    have hp := numG_pos ho
    clear ho
    generalize (numG u).1 = n at *
    generalize (numG u).2 = k at *
    go_enter Tryd.func4, Tryd.ntmps4
    go_wp2_with (first
      | (go_at_call 6; (with_reducible refine (HCS.out _).mono ?_); rintro e w1 ⟨rfl, rfl⟩)
      | (go_at_call 13; (with_reducible refine (HN.out _).mono ?_); rintro e w1 ⟨rfl, rfl⟩)
      | (go_at_call 14; (with_reducible refine (HR.out _).mono ?_); rintro e w1 ⟨rfl, rfl⟩)
      | (go_at_call 15; (with_reducible refine (HWD.out _).mono ?_); rintro e w1 ⟨rfl, rfl⟩)
      | (go_at_call 16; (with_reducible refine (HRW.out _).mono ?_); rintro e w1 ⟨rfl, rfl⟩)
      | (go_at_call 12; (with_reducible refine (HLV.out _).mono ?_); rintro e w1 ⟨rfl, rfl⟩))
    go_ret
    exact ⟨by simp; try omega, Below.refl _ _⟩

set_option maxHeartbeats 1000000 in
set_option maxRecDepth 100000 in
theorem webmWrites_any (n : Nat) (z : Int) (t : ByteArray) (w : World) (hn : n < 18446744073709551616) (ht : t.size ≤ 9223372036854775807) :
    Calls Tryd.prog 5 #[.int .u64 (n : Int), .int .i64 z, .string t] w fun e w' => e = .returned (.bool true) ∧ Below w.heap.size w w' := by
  have HF := Lib.hid (fun W => rfits_any n z W hn)
  have HLV := Lib.hid lives17_any
  cases hf : fitB n z.toNat
  · have HW := Lib.hid (fun W => write_no n z W hf)
    rw [hf] at HF
    clear hf hn
    go_enter Tryd.func5, Tryd.ntmps5
    go_wp2_with (first
      | (go_at_call 17; (with_reducible refine (HW.out _).mono ?_); rintro e w1 ⟨rfl, rfl⟩)
      | (go_at_call 18; (with_reducible refine (HF.out _).mono ?_); rintro e w1 ⟨rfl, rfl⟩)
      | (go_at_call 12; (with_reducible refine (HLV.out _).mono ?_); rintro e w1 ⟨rfl, rfl⟩))
    go_ret
    exact ⟨rfl, Below.refl _ _⟩
  · obtain ⟨h0, h9, hp⟩ := fitB_all hf
    obtain ⟨k, rfl⟩ : ∃ k : Nat, z = k := ⟨z.toNat, by omega⟩
    rw [Int.toNat_natCast] at hf HF h0 h9 hp
    have HW := Lib.hid (fun W => write_yes n k W h0 h9 hp)
    rw [hf] at HF
    have HCS : Hid (∀ W, Calls Tryd.prog 6 #[.string t, .int .i64 10] W fun e w' => e = .returned (.string (cutB t 10)) ∧ W = w') := Lib.hid fun W => cut_any t 10 W ht
    have hu := cutB_size t 10
    generalize cutB t 10 = u at *
    have hz := wriS_size (n + 2 ^ (7 * k)) k
    have HN := num_written (t := u) h0 h9 hz (high_all (room_k h9 hp h0)) hp
    generalize wriS (n + 2 ^ (7 * k)) k = x at *
    have HNB := Lib.hid (fun W => number_one (x ++ u) W HN.1 (by rw [ByteArray.size_append]; omega))
    rw [HN.2] at HNB
    clear HN hp hf ht
    have hzk : x.size = k := hz
    have hsum : ¬ 9223372036854775807 < x.size + u.size := by omega
    go_enter Tryd.func5, Tryd.ntmps5
    go_wp2_with (first
      | (go_at_call 17; (with_reducible refine (HW.out _).mono ?_); rintro e w1 ⟨rfl, hb⟩; have HB := Lib.hid hb; clear hb)
      | (go_at_call 18; (with_reducible refine (HF.out _).mono ?_); rintro e w1 ⟨rfl, rfl⟩)
      | (go_at_call 6; (with_reducible refine (HCS.out _).mono ?_); rintro e w1 ⟨rfl, rfl⟩)
      | (go_at_call 13; (with_reducible refine (HNB.out _).mono ?_); rintro e w1 ⟨rfl, rfl⟩)
      | (go_at_call 12; (with_reducible refine (HLV.out _).mono ?_); rintro e w1 ⟨rfl, rfl⟩))
    go_ret
    exact ⟨by simp, HB.out⟩

end Go.Proofs.YtcjcbbahhphcdaaDoor
