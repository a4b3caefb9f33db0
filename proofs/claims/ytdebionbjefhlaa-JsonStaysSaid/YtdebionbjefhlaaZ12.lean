/-
  What Cut answers: the first n bytes. Condition: the text is no longer than a length can be.
  What Few of layer 10's statements answers. Condition: the texts are as long as a length can be; what an argument's reading gives.
  The laws JsonWhole, JsonStays and JsonNone of layer 27 return true of every input. Condition: the texts are as long as a length can be.
-/
import Derived.Test.YtdebionbjefhlaaRows
import Derived.WalkKit
import Derived.WalkSpells
import Derived.WalkLawsBesides
import Derived.Test.YtdebionbjefhlaaZ5
import Derived.Deep.AppendLies
import Derived.Deep.RegionHeld3
import Derived.Deep.RegionWith
import Derived.Deep.DeepCutAuto
import Derived.Test.YtdebionbjefhlaaZ8
import Derived.Test.YtdebionbjefhlaaZ11
namespace Go.Proofs.Ytdebionbjefhlaa
open Go.RowKit

/-- The first n bytes. -/
def cutB (s : ByteArray) (n : Nat) : ByteArray := if n < s.size then s.extract 0 n else s
theorem cutB_size (s : ByteArray) (n : Nat) : (cutB s n).size ≤ n := by
  unfold cutB
  split
  · simp; omega
  · omega

set_option maxHeartbeats 400000 in
theorem cut_any (s : ByteArray) (n : Nat) (w : World) (_hs : s.size ≤ 9223372036854775807) :
    Calls Try.prog 7 #[.string s, .int .i64 n] w fun e w' => e = .returned (.string (cutB s n)) ∧ w = w' := by
  by_cases h : n < s.size
  · have hx : cutB s n = s.extract 0 n := by simp [cutB, h]
    have h1 : decide ((n : Int) < (s.size : Int)) = true := by simpa using h
    have h2 : decide (n < s.size) = true := by simpa using h
    rw [hx]
    clear hx
    go_enter Try.func7, Try.ntmps7
    go_wp2
    go_ret
    exact ⟨rfl, rfl⟩
  · have hx : cutB s n = s := by simp [cutB, h]
    have h1 : decide ((n : Int) < (s.size : Int)) = false := by simp; omega
    have h2 : decide (n < s.size) = false := by simpa using h
    rw [hx]
    clear hx
    go_enter Try.func7, Try.ntmps7
    go_wp2
    go_ret
    exact ⟨rfl, rfl⟩

end Go.Proofs.Ytdebionbjefhlaa
namespace Go.Proofs.Ytdebionbjefhlaa
open Go.RowKit

theorem cutB_id {s : ByteArray} {n : Nat} (h : s.size ≤ n) : cutB s n = s := by unfold cutB; rw [if_neg (by omega)]
end Go.Proofs.Ytdebionbjefhlaa
namespace Go.Proofs.Ytdebionbjefhlaa
open Go.RowKit

set_option maxHeartbeats 4000000 in
set_option maxRecDepth 10000 in
theorem jsonWhole_any (s : ByteArray) (n : Nat) (w : World) (hs : s.size ≤ 9223372036854775807) (hn : n ≤ 255) :
    Calls Try.prog 3 #[.string s, .int .u8 (n : Nat)] w fun e w' => e = .returned (.bool true) ∧ Below w.heap.size w w' := by
  have HC0 := Lib.hid (fun W => cut_any s 400 W hs)
  have hu := cutB_size s 400
  generalize cutB s 400 = u at *
  have HC : Hid (∀ W, Calls Try.prog 7 #[.string s, .int .i64 400] W fun e w' => e = .returned (.string u) ∧ W = w') := HC0
  have HW := Lib.hid (fun W => jwhole_any u n W (by omega))
  have HR2 : Hid (∀ W, Calls Try.prog 9 #[.string u, .int .i64 200] W fun e w' => e = .returned (.tuple #[.int .i64 (whoJ 200 u).1, .int .i64 (whoJ 200 u).2]) ∧ Below W.heap.size W w') := Lib.hid (fun W => whole27_any u 200 W (by omega) (by omega))
  have HV := Lib.hid (fun W => jvalid_any u W (by omega))
  have HL := Lib.hid jlives_any
  clear HC0
  by_cases h2 : 200 < n
  · have t2 : decide ((200 : Int) < (n : Int)) = true := by rw [decide_eq_true_iff]; omega
    rw [show min n 200 = 200 from by omega] at HW
    have HR := HR2
    generalize (whoJ 200 u).1 = a at *
    generalize (whoJ 200 u).2 = b at *
    go_enter Try.func3, Try.ntmps3
    go_wp2_with (first
      | (go_at_call 7; (with_reducible refine (HC.out _).mono ?_); rintro e w1 ⟨rfl, rfl⟩)
      | (go_at_call 8; (with_reducible refine (HW.out _).mono ?_); rintro e w2 ⟨rfl, hb⟩; have HB2 := Lib.hid hb; clear hb)
      | (go_at_call 9; (with_reducible refine (HR.out _).mono ?_); rintro e w3 ⟨rfl, hb⟩; first | (have HB4 := Lib.hid (below_on HB3.out hb); clear hb) | (have HB3 := Lib.hid (below_on HB2.out hb); clear hb))
      | (go_at_call 9; (with_reducible refine (HR2.out _).mono ?_); rintro e w4 ⟨rfl, hb⟩; have HB4 := Lib.hid (below_on HB3.out hb); clear hb)
      | (go_at_call 10; (with_reducible refine (HV.out _).mono ?_); rintro e w5 ⟨rfl, hb⟩; have HB5 := Lib.hid (below_on HB4.out hb); clear hb)
      | (go_at_call 11; (with_reducible refine (HL.out _).mono ?_); rintro e w6 ⟨rfl, hb⟩; have HB6 := Lib.hid (below_on HB5.out hb); clear hb))
    go_ret
    exact ⟨rfl, HB6.out⟩
  · have t2 : decide ((200 : Int) < (n : Int)) = false := by rw [decide_eq_false_iff_not]; omega
    have HR := Lib.hid (fun W => whole27_any u n W (by omega) (by omega))
    rw [show min n 200 = n from by omega] at HW
    generalize (whoJ n u).1 = a at *
    generalize (whoJ n u).2 = b at *
    generalize (whoJ 200 u).1 = x at *
    generalize (whoJ 200 u).2 = y at *
    go_enter Try.func3, Try.ntmps3
    go_wp2_with (first
      | (go_at_call 7; (with_reducible refine (HC.out _).mono ?_); rintro e w1 ⟨rfl, rfl⟩)
      | (go_at_call 8; (with_reducible refine (HW.out _).mono ?_); rintro e w2 ⟨rfl, hb⟩; have HB2 := Lib.hid hb; clear hb)
      | (go_at_call 9; (with_reducible refine (HR.out _).mono ?_); rintro e w3 ⟨rfl, hb⟩; have HB3 := Lib.hid (below_on HB2.out hb); clear hb)
      | (go_at_call 9; (with_reducible refine (HR2.out _).mono ?_); rintro e w4 ⟨rfl, hb⟩; have HB4 := Lib.hid (below_on HB3.out hb); clear hb)
      | (go_at_call 10; (with_reducible refine (HV.out _).mono ?_); rintro e w5 ⟨rfl, hb⟩; have HB5 := Lib.hid (below_on HB4.out hb); clear hb)
      | (go_at_call 11; (with_reducible refine (HL.out _).mono ?_); rintro e w6 ⟨rfl, hb⟩; have HB6 := Lib.hid (below_on HB5.out hb); clear hb))
    go_ret
    exact ⟨rfl, HB6.out⟩

set_option maxHeartbeats 4000000 in
set_option maxRecDepth 10000 in
theorem jsonStays_any (s t : ByteArray) (n : Nat) (w : World) (hs : s.size ≤ 9223372036854775807) (ht : t.size ≤ 9223372036854775807) (hn : n ≤ 255) :
    Calls Try.prog 5 #[.string s, .string t, .int .u8 (n : Nat)] w fun e w' => e = .returned (.bool true) ∧ Below w.heap.size w w' := by
  have HC0 := Lib.hid (fun W => cut_any s 200 W hs)
  have HD0 := Lib.hid (fun W => cut_any t 100 W ht)
  have hu := cutB_size s 200
  have hv := cutB_size t 100
  generalize cutB s 200 = u at *
  generalize cutB t 100 = v at *
  have HC : Hid (∀ W, Calls Try.prog 7 #[.string s, .int .i64 200] W fun e w' => e = .returned (.string u) ∧ W = w') := HC0
  have HD : Hid (∀ W, Calls Try.prog 7 #[.string t, .int .i64 100] W fun e w' => e = .returned (.string v) ∧ W = w') := HD0
  obtain ⟨m, hm⟩ : ∃ m, m = n % 20 := ⟨_, rfl⟩
  have gm : ((n : Nat) : Int) % 20 = (m : Int) := by omega
  have hm20 : m < 20 := by omega
  have HW := Lib.hid (fun W => jwhole_any u m W (by omega))
  have hz : (u ++ v).size ≤ 4611686018427387904 := by rw [ByteArray.size_append]; omega
  have HX := Lib.hid (fun W => jwhole_any (u ++ v) m W hz)
  rw [show min m 200 = m from by omega] at HW HX
  have HL := Lib.hid jlives_any
  clear HC0 HD0 hm hz hm20
  have hbad := who_stays (D := m) (s := u) (m := v)
  have hgood := who_open (D := m) (s := u) (m := v)
  generalize (whoJ m (u ++ v)) = p2 at *
  generalize (whoJ m u) = p1 at *
  obtain ⟨a, at_⟩ := p1
  obtain ⟨b, place⟩ := p2
  dsimp only at HW HX hbad hgood
  by_cases hst : a = 0 ∨ a = 3
  · obtain ⟨h1, h2, h3⟩ := hbad hst
    injection h1 with h4 h5
    subst h4 h5
    clear hbad hgood
    have t1 : decide ((0 : Int) ≤ place) = true := decide_eq_true h2
    have t2 : decide (place < (u.size : Int)) = true := decide_eq_true h3
    have hc : (b == 0) = true ∨ ((b == 0) = false ∧ (b == 3) = true) := by
      rcases hst with rfl | rfl
      · exact Or.inl rfl
      · exact Or.inr ⟨rfl, rfl⟩
    clear h2 h3 hst
    rcases hc with c1 | ⟨c1, c2⟩
    all_goals
      go_enter Try.func5, Try.ntmps5
      go_wp2_with (first
        | (go_at_call 7; (with_reducible refine (HC.out _).mono ?_); rintro e w1 ⟨rfl, rfl⟩)
        | (go_at_call 7; (with_reducible refine (HD.out _).mono ?_); rintro e w1 ⟨rfl, rfl⟩)
        | (go_at_call 8; (with_reducible refine (HW.out _).mono ?_); rintro e w2 ⟨rfl, hb⟩; have HB2 := Lib.hid hb; clear hb)
        | (go_at_call 8; (with_reducible refine (HX.out _).mono ?_); rintro e w3 ⟨rfl, hb⟩; have HB3 := Lib.hid (below_on HB2.out hb); clear hb)
        | (go_at_call 11; (with_reducible refine (HL.out _).mono ?_); rintro e w6 ⟨rfl, hb⟩; have HB6 := Lib.hid (below_on HB3.out hb); clear hb))
      go_ret
      exact ⟨rfl, HB6.out⟩
  · have c1 : (a == 0) = false := by rw [beq_eq_false_iff_ne]; exact fun h => hst (Or.inl h)
    have c2 : (a == 3) = false := by rw [beq_eq_false_iff_ne]; exact fun h => hst (Or.inr h)
    obtain ⟨h1, h2⟩ := hgood (fun h => hst (Or.inl h)) (fun h => hst (Or.inr h))
    have h1' : at_ = -1 := h1
    subst h1'
    have hc : (place == -1) = true ∨ ((place == -1) = false ∧ decide ((u.size : Int) ≤ place) = true) := by
      cases h : (place == -1)
      · rw [beq_eq_false_iff_ne] at h
        rcases h2 with h2 | h2
        · exact absurd h2 h
        · exact Or.inr ⟨rfl, decide_eq_true h2⟩
      · exact Or.inl rfl
    clear hbad hgood hst h1 h2
    rcases hc with c3 | ⟨c3, c4⟩
    all_goals
      go_enter Try.func5, Try.ntmps5
      go_wp2_with (first
        | (go_at_call 7; (with_reducible refine (HC.out _).mono ?_); rintro e w1 ⟨rfl, rfl⟩)
        | (go_at_call 7; (with_reducible refine (HD.out _).mono ?_); rintro e w1 ⟨rfl, rfl⟩)
        | (go_at_call 8; (with_reducible refine (HW.out _).mono ?_); rintro e w2 ⟨rfl, hb⟩; have HB2 := Lib.hid hb; clear hb)
        | (go_at_call 8; (with_reducible refine (HX.out _).mono ?_); rintro e w3 ⟨rfl, hb⟩; have HB3 := Lib.hid (below_on HB2.out hb); clear hb)
        | (go_at_call 11; (with_reducible refine (HL.out _).mono ?_); rintro e w6 ⟨rfl, hb⟩; have HB6 := Lib.hid (below_on HB3.out hb); clear hb))
      go_ret
      exact ⟨rfl, HB6.out⟩

set_option maxHeartbeats 4000000 in
theorem jsonNone_any (s : ByteArray) (w : World) :
    Calls Try.prog 6 #[.string s] w fun e w' => e = .returned (.bool true) ∧ Below w.heap.size w w' := by
  have HL := Lib.hid jlives_any
  have HF := Lib.hid (fun W => feed_nil s W)
  have HS := Lib.hid state_nil
  have HP := Lib.hid place_nil
  have HB := Lib.hid begun_nil
  have HD := Lib.hid depth_nil
  have HE := Lib.hid seen_nil
  go_enter Try.func6, Try.ntmps6
  go_wp2_with (first
    | (go_at_call 13; (with_reducible refine (HF.out _).mono ?_); rintro e w1 ⟨rfl, rfl⟩)
    | (go_at_call 14; (with_reducible refine (HS.out _).mono ?_); rintro e w1 ⟨rfl, rfl⟩)
    | (go_at_call 15; (with_reducible refine (HP.out _).mono ?_); rintro e w1 ⟨rfl, rfl⟩)
    | (go_at_call 17; (with_reducible refine (HB.out _).mono ?_); rintro e w1 ⟨rfl, rfl⟩)
    | (go_at_call 19; (with_reducible refine (HD.out _).mono ?_); rintro e w1 ⟨rfl, rfl⟩)
    | (go_at_call 16; (with_reducible refine (HE.out _).mono ?_); rintro e w1 ⟨rfl, rfl⟩)
    | (go_at_call 11; (with_reducible refine (HL.out _).mono ?_); rintro e w6 ⟨rfl, hb⟩))
  go_ret
  exact ⟨rfl, hb⟩
end Go.Proofs.Ytdebionbjefhlaa
