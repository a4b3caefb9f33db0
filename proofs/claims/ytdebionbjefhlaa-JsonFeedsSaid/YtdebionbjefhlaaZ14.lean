/-
  An argument that is a slice of texts, written out. No condition.
  The law JsonFeeds of layer 27 returns true of every input. Condition: the texts are as long as a length can be.
-/
import Derived.Test.YtdebionbjefhlaaZ13
import Derived.Deep.Slices
import Derived.Lib.SmallJoins
import Derived.ChangeMaps5
import Derived.OpenShut
import Derived.Test.YtdebionbjefhlaaZ12
namespace Go.Proofs.Ytdebionbjefhlaa
open Go.ChangeShapes Go.WideShapes Go.ChangeAt Go.RowKit Go.Joins Go.Deep

theorem Try.cellsTxt : Try.prog.cellsOf 9 = 1 := by kernel_rfl
theorem open_txt {H : Type} {enc : TypeId × Value → H} {W : World} {base : Nat} {spare : Nat → Bool} {held : Bool} {n : Nat} {v : Value} {y : DataW H × List MemPlace}
    (h : DataW.trod enc Try.prog W base spare held n 9 [v] = some y) : ∃ s : ByteArray, v = .string s ∧ s.size ≤ 9223372036854775807 := by
  obtain ⟨s, e, _, hs⟩ := DataW.trod_string Try.underlying9 h
  unfold maxLen at hs
  exact ⟨s, by simpa using e, hs⟩

set_option maxRecDepth 100000 in
theorem open_txs {H : Type} {enc : TypeId × Value → H} {W : World} {base : Nat} {v : Value} {d : DataW H} {p : List MemPlace}
    (hv : Value.okWide Try.prog W .any base 28 v) (h : DataW.Trod enc Try.prog W 0 (fun _ => true) true 28 v d p) :
    ∃ (A : Option Addr) (n c : Nat) (lp : Nat → ByteArray), v = .slice A n c ∧ n ≤ 9223372036854775807 ∧ TxCame W A n lp := by
  obtain ⟨fuel, hf⟩ := h
  obtain ⟨A, n, c, rfl⟩ := okWide_slice Try.underlying28 hv
  rcases open_slice Try.underlying28 hf with ⟨hc, _⟩ | ⟨a, len, cap, m, nn, D, Pl, hc, _, hl, hm, hmm, _, hi⟩
  · simp [Value.cells] at hc
    obtain ⟨rfl, rfl, rfl⟩ := hc
    exact ⟨none, 0, 0, fun _ => ⟨#[]⟩, rfl, by omega, fun i h => absurd h (by omega)⟩
  · simp [Value.cells] at hc
    obtain ⟨rfl, rfl, rfl⟩ := hc
    simp at hmm
    unfold maxLen at hm
    have key : ∀ i, i < n → ∃ s : ByteArray, a.block < W.heap.size ∧ W.cell? (a.add i) = some (.string s) ∧ s.size ≤ 9223372036854775807 := fun i hin => by
      obtain ⟨cs, hcs, ht⟩ := hi i (by omega)
      rw [Try.cellsTxt] at hcs
      obtain ⟨_, hlen, hat⟩ := World.cells?_some hcs
      match cs, hlen with
      | [v0], _ =>
        obtain ⟨s0, rfl, e0⟩ := open_txt ht
        have c0 : W.cell? (a.add i) = some (.string s0) := by
          have := hat 0 (by omega)
          simpa [Try.cellsTxt, Addr.add] using this
        have hblk := World.block_lt_of_cell? W _ c0
        have he : (a.add i).block = a.block := by unfold Addr.add; split <;> rfl
        rw [he] at hblk
        exact ⟨s0, hblk, c0, e0⟩
    refine ⟨some a, n, c, fun i => if hi : i < n then Classical.choose (key i hi) else ⟨#[]⟩, rfl, by omega, fun i hin => ?_⟩
    simp only [dif_pos hin]
    exact ⟨a, rfl, Classical.choose_spec (key i hin)⟩

end Go.Proofs.Ytdebionbjefhlaa
namespace Go.Proofs.Ytdebionbjefhlaa
open Go.RowKit

/-- What a machine tells. -/
theorem MacB.tells {w : World} {mb D : Nat} {T : ByteArray} (h : MacB w mb D (T.size : Nat) T.data.toList) : ∃ dp : Nat, decide (D < dp) = false ∧
    Hid (Calls Try.prog 14 #[mptr mb] w fun e w' => e = .returned (.int .i64 (whoJ D T).1) ∧ w = w') ∧
    Hid (Calls Try.prog 15 #[mptr mb] w fun e w' => e = .returned (.int .i64 (whoJ D T).2) ∧ w = w') ∧
    Hid (Calls Try.prog 16 #[mptr mb] w fun e w' => e = .returned (.int .i64 (T.size : Nat)) ∧ w = w') ∧
    Hid (Calls Try.prog 17 #[mptr mb] w fun e w' => e = .returned (.bool (bgnB T)) ∧ w = w') ∧
    Hid (Calls Try.prog 19 #[mptr mb] w fun e w' => e = .returned (.int .i64 (dp : Nat)) ∧ w = w') := by
  obtain ⟨pl, sp, tn, lf, rs, dp, E, h1, h2, _, h3, h4, h5⟩ := h.told
  refine ⟨dp, decide_eq_false (by omega), Lib.hid ?_, Lib.hid ?_, Lib.hid (seen_any h1), Lib.hid ?_, Lib.hid (depth_any h1)⟩
  · rw [← h3]; exact jstate_any h1
  · rw [← h4]; exact jplace_any h1
  · unfold bgnB
    rw [← h5]
    exact begun_any h1

set_option maxHeartbeats 4000000 in
set_option maxRecDepth 10000 in
theorem feeds_out (A : Option Addr) (n c : Nat) (d : Int) (w : World) (h : d < 0 ∨ 200 < d) :
    Calls Try.prog 4 #[.slice A n c, .int .i64 d] w fun e w' => e = .returned (.bool true) ∧ Below w.heap.size w w' := by
  have HN := Lib.hid (fun W => new_bad d W h)
  have HL := Lib.hid jlives_any
  have hc : decide (d < 0) = true ∨ (decide (d < 0) = false ∧ decide ((200 : Int) < d) = true) := by
    rw [decide_eq_true_iff, decide_eq_false_iff_not, decide_eq_true_iff]
    omega
  clear h
  rcases hc with c1 | ⟨c1, c2⟩
  all_goals
    go_enter Try.func4, Try.ntmps4
    go_wp2_with (first
      | (go_at_call 12; (with_reducible refine (HN.out _).mono ?_); rintro e w1 ⟨rfl, rfl⟩)
      | (go_at_call 11; (with_reducible refine (HL.out _).mono ?_); rintro e w6 ⟨rfl, hb⟩))
    go_ret
    exact ⟨rfl, hb⟩

set_option maxHeartbeats 8000000 in
set_option maxRecDepth 100000 in
theorem feeds_in (A : Option Addr) (n c : Nat) (lp : Nat → ByteArray) (D : Nat) (w : World) (h : TxCame w A n lp) (hn : n ≤ 9223372036854775807) (hD : D ≤ 200) :
    Calls Try.prog 4 #[.slice A n c, .int .i64 (D : Nat)] w fun e w' => e = .returned (.bool true) ∧ Below w.heap.size w w' := by
  have HN := Lib.hid (new_ok D w hD)
  have HL := Lib.hid jlives_any
  have HC := Lib.hid h
  have c1 : decide (((D : Nat) : Int) < 0) = false := by rw [decide_eq_false_iff_not]; omega
  have c2 : decide ((200 : Int) < ((D : Nat) : Int)) = false := by rw [decide_eq_false_iff_not]; omega
  have HD := Lib.hid hD
  clear h hD
  go_enter Try.func4, Try.ntmps4
  go_wp2_with (go_at_call 12; (with_reducible refine HN.out.mono ?_); rintro e w1 ⟨rfl, hb, hm⟩; have HB1 := Lib.hid hb; have HM1 := Lib.hid hm; clear hb hm)
  go_loopw [7, 8] (fun S i wr => ∃ (k : Nat) (T : ByteArray), k ≤ n ∧ k ≤ 12 ∧ S = .string T ∧ i = .int .i64 k ∧ T.size ≤ 60 * k ∧ Hid (MacB wr w.heap.size D (T.size : Nat) T.data.toList) ∧ Hid (Below w.heap.size w wr)) (fun _ i _ => 12 - (intOf i).toNat)
  case atStart => exact ⟨0, ⟨#[]⟩, Nat.zero_le _, Nat.zero_le _, rfl, rfl, Nat.le_refl _, HM1, HB1⟩
  case round =>
    obtain ⟨k, T, hk, hk12, rfl, rfl, hT, HM, HB⟩ := hrel
    by_cases hlt : k < n ∧ k < 12
    · obtain ⟨h1, h2⟩ := hlt
      obtain ⟨a, rfl, hab, e0, hsz⟩ := HC.out k h1
      have hab' : (a.add k).block < w.heap.size := by
        have : (a.add k).block = a.block := by unfold Addr.add; split <;> rfl
        rw [this]; exact hab
      have c0 := (HB.out.cell hab').trans e0
      have HCT : Hid (∀ W, Calls Try.prog 7 #[.string (lp k), .int .i64 60] W fun e w' => e = .returned (.string (cutB (lp k) 60)) ∧ W = w') := Lib.hid (fun W => cut_any (lp k) 60 W hsz)
      have hx := cutB_size (lp k) 60
      have d1 : decide ((k : Int) < (n : Int)) = true := by simp; omega
      have d2 : decide ((k : Int) < 12) = true := by simp; omega
      generalize cutB (lp k) 60 = x at HCT hx
      generalize lp k = y at *
      obtain ⟨U, hU⟩ : ∃ U, U = T ++ x := ⟨_, rfl⟩
      have hUs : U.size = T.size + x.size := by rw [hU, ByteArray.size_append]
      have hU60 : U.size ≤ 60 * (k + 1) := by omega
      have hTx : T.size + x.size ≤ 9223372036854775807 := by omega
      have HF := Lib.hid (feed_any x HM.out (by omega))
      rw [← hU] at HF
      have gU : T ++ x = U := hU.symm
      have HR := Lib.hid (fun W => whole27_any U D W (by omega) HD.out)
      have HG := Lib.hid (fun W => begun27_any U W (by omega))
      have HK : ∀ w2 w3, Mv wr.heap.size [w.heap.size] wr w2 ∧ MacB w2 w.heap.size D (U.size : Nat) U.data.toList → Below w2.heap.size w2 w3 → Hid (MacB w3 w.heap.size D (U.size : Nat) U.data.toList) ∧ Hid (Below w.heap.size w w3) := fun w2 w3 hm hb =>
        ⟨Lib.hid (hm.2.same (hb.block _ hm.2.block)), Lib.hid (below_on (HB.out.trans (hm.1.below HB.out.size (fun x hx => by rw [List.mem_singleton.1 hx]; exact Nat.le_refl _))) (by exact hb))⟩
      have HK2 := Lib.hid HK
      clear e0 hab hab' hsz HK hU hUs hx hT
      go_wp2_with (first
        | (go_at_call 7; (with_reducible refine (HCT.out _).mono ?_); rintro e wx ⟨rfl, rfl⟩)
        | (go_at_call 13; (with_reducible refine HF.out.mono ?_); rintro e w2 ⟨rfl, hm⟩; have HM2 := Lib.hid hm; clear hm)
        | (go_at_call 9; (with_reducible refine (HR.out _).mono ?_); rintro e w3 ⟨rfl, hb⟩; obtain ⟨HM3, HB3⟩ := HK2.out _ _ HM2.out hb; obtain ⟨dp, hdp, HS, HP, HE, HBG, HDP⟩ := HM3.out.tells; have hd0 : decide (((dp : Nat) : Int) < 0) = false := (by rw [decide_eq_false_iff_not]; omega); clear hb)
        | (go_at_call 14; (with_reducible refine HS.out.mono ?_); rintro e wx ⟨rfl, rfl⟩)
        | (go_at_call 15; (with_reducible refine HP.out.mono ?_); rintro e wx ⟨rfl, rfl⟩)
        | (go_at_call 16; (with_reducible refine HE.out.mono ?_); rintro e wx ⟨rfl, rfl⟩)
        | (go_at_call 17; (with_reducible refine HBG.out.mono ?_); rintro e wx ⟨rfl, rfl⟩)
        | (go_at_call 19; (with_reducible refine HDP.out.mono ?_); rintro e wx ⟨rfl, rfl⟩)
        | (go_at_call 18; (with_reducible refine (HG.out _).mono ?_); rintro e wx ⟨rfl, rfl⟩))
      go_roundw
      case rel => exact ⟨k + 1, U, by omega, by omega, rfl, by go_num, hU60, HM3, HB3⟩
      case measure => simp [intOf]; omega
    · by_cases h1 : k < n
      · have d1 : decide ((k : Int) < (n : Int)) = true := by simp; omega
        have d3 : decide (k < n) = true := by simpa using h1
        obtain rfl : k = 12 := by omega
        clear hlt hk12
        go_wp2_with (go_at_call 11; (with_reducible refine (HL.out _).mono ?_); rintro e w6 ⟨rfl, hb⟩)
        go_ret
        exact ⟨rfl, below_on HB.out hb⟩
      · obtain rfl : k = n := by omega
        clear hlt
        go_wp2_with (go_at_call 11; (with_reducible refine (HL.out _).mono ?_); rintro e w6 ⟨rfl, hb⟩)
        go_ret
        exact ⟨rfl, below_on HB.out hb⟩
theorem jsonFeeds_any (A : Option Addr) (n c : Nat) (lp : Nat → ByteArray) (d : Int) (w : World) (h : TxCame w A n lp) (hn : n ≤ 9223372036854775807) :
    Calls Try.prog 4 #[.slice A n c, .int .i64 d] w fun e w' => e = .returned (.bool true) ∧ Below w.heap.size w w' := by
  by_cases h0 : d < 0 ∨ 200 < d
  · exact feeds_out A n c d w h0
  · obtain ⟨D, rfl⟩ : ∃ D : Nat, d = (D : Nat) := ⟨d.toNat, by omega⟩
    exact feeds_in A n c lp D w h hn (by omega)
end Go.Proofs.Ytdebionbjefhlaa
