/-
  What package jscript's New and Whole, and lives, answer. Conditions: the texts are no longer than a length can be.
  What the document's Keyword of layer 28 answers: whether the text is one of the 39 words (kwdH). No condition.
  What Cut answers: the first n bytes. Condition: the text is no longer than a length can be.
-/
import Derived.Test.YtlaohbdkoieclaaZ9
import Derived.OwnWalk
import Derived.Test.YtlaohbdkoieclaaRows
import Derived.WalkKit
import Derived.WalkSpells
import Derived.WalkLawsBesides
namespace Go.Proofs.Ytlaohbdkoieclaa
open Go.RowKit

set_option maxHeartbeats 1000000 in
theorem hnew_bad (n : Int) (w : World) (h : n < 0 ∨ 200 < n) :
    Calls Try.prog 18 #[.int .i64 n] w fun e w' => e = .returned (.tuple #[.pointer none, .int .i64 1]) ∧ w = w' := by
  have hc : decide (n < 0) = true ∨ (decide (n < 0) = false ∧ decide ((200 : Int) < n) = true) := by
    rw [decide_eq_true_iff, decide_eq_false_iff_not, decide_eq_true_iff]
    omega
  clear h
  rcases hc with h0 | ⟨h0, h1⟩
  all_goals
    go_enter Try.func18, Try.ntmps18
    go_wp2
    go_ret2
    exact ⟨rfl, rfl⟩
def zeroB : List Value := List.replicate 11 (.int .u8 0)
def zeroH : List Value := List.replicate 200 (.int .u8 0)
theorem Try.zeroMaH (w : World) : (zeroValue 38).run Try.prog w = .ok (.agg (maC 0 0 0 0 0 0 0 0 false 0 ⟨#[]⟩ 0 zeroB 0 zeroH)) w := by kernel_rfl
theorem zeroH_ne : (maC 0 0 0 0 0 0 0 0 false 0 ⟨#[]⟩ 0 zeroB 0 zeroH = #[]) = False := by
  rw [eq_iff_iff, iff_false]
  intro h
  have := congrArg Array.size h
  simp [maC] at this
theorem zeroH_set (x : Int) : (maC 0 0 0 0 0 0 0 0 false 0 ⟨#[]⟩ 0 zeroB 0 zeroH).setIfInBounds 0 (.int .i64 x) = maC x 0 0 0 0 0 0 0 false 0 ⟨#[]⟩ 0 zeroB 0 zeroH := by
  unfold maC
  rw [List.setIfInBounds_toArray]
  rfl
set_option maxHeartbeats 1000000 in
theorem hnew_ok (n : Nat) (w : World) (h : n ≤ 200) :
    Calls Try.prog 18 #[.int .i64 (n : Nat)] w fun e w' => e = .returned (.tuple #[mptr w.heap.size, .int .i64 0]) ∧ Below w.heap.size w w' ∧ MacBH w' w.heap.size n 0 [] := by
  have h0 : decide (((n : Nat) : Int) < 0) = false := by rw [decide_eq_false_iff_not]; omega
  have h1 : decide ((200 : Int) < ((n : Nat) : Int)) = false := by rw [decide_eq_false_iff_not]; omega
  have HN := Lib.hid h
  have hz := Try.zeroMaH w
  have hne := zeroH_ne
  have hset := zeroH_set n
  have HB := Lib.hid (Blk.new w 38 (maC n 0 0 0 0 0 0 0 false 0 ⟨#[]⟩ 0 zeroB 0 zeroH))
  clear h
  generalize maC 0 0 0 0 0 0 0 0 false 0 ⟨#[]⟩ 0 zeroB 0 zeroH = Z at *
  go_enter Try.func18, Try.ntmps18
  go_wp2
  go_ret2
  refine ⟨rfl, (Below.refl _ _).alloc (Nat.le_refl _) _, 0, ⟨0, 0, 0, ⟨#[]⟩, 0, zeroB, zeroH⟩, ⟨HB.out, List.length_replicate .., List.length_replicate .., trivial, rfl, Nat.zero_le _, HN.out⟩, rfl⟩

/-- How many ends are told. -/
def endsH (x : Th) : Int := (x.2.2.2.2 : Nat)
theorem ends_of (R : Rh) : (((ofR R).en : Nat) : Int) = endsH (telH R) := by cases R <;> rfl
set_option maxHeartbeats 2000000 in
set_option maxRecDepth 10000 in
theorem hwhole_any (s : ByteArray) (d : Nat) (w : World) (hs : s.size ≤ 1152921504606846976) :
    Calls Try.prog 7 #[.string s, .int .i64 (d : Nat)] w fun e w' => e = .returned (.tuple #[.int .i64 (staH (tolH (min d 200) s)), .int .i64 (plaH s.size (tolH (min d 200) s)), .int .i64 (endsH (tolH (min d 200) s))]) ∧ Below w.heap.size w w' := by
  obtain ⟨n, hn⟩ : ∃ n, n = min d 200 := ⟨_, rfl⟩
  rw [← hn]
  have hn200 : n ≤ 200 := by omega
  obtain ⟨a, ha⟩ : ∃ a, a = staH (tolH n s) := ⟨_, rfl⟩
  obtain ⟨b, hb⟩ : ∃ b, b = plaH s.size (tolH n s) := ⟨_, rfl⟩
  obtain ⟨c, hc⟩ : ∃ c, c = endsH (tolH n s) := ⟨_, rfl⟩
  rw [← ha, ← hb, ← hc]
  have HA := Lib.hid ha
  have HB := Lib.hid hb
  have HCc := Lib.hid hc
  have HN : Hid (∀ x : Int, x = (n : Nat) → Calls Try.prog 18 #[.int .i64 x] w fun e w' => e = .returned (.tuple #[mptr w.heap.size, .int .i64 0]) ∧ Hid (Below w.heap.size w w' ∧ MacBH w' w.heap.size n 0 [])) := Lib.hid fun x hx => by
    subst hx
    exact (hnew_ok n w hn200).mono fun _ _ h => ⟨h.1, Lib.hid h.2⟩
  have HF : ∀ w1, Below w.heap.size w w1 → MacBH w1 w.heap.size n 0 [] → Hid (Calls Try.prog 11 #[mptr w.heap.size, .string s] w1 fun e w' => e = .returned (.int .i64 a) ∧ Below w.heap.size w w' ∧ Hid (Calls Try.prog 13 #[mptr w.heap.size] w' fun e w2 => e = .returned (.int .i64 b) ∧ w' = w2) ∧ Hid (Calls Try.prog 15 #[mptr w.heap.size] w' fun e w2 => e = .returned (.int .i64 c) ∧ w' = w2)) := fun w1 hb1 hm => by
    have hf := hfeed_any (s := ⟨#[]⟩) s hm (by show 0 + s.size ≤ _; omega)
    rw [show (⟨#[]⟩ : ByteArray) ++ s = s from by apply ByteArray.ext; simp] at hf
    refine Lib.hid (hf.mono ?_)
    rintro e w' ⟨rfl, h2, h3⟩
    refine ⟨by rw [HA.out], hb1.trans (h2.below hb1.size (fun x hx => by rw [List.mem_singleton.1 hx]; exact Nat.le_refl _)), ?_⟩
    obtain ⟨pl, h, r, g1, _, g2, g3⟩ := h3.told
    have hp := hplace_any g1.mac
    have he := hends_any g1.mac
    rw [g2, show s.data.toList.length = s.size by simp] at hp
    rw [g3, ends_of] at he
    rw [HB.out, HCc.out]
    exact ⟨Lib.hid hp, Lib.hid he⟩
  have HF2 := Lib.hid HF
  have hnd : ((n : Nat) : Int) = if (d : Int) < 200 then (d : Int) else 200 := by split <;> omega
  have HD := Lib.hid hnd
  clear ha hb hc HF hn200 HA HB HCc hnd hn
  go_enter Try.func7, Try.ntmps7
  go_wp2_with (first
    | (go_at_call 18; (with_reducible refine (HN.out _ (by have hx := HD.out; split at hx <;> omega)).mono ?_); rintro e w1 ⟨rfl, hm⟩; have HG := HF2.out _ hm.out.1 hm.out.2)
    | (go_at_call 11; (with_reducible refine HG.out.mono ?_); rintro e w2 ⟨rfl, hb2, HP, HE⟩; have HB2 := Lib.hid hb2; clear hb2)
    | (go_at_call 13; (with_reducible refine HP.out.mono ?_); rintro e w3 ⟨rfl, rfl⟩)
    | (go_at_call 15; (with_reducible refine HE.out.mono ?_); rintro e w3 ⟨rfl, rfl⟩))
  all_goals
    go_ret3
    exact ⟨rfl, HB2.out⟩

def scrA : ByteArray := ⟨#[118, 97, 114, 32, 120, 32, 61, 32, 49, 59]⟩
def scrB2 : ByteArray := ⟨#[72, 101, 108, 108, 111, 32, 119, 111, 114, 108, 100]⟩
theorem scrA_tol : staH (tolH 5 scrA) = 2 ∧ plaH 10 (tolH 5 scrA) = -1 ∧ endsH (tolH 5 scrA) = 1 := ⟨by kernel_rfl, by kernel_rfl, by kernel_rfl⟩
theorem scrB_tol : staH (tolH 5 scrB2) = 0 ∧ plaH 11 (tolH 5 scrB2) = 6 ∧ endsH (tolH 5 scrB2) = 0 := ⟨by kernel_rfl, by kernel_rfl, by kernel_rfl⟩
set_option maxHeartbeats 1000000 in
theorem hlives_any (w : World) : Calls Try.prog 8 #[] w fun e w' => e = .returned (.bool true) ∧ Below w.heap.size w w' := by
  have HA : Hid (∀ W, Calls Try.prog 7 #[.string ⟨#[118, 97, 114, 32, 120, 32, 61, 32, 49, 59]⟩, .int .i64 5] W fun e w' => e = .returned (.tuple #[.int .i64 2, .int .i64 (-1), .int .i64 1]) ∧ Below W.heap.size W w') := Lib.hid fun W => by
    have h := hwhole_any scrA 5 W (by decide)
    rw [show min 5 200 = 5 from rfl, show scrA.size = 10 from rfl, scrA_tol.1, scrA_tol.2.1, scrA_tol.2.2] at h
    exact h
  have HB : Hid (∀ W, Calls Try.prog 7 #[.string ⟨#[72, 101, 108, 108, 111, 32, 119, 111, 114, 108, 100]⟩, .int .i64 5] W fun e w' => e = .returned (.tuple #[.int .i64 0, .int .i64 6, .int .i64 0]) ∧ Below W.heap.size W w') := Lib.hid fun W => by
    have h := hwhole_any scrB2 5 W (by decide)
    rw [show min 5 200 = 5 from rfl, show scrB2.size = 11 from rfl, scrB_tol.1, scrB_tol.2.1, scrB_tol.2.2] at h
    exact h
  go_enter Try.func8, Try.ntmps8
  go_wp2_with (first
    | (go_at_call 7; (with_reducible refine (HA.out _).mono ?_); rintro e w1 ⟨rfl, hb1⟩)
    | (go_at_call 7; (with_reducible refine (HB.out _).mono ?_); rintro e w2 ⟨rfl, hb2⟩))
  go_ret
  exact ⟨rfl, hb1.trans (hb2.mono hb1.size)⟩
end Go.Proofs.Ytlaohbdkoieclaa
namespace Go.Proofs.Ytlaohbdkoieclaa
open Go.RowKit

def kwV : List Value := kwdL.map fun k => .string ⟨k.toArray⟩
theorem kwd_len : kwdL.length = 39 := rfl
theorem kwd_hit {l : List UInt8} {k : Nat} (hk : k < kwdL.length) (h : kwdL[k] = l) : kwdH l = true := by
  unfold kwdH
  rw [List.any_eq_true]
  exact ⟨kwdL[k], List.getElem_mem hk, by rw [beq_iff_eq]; exact h⟩
theorem kwd_miss {l : List UInt8} (h : ∀ j (hj : j < kwdL.length), kwdL[j] ≠ l) : kwdH l = false := by
  unfold kwdH
  rw [List.any_eq_false]
  intro k hk e
  obtain ⟨j, hj, he⟩ := List.mem_iff_getElem.1 hk
  rw [beq_iff_eq] at e
  exact h j hj (he.trans e)
set_option maxHeartbeats 4000000 in
set_option maxRecDepth 100000 in
theorem rkeyword28_any (s : ByteArray) (w : World) :
    Calls Try.prog 10 #[.string s] w fun e w' => e = .returned (.bool (kwdH s.data.toList)) ∧ Below w.heap.size w w' := by
  obtain ⟨w0, hw0⟩ : ∃ w0, w0 = w.alloc (.cells kwV.toArray 9) := ⟨_, rfl⟩
  have HB := Lib.hid (show Below w.heap.size w w0 from by rw [hw0]; exact (Below.refl _ _).alloc (Nat.le_refl _) _)
  have HC := Lib.hid (fun k (hk : k < kwdL.length) => show w0.cell? ⟨w.heap.size, k, none⟩ = some (.string ⟨(kwdL[k]).toArray⟩) from by
    have h : Blk w0 w.heap.size 9 kwV.toArray := by rw [hw0]; exact Blk.new _ _ _
    rw [h.cell, List.getElem?_toArray]
    unfold kwV
    rw [List.getElem?_map, List.getElem?_eq_getElem hk]
    rfl)
  have HW0 := Lib.hid hw0
  obtain ⟨v, hv⟩ : ∃ v, v = kwdH s.data.toList := ⟨_, rfl⟩
  rw [← hv]
  have HV := Lib.hid hv
  clear hw0 hv
  go_enter Try.func10, Try.ntmps10
  go_wp2
  go_loopw [4] (fun i wr => ∃ k : Nat, k ≤ 39 ∧ i = .int .i64 k ∧ wr = w0 ∧ Hid (∀ j (hj : j < kwdL.length), j < k → kwdL[j] ≠ s.data.toList)) (fun i _ => 39 - (intOf i).toNat)
  case atStart => exact ⟨0, by omega, rfl, HW0.out.symm, Lib.hid (fun j _ h0 => absurd h0 (Nat.not_lt_zero _))⟩
  case round =>
    obtain ⟨k, hk, rfl, rfl, HN⟩ := hrel
    by_cases hlt : k < 39
    · have hkl : k < kwdL.length := by rw [kwd_len]; exact hlt
      have c := HC.out k hkl
      obtain ⟨x, hx⟩ : ∃ x : ByteArray, x = ⟨(kwdL[k]).toArray⟩ := ⟨_, rfl⟩
      rw [← hx] at c
      have hxl : x.toList = kwdL[k] := by rw [Lib.toList_data, hx]
      cases he : (x.toList == s.toList) with
      | false =>
        have HN2 : Hid (∀ j (hj : j < kwdL.length), j < k + 1 → kwdL[j] ≠ s.data.toList) := Lib.hid fun j hj hjk e => by
          by_cases hjk2 : j < k
          · exact HN.out j hj hjk2 e
          · obtain rfl : j = k := by omega
            rw [beq_eq_false_iff_ne] at he
            exact he (by rw [hxl, e, Lib.toList_data])
        clear hx hxl HN hkl
        go_wp2
        go_roundw
        case rel => exact ⟨k + 1, by omega, by go_num, by trivial, HN2⟩
        case measure => simp [intOf]; omega
      | true =>
        have HX : Hid (v = true) := Lib.hid (by
          rw [HV.out]
          rw [beq_iff_eq] at he
          exact kwd_hit hkl (by rw [← hxl, he, Lib.toList_data]))
        clear hx hxl HN hkl
        go_wp2
        go_ret
        exact ⟨by rw [HX.out]; rfl, HB.out⟩
    · obtain rfl : k = 39 := by omega
      have HX : Hid (v = false) := Lib.hid (by
        rw [HV.out]
        exact kwd_miss fun j hj => HN.out j hj hj)
      go_wp2
      go_ret
      exact ⟨by rw [HX.out]; rfl, HB.out⟩
end Go.Proofs.Ytlaohbdkoieclaa
namespace Go.Proofs.Ytlaohbdkoieclaa
open Go.RowKit

/-- The first n bytes. -/
def cutB (s : ByteArray) (n : Nat) : ByteArray := if n < s.size then s.extract 0 n else s
theorem cutB_size (s : ByteArray) (n : Nat) : (cutB s n).size ≤ n := by
  unfold cutB
  split
  · simp; omega
  · omega

set_option maxHeartbeats 400000 in
theorem cut_any (s : ByteArray) (n : Nat) (w : World) (_hs : s.size ≤ 9223372036854775807) :
    Calls Try.prog 6 #[.string s, .int .i64 n] w fun e w' => e = .returned (.string (cutB s n)) ∧ w = w' := by
  by_cases h : n < s.size
  · have hx : cutB s n = s.extract 0 n := by simp [cutB, h]
    have h1 : decide ((n : Int) < (s.size : Int)) = true := by simpa using h
    have h2 : decide (n < s.size) = true := by simpa using h
    rw [hx]
    clear hx
    go_enter Try.func6, Try.ntmps6
    go_wp2
    go_ret
    exact ⟨rfl, rfl⟩
  · have hx : cutB s n = s := by simp [cutB, h]
    have h1 : decide ((n : Int) < (s.size : Int)) = false := by simp; omega
    have h2 : decide (n < s.size) = false := by simpa using h
    rw [hx]
    clear hx
    go_enter Try.func6, Try.ntmps6
    go_wp2
    go_ret
    exact ⟨rfl, rfl⟩

end Go.Proofs.Ytlaohbdkoieclaa
