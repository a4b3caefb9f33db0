/-
  Plain facts on layer 24's texts: what is written is read again. No condition.
  What package json's Feed does, and what New, Whole, Valid and lives answer. Conditions: the texts are no longer than a length can be.
  What package json's New, Whole, Valid and lives answer. Conditions: the texts are no longer than a length can be.
-/
import Derived.Test.YtbojbkpplejdmaaZ10
import Derived.Test.YtbojbkpplejdmaaZ3
import Derived.Test.YtbojbkpplejdmaaZ7
import Derived.Test.YtbojbkpplejdmaaRows
import Derived.WalkKit
import Derived.WalkSpells
import Derived.WalkLawsBesides
import Derived.Defers
import Derived.Recover
import Derived.RegionTactic
import Derived.BigRegion
import Derived.Deep.QuietTactic
import Derived.BigQuiet
import Derived.Deep.RegionHeld2
import Derived.IntWalk
import Derived.Lib.Hide
import Derived.LoopTactic
namespace Go.Proofs.Ytbojbkpplejdmaa

theorem scan_of {p : UInt8 → Bool} {s : ByteArray} {l1 l2 l3 : List UInt8} (hl : s.data.toList = l1 ++ (l2 ++ l3)) (h2 : ∀ b ∈ l2, p b = true) (h3 : ∀ b q, l3 = b :: q → p b = false) : scan p s l1.length = l1.length + l2.length := by
  unfold scan
  rw [hl, List.drop_left]
  congr 2
  have h4 : l3.takeWhile p = [] := by
    cases l3 with
    | nil => rfl
    | cons b q => rw [List.takeWhile_cons, if_neg (by rw [h3 b q rfl]; decide)]
  rw [List.takeWhile_append_of_pos h2, h4, List.append_nil]
theorem atB_of {s : ByteArray} {l1 l3 : List UInt8} {b : UInt8} (hl : s.data.toList = l1 ++ b :: l3) : atB s l1.length b = true := by
  have hz : s.size = l1.length + (l3.length + 1) := by
    have := congrArg List.length hl
    simp at this
    exact this
  have h : l1.length < s.size := by omega
  rw [atB_at h, beq_iff_eq]
  have e : s[l1.length] = s.data.toList[l1.length]'(by simpa using h) := rfl
  rw [e]
  have : ∀ (l : List UInt8) (hh : l1.length < l.length), l = l1 ++ b :: l3 → l[l1.length] = b := fun l hh e => by subst e; simp
  exact this _ _ hl
theorem atB_no {s : ByteArray} {l1 l3 : List UInt8} {b c : UInt8} (hl : s.data.toList = l1 ++ b :: l3) (hne : b ≠ c) : atB s l1.length c = false := by
  have hz : s.size = l1.length + (l3.length + 1) := by
    have := congrArg List.length hl
    simp at this
    exact this
  have h : l1.length < s.size := by omega
  have h2 := atB_of hl
  rw [atB_at h, beq_iff_eq] at h2
  rw [atB_at h, h2, beq_eq_false_iff_ne]
  exact hne
theorem ext_of {s : ByteArray} {l1 l2 l3 : List UInt8} (hl : s.data.toList = l1 ++ (l2 ++ l3)) : s.extract l1.length (l1.length + l2.length) = ⟨l2.toArray⟩ := by
  apply ByteArray.ext
  apply Array.toList_inj.1
  rw [ByteArray.data_extract, Array.toList_extract, hl]
  simp [List.extract]
theorem size_of {s : ByteArray} {l : List UInt8} (hl : s.data.toList = l) : s.size = l.length := by
  have := congrArg List.length hl
  simpa using this
theorem app_list (a b : ByteArray) : (a ++ b).data.toList = a.data.toList ++ b.data.toList := by simp

theorem one_head {c : UInt8} {q : List UInt8} {p : UInt8 → Bool} (hc : p c = false) : ∀ b q', c :: q = b :: q' → p b = false := fun b q' e => by cases e; exact hc
theorem none_mem {p : UInt8 → Bool} : ∀ b ∈ ([] : List UInt8), p b = true := fun b h => by cases h
theorem nil_head {p : UInt8 → Bool} : ∀ b q', ([] : List UInt8) = b :: q' → p b = false := fun b q' e => by cases e

end Go.Proofs.Ytbojbkpplejdmaa
namespace Go.Proofs.Ytbojbkpplejdmaa
open Go.RowKit

theorem take_byte27 {t : ByteArray} {k : Nat} (h : k < t.size) : t.data.toList.take (k + 1) = t.data.toList.take k ++ [t[k]] := by
  have hk : k < t.data.toList.length := by simpa using h
  rw [List.take_succ_eq_append_getElem hk]
  rfl
theorem take_full27 (t : ByteArray) : t.data.toList.take t.size = t.data.toList := List.take_of_length_le (by simp)

set_option maxHeartbeats 4000000 in
set_option maxRecDepth 10000 in
theorem feed_any {w : World} {mb D : Nat} {s : ByteArray} (t : ByteArray) (h : MacB w mb D (s.size : Nat) s.data.toList) (hz : s.size + t.size ≤ 4611686018427387904) :
    Calls Try.prog 28 #[mptr mb, .string t] w fun e w' => e = .returned (.int .i64 (whoJ D (s ++ t)).1) ∧ Mv w.heap.size [mb] w w' ∧ MacB w' mb D ((s ++ t).size : Nat) (s ++ t).data.toList := by
  obtain ⟨v, hv⟩ : ∃ v, v = (whoJ D (s ++ t)).1 := ⟨_, rfl⟩
  rw [← hv]
  have HV := Lib.hid hv
  clear hv
  have hs63 : s.size ≤ 4611686018427387904 := by omega
  have ht63 : t.size ≤ 4611686018427387904 := by omega
  have H := Lib.hid h
  have HL := Lib.hid (show s.data.toList.length = s.size by simp)
  have HA := Lib.hid (app_list s t)
  have HZ := Lib.hid (show (s ++ t).size = s.size + t.size from ByteArray.size_append)
  have HT : ∀ wr, MacB wr mb D (s.size : Nat) (s.data.toList ++ t.data.toList) → ∃ (pl sp tn lf : Int) (rs : ByteArray) (dp : Nat) (E : List Value), Hid (Mac wr mb D (s.size : Nat) pl sp tn lf rs dp E) ∧
      Hid (Calls Try.prog 32 #[mptr mb] (wr.setCell ⟨mb, 1, none⟩ (.int .i64 ((s.size : Int) + (t.size : Int)))) fun e w' => e = .returned (.int .i64 v) ∧ wr.setCell ⟨mb, 1, none⟩ (.int .i64 ((s.size : Int) + (t.size : Int))) = w') := fun wr hw => by
    rw [← HA.out] at hw
    obtain ⟨pl, sp, tn, lf, rs, dp, E, h1, _, _, h2, _⟩ := hw.told
    refine ⟨pl, sp, tn, lf, rs, dp, E, Lib.hid h1, Lib.hid ?_⟩
    rw [HV.out, ← h2]
    exact jstate_any (Mac.s1 h1 _)
  have HT2 := Lib.hid HT
  have HE : ∀ wr, MacB wr mb D (s.size : Nat) (s.data.toList ++ t.data.toList) → MacB (wr.setCell ⟨mb, 1, none⟩ (.int .i64 ((s.size : Int) + (t.size : Int)))) mb D ((s ++ t).size : Nat) (s ++ t).data.toList := fun wr hw => by
    rw [HA.out, HZ.out]
    exact hw.s1 _
  have HE2 := Lib.hid HE
  clear h HT HE HV
  go_enter Try.func28, Try.ntmps28
  go_wp2
  go_loopw [10] (fun i wr => ∃ k : Nat, k ≤ t.size ∧ i = .int .i64 k ∧ Hid (MacB wr mb D (s.size : Nat) (s.data.toList ++ t.data.toList.take k)) ∧ Hid (Mv w.heap.size [mb] w wr)) (fun i _ => t.size - (intOf i).toNat)
  case atStart => exact ⟨0, by omega, rfl, Lib.hid (by rw [List.take_zero, List.append_nil]; exact H.out), Lib.hid (mv0 w mb)⟩
  case round =>
    obtain ⟨k, hk, rfl, HM, HX⟩ := hrel
    by_cases hlt : k < t.size
    · cases hr : runJ D .v [] (s.data.toList ++ t.data.toList.take k) with
      | error q =>
        obtain ⟨x, r⟩ := q
        have HM2 := Lib.hid (show MacB wr mb D (s.size : Nat) (s.data.toList ++ t.data.toList) by
          have := HM.out.stop (m := t.data.toList.drop k) hr
          rwa [List.append_assoc, List.take_append_drop] at this)
        obtain ⟨pl, sp, tn, lf, rs, dp, E, HW, HS⟩ := HT2.out wr HM2.out
        have HQ : Hid (Calls Try.prog 36 #[mptr mb] wr fun e w' => e = .returned (.bool true) ∧ wr = w') := by
          have hm := HM.out
          obtain ⟨pl', sp', tn', lf', rs', dp', E', h1, h2, h3, h4, h5⟩ := hm
          rw [hr] at h5
          have hx := (run_bad D _ _ _ _ _ hr).1
          have hs := stopped_any h1
          have e : (sp' == 19 || sp' == 20) = true := by
            rw [h5.1]
            rcases hx with rfl | rfl <;> rfl
          rw [e] at hs
          exact Lib.hid hs
        have c1 := HW.out.c1
        have z1 := Blk.frozen HW.out 1
        clear hr
        go_wp2_with (first
          | (go_at_call 36; (with_reducible refine HQ.out.mono ?_); rintro e w1 ⟨rfl, rfl⟩)
          | (go_at_call 32; (with_reducible refine HS.out.mono ?_); rintro e w1 ⟨rfl, rfl⟩))
        go_ret
        exact ⟨rfl, HX.out.put1 _ _, HE2.out _ HM2.out⟩
      | ok q =>
        obtain ⟨p, st⟩ := q
        have hm := HM.out
        obtain ⟨pl, sp, tn, lf, rs, dp, E, h1, h2, h3, h4, h5⟩ := hm
        rw [hr] at h5
        obtain ⟨h5, rfl, h6, h7⟩ := h5
        have hw : Was wr mb D (s.size : Nat) pl sp tn lf rs st E := ⟨h1, h2, h6, h3, h4⟩
        have HQ : Hid (Calls Try.prog 36 #[mptr mb] wr fun e w' => e = .returned (.bool false) ∧ wr = w') := by
          have hs := stopped_any h1
          obtain ⟨g0, g1, _⟩ := reg_on h5
          have e : (sp == 19 || sp == 20) = false := by
            rw [Bool.or_eq_false_iff, beq_eq_false_iff_ne, beq_eq_false_iff_ne]
            omega
          rw [e] at hs
          exact Lib.hid hs
        have HK := Lib.hid (take_any hw h5 h7 t[k])
        have HN : ∀ w1, Ste wr w1 mb D (s.size : Nat) pl (stepJ D p st t[k]) → Hid (∃ pl, w1.cell? ⟨mb, 2, none⟩ = some (.int .i64 pl)) ∧ Hid (w1.cell? ⟨mb, 1, none⟩ = some (.int .i64 (s.size : Nat))) ∧ Hid (w1.frozen? ⟨mb, 2, none⟩ = false) ∧
            Hid (MacB (w1.setCell ⟨mb, 2, none⟩ (.int .i64 ((s.size : Int) + (k : Int)))) mb D (s.size : Nat) (s.data.toList ++ t.data.toList.take (k + 1))) ∧ Hid (Mv w.heap.size [mb] w w1) := fun w1 hq => by
          have hn := MacB.next h4 hr h7 hq.2
          obtain ⟨sp', tn', lf', rs', dp', E', g1, _⟩ := hq.2
          have el : (((s.data.toList ++ t.data.toList.take k).length : Nat) : Int) = (s.size : Int) + (k : Int) := by
            have hkl : k ≤ t.data.toList.length := by simpa using hk
            rw [List.length_append, HL.out, List.length_take, Nat.min_eq_left hkl]
            omega
          rw [el, List.append_assoc, ← take_byte27 hlt] at hn
          exact ⟨Lib.hid ⟨_, g1.c2⟩, Lib.hid g1.c1, Lib.hid (Blk.frozen g1 2), Lib.hid hn, Lib.hid (HX.out.trans (hq.1.mono HX.out.size (fun x hx => Or.inl hx)))⟩
        have HN2 := Lib.hid HN
        clear hr h1 h2 h3 h4 h5 h6 h7 hw HN
        go_wp2_with (first
          | (go_at_call 36; (with_reducible refine HQ.out.mono ?_); rintro e w1 ⟨rfl, rfl⟩)
          | (go_at_call 37; (with_reducible refine HK.out.mono ?_); rintro e w1 ⟨rfl, hq⟩; obtain ⟨H1, H2, H3, HG, HF⟩ := HN2.out _ hq; clear hq; obtain ⟨p2, c2⟩ := H1.out; have c1 := H2.out; have z2 := H3.out))
        go_roundw
        case rel => exact ⟨k + 1, by omega, by go_num, HG, Lib.hid (HF.out.put1 _ _)⟩
        case measure => simp [intOf]; omega
    · obtain rfl : k = t.size := by omega
      have HM2 := Lib.hid (show MacB wr mb D (s.size : Nat) (s.data.toList ++ t.data.toList) by
        have := HM.out
        rwa [take_full27] at this)
      obtain ⟨pl, sp, tn, lf, rs, dp, E, HW, HS⟩ := HT2.out wr HM2.out
      have c1 := HW.out.c1
      have z1 := Blk.frozen HW.out 1
      go_wp2_with (go_at_call 32; (with_reducible refine HS.out.mono ?_); rintro e w1 ⟨rfl, rfl⟩)
      go_ret
      exact ⟨rfl, HX.out.put1 _ _, HE2.out _ HM2.out⟩
end Go.Proofs.Ytbojbkpplejdmaa
namespace Go.Proofs.Ytbojbkpplejdmaa
open Go.RowKit

set_option maxHeartbeats 1000000 in
theorem new_bad (n : Int) (w : World) (h : n < 0 ∨ 200 < n) :
    Calls Try.prog 18 #[.int .i64 n] w fun e w' => e = .returned (.tuple #[.pointer none, .int .i64 1]) ∧ w = w' := by
  have hc : decide (n < 0) = true ∨ (decide (n < 0) = false ∧ decide ((200 : Int) < n) = true) := by
    rw [decide_eq_true_iff, decide_eq_false_iff_not, decide_eq_true_iff]
    omega
  clear h
  rcases hc with h0 | ⟨h0, h1⟩
  all_goals
    go_enter Try.func18, Try.ntmps18
    go_wp2
    go_ret2
    exact ⟨rfl, rfl⟩
def zeroE : List Value := List.replicate 200 (.int .u8 0)
theorem Try.zeroMachine (w : World) : (zeroValue 59).run Try.prog w = .ok (.agg (mcC 0 0 0 0 0 0 ⟨#[]⟩ 0 zeroE)) w := by kernel_rfl
theorem zero_ne : (mcC 0 0 0 0 0 0 ⟨#[]⟩ 0 zeroE = #[]) = False := by
  rw [eq_iff_iff, iff_false]
  intro h
  have := congrArg Array.size h
  simp [mcC] at this
theorem zero_set (x : Int) : (mcC 0 0 0 0 0 0 ⟨#[]⟩ 0 zeroE).setIfInBounds 0 (.int .i64 x) = mcC x 0 0 0 0 0 ⟨#[]⟩ 0 zeroE := by
  unfold mcC
  rw [List.setIfInBounds_toArray]
  rfl
set_option maxHeartbeats 1000000 in
theorem new_ok (n : Nat) (w : World) (h : n ≤ 200) :
    Calls Try.prog 18 #[.int .i64 (n : Nat)] w fun e w' => e = .returned (.tuple #[mptr w.heap.size, .int .i64 0]) ∧ Below w.heap.size w w' ∧ MacB w' w.heap.size n 0 [] := by
  have h0 : decide (((n : Nat) : Int) < 0) = false := by rw [decide_eq_false_iff_not]; omega
  have h1 : decide ((200 : Int) < ((n : Nat) : Int)) = false := by rw [decide_eq_false_iff_not]; omega
  have HN := Lib.hid h
  have hz := Try.zeroMachine w
  have hne := zero_ne
  have hset := zero_set n
  have HB := Lib.hid (Blk.new w 59 (mcC n 0 0 0 0 0 ⟨#[]⟩ 0 zeroE))
  clear h
  generalize mcC 0 0 0 0 0 0 ⟨#[]⟩ 0 zeroE = Z at *
  go_enter Try.func18, Try.ntmps18
  go_wp2
  go_ret2
  refine ⟨rfl, (Below.refl _ _).alloc (Nat.le_refl _) _, 0, 0, 0, 0, ⟨#[]⟩, 0, zeroE, HB.out, ?_, Nat.zero_le _, HN.out, ?_, rfl, trivial, rfl⟩
  · exact List.length_replicate ..
  · exact rfl

end Go.Proofs.Ytbojbkpplejdmaa
