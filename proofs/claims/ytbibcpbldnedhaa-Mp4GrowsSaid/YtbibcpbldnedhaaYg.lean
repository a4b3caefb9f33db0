/-
  What the document's Size, Head, Brands, Is, Boxes and Box of layer 16 answer. Condition: the text takes at most 2^40 bytes; a box's name and contents are short.
-/
import Derived.Test.YtbibcpbldnedhaaYe
import Derived.Test.YtbibcpbldnedhaaYf
import Derived.Test.YtbibcpbldnedhaaKj
import Derived.Test.YtbibcpbldnedhaaWe
import Derived.OwnWalk
import Derived.Laws.OwnMore
import Derived.BigQuiet
import Derived.Lib.SlBytesRow
import Derived.Lib.SmallJoins
namespace Go.Proofs.Ytbibcpbldnedhaa
open Go.RowKit

/-- The document's number of the first box: below 0, if there is none. -/
def sizI (s : ByteArray) : Int := if 4 ≤ s.size then (fourB s 0 : Int) else -1

set_option maxHeartbeats 1000000 in
theorem rsize16_any (s : ByteArray) (w : World) (hs : s.size ≤ 9223372036854775807) :
    Calls Try.prog 8 #[.string s] w fun e w' => e = .returned (.int .i64 (sizI s)) ∧ ∃ m, w' = w.drewN m := by
  by_cases h4 : 4 ≤ s.size
  · have HE := Lib.hid (show sizI s = ((((s[0].toNat : Int) * 256 + (s[1].toNat : Int)) * 256 + (s[2].toNat : Int)) * 256 + (s[3].toNat : Int)) from by
      unfold sizI fourB
      rw [if_pos h4, getElem!_pos s 0 (by omega), getElem!_pos s (0 + 1) (by omega), getElem!_pos s (0 + 2) (by omega), getElem!_pos s (0 + 3) (by omega)]
      simp)
    obtain ⟨a0, hi0⟩ : ∃ a : UInt8, s[0]'(by omega) = a := ⟨_, rfl⟩
    obtain ⟨a1, hi1⟩ : ∃ a : UInt8, s[1]'(by omega) = a := ⟨_, rfl⟩
    obtain ⟨a2, hi2⟩ : ∃ a : UInt8, s[2]'(by omega) = a := ⟨_, rfl⟩
    obtain ⟨a3, hi3⟩ : ∃ a : UInt8, s[3]'(by omega) = a := ⟨_, rfl⟩
    rw [hi0, hi1, hi2, hi3] at HE
    have h0 := a0.toNat_lt
    have h1 := a1.toNat_lt
    have h2 := a2.toNat_lt
    have h3 := a3.toNat_lt
    go_enter Try.func8, Try.ntmps8
    go_wp2
    go_quiet (fail)
    go_wp2
    go_ret
    exact ⟨by rw [HE.out]; rfl, _, rfl⟩
  · rw [show sizI s = -1 from if_neg h4]
    go_enter Try.func8, Try.ntmps8
    go_wp2
    go_ret
    exact ⟨rfl, 0, rfl⟩

set_option maxHeartbeats 1000000 in
theorem rhead16_any (s : ByteArray) (w : World) (hs : s.size ≤ 9223372036854775807) :
    Calls Try.prog 10 #[.string s] w fun e w' => e = .returned (.bool (filmH s)) ∧ ∃ m, w' = w.drewN m := by
  by_cases h0 : 12 ≤ s.size
  · have HF := Lib.hid (fun W => rsize16_any s W hs)
    rw [show sizI s = (fourB s 0 : Int) from if_pos (by omega)] at HF
    have hn := fourB_lt s 0
    have HX := Lib.hid (filmH_far (s := s))
    have HY := Lib.hid (filmH_odd (s := s))
    have HZ := Lib.hid (fun h1 h2 => filmH_else (s := s) h0 h1 h2)
    have hft : Hid (ftypB s = ((s.extract 4 8).toList == [102, 116, 121, 112])) := by unfold ftypB; rw [show ftypS.toList = [102, 116, 121, 112] from by kernel_rfl]; exact rfl
    generalize fourB s 0 = n at *
    by_cases h1 : n ≤ s.size
    · by_cases h2 : n % 4 = 0
      · have HV := Lib.hid (HZ.out h1 h2)
        cases hc : ((s.extract 4 8).toList == [102, 116, 121, 112])
        all_goals
          have HE := Lib.hid (show filmH s = _ from HV.out.trans (hft.out.trans hc))
          rw [HE.out]
          clear HX HY HZ HV hft HE
          go_enter Try.func10, Try.ntmps10
          go_wp2_with (go_at_call 8; refine (HF.out _).mono ?_; rintro e w1 ⟨rfl, m, rfl⟩)
          go_ret
          exact ⟨rfl, _, rfl⟩
      · have HV := Lib.hid (HY.out h2)
        rw [HV.out]
        clear HX HY HZ HV hft
        go_enter Try.func10, Try.ntmps10
        go_wp2_with (go_at_call 8; refine (HF.out _).mono ?_; rintro e w1 ⟨rfl, m, rfl⟩)
        go_ret
        exact ⟨rfl, _, rfl⟩
    · have HV := Lib.hid (HX.out h1)
      rw [HV.out]
      clear HX HY HZ HV hft
      go_enter Try.func10, Try.ntmps10
      go_wp2_with (go_at_call 8; refine (HF.out _).mono ?_; rintro e w1 ⟨rfl, m, rfl⟩)
      go_ret
      exact ⟨rfl, _, rfl⟩
  · rw [filmH_short h0]
    go_enter Try.func10, Try.ntmps10
    go_wp2
    go_ret
    exact ⟨rfl, 0, rfl⟩

set_option maxHeartbeats 4000000 in
theorem rbrands16_any (s : ByteArray) (w : World) (hs : s.size ≤ 1099511627776) :
    Calls Try.prog 15 #[.string s] w (NewStrs (namL s (namN s)) w) := by
  obtain ⟨i0, hi, hz0, hz1, hz2⟩ := info_parts Try.info9
  have HH := Lib.hid (fun W => rhead16_any s W (by omega))
  have HO0 := Lib.hid (show (w.alloc (.cells #[] 9)).ownsRow w.heap.size 9 1 (.slice (some ⟨w.heap.size, 0, none⟩) 0 0) 0 [] from World.ownsRow_made w #[] 0 (Nat.le_refl _) (Nat.zero_le _) rfl)
  have HB0 := Lib.hid (show Below w.heap.size w (w.alloc (.cells #[] 9)) from (Below.refl _ _).alloc (Nat.le_refl _) _)
  have hnn := namN_le s
  cases hh : filmH s
  · have HN := Lib.hid (namN_none hh)
    rw [hh] at HH
    clear hh
    go_enter Try.func15, Try.ntmps15
    go_wp2_with (go_at_call 10; refine (HH.out _).mono ?_; rintro e w1 ⟨rfl, m, rfl⟩)
    go_ret
    rw [HN.out]
    exact ⟨_, rfl, own_below HO0.out (Below.drewN' (Below.refl _ _) _), Below.drewN' HB0.out _⟩
  · have hn1 := namN_some hh
    have hsz := (filmH_all hh).1
    have hfs := (filmH_all hh).2.1
    have HM := Lib.hid (fun j (hj : 1 ≤ j) => namN_more hh hj)
    have HS := Lib.hid (fun W => rsize16_any s W (by omega))
    rw [show sizI s = (fourB s 0 : Int) from if_pos (by omega)] at HS
    have HT0 := Lib.hid (show strs (namL s 1) = [.string (s.extract 8 12)] from rfl)
    have HP := Lib.hid (fun j (hj : j < namN s) => namP_end hj)
    rw [hh] at HH
    clear hh
    generalize fourB s 0 = n at *
    go_enter Try.func15, Try.ntmps15
    go_wp2_with fail
    refine (HH.out _).mono ?_
    rintro e w1 ⟨rfl, m, rfl⟩
    have HO1 := Lib.hid (own_below HO0.out (Below.drewN' (Below.refl _ _) m))
    have HB1 := Lib.hid (Below.drewN' HB0.out m)
    obtain ⟨x, hx⟩ : ∃ x, x = s.extract 8 12 := ⟨_, rfl⟩
    obtain ⟨w2, hw2⟩ : ∃ w2, w2 = (w.alloc (.cells #[] 9)).drewN m := ⟨_, rfl⟩
    rw [← hx] at HT0
    rw [← hw2] at HO1 HB1 ⊢
    clear hw2
    have hx' := hx.symm
    clear hx
    go_wp2_with (at_builtin; refine wpList_append_own _ rfl _ _ 28 rfl w.heap.size 9 i0 (.string ⟨#[]⟩) 1 16 Try.underlying28 hi hz0 hz1 hz2 rfl (by decide) _ _ _ rfl (HO1.out.alloc _) ⟨w2.heap.size, 0, none⟩ 1 1 [.string x] rfl rfl ?c1 ?c2 ?c3 ?c4 ?c5 ?_)
    case c1 =>
      intro j u hj
      match j, hj with
      | 0, hj => simp at hj; subst hj; simp [Addr.add]
    case c2 => intro u hu; simp at hu; subst hu; rfl
    case c3 => unfold maxLen; omega
    case c4 => omega
    case c5 => have := HB1.out.size; simp; omega
    intro v' w3 hown hgrow _
    have HO3 := Lib.hid (show w3.ownsRow w.heap.size 9 1 v' 1 (strs (namL s 1)) from by rw [HT0.out]; exact hown)
    have HB3 := Lib.hid (Below.grown (HB1.out.alloc HB1.out.size _) hgrow (by have := HB1.out.size; simp; omega) (fun g hg => (HO1.out.lt g hg).1))
    clear hown hgrow HO1 HB1 HT0 hx'
    go_wp2
    go_loopw [3, 4] (fun v i wr => ∃ k : Nat, 1 ≤ k ∧ k ≤ namN s ∧ i = .int .i64 ((12 + 4 * k : Nat) : Int) ∧ wr.ownsRow w.heap.size 9 1 v k (strs (namL s k)) ∧ Below w.heap.size w wr) (fun _ i _ => n + 16 - (intOf i).toNat)
    case atStart => exact ⟨1, by omega, hn1, rfl, HO3.out, HB3.out⟩
    case round =>
      obtain ⟨k, hk1, hk, rfl, hown, hb⟩ := hrel
      have HO := Lib.hid hown
      have HB := Lib.hid hb
      obtain ⟨ao, n', cap, rfl⟩ := own_slice hown
      clear hown hb HO3 HB3
      by_cases hlt : k < namN s
      · have hkn := (HM.out k hk1).1 hlt
        have hpe := HP.out k hlt
        have hpk : namP k = 12 + 4 * k := by unfold namP; rw [if_neg (by omega)]
        have HTK : Hid (namT s k = s.extract (12 + 4 * k) (12 + 4 * k + 4)) := by unfold namT; rw [hpk]; exact rfl
        have HST := Lib.hid (show strs (namL s (k + 1)) = strs (namL s k) ++ [.string (s.extract (12 + 4 * k) (12 + 4 * k + 4))] from by rw [namL, HTK.out]; simp [strs])
        rw [hpk] at hpe
        clear hpk HTK
        obtain ⟨q, hq⟩ : ∃ q, q = 12 + 4 * k := ⟨_, rfl⟩
        have HQ := Lib.hid hq
        rw [← hq] at hkn hpe HST ⊢
        have hq1 : q ≤ 140737488351232 := by omega
        clear hq
        obtain ⟨y, hy⟩ : ∃ y, s.extract q (q + 4) = y := ⟨_, rfl⟩
        rw [hy] at HST
        go_wp2_with fail
        refine (HS.out _).mono ?_
        rintro e w4 ⟨rfl, m4, rfl⟩
        have HO4 := Lib.hid (own_below HO.out (Below.drewN' (Below.refl _ _) m4))
        have HB4 := Lib.hid (Below.drewN' HB.out m4)
        generalize wr.drewN m4 = w4 at *
        go_wp2_with (at_builtin; refine wpList_append_own _ rfl _ _ 28 rfl w.heap.size 9 i0 (.string ⟨#[]⟩) 1 16 Try.underlying28 hi hz0 hz1 hz2 rfl (by decide) _ _ _ rfl (HO4.out.alloc _) ⟨w4.heap.size, 0, none⟩ 1 1 [.string y] rfl rfl ?d1 ?d2 ?d3 ?d4 ?d5 ?_)
        case d1 =>
          intro j u hj
          match j, hj with
          | 0, hj => simp at hj; subst hj; simp [Addr.add]
        case d2 => intro u hu; simp at hu; subst hu; rfl
        case d3 => unfold maxLen; omega
        case d4 => omega
        case d5 => have := HB4.out.size; simp; omega
        intro v' w5 hown hgrow _
        have HO5 := Lib.hid (show w5.ownsRow w.heap.size 9 1 v' (k + 1) (strs (namL s (k + 1))) from by rw [HST.out]; exact hown)
        have HB5 := Lib.hid (Below.grown (HB4.out.alloc HB4.out.size _) hgrow (by have := HB4.out.size; simp; omega) (fun g hg => (HO4.out.lt g hg).1))
        clear hown hgrow HO4 HB4 HO HB
        go_wp2
        go_roundw
        case rel => exact ⟨k + 1, by omega, by omega, by have := HQ.out; go_num, HO5.out, HB5.out⟩
        case measure => simp [intOf]; omega
      · obtain rfl : k = namN s := by omega
        have hkn : ¬(12 + 4 * namN s < n) := fun h => hlt ((HM.out _ hk1).2 h)
        obtain ⟨q, hq⟩ : ∃ q, q = 12 + 4 * namN s := ⟨_, rfl⟩
        rw [← hq] at hkn ⊢
        clear hq
        go_wp2_with fail
        refine (HS.out _).mono ?_
        rintro e w4 ⟨rfl, m4, rfl⟩
        go_wp2
        go_ret
        exact ⟨_, rfl, by rw [namL_len]; exact own_below HO.out (Below.drewN' (Below.refl _ _) _), Below.drewN' HB.out _⟩

end Go.Proofs.Ytbibcpbldnedhaa
