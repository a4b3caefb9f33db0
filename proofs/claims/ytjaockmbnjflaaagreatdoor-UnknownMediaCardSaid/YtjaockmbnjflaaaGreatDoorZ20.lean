/-
  What package mp4's Is and Brands answer. Condition: the text takes at most 2^40 bytes.
  What the document's Size, Head, Brands, Is, Boxes and Box of layer 16 answer. Condition: the text takes at most 2^40 bytes; a box's name and contents are short.
  What the document's Is, Boxes and Box of layer 16 answer. Condition: the text takes at most 2^40 bytes; a box's name and contents are short.
-/
import Derived.Test.YtjaockmbnjflaaaGreatDoorZ19
import Derived.Lib.Builder
import Derived.Test.YtjaockmbnjflaaaGreatDoorZ18
import Derived.Test.YtjaockmbnjflaaaGreatDoorZ9
import Derived.Test.YtjaockmbnjflaaaGreatDoorZ10
import Derived.Test.YtjaockmbnjflaaaGreatDoorZ16
import Derived.Test.YtjaockmbnjflaaaGreatDoorZ12
import Derived.OwnWalk
import Derived.Laws.OwnMore
import Derived.BigQuiet
import Derived.Lib.SlBytesRow
import Derived.Lib.SmallJoins
import Derived.Lib.Hide
import Derived.Outline
import Derived.WalkKit
import Derived.Lib.SlBytesConst
namespace Go.Proofs.YtjaockmbnjflaaaGreatDoor
open Go.RowKit

theorem mp4B_pre {x : ByteArray} (h : 3 ≤ x.size) : prefB x mp4S = mp4B x := by
  unfold prefB mp4B
  rw [show decide (mp4S.size ≤ x.size) = true from decide_eq_true h]
  rfl

set_option maxHeartbeats 400000 in
theorem is1_any (b : Nat) (d : Bool) (x : ByteArray) (w : World) (hb : Blk w b 4 #[.bool d]) (h3 : 3 ≤ x.size) (hs : x.size ≤ 9223372036854775807) :
    Calls Tryz.prog 66 #[.string x, .pointer (some ⟨b, 0, none⟩)] w fun e w' => e = .returned (.bool (!mp4B x)) ∧ Mv w.heap.size [b] w w' ∧ Blk w' b 4 #[.bool (mp4B x)] := by
  have c0 : w.cell? ⟨b, 0, none⟩ = some (.bool d) := hb.cell 0
  have z0 := hb.frozen 0
  have HP : Hid (∀ W, Calls Tryz.prog 35 #[.string x, .string mp4S] W fun e w' => e = .returned (.bool (mp4B x)) ∧ W = w') := Lib.hid fun W => by
    have := hasPrefix_any x mp4S W hs (by show 3 ≤ _; omega)
    rwa [mp4B_pre h3] at this
  have HB := Lib.hid hb
  clear hb
  generalize mp4B x = v at *
  go_enter Tryz.func66, Tryz.ntmps66
  go_wp2_with (go_at_call 35; (with_reducible refine (HP.out _).mono ?_); rintro e w1 ⟨rfl, rfl⟩)
  go_ret
  exact ⟨rfl, (Mv.refl _ _ _).setCell (.inl (by simp)) _, HB.out.set_ 0 _⟩

theorem is1_enter (a b : Value) (w : World) : (callFunc 66 #[a, b]).run Tryz.prog w = .ok (.enter 66 #[a, b]) w := by simp [go_sem]

set_option maxHeartbeats 400000 in
theorem mp4Is_any (s : ByteArray) (w : World) (hs : s.size ≤ 1099511627776) :
    Calls Tryz.prog 42 #[.string s] w fun e w' => e = .returned (.bool (filmB s)) ∧ Below w.heap.size w w' := by
  have hmf := make_func
  have HB0 := Lib.hid (Blk.new w 4 #[.bool false])
  have HA0 : Hid (Below w.heap.size w (w.alloc (.cells #[.bool false] 4))) := Lib.hid ((Below.refl _ _).alloc (Nat.le_refl _) _)
  have hw0 : (w.alloc (.cells #[.bool false] 4)).heap.size = w.heap.size + 1 := by simp
  have HE := Lib.hid (eachBrand_any 66 ⟨w.heap.size, 0, none⟩ s (w.alloc (.cells #[.bool false] 4)) (by omega)
    (fun k W => Below w.heap.size w W ∧ w.heap.size < W.heap.size ∧ filmA s k = false ∧ Blk W w.heap.size 4 #[.bool false])
    (fun k W => Below w.heap.size w W ∧ filmA s k = true ∧ Blk W w.heap.size 4 #[.bool true])
    (fun k W W' ⟨h1, h2, h3, h4⟩ hb => ⟨h1.trans (hb.mono h1.size), Nat.lt_of_lt_of_le h2 hb.size, h3, h4.below hb h2⟩)
    (fun x W => is1_enter _ _ W)
    (fun k W hk ⟨h1, h2, h3, h4⟩ => (is1_any w.heap.size false (namT s k) W h4 (by rw [namT_size hk]; omega) (by rw [namT_size hk]; omega)).mono fun e W' ⟨he, hm, hb⟩ => by
      have hbw : Below w.heap.size w W' := h1.trans (hm.below h1.size (by simp))
      have hst : filmA s (k + 1) = mp4B (namT s k) := by rw [filmA, h3, Bool.false_or]
      rw [← hst] at he hb
      cases hc : filmA s (k + 1)
      · rw [hc] at he hb
        exact .inl ⟨he, hbw, Nat.lt_of_lt_of_le h2 hm.size, rfl, hb⟩
      · rw [hc] at he hb
        exact .inr ⟨he, hbw, rfl, hb⟩)
    ⟨HA0.out, by simp, rfl, HB0.out⟩)
  go_enter Tryz.func42, Tryz.ntmps42
  go_wp2_with fail
  refine HE.out.mono ?_
  rintro e w1 ⟨rfl, h⟩
  rcases h with ⟨h1, h2, h3, h4⟩ | ⟨k, hk, h1, h3, h4⟩
  · have c0 : w1.cell? ⟨w.heap.size, 0, none⟩ = some (.bool false) := h4.cell 0
    go_wp2
    go_ret
    exact ⟨by unfold filmB; rw [h3]; rfl, h1⟩
  · have c0 : w1.cell? ⟨w.heap.size, 0, none⟩ = some (.bool true) := h4.cell 0
    go_wp2
    go_ret
    exact ⟨by unfold filmB; rw [filmA_on hk h3]; rfl, h1⟩

end Go.Proofs.YtjaockmbnjflaaaGreatDoor
namespace Go.Proofs.YtjaockmbnjflaaaGreatDoor
open Go.RowKit

/-- The document's number of the first box: below 0, if there is none. -/
def sizI (s : ByteArray) : Int := if 4 ≤ s.size then (fourB s 0 : Int) else -1

set_option maxHeartbeats 1000000 in
theorem rsize16_any (s : ByteArray) (w : World) (hs : s.size ≤ 9223372036854775807) :
    Calls Tryz.prog 96 #[.string s] w fun e w' => e = .returned (.int .i64 (sizI s)) ∧ ∃ m, w' = w.drewN m := by
  by_cases h4 : 4 ≤ s.size
  · have HE := Lib.hid (show sizI s = ((((s[0].toNat : Int) * 256 + (s[1].toNat : Int)) * 256 + (s[2].toNat : Int)) * 256 + (s[3].toNat : Int)) from by
      unfold sizI fourB
      rw [if_pos h4, getElem!_pos s 0 (by omega), getElem!_pos s (0 + 1) (by omega), getElem!_pos s (0 + 2) (by omega), getElem!_pos s (0 + 3) (by omega)]
      simp)
    obtain ⟨a0, hi0⟩ : ∃ a : UInt8, s[0]'(by omega) = a := ⟨_, rfl⟩
    obtain ⟨a1, hi1⟩ : ∃ a : UInt8, s[1]'(by omega) = a := ⟨_, rfl⟩
    obtain ⟨a2, hi2⟩ : ∃ a : UInt8, s[2]'(by omega) = a := ⟨_, rfl⟩
    obtain ⟨a3, hi3⟩ : ∃ a : UInt8, s[3]'(by omega) = a := ⟨_, rfl⟩
    rw [hi0, hi1, hi2, hi3] at HE
    have h0 := a0.toNat_lt
    have h1 := a1.toNat_lt
    have h2 := a2.toNat_lt
    have h3 := a3.toNat_lt
    go_enter Tryz.func96, Tryz.ntmps96
    go_wp2
    go_quiet (fail)
    go_wp2
    go_ret
    exact ⟨by rw [HE.out]; rfl, _, rfl⟩
  · rw [show sizI s = -1 from if_neg h4]
    go_enter Tryz.func96, Tryz.ntmps96
    go_wp2
    go_ret
    exact ⟨rfl, 0, rfl⟩

set_option maxHeartbeats 1000000 in
theorem rhead16_any (s : ByteArray) (w : World) (hs : s.size ≤ 9223372036854775807) :
    Calls Tryz.prog 95 #[.string s] w fun e w' => e = .returned (.bool (filmH s)) ∧ ∃ m, w' = w.drewN m := by
  by_cases h0 : 12 ≤ s.size
  · have HF := Lib.hid (fun W => rsize16_any s W hs)
    rw [show sizI s = (fourB s 0 : Int) from if_pos (by omega)] at HF
    have hn := fourB_lt s 0
    have HX := Lib.hid (filmH_far (s := s))
    have HY := Lib.hid (filmH_odd (s := s))
    have HZ := Lib.hid (fun h1 h2 => filmH_else (s := s) h0 h1 h2)
    have hft : Hid (ftypB s = ((s.extract 4 8).toList == [102, 116, 121, 112])) := by unfold ftypB; rw [show ftypS.toList = [102, 116, 121, 112] from by kernel_rfl]; exact rfl
    generalize fourB s 0 = n at *
    by_cases h1 : n ≤ s.size
    · by_cases h2 : n % 4 = 0
      · have HV := Lib.hid (HZ.out h1 h2)
        cases hc : ((s.extract 4 8).toList == [102, 116, 121, 112])
        all_goals
          have HE := Lib.hid (show filmH s = _ from HV.out.trans (hft.out.trans hc))
          rw [HE.out]
          clear HX HY HZ HV hft HE
          go_enter Tryz.func95, Tryz.ntmps95
          go_wp2_with (go_at_call 96; refine (HF.out _).mono ?_; rintro e w1 ⟨rfl, m, rfl⟩)
          go_ret
          exact ⟨rfl, _, rfl⟩
      · have HV := Lib.hid (HY.out h2)
        rw [HV.out]
        clear HX HY HZ HV hft
        go_enter Tryz.func95, Tryz.ntmps95
        go_wp2_with (go_at_call 96; refine (HF.out _).mono ?_; rintro e w1 ⟨rfl, m, rfl⟩)
        go_ret
        exact ⟨rfl, _, rfl⟩
    · have HV := Lib.hid (HX.out h1)
      rw [HV.out]
      clear HX HY HZ HV hft
      go_enter Tryz.func95, Tryz.ntmps95
      go_wp2_with (go_at_call 96; refine (HF.out _).mono ?_; rintro e w1 ⟨rfl, m, rfl⟩)
      go_ret
      exact ⟨rfl, _, rfl⟩
  · rw [filmH_short h0]
    go_enter Tryz.func95, Tryz.ntmps95
    go_wp2
    go_ret
    exact ⟨rfl, 0, rfl⟩

set_option maxHeartbeats 4000000 in
theorem rbrands16_any (s : ByteArray) (w : World) (hs : s.size ≤ 1099511627776) :
    Calls Tryz.prog 72 #[.string s] w (NewStrs (namL s (namN s)) w) := by
  obtain ⟨i0, hi, hz0, hz1, hz2⟩ := info_parts Tryz.info9
  have HH := Lib.hid (fun W => rhead16_any s W (by omega))
  have HO0 := Lib.hid (show (w.alloc (.cells #[] 9)).ownsRow w.heap.size 9 1 (.slice (some ⟨w.heap.size, 0, none⟩) 0 0) 0 [] from World.ownsRow_made w #[] 0 (Nat.le_refl _) (Nat.zero_le _) rfl)
  have HB0 := Lib.hid (show Below w.heap.size w (w.alloc (.cells #[] 9)) from (Below.refl _ _).alloc (Nat.le_refl _) _)
  have hnn := namN_le s
  cases hh : filmH s
  · have HN := Lib.hid (namN_none hh)
    rw [hh] at HH
    clear hh
    go_enter Tryz.func72, Tryz.ntmps72
    go_wp2_with (go_at_call 95; refine (HH.out _).mono ?_; rintro e w1 ⟨rfl, m, rfl⟩)
    go_ret
    rw [HN.out]
    exact ⟨_, rfl, own_below HO0.out (Below.drewN' (Below.refl _ _) _), Below.drewN' HB0.out _⟩
  · have hn1 := namN_some hh
    have hsz := (filmH_all hh).1
    have hfs := (filmH_all hh).2.1
    have HM := Lib.hid (fun j (hj : 1 ≤ j) => namN_more hh hj)
    have HS := Lib.hid (fun W => rsize16_any s W (by omega))
    rw [show sizI s = (fourB s 0 : Int) from if_pos (by omega)] at HS
    have HT0 := Lib.hid (show strs (namL s 1) = [.string (s.extract 8 12)] from rfl)
    have HP := Lib.hid (fun j (hj : j < namN s) => namP_end hj)
    rw [hh] at HH
    clear hh
    generalize fourB s 0 = n at *
    go_enter Tryz.func72, Tryz.ntmps72
    go_wp2_with fail
    refine (HH.out _).mono ?_
    rintro e w1 ⟨rfl, m, rfl⟩
    have HO1 := Lib.hid (own_below HO0.out (Below.drewN' (Below.refl _ _) m))
    have HB1 := Lib.hid (Below.drewN' HB0.out m)
    obtain ⟨x, hx⟩ : ∃ x, x = s.extract 8 12 := ⟨_, rfl⟩
    obtain ⟨w2, hw2⟩ : ∃ w2, w2 = (w.alloc (.cells #[] 9)).drewN m := ⟨_, rfl⟩
    rw [← hx] at HT0
    rw [← hw2] at HO1 HB1 ⊢
    clear hw2
    have hx' := hx.symm
    clear hx
    go_wp2_with (at_builtin; refine wpList_append_own _ rfl _ _ 27 rfl w.heap.size 9 i0 (.string ⟨#[]⟩) 1 16 Tryz.underlying27 hi hz0 hz1 hz2 rfl (by decide) _ _ _ rfl (HO1.out.alloc _) ⟨w2.heap.size, 0, none⟩ 1 1 [.string x] rfl rfl ?c1 ?c2 ?c3 ?c4 ?c5 ?_)
    case c1 =>
      intro j u hj
      match j, hj with
      | 0, hj => simp at hj; subst hj; simp [Addr.add]
    case c2 => intro u hu; simp at hu; subst hu; rfl
    case c3 => unfold maxLen; omega
    case c4 => omega
    case c5 => have := HB1.out.size; simp; omega
    intro v' w3 hown hgrow _
    have HO3 := Lib.hid (show w3.ownsRow w.heap.size 9 1 v' 1 (strs (namL s 1)) from by rw [HT0.out]; exact hown)
    have HB3 := Lib.hid (Below.grown (HB1.out.alloc HB1.out.size _) hgrow (by have := HB1.out.size; simp; omega) (fun g hg => (HO1.out.lt g hg).1))
    clear hown hgrow HO1 HB1 HT0 hx'
    go_wp2
    go_loopw [3, 4] (fun v i wr => ∃ k : Nat, 1 ≤ k ∧ k ≤ namN s ∧ i = .int .i64 ((12 + 4 * k : Nat) : Int) ∧ wr.ownsRow w.heap.size 9 1 v k (strs (namL s k)) ∧ Below w.heap.size w wr) (fun _ i _ => n + 16 - (intOf i).toNat)
    case atStart => exact ⟨1, by omega, hn1, rfl, HO3.out, HB3.out⟩
    case round =>
      obtain ⟨k, hk1, hk, rfl, hown, hb⟩ := hrel
      have HO := Lib.hid hown
      have HB := Lib.hid hb
      obtain ⟨ao, n', cap, rfl⟩ := own_slice hown
      clear hown hb HO3 HB3
      by_cases hlt : k < namN s
      · have hkn := (HM.out k hk1).1 hlt
        have hpe := HP.out k hlt
        have hpk : namP k = 12 + 4 * k := by unfold namP; rw [if_neg (by omega)]
        have HTK : Hid (namT s k = s.extract (12 + 4 * k) (12 + 4 * k + 4)) := by unfold namT; rw [hpk]; exact rfl
        have HST := Lib.hid (show strs (namL s (k + 1)) = strs (namL s k) ++ [.string (s.extract (12 + 4 * k) (12 + 4 * k + 4))] from by rw [namL, HTK.out]; simp [strs])
        rw [hpk] at hpe
        clear hpk HTK
        obtain ⟨q, hq⟩ : ∃ q, q = 12 + 4 * k := ⟨_, rfl⟩
        have HQ := Lib.hid hq
        rw [← hq] at hkn hpe HST ⊢
        have hq1 : q ≤ 140737488351232 := by omega
        clear hq
        obtain ⟨y, hy⟩ : ∃ y, s.extract q (q + 4) = y := ⟨_, rfl⟩
        rw [hy] at HST
        go_wp2_with fail
        refine (HS.out _).mono ?_
        rintro e w4 ⟨rfl, m4, rfl⟩
        have HO4 := Lib.hid (own_below HO.out (Below.drewN' (Below.refl _ _) m4))
        have HB4 := Lib.hid (Below.drewN' HB.out m4)
        generalize wr.drewN m4 = w4 at *
        go_wp2_with (at_builtin; refine wpList_append_own _ rfl _ _ 27 rfl w.heap.size 9 i0 (.string ⟨#[]⟩) 1 16 Tryz.underlying27 hi hz0 hz1 hz2 rfl (by decide) _ _ _ rfl (HO4.out.alloc _) ⟨w4.heap.size, 0, none⟩ 1 1 [.string y] rfl rfl ?d1 ?d2 ?d3 ?d4 ?d5 ?_)
        case d1 =>
          intro j u hj
          match j, hj with
          | 0, hj => simp at hj; subst hj; simp [Addr.add]
        case d2 => intro u hu; simp at hu; subst hu; rfl
        case d3 => unfold maxLen; omega
        case d4 => omega
        case d5 => have := HB4.out.size; simp; omega
        intro v' w5 hown hgrow _
        have HO5 := Lib.hid (show w5.ownsRow w.heap.size 9 1 v' (k + 1) (strs (namL s (k + 1))) from by rw [HST.out]; exact hown)
        have HB5 := Lib.hid (Below.grown (HB4.out.alloc HB4.out.size _) hgrow (by have := HB4.out.size; simp; omega) (fun g hg => (HO4.out.lt g hg).1))
        clear hown hgrow HO4 HB4 HO HB
        go_wp2
        go_roundw
        case rel => exact ⟨k + 1, by omega, by omega, by have := HQ.out; go_num, HO5.out, HB5.out⟩
        case measure => simp [intOf]; omega
      · obtain rfl : k = namN s := by omega
        have hkn : ¬(12 + 4 * namN s < n) := fun h => hlt ((HM.out _ hk1).2 h)
        obtain ⟨q, hq⟩ : ∃ q, q = 12 + 4 * namN s := ⟨_, rfl⟩
        rw [← hq] at hkn ⊢
        clear hq
        go_wp2_with fail
        refine (HS.out _).mono ?_
        rintro e w4 ⟨rfl, m4, rfl⟩
        go_wp2
        go_ret
        exact ⟨_, rfl, by rw [namL_len]; exact own_below HO.out (Below.drewN' (Below.refl _ _) _), Below.drewN' HB.out _⟩

end Go.Proofs.YtjaockmbnjflaaaGreatDoor
namespace Go.Proofs.YtjaockmbnjflaaaGreatDoor
open Go.RowKit

theorem mp4S_list : mp4S.toList = [109, 112, 52] := by kernel_rfl

set_option maxHeartbeats 2000000 in
theorem ris16_any (s : ByteArray) (w : World) (hs : s.size ≤ 1099511627776) :
    Calls Tryz.prog 46 #[.string s] w fun e w' => e = .returned (.bool (filmB s)) ∧ Below w.heap.size w w' := by
  have HR := Lib.hid (fun W => rbrands16_any s W hs)
  have hnn := namN_le s
  go_enter Tryz.func46, Tryz.ntmps46
  go_wp2_with fail
  refine (HR.out _).mono ?_
  rintro e w1 ⟨v, rfl, ho, hb⟩
  obtain ⟨A, c, rfl, htx, _⟩ := TxIn.of_own ho
  have HT := Lib.hid htx
  have HB := Lib.hid hb
  have HL := Lib.hid (namL_len s (namN s))
  have HA := Lib.hid (fun i h => namL_at s (namN s) i h)
  rw [HL.out]
  clear ho hb htx
  go_wp2
  go_loopw [4] (fun i wr => ∃ k : Nat, k ≤ namN s ∧ i = .int .i64 (k : Nat) ∧ filmA s k = false ∧ wr = w1) (fun i _ => namN s - (intOf i).toNat)
  case atStart => exact ⟨0, Nat.zero_le _, rfl, rfl, rfl⟩
  case round =>
    obtain ⟨k, hk, rfl, hf, rfl⟩ := hrel
    have HF := Lib.hid hf
    clear hf
    by_cases hlt : k < namN s
    · obtain ⟨g, rfl, hg, hc⟩ := HT.out k (by rw [HL.out]; exact hlt)
      rw [HA.out] at hc
      have hz := namT_size hlt
      have HS := Lib.hid (show filmA s (k + 1) = mp4B (namT s k) from by rw [filmA, HF.out, Bool.false_or])
      have HH := Lib.hid (fun e => filmB_here hlt e)
      have HM : Hid (mp4B (namT s k) = ((namT s k).extract 0 3).toList.beq [109, 112, 52]) := by unfold mp4B; rw [mp4S_list]; exact rfl
      generalize namT s k = x at *
      cases hb : ((x.extract 0 3).toList == [109, 112, 52])
      · have HM2 := Lib.hid (show mp4B x = false from HM.out.trans hb)
        clear HM
        go_wp2
        go_roundw
        case rel => exact ⟨k + 1, by omega, by go_num, by rw [HS.out, HM2.out], trivial⟩
        case measure => simp [intOf]; omega
      · have HM2 := Lib.hid (show mp4B x = true from HM.out.trans hb)
        clear HM
        go_wp2
        go_ret
        exact ⟨by rw [HH.out HM2.out]; rfl, HB.out⟩
    · obtain rfl : k = namN s := by omega
      go_wp2
      go_ret
      exact ⟨by unfold filmB; rw [HF.out]; rfl, HB.out⟩

end Go.Proofs.YtjaockmbnjflaaaGreatDoor
