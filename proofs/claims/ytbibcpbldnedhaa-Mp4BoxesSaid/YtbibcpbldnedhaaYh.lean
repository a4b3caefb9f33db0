/-
  What the document's Is, Boxes and Box of layer 16 answer. Condition: the text takes at most 2^40 bytes; a box's name and contents are short.
-/
import Derived.Test.YtbibcpbldnedhaaYg
namespace Go.Proofs.Ytbibcpbldnedhaa
open Go.RowKit

theorem mp4S_list : mp4S.toList = [109, 112, 52] := by kernel_rfl

set_option maxHeartbeats 2000000 in
theorem ris16_any (s : ByteArray) (w : World) (hs : s.size ≤ 1099511627776) :
    Calls Try.prog 12 #[.string s] w fun e w' => e = .returned (.bool (filmB s)) ∧ Below w.heap.size w w' := by
  have HR := Lib.hid (fun W => rbrands16_any s W hs)
  have hnn := namN_le s
  go_enter Try.func12, Try.ntmps12
  go_wp2_with fail
  refine (HR.out _).mono ?_
  rintro e w1 ⟨v, rfl, ho, hb⟩
  obtain ⟨A, c, rfl, htx, _⟩ := TxIn.of_own ho
  have HT := Lib.hid htx
  have HB := Lib.hid hb
  have HL := Lib.hid (namL_len s (namN s))
  have HA := Lib.hid (fun i h => namL_at s (namN s) i h)
  rw [HL.out]
  clear ho hb htx
  go_wp2
  go_loopw [4] (fun i wr => ∃ k : Nat, k ≤ namN s ∧ i = .int .i64 (k : Nat) ∧ filmA s k = false ∧ wr = w1) (fun i _ => namN s - (intOf i).toNat)
  case atStart => exact ⟨0, Nat.zero_le _, rfl, rfl, rfl⟩
  case round =>
    obtain ⟨k, hk, rfl, hf, rfl⟩ := hrel
    have HF := Lib.hid hf
    clear hf
    by_cases hlt : k < namN s
    · obtain ⟨g, rfl, hg, hc⟩ := HT.out k (by rw [HL.out]; exact hlt)
      rw [HA.out] at hc
      have hz := namT_size hlt
      have HS := Lib.hid (show filmA s (k + 1) = mp4B (namT s k) from by rw [filmA, HF.out, Bool.false_or])
      have HH := Lib.hid (fun e => filmB_here hlt e)
      have HM : Hid (mp4B (namT s k) = ((namT s k).extract 0 3).toList.beq [109, 112, 52]) := by unfold mp4B; rw [mp4S_list]; exact rfl
      generalize namT s k = x at *
      cases hb : ((x.extract 0 3).toList == [109, 112, 52])
      · have HM2 := Lib.hid (show mp4B x = false from HM.out.trans hb)
        clear HM
        go_wp2
        go_roundw
        case rel => exact ⟨k + 1, by omega, by go_num, by rw [HS.out, HM2.out], trivial⟩
        case measure => simp [intOf]; omega
      · have HM2 := Lib.hid (show mp4B x = true from HM.out.trans hb)
        clear HM
        go_wp2
        go_ret
        exact ⟨by rw [HH.out HM2.out]; rfl, HB.out⟩
    · obtain rfl : k = namN s := by omega
      go_wp2
      go_ret
      exact ⟨by unfold filmB; rw [HF.out]; rfl, HB.out⟩

set_option maxHeartbeats 4000000 in
set_option maxRecDepth 100000 in
theorem rboxes16_any (s : ByteArray) (w : World) (hs : s.size ≤ 1099511627776) :
    Calls Try.prog 25 #[.string s] w (NewBxs (boxG s) w) := by
  obtain ⟨i0, hi, hz0, hz1, hz2⟩ := info_parts Try.infoBox
  rw [← boxF_all s]
  have HO0 := Lib.hid (show (w.alloc (.cells #[] 45)).ownsRow w.heap.size 45 2 (.slice (some ⟨w.heap.size, 0, none⟩) 0 0) 0 [] from World.ownsRow_made w #[] 0 (Nat.le_refl _) (Nat.zero_le _) rfl)
  have HB0 := Lib.hid (show Below w.heap.size w (w.alloc (.cells #[] 45)) from (Below.refl _ _).alloc (Nat.le_refl _) _)
  go_enter Try.func25, Try.ntmps25
  go_wp2
  go_loopw [4, 5] (fun v i wr => ∃ (k : Nat) (l : List Bx), k ≤ s.size ∧ l.length ≤ k ∧ i = .int .i64 (k : Nat) ∧ wr.ownsRow w.heap.size 45 2 v l.length (bxL l) ∧ Below w.heap.size w wr ∧ l ++ (boxF s k).1 = (boxF s 0).1 ∧ k + (boxF s k).2 = (boxF s 0).2) (fun _ i _ => s.size - (intOf i).toNat)
  case atStart => exact ⟨0, [], Nat.zero_le _, Nat.zero_le _, rfl, HO0.out, HB0.out, rfl, Nat.zero_add _⟩
  case round =>
    obtain ⟨k, l, hk, hl, rfl, hown, hm, ht, hn⟩ := hrel
    have HM := Lib.hid hm
    have HO := Lib.hid hown
    have HT0 := Lib.hid ht
    have HN0 := Lib.hid hn
    obtain ⟨ao, n', cap, rfl⟩ := own_slice hown
    clear hm hown ht hn HO0 HB0
    have hstop : ¬boxO s k → Hid (l = (boxF s 0).1 ∧ k = (boxF s 0).2) := fun h => by
      have e := boxF_none hk h
      have h1 := HT0.out
      have h2 := HN0.out
      rw [e] at h1 h2
      exact ⟨by rw [← h1]; simp, by rw [← h2]; simp⟩
    have HST := Lib.hid hstop
    clear hstop
    by_cases h8 : k + 8 ≤ s.size
    · have hxz : (s.extract k s.size).size = s.size - k := by simp
      have HS := Lib.hid (fun W => rsize16_any (s.extract k s.size) W (by omega))
      rw [show sizI (s.extract k s.size) = (fourB s k : Int) from by unfold sizI; rw [if_pos (by omega), four_tail (by omega)]] at HS
      have hn32 := fourB_lt s k
      by_cases hb1 : 8 ≤ fourB s k
      · by_cases hb2 : k + fourB s k ≤ s.size
        · have hmore := boxF_more (s := s) (k := k) ⟨h8, hb1, hb2⟩
          obtain ⟨nm, hnm⟩ : ∃ nm, s.extract (k + 4) (k + 8) = nm := ⟨_, rfl⟩
          rw [hnm] at hmore
          generalize fourB s k = n at *
          have HT := Lib.hid (show (l ++ [(⟨nm, n⟩ : Bx)]) ++ (boxF s (k + n)).1 = (boxF s 0).1 from by rw [← HT0.out, hmore]; simp)
          have HN := Lib.hid (show k + n + (boxF s (k + n)).2 = (boxF s 0).2 from by rw [← HN0.out, hmore]; simp only; omega)
          obtain ⟨rest, hrest⟩ : ∃ r, s.extract k s.size = r := ⟨_, rfl⟩
          rw [hrest] at HS
          clear hmore HT0 HN0 HST hxz
          go_wp2_with fail
          with_reducible refine (HS.out _).mono ?_
          rintro e w1 ⟨rfl, m, rfl⟩
          have HO1 := Lib.hid (own_below HO.out (Below.drewN' (Below.refl _ _) m))
          have HM1 := Lib.hid (Below.drewN' HM.out m)
          generalize wr.drewN m = w1 at *
          go_wp2_with (at_builtin; refine wpList_append_own _ rfl _ _ 35 rfl w.heap.size 45 i0 _ 2 24 Try.underlying35 hi hz0 hz1 hz2 rfl (by decide) _ _ _ rfl (HO1.out.alloc _) ⟨w1.heap.size, 0, none⟩ 1 1 [.string nm, .int .i64 (n : Nat)] rfl rfl ?c1 ?c2 ?c3 ?c4 ?c5 ?_)
          case c1 =>
            intro j u hj
            have hcb := Blk.new w1 45 #[.string nm, .int .i64 (n : Nat)]
            have e : (⟨w1.heap.size, 0, none⟩ : Addr).add j = ⟨w1.heap.size, j, none⟩ := by cases j <;> simp [Addr.add]
            rw [e, hcb.cell]
            simpa using hj
          case c2 =>
            intro u hu
            simp at hu
            rcases hu with rfl | rfl <;> rfl
          case c3 => unfold maxLen; omega
          case c4 => omega
          case c5 => have := HM1.out.size; simp; omega
          intro v' w3 hown' hgrow _
          have HO3 := Lib.hid (show w3.ownsRow w.heap.size 45 2 v' (l ++ [(⟨nm, n⟩ : Bx)]).length (bxL (l ++ [(⟨nm, n⟩ : Bx)])) from by rw [bxL_snoc]; simpa using hown')
          have HM3 := Lib.hid (Below.grown (HM1.out.alloc HM1.out.size (.cells #[.string nm, .int .i64 (n : Nat)] 45)) hgrow (by have := HM1.out.size; simp; omega) (fun g hg => (HO1.out.lt g hg).1))
          clear hown' hgrow HO1 HM1
          go_wp2
          go_roundw
          case rel => exact ⟨k + n, l ++ [⟨nm, n⟩], by omega, by simp; omega, by go_num, HO3.out, HM3.out, HT.out, HN.out⟩
          case measure => simp [intOf]; omega
        · have HE := Lib.hid ((HST.out (fun h => by have := h.2.2; omega)).out)
          generalize fourB s k = n at *
          obtain ⟨rest, hrest⟩ : ∃ r, s.extract k s.size = r := ⟨_, rfl⟩
          rw [hrest] at HS
          clear HST HT0 HN0 hxz
          go_wp2_with fail
          with_reducible refine (HS.out _).mono ?_
          rintro e w1 ⟨rfl, m, rfl⟩
          go_wp2
          exact bodyPost_ret (v := .tuple #[.slice ao n' cap, .int .i64 (k : Nat)]) (by simp [results, Try.results25, go_sem]) rfl ⟨_, by rw [← HE.out.2], by rw [← HE.out.1]; exact own_below HO.out (Below.drewN' (Below.refl _ _) _), Below.drewN' HM.out _⟩
      · have HE := Lib.hid ((HST.out (fun h => by have := h.2.1; omega)).out)
        generalize fourB s k = n at *
        obtain ⟨rest, hrest⟩ : ∃ r, s.extract k s.size = r := ⟨_, rfl⟩
        rw [hrest] at HS
        clear HST HT0 HN0 hxz
        go_wp2_with fail
        with_reducible refine (HS.out _).mono ?_
        rintro e w1 ⟨rfl, m, rfl⟩
        go_wp2
        exact bodyPost_ret (v := .tuple #[.slice ao n' cap, .int .i64 (k : Nat)]) (by simp [results, Try.results25, go_sem]) rfl ⟨_, by rw [← HE.out.2], by rw [← HE.out.1]; exact own_below HO.out (Below.drewN' (Below.refl _ _) _), Below.drewN' HM.out _⟩
    · have HE := Lib.hid ((HST.out (fun h => h8 h.1)).out)
      go_wp2
      exact bodyPost_ret (v := .tuple #[.slice ao n' cap, .int .i64 (k : Nat)]) (by simp [results, Try.results25, go_sem]) rfl ⟨_, by rw [← HE.out.2], by rw [← HE.out.1]; exact HO.out, HM.out⟩

end Go.Proofs.Ytbibcpbldnedhaa
