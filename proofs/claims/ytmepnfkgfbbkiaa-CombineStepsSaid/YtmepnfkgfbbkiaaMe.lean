/-
  What Good of package mime answers. Condition: texts are as long as a length can be.
-/
import Derived.Test.YtmepnfkgfbbkiaaMf
import Derived.Test.YtmepnfkgfbbkiaaMd
namespace Go.Proofs.Ytmepnfkgfbbkiaa
open Go.RowKit Go.Maps

abbrev goodV (fb : Nat) : Value := .func (.func 27) #[] #[.pointer (some ⟨fb, 0, none⟩)]

set_option maxHeartbeats 1000000 in
theorem good1_any (fb nb mb : Nat) (p : Prm) (xs : List ByteArray) (w : World) (hf : Blk w fb 46 #[newsV nb]) (ha : Asked w nb mb xs) (_hfm : fb ≠ mb) (hn : p.n.size ≤ 1048576) (hv : p.v.size ≤ 1048576) (hl : xs.length < 9223372036854775807) :
    Calls Try.prog 27 #[prmV p, .pointer (some ⟨fb, 0, none⟩)] w fun e w' => e = .returned (.bool (!(prmB p && !(xs.any fun y => eqS y p.n)))) ∧ Mv w.heap.size [mb] w w' ∧ Asked w' nb mb (if prmB p then xs ++ [p.n] else xs) := by
  obtain ⟨n, v⟩ := p
  have HG := Lib.hid (fun W => isGood_any ⟨n, v⟩ W (by simp only at hn ⊢; omega) (by simp only at hv ⊢; omega))
  obtain ⟨w0, hw0⟩ : ∃ w0, w0 = w.alloc (.cells #[.string n, .string v] 33) := ⟨_, rfl⟩
  have m0 : Mv w.heap.size [] w w0 := by rw [hw0]; exact (Mv.refl _ _ _).alloc (Nat.le_refl _) _
  have HM0 := Lib.hid (m0.mono (r' := [mb]) (Nat.le_refl _) (by simp))
  have HP0 := Lib.hid (show Blk w0 w.heap.size 33 #[.string n, .string v] from by rw [hw0]; exact Blk.new _ _ _)
  have hfl := hf.lt
  have hnl := ha.1.lt
  have hml : mb < w.heap.size := ha.2.1.lt
  have HF0 := Lib.hid (hf.mv m0 hfl (by simp))
  have HA0 := Lib.hid (ha.mv m0 hnl hml (by simp) (by simp))
  have c0 := HP0.out.cell 0
  have c1 := HP0.out.cell 1
  clear m0 hf ha
  cases hg : prmB ⟨n, v⟩
  · rw [hg] at HG
    rw [Bool.false_and, if_neg (by simp)]
    clear hg
    go_enter Try.func27, Try.ntmps27
    go_wp2_with fail
    rw [← hw0]
    clear hw0
    go_wp2_with (go_at_call 19; (with_reducible refine (HG.out _).mono ?_); rintro e w1 ⟨rfl, b1⟩; have B1 := Lib.hid b1; clear b1)
    go_ret
    have m1 := Mv.of_below B1.out [mb]
    exact ⟨rfl, HM0.out.chain m1 (Nat.le_refl _), HA0.out.mv (Mv.of_below B1.out []) (by have := HM0.out.size; omega) (by have := HM0.out.size; omega) (by simp) (by simp)⟩
  · rw [hg] at HG
    rw [Bool.true_and, if_pos rfl]
    have HN := Lib.hid (fun W (hW : Asked W nb mb xs) => news1_any nb mb n xs W hW (by simp only at hn ⊢; omega) hl)
    clear hg
    simp only
    generalize (xs.any fun y => eqS y n) = d at *
    go_enter Try.func27, Try.ntmps27
    go_wp2_with fail
    rw [← hw0]
    clear hw0
    refine (HG.out _).mono ?_
    rintro e w1 ⟨rfl, b1⟩
    have m1 := Mv.of_below b1 [mb]
    have HM1 := Lib.hid (HM0.out.chain m1 (Nat.le_refl _))
    have HA1 := Lib.hid (HA0.out.mv (Mv.of_below b1 []) (by have := HM0.out.size; omega) (by have := HM0.out.size; omega) (by simp) (by simp))
    have HP1 := Lib.hid (HP0.out.below b1 HP0.out.lt)
    have HF1 := Lib.hid (HF0.out.below b1 HF0.out.lt)
    clear b1 m1 HM0 HA0 HP0 HF0 c0 c1
    have c0 := HP1.out.cell 0
    have d0 := HF1.out.cell 0
    go_wp2_with fail
    refine (HN.out _ HA1.out).mono ?_
    rintro e w2 ⟨rfl, m2, a2⟩
    have HM2 := Lib.hid (HM1.out.chain m2 (Nat.le_refl _))
    have HA2 := Lib.hid a2
    clear m2 a2
    go_wp2
    go_ret
    exact ⟨by rw [Bool.not_not]; rfl, HM2.out, HA2.out⟩

set_option maxHeartbeats 2000000 in
set_option maxRecDepth 100000 in
theorem indexFunc_any (fb nb mb c : Nat) (A : Option Addr) (ps : List Prm) (w : World) (hp : PsIn w A ps) (hall : AllIn 1048576 ps) (hf : Blk w fb 46 #[newsV nb]) (ha : Asked w nb mb []) (hfm : fb ≠ mb) (hpm : ∀ g, A = some ⟨g, 0, none⟩ → 0 < ps.length → g ≠ mb) (hn : ps.length < 9223372036854775807) :
    Calls Try.prog 39 #[.slice A ps.length c, goodV fb] w fun e w' => ∃ r : Int, e = .returned (.int .i64 r) ∧ decide (0 ≤ r) = !goodL [] ps ∧ Mv w.heap.size [mb] w w' := by
  have hfl := hf.lt
  have hnl := ha.1.lt
  have hnm := ha.2.2
  have hml : mb < w.heap.size := ha.2.1.lt
  have HP := Lib.hid hp
  have HF := Lib.hid hf
  have HA := Lib.hid ha
  have HL := Lib.hid hall
  have HPM := Lib.hid hpm
  obtain ⟨G, hG⟩ : ∃ G, G = goodL [] ps := ⟨_, rfl⟩
  rw [← hG]
  clear hp hf ha hall hpm
  go_enter Try.func39, Try.ntmps39
  go_wp2
  go_loopw [8] (fun i wr => ∃ (k : Nat) (xs : List ByteArray), k ≤ ps.length ∧ i = .int .i64 k ∧ goodL (ps.take k) (ps.drop k) = G ∧ xs.length ≤ k ∧ Known xs (ps.take k) ∧ Asked wr nb mb xs ∧ Mv w.heap.size [mb] w wr) (fun i _ => ps.length - (intOf i).toNat)
  case atStart => exact ⟨0, [], Nat.zero_le _, rfl, hG.symm, Nat.zero_le _, fun _ => rfl, HA.out, Mv.refl _ _ _⟩
  case round =>
    obtain ⟨k, xs, hk, rfl, hgo, hxl, hkn, hask, hmv⟩ := hrel
    have HKN := Lib.hid hkn
    have HK := Lib.hid hask
    have HM := Lib.hid hmv
    clear hkn hask hmv HA
    by_cases hlt : k < ps.length
    · obtain ⟨g, rfl, hg1, hc0, hc1⟩ := HP.out k hlt
      have hgm := HPM.out g rfl (by omega)
      have c0 := (HM.out.cell (p := ⟨g, k * 2, none⟩) hg1 (by simp; omega)).trans hc0
      have c1 := (HM.out.cell (p := ⟨g, k * 2 + 1, none⟩) hg1 (by simp; omega)).trans hc1
      have hsz := HL.out.at_ hlt
      have HF2 := Lib.hid (HF.out.mv HM.out hfl (by simp; omega))
      have HC := Lib.hid (fun W (h1 : Blk W fb 46 #[newsV nb]) (h2 : Asked W nb mb xs) => good1_any fb nb mb ps[k] xs W h1 h2 hfm hsz.1 hsz.2 (by omega))
      rw [HKN.out ps[k].n] at HC
      rw [goodL_step hlt] at hgo
      have HKS := Lib.hid (fun (h : seenB (ps.take k) ps[k].n = false) => (show Known (xs ++ [ps[k].n]) (ps.take (k + 1)) from by rw [take_succ_eq hlt]; exact HKN.out.new ps[k]))
      clear hc0 hc1
      cases hpr : prmB ps[k] && !seenB (ps.take k) ps[k].n
      · rw [hpr, Bool.false_and] at hgo
        rw [hpr] at HC
        have HGG := Lib.hid hgo
        clear hgo hpr HKN HKS HP
        generalize ps[k] = q at *
        obtain ⟨qn, qv⟩ := q
        go_wp2_with fail
        refine (HC.out _ HF2.out HK.out).mono ?_
        rintro e w1 ⟨rfl, m1, _⟩
        have HM1 := Lib.hid (HM.out.chain m1 (Nat.le_refl _))
        clear m1
        go_wp2
        go_ret
        exact ⟨_, rfl, by rw [← HGG.out]; simp, HM1.out⟩
      · rw [hpr, Bool.true_and] at hgo
        rw [hpr] at HC
        rw [Bool.and_eq_true] at hpr
        have h1 := hpr.1
        have h2 : seenB (ps.take k) ps[k].n = false := by simpa using hpr.2
        rw [h1, if_pos rfl] at HC
        have HGG := Lib.hid hgo
        have HK2 := Lib.hid (HKS.out h2)
        clear hgo hpr HKN HKS HP h1 h2
        generalize ps[k] = q at *
        obtain ⟨qn, qv⟩ := q
        go_wp2_with fail
        refine (HC.out _ HF2.out HK.out).mono ?_
        rintro e w1 ⟨rfl, m1, a1⟩
        have HM1 := Lib.hid (HM.out.chain m1 (Nat.le_refl _))
        have HA1 := Lib.hid a1
        clear m1 a1
        go_wp2
        go_roundw
        case rel => exact ⟨k + 1, xs ++ [qn], by omega, by go_num, HGG.out, by simp; omega, HK2.out, HA1.out, HM1.out⟩
        case measure => simp [intOf]; omega
    · obtain rfl : k = ps.length := by omega
      rw [goodL_all] at hgo
      have HGG := Lib.hid hgo
      clear hgo
      go_wp2
      go_ret
      exact ⟨_, rfl, by rw [← HGG.out]; rfl, HM.out⟩

set_option maxHeartbeats 1000000 in
theorem contains_any (fb nb mb c : Nat) (A : Option Addr) (ps : List Prm) (w : World) (hp : PsIn w A ps) (hall : AllIn 1048576 ps) (hf : Blk w fb 46 #[newsV nb]) (ha : Asked w nb mb []) (hfm : fb ≠ mb) (hpm : ∀ g, A = some ⟨g, 0, none⟩ → 0 < ps.length → g ≠ mb) (hn : ps.length < 9223372036854775807) :
    Calls Try.prog 26 #[.slice A ps.length c, goodV fb] w fun e w' => e = .returned (.bool (!goodL [] ps)) ∧ Mv w.heap.size [mb] w w' := by
  have HC := Lib.hid (indexFunc_any fb nb mb c A ps w hp hall hf ha hfm hpm hn)
  generalize goodL [] ps = G at *
  go_enter Try.func26, Try.ntmps26
  go_wp2_with fail
  refine HC.out.mono ?_
  rintro e w1 ⟨r, rfl, hr, m1⟩
  go_wp2
  go_ret
  exact ⟨by rw [← hr]; rfl, m1⟩

end Go.Proofs.Ytmepnfkgfbbkiaa
