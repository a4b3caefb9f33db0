/-
  The document's own answer for layer 18: how many bytes a frame has, its samples. No condition.
-/
import Derived.Test.YtmjkolkmpnadpaaPl
namespace Go.Proofs.Ytmjkolkmpnadpaa
open Go.RowKit

theorem odd_beq (v : Int) : (v % 2 == 1) = oddB v := by unfold oddB; rw [Bool.eq_iff_iff, beq_iff_eq, decide_eq_true_eq]

set_option maxHeartbeats 2000000 in
theorem rsize_parts (v l r q : Int) (p : Bool) (w : World) :
    Calls Try.prog 12 #[frmV ⟨v, l, r, q, p⟩] w fun e w' => e = .returned (.int .i64 (szF ⟨v, l, r, q, p⟩ : Nat)) ∧ Below w.heap.size w w' := by
  obtain ⟨d, hd⟩ : ∃ d : Nat, d = szF ⟨v, l, r, q, p⟩ := ⟨_, rfl⟩
  rw [← hd]
  have HD := Lib.hid hd
  clear hd
  have HG := Lib.hid (rgood_any ⟨v, l, r, q, p⟩)
  have HX := Lib.hid (FrmAt.new w ⟨v, l, r, q, p⟩)
  cases hg : gdB ⟨v, l, r, q, p⟩
  · rw [hg] at HG
    rw [szF_no hg] at HD
    clear hg
    go_enter Try.func12, Try.ntmps12
    go_wp2_with (go_at_call 14; (with_reducible refine (HG.out _).mono ?_); rintro e w1 ⟨rfl, hb⟩; have HX1 := Lib.hid (HX.out.step hb); clear hb)
    go_ret
    exact ⟨by rw [HD.out]; first | done | rfl, HX1.out.1⟩
  · obtain ⟨hr0, hr1, hq0, hq1, hv0, hv4⟩ := szF_parts hg
    rw [hg] at HG
    have HD2 := Lib.hid (HD.out.trans (szF_yes hg))
    clear hg HD
    obtain ⟨rn, rfl⟩ : ∃ n : Nat, r = n := ⟨r.toNat, by omega⟩
    obtain ⟨qn, rfl⟩ : ∃ n : Nat, q = n := ⟨q.toNat, by omega⟩
    simp only [Int.toNat_natCast] at HD2
    have hv2 := odd_beq v
    have hln : lenN v = match oddB v with | true => 1152 | false => 576 := rfl
    cases ho : oddB v
    all_goals
      rw [ho] at hv2 hln
      rw [hln] at HD2
      clear ho hln
      simp only [Nat.reduceDiv] at HD2
    · obtain ⟨k, hk⟩ : ∃ k, k = rn * 72 / qn := ⟨_, rfl⟩
      have hk1 : k ≤ 46080000 := by rw [hk]; exact Nat.le_trans (Nat.div_le_self _ _) (by omega)
      rw [← hk] at HD2
      have gd : ((rn : Int) * 72).tdiv qn = k := by rw [hk]; exact Int.ofNat_tdiv (rn * 72) qn
      clear hk
      cases p
      · have HD3 : Hid (d = k) := Lib.hid HD2.out
        go_enter Try.func12, Try.ntmps12
        go_wp2_with (go_at_call 14; (with_reducible refine (HG.out _).mono ?_); rintro e w1 ⟨rfl, hb⟩; have HX1 := Lib.hid (HX.out.step hb); have e0 := HX1.out.2.cell 0; have e2 := HX1.out.2.cell 2; have e3 := HX1.out.2.cell 3; have e4 := HX1.out.2.cell 4; clear hb)
        go_ret
        exact ⟨by rw [HD3.out]; first | done | rfl, HX1.out.1⟩
      · have HD3 : Hid (d = k + 1) := Lib.hid HD2.out
        go_enter Try.func12, Try.ntmps12
        go_wp2_with (go_at_call 14; (with_reducible refine (HG.out _).mono ?_); rintro e w1 ⟨rfl, hb⟩; have HX1 := Lib.hid (HX.out.step hb); have e0 := HX1.out.2.cell 0; have e2 := HX1.out.2.cell 2; have e3 := HX1.out.2.cell 3; have e4 := HX1.out.2.cell 4; clear hb)
        go_ret
        exact ⟨by rw [HD3.out]; first | done | rfl, HX1.out.1⟩
    · obtain ⟨k, hk⟩ : ∃ k, k = rn * 144 / qn := ⟨_, rfl⟩
      have hk1 : k ≤ 46080000 := by rw [hk]; exact Nat.le_trans (Nat.div_le_self _ _) (by omega)
      rw [← hk] at HD2
      have gd : ((rn : Int) * 144).tdiv qn = k := by rw [hk]; exact Int.ofNat_tdiv (rn * 144) qn
      clear hk
      cases p
      · have HD3 : Hid (d = k) := Lib.hid HD2.out
        go_enter Try.func12, Try.ntmps12
        go_wp2_with (go_at_call 14; (with_reducible refine (HG.out _).mono ?_); rintro e w1 ⟨rfl, hb⟩; have HX1 := Lib.hid (HX.out.step hb); have e0 := HX1.out.2.cell 0; have e2 := HX1.out.2.cell 2; have e3 := HX1.out.2.cell 3; have e4 := HX1.out.2.cell 4; clear hb)
        go_ret
        exact ⟨by rw [HD3.out]; first | done | rfl, HX1.out.1⟩
      · have HD3 : Hid (d = k + 1) := Lib.hid HD2.out
        go_enter Try.func12, Try.ntmps12
        go_wp2_with (go_at_call 14; (with_reducible refine (HG.out _).mono ?_); rintro e w1 ⟨rfl, hb⟩; have HX1 := Lib.hid (HX.out.step hb); have e0 := HX1.out.2.cell 0; have e2 := HX1.out.2.cell 2; have e3 := HX1.out.2.cell 3; have e4 := HX1.out.2.cell 4; clear hb)
        go_ret
        exact ⟨by rw [HD3.out]; first | done | rfl, HX1.out.1⟩
theorem rsize_any (f : Frm) (w : World) :
    Calls Try.prog 12 #[frmV f] w fun e w' => e = .returned (.int .i64 (szF f : Nat)) ∧ Below w.heap.size w w' := rsize_parts _ _ _ _ _ w

theorem rlength_parts (v l r q : Int) (p : Bool) (w : World) (h : 0 ≤ v ∧ v < 4) :
    Calls Try.prog 16 #[frmV ⟨v, l, r, q, p⟩] w fun e w' => e = .returned (.int .i64 (lenN v : Nat)) ∧ Below w.heap.size w w' := by
  have hv2 := odd_beq v
  unfold lenN
  generalize oddB v = o at *
  cases o
  all_goals
    go_enter Try.func16, Try.ntmps16
    go_wp2
    go_ret
    exact ⟨rfl, (Below.refl _ _).alloc (Nat.le_refl _) _⟩
theorem rlength_any (f : Frm) (w : World) (h : 0 ≤ f.ver ∧ f.ver < 4) :
    Calls Try.prog 16 #[frmV f] w fun e w' => e = .returned (.int .i64 (lenN f.ver : Nat)) ∧ Below w.heap.size w w' := rlength_parts _ _ _ _ _ w h

end Go.Proofs.Ytmjkolkmpnadpaa
