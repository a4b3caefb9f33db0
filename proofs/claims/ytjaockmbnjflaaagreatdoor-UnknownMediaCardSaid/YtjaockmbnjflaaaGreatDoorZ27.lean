/-
  The document's own answer for layer 18: how many bytes a frame has, its samples. No condition.
  The document's own answer for layer 18: the head of a frame. Condition: the text is not longer than memory.
  The document's own answer for layer 18: the next frame, and whether a text is a sound. Condition: the text is not longer than memory.
-/
import Derived.Test.YtjaockmbnjflaaaGreatDoorZ26
namespace Go.Proofs.YtjaockmbnjflaaaGreatDoor
open Go.RowKit

theorem odd_beq (v : Int) : (v % 2 == 1) = oddB v := by unfold oddB; rw [Bool.eq_iff_iff, beq_iff_eq, decide_eq_true_eq]

set_option maxHeartbeats 2000000 in
theorem rsize_parts (v l r q : Int) (p : Bool) (w : World) :
    Calls Tryz.prog 97 #[frmV ⟨v, l, r, q, p⟩] w fun e w' => e = .returned (.int .i64 (szF ⟨v, l, r, q, p⟩ : Nat)) ∧ Below w.heap.size w w' := by
  obtain ⟨d, hd⟩ : ∃ d : Nat, d = szF ⟨v, l, r, q, p⟩ := ⟨_, rfl⟩
  rw [← hd]
  have HD := Lib.hid hd
  clear hd
  have HG := Lib.hid (rfgood_any ⟨v, l, r, q, p⟩)
  have HX := Lib.hid (FrmAt.new w ⟨v, l, r, q, p⟩)
  cases hg : gdB ⟨v, l, r, q, p⟩
  · rw [hg] at HG
    rw [szF_no hg] at HD
    clear hg
    go_enter Tryz.func97, Tryz.ntmps97
    go_wp2_with (go_at_call 120; (with_reducible refine (HG.out _).mono ?_); rintro e w1 ⟨rfl, hb⟩; have HX1 := Lib.hid (HX.out.step hb); clear hb)
    go_ret
    exact ⟨by rw [HD.out]; first | done | rfl, HX1.out.1⟩
  · obtain ⟨hr0, hr1, hq0, hq1, hv0, hv4⟩ := szF_parts hg
    rw [hg] at HG
    have HD2 := Lib.hid (HD.out.trans (szF_yes hg))
    clear hg HD
    obtain ⟨rn, rfl⟩ : ∃ n : Nat, r = n := ⟨r.toNat, by omega⟩
    obtain ⟨qn, rfl⟩ : ∃ n : Nat, q = n := ⟨q.toNat, by omega⟩
    simp only [Int.toNat_natCast] at HD2
    have hv2 := odd_beq v
    have hln : lenN v = match oddB v with | true => 1152 | false => 576 := rfl
    cases ho : oddB v
    all_goals
      rw [ho] at hv2 hln
      rw [hln] at HD2
      clear ho hln
      simp only [Nat.reduceDiv] at HD2
    · obtain ⟨k, hk⟩ : ∃ k, k = rn * 72 / qn := ⟨_, rfl⟩
      have hk1 : k ≤ 46080000 := by rw [hk]; exact Nat.le_trans (Nat.div_le_self _ _) (by omega)
      rw [← hk] at HD2
      have gd : ((rn : Int) * 72).tdiv qn = k := by rw [hk]; exact Int.ofNat_tdiv (rn * 72) qn
      clear hk
      cases p
      · have HD3 : Hid (d = k) := Lib.hid HD2.out
        go_enter Tryz.func97, Tryz.ntmps97
        go_wp2_with (go_at_call 120; (with_reducible refine (HG.out _).mono ?_); rintro e w1 ⟨rfl, hb⟩; have HX1 := Lib.hid (HX.out.step hb); have e0 := HX1.out.2.cell 0; have e2 := HX1.out.2.cell 2; have e3 := HX1.out.2.cell 3; have e4 := HX1.out.2.cell 4; clear hb)
        go_ret
        exact ⟨by rw [HD3.out]; first | done | rfl, HX1.out.1⟩
      · have HD3 : Hid (d = k + 1) := Lib.hid HD2.out
        go_enter Tryz.func97, Tryz.ntmps97
        go_wp2_with (go_at_call 120; (with_reducible refine (HG.out _).mono ?_); rintro e w1 ⟨rfl, hb⟩; have HX1 := Lib.hid (HX.out.step hb); have e0 := HX1.out.2.cell 0; have e2 := HX1.out.2.cell 2; have e3 := HX1.out.2.cell 3; have e4 := HX1.out.2.cell 4; clear hb)
        go_ret
        exact ⟨by rw [HD3.out]; first | done | rfl, HX1.out.1⟩
    · obtain ⟨k, hk⟩ : ∃ k, k = rn * 144 / qn := ⟨_, rfl⟩
      have hk1 : k ≤ 46080000 := by rw [hk]; exact Nat.le_trans (Nat.div_le_self _ _) (by omega)
      rw [← hk] at HD2
      have gd : ((rn : Int) * 144).tdiv qn = k := by rw [hk]; exact Int.ofNat_tdiv (rn * 144) qn
      clear hk
      cases p
      · have HD3 : Hid (d = k) := Lib.hid HD2.out
        go_enter Tryz.func97, Tryz.ntmps97
        go_wp2_with (go_at_call 120; (with_reducible refine (HG.out _).mono ?_); rintro e w1 ⟨rfl, hb⟩; have HX1 := Lib.hid (HX.out.step hb); have e0 := HX1.out.2.cell 0; have e2 := HX1.out.2.cell 2; have e3 := HX1.out.2.cell 3; have e4 := HX1.out.2.cell 4; clear hb)
        go_ret
        exact ⟨by rw [HD3.out]; first | done | rfl, HX1.out.1⟩
      · have HD3 : Hid (d = k + 1) := Lib.hid HD2.out
        go_enter Tryz.func97, Tryz.ntmps97
        go_wp2_with (go_at_call 120; (with_reducible refine (HG.out _).mono ?_); rintro e w1 ⟨rfl, hb⟩; have HX1 := Lib.hid (HX.out.step hb); have e0 := HX1.out.2.cell 0; have e2 := HX1.out.2.cell 2; have e3 := HX1.out.2.cell 3; have e4 := HX1.out.2.cell 4; clear hb)
        go_ret
        exact ⟨by rw [HD3.out]; first | done | rfl, HX1.out.1⟩
theorem rsize_any (f : Frm) (w : World) :
    Calls Tryz.prog 97 #[frmV f] w fun e w' => e = .returned (.int .i64 (szF f : Nat)) ∧ Below w.heap.size w w' := rsize_parts _ _ _ _ _ w

end Go.Proofs.YtjaockmbnjflaaaGreatDoor
namespace Go.Proofs.YtjaockmbnjflaaaGreatDoor
open Go.RowKit

set_option maxHeartbeats 2000000 in
set_option maxRecDepth 100000 in
theorem rhead_mark (s : ByteArray) (w : World) (hs : s.size ≤ 9223372036854775807) (h4 : 4 ≤ s.size) (h0 : s[0]!.toNat = 255) (c0 : 224 ≤ s[1]!.toNat) :
    Calls Tryz.prog 77 #[.string s] w fun e w' => e = .returned (frmV (hdF s)) ∧ Below w.heap.size w w' := by
  obtain ⟨d, hd⟩ : ∃ d, d = hdF s := ⟨_, rfl⟩
  obtain ⟨o, ho⟩ : ∃ o, o = hdO s := ⟨_, rfl⟩
  rw [← hd]
  have HD := Lib.hid (show d = if o = true then hedF s[1]! s[2]! else zeroF from by rw [hd, ho]; rfl)
  have HO := Lib.hid (ho.trans (hdO_mark h4 h0 c0))
  clear hd ho
  obtain ⟨x, hx, ex⟩ : ∃ x : UInt8, s[0]'(by omega) = x ∧ Hid (s[0]! = x) := ⟨_, rfl, Lib.hid (getElem!_pos s 0 (by omega))⟩
  obtain ⟨b, hb, eb⟩ : ∃ x : UInt8, s[1]'(by omega) = x ∧ Hid (s[1]! = x) := ⟨_, rfl, Lib.hid (getElem!_pos s 1 (by omega))⟩
  obtain ⟨c, hc, ec⟩ : ∃ x : UInt8, s[2]'(by omega) = x ∧ Hid (s[2]! = x) := ⟨_, rfl, Lib.hid (getElem!_pos s 2 (by omega))⟩
  rw [ex.out] at h0
  rw [eb.out] at c0
  rw [eb.out, ec.out] at HD HO
  unfold hedF at HD
  have g4 : ¬ ((s.size : Int) < 4) := by omega
  have hb8 := b.toNat_lt
  have hc8 := c.toNat_lt
  have k1 : ¬ ((b.toNat : Int) < 224) := by omega
  have a1 : (b.toNat : Int) / 8 % 4 = ((b.toNat / 8 % 4 : Nat) : Int) := by omega
  have a2 : (b.toNat : Int) / 2 % 4 = ((b.toNat / 2 % 4 : Nat) : Int) := by omega
  have a3 : (c.toNat : Int) / 2 % 2 = ((c.toNat / 2 % 2 : Nat) : Int) := by omega
  have a4 := div_16 c
  have a5 : (c.toNat : Int) / 4 % 4 = ((c.toNat / 4 % 4 : Nat) : Int) := by omega
  obtain ⟨v, hv⟩ : ∃ v, v = b.toNat / 8 % 4 := ⟨_, rfl⟩
  obtain ⟨y, hy⟩ : ∃ v, v = b.toNat / 2 % 4 := ⟨_, rfl⟩
  obtain ⟨r, hr⟩ : ∃ v, v = c.toNat / 16 := ⟨_, rfl⟩
  obtain ⟨q, hq⟩ : ∃ v, v = c.toNat / 4 % 4 := ⟨_, rfl⟩
  obtain ⟨z, hz⟩ : ∃ v, v = c.toNat / 2 % 2 := ⟨_, rfl⟩
  have hv4 : v < 4 := by omega
  have hy4 : y < 4 := by omega
  have hr16 : r < 16 := by omega
  have hq4 : q < 4 := by omega
  have hz2 : z < 2 := by omega
  rw [← hv, ← hr, ← hq, ← hz] at HD
  rw [← hy, ← hr, ← hq] at HO
  rw [← hv] at a1
  rw [← hy] at a2
  rw [← hz] at a3
  rw [← hr] at a4
  rw [← hq] at a5
  clear hv hy hr hq hz
  obtain ⟨L, hL⟩ : ∃ L : Int, 4 - (y : Int) = L := ⟨_, rfl⟩
  have hL1 : 1 ≤ L ∧ L ≤ 4 := by omega
  obtain ⟨p, hp⟩ : ∃ p : Bool, ((z : Int) == 1) = p := ⟨_, rfl⟩
  have HP := Lib.hid (show decide (z = 1) = p from by rw [← hp, Bool.eq_iff_iff, decide_eq_true_eq, beq_iff_eq]; omega)
  rw [HP.out] at HD
  by_cases hok : L = 3 ∧ r < 15 ∧ q < 3
  · obtain ⟨rfl, hr15, hq3⟩ := hok
    have HO2 : Hid (o = true) := Lib.hid (by rw [HO.out, decide_eq_true (show y = 1 by omega), decide_eq_true hr15, decide_eq_true hq3]; rfl)
    have HD2 : Hid (d = ⟨(v : Nat), 3, (ratN (oddB v) r : Nat), (freN q : Nat), p⟩) := Lib.hid (by rw [HD.out, HO2.out]; rfl)
    have HR := Lib.hid (fun W => rrate_any v r W ⟨by omega, by omega⟩ hr15)
    have HF := Lib.hid (fun W => rfreq_any q W hq3)
    generalize ratN (oddB v) r = rt at *
    generalize freN q = fq at *
    have j1 : ((r : Int) == 15) = false := by rw [beq_eq_false_iff_ne]; omega
    have j2 : ((q : Int) == 3) = false := by rw [beq_eq_false_iff_ne]; omega
    clear HD HO
    go_enter Tryz.func77, Tryz.ntmps77
    go_wp2
    go_quiet (fail)
    go_wp2_with (first
      | (go_at_call 98; (with_reducible refine (HR.out _).mono ?_); rintro e w1 ⟨rfl, hb⟩; have HB1 := Lib.hid ((Below.drewN' ((Below.refl w.heap.size w).alloc (Nat.le_refl _) _) _).trans (hb.mono (by exact Nat.le_of_lt (Blk.new w _ _).lt))); have hk : Blk w1 w.heap.size 57 #[.int .i64 0, .int .i64 0, .int .i64 0, .int .i64 0, .bool false] := (Blk.below (by exact Blk.new w _ _) hb (by exact (Blk.new w _ _).lt)); have HK := Lib.hid hk; have y0 := hk.frozen 0; have y1 := hk.frozen 1; have y2 := hk.frozen 2; have y3 := hk.frozen 3; have y4 := hk.frozen 4; have r0 := hk.cell 0; have r1 := hk.cell 1; have r2 := hk.cell 2; have r3 := hk.cell 3; have r4 := hk.cell 4; clear hb hk)
      | (go_at_call 99; (with_reducible refine (HF.out _).mono ?_); rintro e w2 ⟨rfl, rfl⟩))
    clear y0 y1 y2 y3 y4 r0 r1 r2 r3 r4
    have HZ := Lib.hid (Blk.set5 HK.out (.int .i64 (v : Nat)) (.int .i64 3) (.int .i64 (rt : Nat)) (.int .i64 (fq : Nat)) (.bool p))
    have HB := Lib.hid (Below.set5 HB1.out (Nat.le_refl _) (.int .i64 (v : Nat)) (.int .i64 3) (.int .i64 (rt : Nat)) (.int .i64 (fq : Nat)) (.bool p))
    generalize ((((w1.setCell ⟨w.heap.size, 0, none⟩ (.int .i64 (v : Nat))).setCell ⟨w.heap.size, 1, none⟩ (.int .i64 3)).setCell ⟨w.heap.size, 2, none⟩ (.int .i64 (rt : Nat))).setCell ⟨w.heap.size, 3, none⟩ (.int .i64 (fq : Nat))).setCell ⟨w.heap.size, 4, none⟩ (.bool p) = W2 at *
    have s0 := HZ.out.cell 0
    have s1 := HZ.out.cell 1
    have s2 := HZ.out.cell 2
    have s3 := HZ.out.cell 3
    have s4 := HZ.out.cell 4
    refine bodyPost_ret (v := frmV ⟨(v : Nat), 3, (rt : Nat), (fq : Nat), p⟩) ?_ rfl ⟨by rw [HD2.out], HB.out⟩
    simp at s0 s1 s2 s3 s4
    simp [results, Tryz.results77, go_sem, s0, s1, s2, s3, s4]
  · have HO2 : Hid (o = false) := Lib.hid (by
      rw [HO.out]
      by_cases h1 : y = 1
      · by_cases h2 : r < 15
        · rw [decide_eq_false (show ¬ q < 3 from fun h3 => hok ⟨by omega, h2, h3⟩)]; simp
        · rw [decide_eq_false h2]; simp
      · rw [decide_eq_false h1]; simp)
    have HD2 : Hid (d = zeroF) := Lib.hid (by rw [HD.out, HO2.out]; rfl)
    have hcase : (L != 3) = true ∨ (L = 3 ∧ ((r : Int) == 15) = true) ∨ (L = 3 ∧ ((r : Int) == 15) = false ∧ ((q : Int) == 3) = true) := by simp only [bne_iff_ne, beq_iff_eq, beq_eq_false_iff_ne]; omega
    clear hok HD HO
    rcases hcase with h1 | ⟨rfl, h1⟩ | ⟨rfl, h1, h2⟩
    all_goals
      go_enter Tryz.func77, Tryz.ntmps77
      go_wp2
      go_quiet (fail)
      rename_i nq _ _
      go_wp2
      have HZ := Lib.hid (Blk.set5 (show Blk ((w.alloc (.cells #[.int .i64 0, .int .i64 0, .int .i64 0, .int .i64 0, .bool false] 57)).drewN nq) w.heap.size 57 #[.int .i64 0, .int .i64 0, .int .i64 0, .int .i64 0, .bool false] from Blk.new w _ _) (.int .i64 0) (.int .i64 0) (.int .i64 0) (.int .i64 0) (.bool false))
      have HB := Lib.hid (Below.set5 (show Below w.heap.size w ((w.alloc (.cells #[.int .i64 0, .int .i64 0, .int .i64 0, .int .i64 0, .bool false] 57)).drewN nq) from Below.drewN' ((Below.refl w.heap.size w).alloc (Nat.le_refl _) _) _) (Nat.le_refl _) (.int .i64 0) (.int .i64 0) (.int .i64 0) (.int .i64 0) (.bool false))
      generalize ((((((w.alloc (.cells #[.int .i64 0, .int .i64 0, .int .i64 0, .int .i64 0, .bool false] 57)).drewN nq).setCell ⟨w.heap.size, 0, none⟩ (.int .i64 0)).setCell ⟨w.heap.size, 1, none⟩ (.int .i64 0)).setCell ⟨w.heap.size, 2, none⟩ (.int .i64 0)).setCell ⟨w.heap.size, 3, none⟩ (.int .i64 0)).setCell ⟨w.heap.size, 4, none⟩ (.bool false) = W2 at *
      have s0 := HZ.out.cell 0
      have s1 := HZ.out.cell 1
      have s2 := HZ.out.cell 2
      have s3 := HZ.out.cell 3
      have s4 := HZ.out.cell 4
      refine bodyPost_ret (v := frmV zeroF) ?_ rfl ⟨by rw [HD2.out], HB.out⟩
      simp at s0 s1 s2 s3 s4
      simp [results, Tryz.results77, go_sem, s0, s1, s2, s3, s4, zeroF]

set_option maxHeartbeats 2000000 in
theorem rhead_any (s : ByteArray) (w : World) (hs : s.size ≤ 9223372036854775807) :
    Calls Tryz.prog 77 #[.string s] w fun e w' => e = .returned (frmV (hdF s)) ∧ Below w.heap.size w w' := by
  by_cases hok : 4 ≤ s.size ∧ s[0]!.toNat = 255 ∧ 224 ≤ s[1]!.toNat
  · exact rhead_mark s w hs hok.1 hok.2.1 hok.2.2
  · have ho : hdO s = false := by
      cases h : hdO s
      · rfl
      · obtain ⟨h4, h0, hb⟩ := hdO_all h
        exact absurd ⟨h4, h0, (hedB_all hb).1⟩ hok
    rw [hdF_no ho]
    clear ho
    by_cases h4 : 4 ≤ s.size
    · obtain ⟨x, hx, ex⟩ : ∃ x : UInt8, s[0]'(by omega) = x ∧ s[0]! = x := ⟨_, rfl, getElem!_pos s 0 (by omega)⟩
      obtain ⟨b, hb, eb⟩ : ∃ x : UInt8, s[1]'(by omega) = x ∧ s[1]! = x := ⟨_, rfl, getElem!_pos s 1 (by omega)⟩
      rw [ex, eb] at hok
      have hb8 := b.toNat_lt
      clear ex eb
      have g4 : decide ((s.size : Int) < 4) = false := by simp; omega
      by_cases h0 : x.toNat = 255
      · have k1 : (b.toNat : Int) < 224 := by omega
        clear hok
        go_enter Tryz.func77, Tryz.ntmps77
        go_wp2
        exact bodyPost_ret (v := frmV zeroF) (by simp [results, Tryz.results77, go_sem, zeroF]) rfl ⟨rfl, (Below.refl w.heap.size w).alloc (Nat.le_refl _) _⟩
      · have k1 : ((x.toNat : Int) != 255) = true := by rw [bne_iff_ne]; omega
        clear hok
        go_enter Tryz.func77, Tryz.ntmps77
        go_wp2
        exact bodyPost_ret (v := frmV zeroF) (by simp [results, Tryz.results77, go_sem, zeroF]) rfl ⟨rfl, (Below.refl w.heap.size w).alloc (Nat.le_refl _) _⟩
    · clear hok
      go_enter Tryz.func77, Tryz.ntmps77
      go_wp2
      exact bodyPost_ret (v := frmV zeroF) (by simp [results, Tryz.results77, go_sem, zeroF]) rfl ⟨rfl, (Below.refl w.heap.size w).alloc (Nat.le_refl _) _⟩

end Go.Proofs.YtjaockmbnjflaaaGreatDoor
namespace Go.Proofs.YtjaockmbnjflaaaGreatDoor
open Go.RowKit

set_option maxHeartbeats 1000000 in
theorem rnext_any (s : ByteArray) (w : World) (hs : s.size ≤ 9223372036854775807) :
    Calls Tryz.prog 76 #[.string s] w fun e w' => e = .returned (.int .i64 (nxN s : Nat)) ∧ Below w.heap.size w w' := by
  obtain ⟨k, hk⟩ : ∃ k, k = nxN s := ⟨_, rfl⟩
  rw [← hk]
  have HK := Lib.hid hk
  clear hk
  have HH := Lib.hid (fun W => rhead_any s W hs)
  have HS := Lib.hid (fun W => rsize_any (hdF s) W)
  have hz := szF_le (hdF s)
  have HY := Lib.hid (nxN_yes (s := s))
  have HN := Lib.hid (nxN_no (s := s))
  generalize szF (hdF s) = n at *
  obtain ⟨v, l, r, q, p, hf⟩ := frm_form (hdF s)
  rw [hf] at HH HS
  clear hf
  have hcase : (n < 4 ∧ Hid (k = 0)) ∨ (4 ≤ n ∧ s.size < n ∧ Hid (k = 0)) ∨ (4 ≤ n ∧ n ≤ s.size ∧ Hid (k = n)) := by
    by_cases c1 : 4 ≤ n
    · by_cases c2 : n ≤ s.size
      · exact .inr (.inr ⟨c1, c2, Lib.hid (HK.out.trans (HY.out c1 c2))⟩)
      · exact .inr (.inl ⟨c1, by omega, Lib.hid (HK.out.trans (HN.out (fun h => c2 h.2)))⟩)
    · exact .inl ⟨by omega, Lib.hid (HK.out.trans (HN.out (fun h => c1 h.1)))⟩
  clear HK HY HN
  rcases hcase with ⟨c1, HE⟩ | ⟨c1, c2, HE⟩ | ⟨c1, c2, HE⟩
  all_goals
    go_enter Tryz.func76, Tryz.ntmps76
    go_wp2_with (first
      | (go_at_call 77; (with_reducible refine (HH.out _).mono ?_); rintro e w1 ⟨rfl, hb⟩; have HB1 := Lib.hid hb; clear hb)
      | (go_at_call 97; (with_reducible refine (HS.out _).mono ?_); rintro e w2 ⟨rfl, hb⟩; have HB2 := Lib.hid (HB1.out.trans (hb.mono HB1.out.size)); clear hb))
    go_ret
    exact ⟨by rw [HE.out]; first | done | rfl, HB2.out⟩

theorem field_freq (v l r q : Int) (p : Bool) (W : World) : (Instr.field 57 (.agg #[.int .i64 v, .int .i64 l, .int .i64 r, .int .i64 q, .bool p]) 3).run Tryz.prog W = .ok (.int .i64 q) W := by
  simp [Instr.field, go_sem, part, asAgg]

theorem freq_pos (x : ByteArray) : decide (0 < (hdF x).freq) = hdO x := by
  cases h : hdO x
  · rw [hdF_no h]; rfl
  · have := gdB_all ((hdF_good x).trans h)
    exact decide_eq_true (by omega)

set_option maxHeartbeats 1000000 in
theorem ris18_any (s : ByteArray) (w : World) (hs : s.size ≤ 9223372036854775807) :
    Calls Tryz.prog 48 #[.string s] w fun e w' => e = .returned (.bool (isO s)) ∧ Below w.heap.size w w' := by
  obtain ⟨d, hd⟩ : ∃ d, d = isO s := ⟨_, rfl⟩
  rw [← hd]
  have HD := Lib.hid hd
  clear hd
  have HF := Lib.hid (fun W => rnext_any s W hs)
  have hn := nxN_le s
  by_cases h0 : nxN s = 0
  · have HD2 : Hid (d = false) := Lib.hid (by rw [HD.out]; unfold isO; rw [decide_eq_false (fun h => h h0)]; rfl)
    rw [h0] at HF
    go_enter Tryz.func48, Tryz.ntmps48
    go_wp2_with (go_at_call 76; (with_reducible refine (HF.out _).mono ?_); rintro e w1 ⟨rfl, hb⟩; have HB1 := Lib.hid hb; clear hb)
    go_ret
    exact ⟨by rw [HD2.out]; first | done | rfl, HB1.out⟩
  · have HH := Lib.hid (fun W => rhead_any (s.extract (nxN s) s.size) W (by rw [ByteArray.size_extract]; omega))
    have HD2 : Hid (d = hdO (s.extract (nxN s) s.size)) := Lib.hid (by rw [HD.out]; unfold isO; rw [decide_eq_true h0, Bool.true_and])
    clear HD
    obtain ⟨x, hx⟩ : ∃ x, s.extract (nxN s) s.size = x := ⟨_, rfl⟩
    rw [hx] at HD2 HH
    have hp := freq_pos x
    generalize hdF x = f at *
    obtain ⟨v, l, r, q, p⟩ := f
    have hq : decide (0 < q) = hdO x := hp
    clear hp
    generalize hdO x = o at *
    generalize nxN s = n at *
    have HH2 : Hid (∀ W, Calls Tryz.prog 77 #[.string x] W fun e w' => e = .returned (.agg #[.int .i64 v, .int .i64 l, .int .i64 r, .int .i64 q, .bool p]) ∧ Below W.heap.size W w') := HH
    have hfd := field_freq v l r q p
    have hn0 : decide ((0 : Int) < n) = true := by simp; omega
    have hn1 : (n : Int) ≤ (s.size : Int) := by omega
    go_enter Tryz.func48, Tryz.ntmps48
    go_wp2_with (first
      | (go_at_call 76; (with_reducible refine (HF.out _).mono ?_); rintro e w1 ⟨rfl, hb⟩; have HB1 := Lib.hid hb; clear hb)
      | (go_at_call 77; (with_reducible refine (HH2.out _).mono ?_); rintro e w2 ⟨rfl, hb⟩; have HB2 := Lib.hid (HB1.out.trans (hb.mono HB1.out.size)); clear hb))
    go_ret
    exact ⟨by rw [HD2.out]; first | done | rfl, HB2.out⟩

end Go.Proofs.YtjaockmbnjflaaaGreatDoor
