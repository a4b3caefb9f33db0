/-
  The document's own answer for layer 18: the head of a frame. Condition: the text is not longer than memory.
-/
import Derived.Test.YtmjkolkmpnadpaaPm
import Derived.Test.YtmjkolkmpnadpaaPh
namespace Go.Proofs.Ytmjkolkmpnadpaa
open Go.RowKit

set_option maxHeartbeats 2000000 in
set_option maxRecDepth 100000 in
theorem rhead_mark (s : ByteArray) (w : World) (hs : s.size ≤ 9223372036854775807) (h4 : 4 ≤ s.size) (h0 : s[0]!.toNat = 255) (c0 : 224 ≤ s[1]!.toNat) :
    Calls Try.prog 9 #[.string s] w fun e w' => e = .returned (frmV (hdF s)) ∧ Below w.heap.size w w' := by
  obtain ⟨d, hd⟩ : ∃ d, d = hdF s := ⟨_, rfl⟩
  obtain ⟨o, ho⟩ : ∃ o, o = hdO s := ⟨_, rfl⟩
  rw [← hd]
  have HD := Lib.hid (show d = if o = true then hedF s[1]! s[2]! else zeroF from by rw [hd, ho]; rfl)
  have HO := Lib.hid (ho.trans (hdO_mark h4 h0 c0))
  clear hd ho
  obtain ⟨x, hx, ex⟩ : ∃ x : UInt8, s[0]'(by omega) = x ∧ Hid (s[0]! = x) := ⟨_, rfl, Lib.hid (getElem!_pos s 0 (by omega))⟩
  obtain ⟨b, hb, eb⟩ : ∃ x : UInt8, s[1]'(by omega) = x ∧ Hid (s[1]! = x) := ⟨_, rfl, Lib.hid (getElem!_pos s 1 (by omega))⟩
  obtain ⟨c, hc, ec⟩ : ∃ x : UInt8, s[2]'(by omega) = x ∧ Hid (s[2]! = x) := ⟨_, rfl, Lib.hid (getElem!_pos s 2 (by omega))⟩
  rw [ex.out] at h0
  rw [eb.out] at c0
  rw [eb.out, ec.out] at HD HO
  unfold hedF at HD
  have g4 : ¬ ((s.size : Int) < 4) := by omega
  have hb8 := b.toNat_lt
  have hc8 := c.toNat_lt
  have k1 : ¬ ((b.toNat : Int) < 224) := by omega
  have a1 : (b.toNat : Int) / 8 % 4 = ((b.toNat / 8 % 4 : Nat) : Int) := by omega
  have a2 : (b.toNat : Int) / 2 % 4 = ((b.toNat / 2 % 4 : Nat) : Int) := by omega
  have a3 : (c.toNat : Int) / 2 % 2 = ((c.toNat / 2 % 2 : Nat) : Int) := by omega
  have a4 := div_16 c
  have a5 : (c.toNat : Int) / 4 % 4 = ((c.toNat / 4 % 4 : Nat) : Int) := by omega
  obtain ⟨v, hv⟩ : ∃ v, v = b.toNat / 8 % 4 := ⟨_, rfl⟩
  obtain ⟨y, hy⟩ : ∃ v, v = b.toNat / 2 % 4 := ⟨_, rfl⟩
  obtain ⟨r, hr⟩ : ∃ v, v = c.toNat / 16 := ⟨_, rfl⟩
  obtain ⟨q, hq⟩ : ∃ v, v = c.toNat / 4 % 4 := ⟨_, rfl⟩
  obtain ⟨z, hz⟩ : ∃ v, v = c.toNat / 2 % 2 := ⟨_, rfl⟩
  have hv4 : v < 4 := by omega
  have hy4 : y < 4 := by omega
  have hr16 : r < 16 := by omega
  have hq4 : q < 4 := by omega
  have hz2 : z < 2 := by omega
  rw [← hv, ← hr, ← hq, ← hz] at HD
  rw [← hy, ← hr, ← hq] at HO
  rw [← hv] at a1
  rw [← hy] at a2
  rw [← hz] at a3
  rw [← hr] at a4
  rw [← hq] at a5
  clear hv hy hr hq hz
  obtain ⟨L, hL⟩ : ∃ L : Int, 4 - (y : Int) = L := ⟨_, rfl⟩
  have hL1 : 1 ≤ L ∧ L ≤ 4 := by omega
  obtain ⟨p, hp⟩ : ∃ p : Bool, ((z : Int) == 1) = p := ⟨_, rfl⟩
  have HP := Lib.hid (show decide (z = 1) = p from by rw [← hp, Bool.eq_iff_iff, decide_eq_true_eq, beq_iff_eq]; omega)
  rw [HP.out] at HD
  by_cases hok : L = 3 ∧ r < 15 ∧ q < 3
  · obtain ⟨rfl, hr15, hq3⟩ := hok
    have HO2 : Hid (o = true) := Lib.hid (by rw [HO.out, decide_eq_true (show y = 1 by omega), decide_eq_true hr15, decide_eq_true hq3]; rfl)
    have HD2 : Hid (d = ⟨(v : Nat), 3, (ratN (oddB v) r : Nat), (freN q : Nat), p⟩) := Lib.hid (by rw [HD.out, HO2.out]; rfl)
    have HR := Lib.hid (fun W => rrate_any v r W ⟨by omega, by omega⟩ hr15)
    have HF := Lib.hid (fun W => rfreq_any q W hq3)
    generalize ratN (oddB v) r = rt at *
    generalize freN q = fq at *
    have j1 : ((r : Int) == 15) = false := by rw [beq_eq_false_iff_ne]; omega
    have j2 : ((q : Int) == 3) = false := by rw [beq_eq_false_iff_ne]; omega
    clear HD HO
    go_enter Try.func9, Try.ntmps9
    go_wp2
    go_quiet (fail)
    go_wp2_with (first
      | (go_at_call 25; (with_reducible refine (HR.out _).mono ?_); rintro e w1 ⟨rfl, hb⟩; have HB1 := Lib.hid ((Below.drewN' ((Below.refl w.heap.size w).alloc (Nat.le_refl _) _) _).trans (hb.mono (by exact Nat.le_of_lt (Blk.new w _ _).lt))); have hk : Blk w1 w.heap.size 24 #[.int .i64 0, .int .i64 0, .int .i64 0, .int .i64 0, .bool false] := (Blk.below (by exact Blk.new w _ _) hb (by exact (Blk.new w _ _).lt)); have HK := Lib.hid hk; have y0 := hk.frozen 0; have y1 := hk.frozen 1; have y2 := hk.frozen 2; have y3 := hk.frozen 3; have y4 := hk.frozen 4; have r0 := hk.cell 0; have r1 := hk.cell 1; have r2 := hk.cell 2; have r3 := hk.cell 3; have r4 := hk.cell 4; clear hb hk)
      | (go_at_call 26; (with_reducible refine (HF.out _).mono ?_); rintro e w2 ⟨rfl, rfl⟩))
    clear y0 y1 y2 y3 y4 r0 r1 r2 r3 r4
    have HZ := Lib.hid (Blk.set5 HK.out (.int .i64 (v : Nat)) (.int .i64 3) (.int .i64 (rt : Nat)) (.int .i64 (fq : Nat)) (.bool p))
    have HB := Lib.hid (Below.set5 HB1.out (Nat.le_refl _) (.int .i64 (v : Nat)) (.int .i64 3) (.int .i64 (rt : Nat)) (.int .i64 (fq : Nat)) (.bool p))
    generalize ((((w1.setCell ⟨w.heap.size, 0, none⟩ (.int .i64 (v : Nat))).setCell ⟨w.heap.size, 1, none⟩ (.int .i64 3)).setCell ⟨w.heap.size, 2, none⟩ (.int .i64 (rt : Nat))).setCell ⟨w.heap.size, 3, none⟩ (.int .i64 (fq : Nat))).setCell ⟨w.heap.size, 4, none⟩ (.bool p) = W2 at *
    have s0 := HZ.out.cell 0
    have s1 := HZ.out.cell 1
    have s2 := HZ.out.cell 2
    have s3 := HZ.out.cell 3
    have s4 := HZ.out.cell 4
    refine bodyPost_ret (v := frmV ⟨(v : Nat), 3, (rt : Nat), (fq : Nat), p⟩) ?_ rfl ⟨by rw [HD2.out], HB.out⟩
    simp at s0 s1 s2 s3 s4
    simp [results, Try.results9, go_sem, s0, s1, s2, s3, s4]
  · have HO2 : Hid (o = false) := Lib.hid (by
      rw [HO.out]
      by_cases h1 : y = 1
      · by_cases h2 : r < 15
        · rw [decide_eq_false (show ¬ q < 3 from fun h3 => hok ⟨by omega, h2, h3⟩)]; simp
        · rw [decide_eq_false h2]; simp
      · rw [decide_eq_false h1]; simp)
    have HD2 : Hid (d = zeroF) := Lib.hid (by rw [HD.out, HO2.out]; rfl)
    have hcase : (L != 3) = true ∨ (L = 3 ∧ ((r : Int) == 15) = true) ∨ (L = 3 ∧ ((r : Int) == 15) = false ∧ ((q : Int) == 3) = true) := by simp only [bne_iff_ne, beq_iff_eq, beq_eq_false_iff_ne]; omega
    clear hok HD HO
    rcases hcase with h1 | ⟨rfl, h1⟩ | ⟨rfl, h1, h2⟩
    all_goals
      go_enter Try.func9, Try.ntmps9
      go_wp2
      go_quiet (fail)
      rename_i nq _ _
      go_wp2
      have HZ := Lib.hid (Blk.set5 (show Blk ((w.alloc (.cells #[.int .i64 0, .int .i64 0, .int .i64 0, .int .i64 0, .bool false] 24)).drewN nq) w.heap.size 24 #[.int .i64 0, .int .i64 0, .int .i64 0, .int .i64 0, .bool false] from Blk.new w _ _) (.int .i64 0) (.int .i64 0) (.int .i64 0) (.int .i64 0) (.bool false))
      have HB := Lib.hid (Below.set5 (show Below w.heap.size w ((w.alloc (.cells #[.int .i64 0, .int .i64 0, .int .i64 0, .int .i64 0, .bool false] 24)).drewN nq) from Below.drewN' ((Below.refl w.heap.size w).alloc (Nat.le_refl _) _) _) (Nat.le_refl _) (.int .i64 0) (.int .i64 0) (.int .i64 0) (.int .i64 0) (.bool false))
      generalize ((((((w.alloc (.cells #[.int .i64 0, .int .i64 0, .int .i64 0, .int .i64 0, .bool false] 24)).drewN nq).setCell ⟨w.heap.size, 0, none⟩ (.int .i64 0)).setCell ⟨w.heap.size, 1, none⟩ (.int .i64 0)).setCell ⟨w.heap.size, 2, none⟩ (.int .i64 0)).setCell ⟨w.heap.size, 3, none⟩ (.int .i64 0)).setCell ⟨w.heap.size, 4, none⟩ (.bool false) = W2 at *
      have s0 := HZ.out.cell 0
      have s1 := HZ.out.cell 1
      have s2 := HZ.out.cell 2
      have s3 := HZ.out.cell 3
      have s4 := HZ.out.cell 4
      refine bodyPost_ret (v := frmV zeroF) ?_ rfl ⟨by rw [HD2.out], HB.out⟩
      simp at s0 s1 s2 s3 s4
      simp [results, Try.results9, go_sem, s0, s1, s2, s3, s4, zeroF]

set_option maxHeartbeats 2000000 in
theorem rhead_any (s : ByteArray) (w : World) (hs : s.size ≤ 9223372036854775807) :
    Calls Try.prog 9 #[.string s] w fun e w' => e = .returned (frmV (hdF s)) ∧ Below w.heap.size w w' := by
  by_cases hok : 4 ≤ s.size ∧ s[0]!.toNat = 255 ∧ 224 ≤ s[1]!.toNat
  · exact rhead_mark s w hs hok.1 hok.2.1 hok.2.2
  · have ho : hdO s = false := by
      cases h : hdO s
      · rfl
      · obtain ⟨h4, h0, hb⟩ := hdO_all h
        exact absurd ⟨h4, h0, (hedB_all hb).1⟩ hok
    rw [hdF_no ho]
    clear ho
    by_cases h4 : 4 ≤ s.size
    · obtain ⟨x, hx, ex⟩ : ∃ x : UInt8, s[0]'(by omega) = x ∧ s[0]! = x := ⟨_, rfl, getElem!_pos s 0 (by omega)⟩
      obtain ⟨b, hb, eb⟩ : ∃ x : UInt8, s[1]'(by omega) = x ∧ s[1]! = x := ⟨_, rfl, getElem!_pos s 1 (by omega)⟩
      rw [ex, eb] at hok
      have hb8 := b.toNat_lt
      clear ex eb
      have g4 : decide ((s.size : Int) < 4) = false := by simp; omega
      by_cases h0 : x.toNat = 255
      · have k1 : (b.toNat : Int) < 224 := by omega
        clear hok
        go_enter Try.func9, Try.ntmps9
        go_wp2
        exact bodyPost_ret (v := frmV zeroF) (by simp [results, Try.results9, go_sem, zeroF]) rfl ⟨rfl, (Below.refl w.heap.size w).alloc (Nat.le_refl _) _⟩
      · have k1 : ((x.toNat : Int) != 255) = true := by rw [bne_iff_ne]; omega
        clear hok
        go_enter Try.func9, Try.ntmps9
        go_wp2
        exact bodyPost_ret (v := frmV zeroF) (by simp [results, Try.results9, go_sem, zeroF]) rfl ⟨rfl, (Below.refl w.heap.size w).alloc (Nat.le_refl _) _⟩
    · clear hok
      go_enter Try.func9, Try.ntmps9
      go_wp2
      exact bodyPost_ret (v := frmV zeroF) (by simp [results, Try.results9, go_sem, zeroF]) rfl ⟨rfl, (Below.refl w.heap.size w).alloc (Nat.le_refl _) _⟩

end Go.Proofs.Ytmjkolkmpnadpaa
