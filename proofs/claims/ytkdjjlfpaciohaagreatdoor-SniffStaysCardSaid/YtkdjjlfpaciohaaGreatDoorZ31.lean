/-
  The document's own answer for layer 18: the head of a frame. Condition: the text is not longer than memory.
  The document's own answer for layer 18: the next frame, and whether a text is a sound. Condition: the text is not longer than memory.
  What textOrNot, scripted, Media, signed and Type of package unknown answer, and the document's own Media and Type. Condition: the text takes at most 2^40 bytes (Type: it is not longer than memory).
-/
import Derived.Test.YtkdjjlfpaciohaaGreatDoorZ30
import Derived.Test.YtkdjjlfpaciohaaGreatDoorZ29
import Derived.Test.YtkdjjlfpaciohaaGreatDoorZ14
import Derived.Test.YtkdjjlfpaciohaaGreatDoorZ16
import Derived.Test.YtkdjjlfpaciohaaGreatDoorZ17
import Derived.Test.YtkdjjlfpaciohaaGreatDoorZ18
import Derived.Test.YtkdjjlfpaciohaaGreatDoorZ19
import Derived.Test.YtkdjjlfpaciohaaGreatDoorZ20
import Derived.Test.YtkdjjlfpaciohaaGreatDoorZ23
import Derived.Test.YtkdjjlfpaciohaaGreatDoorZ24
import Derived.Test.YtkdjjlfpaciohaaGreatDoorZ26
import Derived.Test.YtkdjjlfpaciohaaGreatDoorZ27
namespace Go.Proofs.YtkdjjlfpaciohaaGreatDoor
open Go.RowKit

set_option maxHeartbeats 2000000 in
set_option maxRecDepth 100000 in
theorem rhead_mark (s : ByteArray) (w : World) (hs : s.size ≤ 9223372036854775807) (h4 : 4 ≤ s.size) (h0 : s[0]!.toNat = 255) (c0 : 224 ≤ s[1]!.toNat) :
    Calls Tryz.prog 98 #[.string s] w fun e w' => e = .returned (frmV (hdF s)) ∧ Below w.heap.size w w' := by
  obtain ⟨d, hd⟩ : ∃ d, d = hdF s := ⟨_, rfl⟩
  obtain ⟨o, ho⟩ : ∃ o, o = hdO s := ⟨_, rfl⟩
  rw [← hd]
  have HD := Lib.hid (show d = if o = true then hedF s[1]! s[2]! else zeroF from by rw [hd, ho]; rfl)
  have HO := Lib.hid (ho.trans (hdO_mark h4 h0 c0))
  clear hd ho
  obtain ⟨x, hx, ex⟩ : ∃ x : UInt8, s[0]'(by omega) = x ∧ Hid (s[0]! = x) := ⟨_, rfl, Lib.hid (getElem!_pos s 0 (by omega))⟩
  obtain ⟨b, hb, eb⟩ : ∃ x : UInt8, s[1]'(by omega) = x ∧ Hid (s[1]! = x) := ⟨_, rfl, Lib.hid (getElem!_pos s 1 (by omega))⟩
  obtain ⟨c, hc, ec⟩ : ∃ x : UInt8, s[2]'(by omega) = x ∧ Hid (s[2]! = x) := ⟨_, rfl, Lib.hid (getElem!_pos s 2 (by omega))⟩
  rw [ex.out] at h0
  rw [eb.out] at c0
  rw [eb.out, ec.out] at HD HO
  unfold hedF at HD
  have g4 : ¬ ((s.size : Int) < 4) := by omega
  have hb8 := b.toNat_lt
  have hc8 := c.toNat_lt
  have k1 : ¬ ((b.toNat : Int) < 224) := by omega
  have a1 : (b.toNat : Int) / 8 % 4 = ((b.toNat / 8 % 4 : Nat) : Int) := by omega
  have a2 : (b.toNat : Int) / 2 % 4 = ((b.toNat / 2 % 4 : Nat) : Int) := by omega
  have a3 : (c.toNat : Int) / 2 % 2 = ((c.toNat / 2 % 2 : Nat) : Int) := by omega
  have a4 := div_16 c
  have a5 : (c.toNat : Int) / 4 % 4 = ((c.toNat / 4 % 4 : Nat) : Int) := by omega
  obtain ⟨v, hv⟩ : ∃ v, v = b.toNat / 8 % 4 := ⟨_, rfl⟩
  obtain ⟨y, hy⟩ : ∃ v, v = b.toNat / 2 % 4 := ⟨_, rfl⟩
  obtain ⟨r, hr⟩ : ∃ v, v = c.toNat / 16 := ⟨_, rfl⟩
  obtain ⟨q, hq⟩ : ∃ v, v = c.toNat / 4 % 4 := ⟨_, rfl⟩
  obtain ⟨z, hz⟩ : ∃ v, v = c.toNat / 2 % 2 := ⟨_, rfl⟩
  have hv4 : v < 4 := by omega
  have hy4 : y < 4 := by omega
  have hr16 : r < 16 := by omega
  have hq4 : q < 4 := by omega
  have hz2 : z < 2 := by omega
  rw [← hv, ← hr, ← hq, ← hz] at HD
  rw [← hy, ← hr, ← hq] at HO
  rw [← hv] at a1
  rw [← hy] at a2
  rw [← hz] at a3
  rw [← hr] at a4
  rw [← hq] at a5
  clear hv hy hr hq hz
  obtain ⟨L, hL⟩ : ∃ L : Int, 4 - (y : Int) = L := ⟨_, rfl⟩
  have hL1 : 1 ≤ L ∧ L ≤ 4 := by omega
  obtain ⟨p, hp⟩ : ∃ p : Bool, ((z : Int) == 1) = p := ⟨_, rfl⟩
  have HP := Lib.hid (show decide (z = 1) = p from by rw [← hp, Bool.eq_iff_iff, decide_eq_true_eq, beq_iff_eq]; omega)
  rw [HP.out] at HD
  by_cases hok : L = 3 ∧ r < 15 ∧ q < 3
  · obtain ⟨rfl, hr15, hq3⟩ := hok
    have HO2 : Hid (o = true) := Lib.hid (by rw [HO.out, decide_eq_true (show y = 1 by omega), decide_eq_true hr15, decide_eq_true hq3]; rfl)
    have HD2 : Hid (d = ⟨(v : Nat), 3, (ratN (oddB v) r : Nat), (freN q : Nat), p⟩) := Lib.hid (by rw [HD.out, HO2.out]; rfl)
    have HR := Lib.hid (fun W => rrate_any v r W ⟨by omega, by omega⟩ hr15)
    have HF := Lib.hid (fun W => rfreq_any q W hq3)
    generalize ratN (oddB v) r = rt at *
    generalize freN q = fq at *
    have j1 : ((r : Int) == 15) = false := by rw [beq_eq_false_iff_ne]; omega
    have j2 : ((q : Int) == 3) = false := by rw [beq_eq_false_iff_ne]; omega
    clear HD HO
    go_enter Tryz.func98, Tryz.ntmps98
    go_wp2
    go_quiet (fail)
    go_wp2_with (first
      | (go_at_call 125; (with_reducible refine (HR.out _).mono ?_); rintro e w1 ⟨rfl, hb⟩; have HB1 := Lib.hid ((Below.drewN' ((Below.refl w.heap.size w).alloc (Nat.le_refl _) _) _).trans (hb.mono (by exact Nat.le_of_lt (Blk.new w _ _).lt))); have hk : Blk w1 w.heap.size 66 #[.int .i64 0, .int .i64 0, .int .i64 0, .int .i64 0, .bool false] := (Blk.below (by exact Blk.new w _ _) hb (by exact (Blk.new w _ _).lt)); have HK := Lib.hid hk; have y0 := hk.frozen 0; have y1 := hk.frozen 1; have y2 := hk.frozen 2; have y3 := hk.frozen 3; have y4 := hk.frozen 4; have r0 := hk.cell 0; have r1 := hk.cell 1; have r2 := hk.cell 2; have r3 := hk.cell 3; have r4 := hk.cell 4; clear hb hk)
      | (go_at_call 126; (with_reducible refine (HF.out _).mono ?_); rintro e w2 ⟨rfl, rfl⟩))
    clear y0 y1 y2 y3 y4 r0 r1 r2 r3 r4
    have HZ := Lib.hid (Blk.set5 HK.out (.int .i64 (v : Nat)) (.int .i64 3) (.int .i64 (rt : Nat)) (.int .i64 (fq : Nat)) (.bool p))
    have HB := Lib.hid (Below.set5 HB1.out (Nat.le_refl _) (.int .i64 (v : Nat)) (.int .i64 3) (.int .i64 (rt : Nat)) (.int .i64 (fq : Nat)) (.bool p))
    generalize ((((w1.setCell ⟨w.heap.size, 0, none⟩ (.int .i64 (v : Nat))).setCell ⟨w.heap.size, 1, none⟩ (.int .i64 3)).setCell ⟨w.heap.size, 2, none⟩ (.int .i64 (rt : Nat))).setCell ⟨w.heap.size, 3, none⟩ (.int .i64 (fq : Nat))).setCell ⟨w.heap.size, 4, none⟩ (.bool p) = W2 at *
    have s0 := HZ.out.cell 0
    have s1 := HZ.out.cell 1
    have s2 := HZ.out.cell 2
    have s3 := HZ.out.cell 3
    have s4 := HZ.out.cell 4
    refine bodyPost_ret (v := frmV ⟨(v : Nat), 3, (rt : Nat), (fq : Nat), p⟩) ?_ rfl ⟨by rw [HD2.out], HB.out⟩
    simp at s0 s1 s2 s3 s4
    simp [results, Tryz.results98, go_sem, s0, s1, s2, s3, s4]
  · have HO2 : Hid (o = false) := Lib.hid (by
      rw [HO.out]
      by_cases h1 : y = 1
      · by_cases h2 : r < 15
        · rw [decide_eq_false (show ¬ q < 3 from fun h3 => hok ⟨by omega, h2, h3⟩)]; simp
        · rw [decide_eq_false h2]; simp
      · rw [decide_eq_false h1]; simp)
    have HD2 : Hid (d = zeroF) := Lib.hid (by rw [HD.out, HO2.out]; rfl)
    have hcase : (L != 3) = true ∨ (L = 3 ∧ ((r : Int) == 15) = true) ∨ (L = 3 ∧ ((r : Int) == 15) = false ∧ ((q : Int) == 3) = true) := by simp only [bne_iff_ne, beq_iff_eq, beq_eq_false_iff_ne]; omega
    clear hok HD HO
    rcases hcase with h1 | ⟨rfl, h1⟩ | ⟨rfl, h1, h2⟩
    all_goals
      go_enter Tryz.func98, Tryz.ntmps98
      go_wp2
      go_quiet (fail)
      rename_i nq _ _
      go_wp2
      have HZ := Lib.hid (Blk.set5 (show Blk ((w.alloc (.cells #[.int .i64 0, .int .i64 0, .int .i64 0, .int .i64 0, .bool false] 66)).drewN nq) w.heap.size 66 #[.int .i64 0, .int .i64 0, .int .i64 0, .int .i64 0, .bool false] from Blk.new w _ _) (.int .i64 0) (.int .i64 0) (.int .i64 0) (.int .i64 0) (.bool false))
      have HB := Lib.hid (Below.set5 (show Below w.heap.size w ((w.alloc (.cells #[.int .i64 0, .int .i64 0, .int .i64 0, .int .i64 0, .bool false] 66)).drewN nq) from Below.drewN' ((Below.refl w.heap.size w).alloc (Nat.le_refl _) _) _) (Nat.le_refl _) (.int .i64 0) (.int .i64 0) (.int .i64 0) (.int .i64 0) (.bool false))
      generalize ((((((w.alloc (.cells #[.int .i64 0, .int .i64 0, .int .i64 0, .int .i64 0, .bool false] 66)).drewN nq).setCell ⟨w.heap.size, 0, none⟩ (.int .i64 0)).setCell ⟨w.heap.size, 1, none⟩ (.int .i64 0)).setCell ⟨w.heap.size, 2, none⟩ (.int .i64 0)).setCell ⟨w.heap.size, 3, none⟩ (.int .i64 0)).setCell ⟨w.heap.size, 4, none⟩ (.bool false) = W2 at *
      have s0 := HZ.out.cell 0
      have s1 := HZ.out.cell 1
      have s2 := HZ.out.cell 2
      have s3 := HZ.out.cell 3
      have s4 := HZ.out.cell 4
      refine bodyPost_ret (v := frmV zeroF) ?_ rfl ⟨by rw [HD2.out], HB.out⟩
      simp at s0 s1 s2 s3 s4
      simp [results, Tryz.results98, go_sem, s0, s1, s2, s3, s4, zeroF]

set_option maxHeartbeats 2000000 in
theorem rhead_any (s : ByteArray) (w : World) (hs : s.size ≤ 9223372036854775807) :
    Calls Tryz.prog 98 #[.string s] w fun e w' => e = .returned (frmV (hdF s)) ∧ Below w.heap.size w w' := by
  by_cases hok : 4 ≤ s.size ∧ s[0]!.toNat = 255 ∧ 224 ≤ s[1]!.toNat
  · exact rhead_mark s w hs hok.1 hok.2.1 hok.2.2
  · have ho : hdO s = false := by
      cases h : hdO s
      · rfl
      · obtain ⟨h4, h0, hb⟩ := hdO_all h
        exact absurd ⟨h4, h0, (hedB_all hb).1⟩ hok
    rw [hdF_no ho]
    clear ho
    by_cases h4 : 4 ≤ s.size
    · obtain ⟨x, hx, ex⟩ : ∃ x : UInt8, s[0]'(by omega) = x ∧ s[0]! = x := ⟨_, rfl, getElem!_pos s 0 (by omega)⟩
      obtain ⟨b, hb, eb⟩ : ∃ x : UInt8, s[1]'(by omega) = x ∧ s[1]! = x := ⟨_, rfl, getElem!_pos s 1 (by omega)⟩
      rw [ex, eb] at hok
      have hb8 := b.toNat_lt
      clear ex eb
      have g4 : decide ((s.size : Int) < 4) = false := by simp; omega
      by_cases h0 : x.toNat = 255
      · have k1 : (b.toNat : Int) < 224 := by omega
        clear hok
        go_enter Tryz.func98, Tryz.ntmps98
        go_wp2
        exact bodyPost_ret (v := frmV zeroF) (by simp [results, Tryz.results98, go_sem, zeroF]) rfl ⟨rfl, (Below.refl w.heap.size w).alloc (Nat.le_refl _) _⟩
      · have k1 : ((x.toNat : Int) != 255) = true := by rw [bne_iff_ne]; omega
        clear hok
        go_enter Tryz.func98, Tryz.ntmps98
        go_wp2
        exact bodyPost_ret (v := frmV zeroF) (by simp [results, Tryz.results98, go_sem, zeroF]) rfl ⟨rfl, (Below.refl w.heap.size w).alloc (Nat.le_refl _) _⟩
    · clear hok
      go_enter Tryz.func98, Tryz.ntmps98
      go_wp2
      exact bodyPost_ret (v := frmV zeroF) (by simp [results, Tryz.results98, go_sem, zeroF]) rfl ⟨rfl, (Below.refl w.heap.size w).alloc (Nat.le_refl _) _⟩

end Go.Proofs.YtkdjjlfpaciohaaGreatDoor
namespace Go.Proofs.YtkdjjlfpaciohaaGreatDoor
open Go.RowKit

set_option maxHeartbeats 1000000 in
theorem rnext_any (s : ByteArray) (w : World) (hs : s.size ≤ 9223372036854775807) :
    Calls Tryz.prog 97 #[.string s] w fun e w' => e = .returned (.int .i64 (nxN s : Nat)) ∧ Below w.heap.size w w' := by
  obtain ⟨k, hk⟩ : ∃ k, k = nxN s := ⟨_, rfl⟩
  rw [← hk]
  have HK := Lib.hid hk
  clear hk
  have HH := Lib.hid (fun W => rhead_any s W hs)
  have HS := Lib.hid (fun W => rsize_any (hdF s) W)
  have hz := szF_le (hdF s)
  have HY := Lib.hid (nxN_yes (s := s))
  have HN := Lib.hid (nxN_no (s := s))
  generalize szF (hdF s) = n at *
  obtain ⟨v, l, r, q, p, hf⟩ := frm_form (hdF s)
  rw [hf] at HH HS
  clear hf
  have hcase : (n < 4 ∧ Hid (k = 0)) ∨ (4 ≤ n ∧ s.size < n ∧ Hid (k = 0)) ∨ (4 ≤ n ∧ n ≤ s.size ∧ Hid (k = n)) := by
    by_cases c1 : 4 ≤ n
    · by_cases c2 : n ≤ s.size
      · exact .inr (.inr ⟨c1, c2, Lib.hid (HK.out.trans (HY.out c1 c2))⟩)
      · exact .inr (.inl ⟨c1, by omega, Lib.hid (HK.out.trans (HN.out (fun h => c2 h.2)))⟩)
    · exact .inl ⟨by omega, Lib.hid (HK.out.trans (HN.out (fun h => c1 h.1)))⟩
  clear HK HY HN
  rcases hcase with ⟨c1, HE⟩ | ⟨c1, c2, HE⟩ | ⟨c1, c2, HE⟩
  all_goals
    go_enter Tryz.func97, Tryz.ntmps97
    go_wp2_with (first
      | (go_at_call 98; (with_reducible refine (HH.out _).mono ?_); rintro e w1 ⟨rfl, hb⟩; have HB1 := Lib.hid hb; clear hb)
      | (go_at_call 124; (with_reducible refine (HS.out _).mono ?_); rintro e w2 ⟨rfl, hb⟩; have HB2 := Lib.hid (HB1.out.trans (hb.mono HB1.out.size)); clear hb))
    go_ret
    exact ⟨by rw [HE.out]; first | done | rfl, HB2.out⟩

theorem field_freq (v l r q : Int) (p : Bool) (W : World) : (Instr.field 66 (.agg #[.int .i64 v, .int .i64 l, .int .i64 r, .int .i64 q, .bool p]) 3).run Tryz.prog W = .ok (.int .i64 q) W := by
  simp [Instr.field, go_sem, part, asAgg]

theorem freq_pos (x : ByteArray) : decide (0 < (hdF x).freq) = hdO x := by
  cases h : hdO x
  · rw [hdF_no h]; rfl
  · have := gdB_all ((hdF_good x).trans h)
    exact decide_eq_true (by omega)

set_option maxHeartbeats 1000000 in
theorem ris18_any (s : ByteArray) (w : World) (hs : s.size ≤ 9223372036854775807) :
    Calls Tryz.prog 68 #[.string s] w fun e w' => e = .returned (.bool (isO s)) ∧ Below w.heap.size w w' := by
  obtain ⟨d, hd⟩ : ∃ d, d = isO s := ⟨_, rfl⟩
  rw [← hd]
  have HD := Lib.hid hd
  clear hd
  have HF := Lib.hid (fun W => rnext_any s W hs)
  have hn := nxN_le s
  by_cases h0 : nxN s = 0
  · have HD2 : Hid (d = false) := Lib.hid (by rw [HD.out]; unfold isO; rw [decide_eq_false (fun h => h h0)]; rfl)
    rw [h0] at HF
    go_enter Tryz.func68, Tryz.ntmps68
    go_wp2_with (go_at_call 97; (with_reducible refine (HF.out _).mono ?_); rintro e w1 ⟨rfl, hb⟩; have HB1 := Lib.hid hb; clear hb)
    go_ret
    exact ⟨by rw [HD2.out]; first | done | rfl, HB1.out⟩
  · have HH := Lib.hid (fun W => rhead_any (s.extract (nxN s) s.size) W (by rw [ByteArray.size_extract]; omega))
    have HD2 : Hid (d = hdO (s.extract (nxN s) s.size)) := Lib.hid (by rw [HD.out]; unfold isO; rw [decide_eq_true h0, Bool.true_and])
    clear HD
    obtain ⟨x, hx⟩ : ∃ x, s.extract (nxN s) s.size = x := ⟨_, rfl⟩
    rw [hx] at HD2 HH
    have hp := freq_pos x
    generalize hdF x = f at *
    obtain ⟨v, l, r, q, p⟩ := f
    have hq : decide (0 < q) = hdO x := hp
    clear hp
    generalize hdO x = o at *
    generalize nxN s = n at *
    have HH2 : Hid (∀ W, Calls Tryz.prog 98 #[.string x] W fun e w' => e = .returned (.agg #[.int .i64 v, .int .i64 l, .int .i64 r, .int .i64 q, .bool p]) ∧ Below W.heap.size W w') := HH
    have hfd := field_freq v l r q p
    have hn0 : decide ((0 : Int) < n) = true := by simp; omega
    have hn1 : (n : Int) ≤ (s.size : Int) := by omega
    go_enter Tryz.func68, Tryz.ntmps68
    go_wp2_with (first
      | (go_at_call 97; (with_reducible refine (HF.out _).mono ?_); rintro e w1 ⟨rfl, hb⟩; have HB1 := Lib.hid hb; clear hb)
      | (go_at_call 98; (with_reducible refine (HH2.out _).mono ?_); rintro e w2 ⟨rfl, hb⟩; have HB2 := Lib.hid (HB1.out.trans (hb.mono HB1.out.size)); clear hb))
    go_ret
    exact ⟨by rw [HD2.out]; first | done | rfl, HB2.out⟩

end Go.Proofs.YtkdjjlfpaciohaaGreatDoor
namespace Go.Proofs.YtkdjjlfpaciohaaGreatDoor
open Go.RowKit

/-- Whether a body has a binary byte. -/
def hasBin (s : ByteArray) : Bool := decide (binF s < s.size)
/-- Whether a text is empty, in the walks' two words. -/
theorem em_says {t : ByteArray} {b : Bool} (h : emB t = b) : (t.toList == ([] : List UInt8)) = b ∧ t.toList.isEmpty = b := by
  have e : (t.toList == ([] : List UInt8)) = b := h
  refine ⟨e, ?_⟩
  rw [← e]
  cases t.toList <;> rfl

set_option maxHeartbeats 400000 in
theorem utext_any (s : ByteArray) (w : World) (hs : s.size ≤ 9223372036854775807) :
    Calls Tryz.prog 53 #[.string s] w fun e w' => e = .returned (.string (lsA (hasBin s))) ∧ w = w' := by
  have HF : Hid (∀ W, Calls Tryz.prog 55 #[.string s] W fun e w' => e = .returned (.tuple #[.int .i64 (fstN s : Nat), .bool (hasBin s)]) ∧ W = w') := Lib.hid (fun W => bfirst_any s W hs)
  have HV : Hid (lsA (hasBin s) = if hasBin s then octY else plaY) := Lib.hid rfl
  generalize lsA (hasBin s) = v at *
  generalize hasBin s = o at *
  cases o
  · rw [if_neg (by simp)] at HV
    go_enter Tryz.func53, Tryz.ntmps53
    go_wp2_with (first
      | (go_at_call 55; (with_reducible refine (HF.out _).mono ?_); rintro e w1 ⟨rfl, rfl⟩))
    go_ret
    exact ⟨by rw [HV.out]; first | done | rfl, rfl⟩
  · rw [if_pos rfl] at HV
    go_enter Tryz.func53, Tryz.ntmps53
    go_wp2_with (first
      | (go_at_call 55; (with_reducible refine (HF.out _).mono ?_); rintro e w1 ⟨rfl, rfl⟩))
    go_ret
    exact ⟨by rw [HV.out]; first | done | rfl, rfl⟩

set_option maxHeartbeats 1000000 in
theorem uscripted_any (s : ByteArray) (w : World) (hs : s.size ≤ 140737488351232) :
    Calls Tryz.prog 51 #[.string s] w fun e w' => e = .returned (.string (scA (htmB s) (xmlB s) (prefB s pdfS))) ∧ Below w.heap.size w w' := by
  have H1 := Lib.hid (fun W => uhtml_any s W hs)
  have H2 := Lib.hid (fun W => uxml_any s W hs)
  have H3 := Lib.hid (fun W => updf_any s W hs)
  obtain ⟨v, hv⟩ : ∃ v, v = scA (htmB s) (xmlB s) (prefB s pdfS) := ⟨_, rfl⟩
  rw [← hv]
  have HV := Lib.hid hv
  clear hv
  generalize htmB s = h at *
  generalize xmlB s = x at *
  generalize prefB s pdfS = p at *
  have HB := Lib.hid (Below.refl w.heap.size w)
  cases h <;> cases x <;> cases p
  all_goals
    go_enter Tryz.func51, Tryz.ntmps51
    go_wp2_with (first
      | (go_at_call 73; (with_reducible refine (H1.out _).mono ?_); rintro e w1 ⟨rfl, b1⟩; have HB := Lib.hid (HB.out.trans (b1.mono HB.out.size)); clear b1)
      | (go_at_call 74; (with_reducible refine (H2.out _).mono ?_); rintro e w1 ⟨rfl, b1⟩; have HB := Lib.hid (HB.out.trans (b1.mono HB.out.size)); clear b1)
      | (go_at_call 75; (with_reducible refine (H3.out _).mono ?_); rintro e w1 ⟨rfl, rfl⟩))
    go_ret
    exact ⟨by rw [HV.out]; first | done | rfl, HB.out⟩

set_option maxHeartbeats 4000000 in
theorem umedia_any (s : ByteArray) (r : Int) (w : World) (hs : s.size ≤ 1099511627776) (hr : IsFirst s medP 6 r) :
    Calls Tryz.prog 40 #[.string s] w fun e w' => e = .returned (.string (mdA (typeOf medP r) (filmB s) (filW s) (isO s))) ∧ Below w.heap.size w w' := by
  have H0 := Lib.hid (fun W => medType_any s r W (by omega) hr)
  have H1 := Lib.hid (fun W => mp4Is_any s W hs)
  have H2 := Lib.hid (fun W => wis_any s W (by omega))
  have H3 := Lib.hid (fun W => mis_any s W (by omega))
  obtain ⟨v, hv⟩ : ∃ v, v = mdA (typeOf medP r) (filmB s) (filW s) (isO s) := ⟨_, rfl⟩
  rw [← hv]
  clear hr
  generalize typeOf medP r = t at *
  generalize filmB s = a at *
  generalize filW s = b at *
  generalize isO s = c at *
  have HB := Lib.hid (Below.refl w.heap.size w)
  unfold mdA at hv
  cases he : emB t
  · rw [he, if_pos rfl] at hv
    have HV := Lib.hid hv
    obtain ⟨e1, e2⟩ := em_says he
    clear hv he
    go_enter Tryz.func40, Tryz.ntmps40
    go_wp2_with (first
      | (go_at_call 61; (with_reducible refine (H0.out _).mono ?_); rintro e w1 ⟨rfl, b1⟩; have HB := Lib.hid (HB.out.trans (b1.mono HB.out.size)); clear b1)
      | (go_at_call 62; (with_reducible refine (H1.out _).mono ?_); rintro e w1 ⟨rfl, b1⟩; have HB := Lib.hid (HB.out.trans (b1.mono HB.out.size)); clear b1)
      | (go_at_call 63; (with_reducible refine (H2.out _).mono ?_); rintro e w1 ⟨rfl, rfl⟩)
      | (go_at_call 64; (with_reducible refine (H3.out _).mono ?_); rintro e w1 ⟨rfl, b1⟩; have HB := Lib.hid (HB.out.trans (b1.mono HB.out.size)); clear b1))
    go_ret
    exact ⟨by rw [HV.out]; first | done | rfl, HB.out⟩
  · rw [he, if_neg (by simp)] at hv
    have HV := Lib.hid hv
    obtain ⟨e1, e2⟩ := em_says he
    clear hv he
    cases a <;> cases b <;> cases c
    all_goals
      go_enter Tryz.func40, Tryz.ntmps40
      go_wp2_with (first
        | (go_at_call 61; (with_reducible refine (H0.out _).mono ?_); rintro e w1 ⟨rfl, b1⟩; have HB := Lib.hid (HB.out.trans (b1.mono HB.out.size)); clear b1)
        | (go_at_call 62; (with_reducible refine (H1.out _).mono ?_); rintro e w1 ⟨rfl, b1⟩; have HB := Lib.hid (HB.out.trans (b1.mono HB.out.size)); clear b1)
        | (go_at_call 63; (with_reducible refine (H2.out _).mono ?_); rintro e w1 ⟨rfl, rfl⟩)
        | (go_at_call 64; (with_reducible refine (H3.out _).mono ?_); rintro e w1 ⟨rfl, b1⟩; have HB := Lib.hid (HB.out.trans (b1.mono HB.out.size)); clear b1))
      go_ret
      exact ⟨by rw [HV.out]; first | done | rfl, HB.out⟩

set_option maxHeartbeats 4000000 in
theorem rmedia_any (s : ByteArray) (r : Int) (w : World) (hs : s.size ≤ 1099511627776) (hr : IsFirst s medP 6 r) :
    Calls Tryz.prog 41 #[.string s] w fun e w' => e = .returned (.string (mdA (typeOf medP r) (filmB s) (filW s) (isO s))) ∧ Below w.heap.size w w' := by
  have H0 := Lib.hid (fun W g (h : PatsIn W g medP 6) => rType_any g 6 6 s medP r W h (fun i hi => med_ok hi) (by omega) (by decide) hr)
  have H1 := Lib.hid (fun W => ris16_any s W hs)
  have H2 := Lib.hid (fun W => ris_any s W (by omega))
  have H3 := Lib.hid (fun W => ris18_any s W (by omega))
  obtain ⟨v, hv⟩ : ∃ v, v = mdA (typeOf medP r) (filmB s) (filW s) (isO s) := ⟨_, rfl⟩
  rw [← hv]
  clear hr
  generalize typeOf medP r = t at *
  generalize filmB s = a at *
  generalize filW s = b at *
  generalize isO s = c at *
  have HB := Lib.hid (Below.refl w.heap.size w)
  unfold mdA at hv
  cases he : emB t
  · rw [he, if_pos rfl] at hv
    have HV := Lib.hid hv
    obtain ⟨e1, e2⟩ := em_says he
    clear hv he
    go_enter Tryz.func41, Tryz.ntmps41
    go_wp2_with (first
      | (go_at_call 65; refine (refTable14_any _).mono ?_; rintro e w1 ⟨g, rfl, hg, hp, b1⟩; have HB := Lib.hid (HB.out.trans (b1.mono HB.out.size)); have HP := Lib.hid hp; clear b1 hp hg)
      | (go_at_call 38; (with_reducible refine (H0.out _ _ HP.out).mono ?_); rintro e w1 ⟨rfl, b1⟩; have HB := Lib.hid (HB.out.trans (b1.mono HB.out.size)); clear b1)
      | (go_at_call 66; (with_reducible refine (H1.out _).mono ?_); rintro e w1 ⟨rfl, b1⟩; have HB := Lib.hid (HB.out.trans (b1.mono HB.out.size)); clear b1)
      | (go_at_call 67; (with_reducible refine (H2.out _).mono ?_); rintro e w1 ⟨rfl, rfl⟩)
      | (go_at_call 68; (with_reducible refine (H3.out _).mono ?_); rintro e w1 ⟨rfl, b1⟩; have HB := Lib.hid (HB.out.trans (b1.mono HB.out.size)); clear b1))
    go_ret
    exact ⟨by rw [HV.out]; first | done | rfl, HB.out⟩
  · rw [he, if_neg (by simp)] at hv
    have HV := Lib.hid hv
    obtain ⟨e1, e2⟩ := em_says he
    clear hv he
    cases a <;> cases b <;> cases c
    all_goals
      go_enter Tryz.func41, Tryz.ntmps41
      go_wp2_with (first
        | (go_at_call 65; refine (refTable14_any _).mono ?_; rintro e w1 ⟨g, rfl, hg, hp, b1⟩; have HB := Lib.hid (HB.out.trans (b1.mono HB.out.size)); have HP := Lib.hid hp; clear b1 hp hg)
        | (go_at_call 38; (with_reducible refine (H0.out _ _ HP.out).mono ?_); rintro e w1 ⟨rfl, b1⟩; have HB := Lib.hid (HB.out.trans (b1.mono HB.out.size)); clear b1)
        | (go_at_call 66; (with_reducible refine (H1.out _).mono ?_); rintro e w1 ⟨rfl, b1⟩; have HB := Lib.hid (HB.out.trans (b1.mono HB.out.size)); clear b1)
        | (go_at_call 67; (with_reducible refine (H2.out _).mono ?_); rintro e w1 ⟨rfl, rfl⟩)
        | (go_at_call 68; (with_reducible refine (H3.out _).mono ?_); rintro e w1 ⟨rfl, b1⟩; have HB := Lib.hid (HB.out.trans (b1.mono HB.out.size)); clear b1))
      go_ret
      exact ⟨by rw [HV.out]; first | done | rfl, HB.out⟩

set_option maxHeartbeats 4000000 in
theorem usigned_any (s : ByteArray) (r1 r2 r3 r4 : Int) (w : World) (hs : s.size ≤ 1099511627776) (h1 : IsFirst s sgnP 4 r1) (h2 : IsFirst s imgP 8 r2) (h3 : IsFirst s medP 6 r3) (h4 : IsFirst s arcP 3 r4) :
    Calls Tryz.prog 52 #[.string s] w fun e w' => e = .returned (.string (sgA (typeOf sgnP r1) (typeOf imgP r2) (mdA (typeOf medP r3) (filmB s) (filW s) (isO s)) (typeOf arcP r4))) ∧ Below w.heap.size w w' := by
  have H1 := Lib.hid (fun W g (h : PatsIn W g sgnP 4) => type_any g 4 4 s sgnP r1 W h (fun i hi => sgn_ok hi) (by omega) (by decide) h1)
  have H2 := Lib.hid (fun W => imgType_any s r2 W (by omega) h2)
  have H3 := Lib.hid (fun W => umedia_any s r3 W hs h3)
  have H4 := Lib.hid (fun W => packArchive_any s r4 W (by omega) h4)
  obtain ⟨v, hv⟩ : ∃ v, v = sgA (typeOf sgnP r1) (typeOf imgP r2) (mdA (typeOf medP r3) (filmB s) (filW s) (isO s)) (typeOf arcP r4) := ⟨_, rfl⟩
  rw [← hv]
  clear h1 h2 h3 h4
  generalize typeOf sgnP r1 = t1 at *
  generalize typeOf imgP r2 = t2 at *
  generalize mdA (typeOf medP r3) (filmB s) (filW s) (isO s) = t3 at *
  generalize typeOf arcP r4 = t4 at *
  have HB := Lib.hid (Below.refl w.heap.size w)
  unfold sgA at hv
  cases he1 : emB t1
  · rw [he1, if_pos rfl] at hv
    have HV := Lib.hid hv
    obtain ⟨e1, f1⟩ := em_says he1
    clear hv he1
    go_enter Tryz.func52, Tryz.ntmps52
    go_wp2_with (first
      | (go_at_call 76; refine (usigns_any _).mono ?_; rintro e w1 ⟨g, rfl, hg, hp, b1⟩; have HB := Lib.hid (HB.out.trans (b1.mono HB.out.size)); have HP := Lib.hid hp; clear b1 hp hg)
      | (go_at_call 57; (with_reducible refine (H1.out _ _ HP.out).mono ?_); rintro e w1 ⟨rfl, b1⟩; have HB := Lib.hid (HB.out.trans (b1.mono HB.out.size)); clear b1)
      | (go_at_call 37; (with_reducible refine (H2.out _).mono ?_); rintro e w1 ⟨rfl, b1⟩; have HB := Lib.hid (HB.out.trans (b1.mono HB.out.size)); clear b1)
      | (go_at_call 40; (with_reducible refine (H3.out _).mono ?_); rintro e w1 ⟨rfl, b1⟩; have HB := Lib.hid (HB.out.trans (b1.mono HB.out.size)); clear b1)
      | (go_at_call 77; (with_reducible refine (H4.out _).mono ?_); rintro e w1 ⟨rfl, b1⟩; have HB := Lib.hid (HB.out.trans (b1.mono HB.out.size)); clear b1))
    go_ret
    exact ⟨by rw [HV.out]; first | done | rfl, HB.out⟩
  · rw [he1, if_neg (by simp)] at hv
    obtain ⟨e1, f1⟩ := em_says he1
    clear he1
    cases he2 : emB t2
    · rw [he2, if_pos rfl] at hv
      have HV := Lib.hid hv
      obtain ⟨e2, f2⟩ := em_says he2
      clear hv he2
      go_enter Tryz.func52, Tryz.ntmps52
      go_wp2_with (first
        | (go_at_call 76; refine (usigns_any _).mono ?_; rintro e w1 ⟨g, rfl, hg, hp, b1⟩; have HB := Lib.hid (HB.out.trans (b1.mono HB.out.size)); have HP := Lib.hid hp; clear b1 hp hg)
        | (go_at_call 57; (with_reducible refine (H1.out _ _ HP.out).mono ?_); rintro e w1 ⟨rfl, b1⟩; have HB := Lib.hid (HB.out.trans (b1.mono HB.out.size)); clear b1)
        | (go_at_call 37; (with_reducible refine (H2.out _).mono ?_); rintro e w1 ⟨rfl, b1⟩; have HB := Lib.hid (HB.out.trans (b1.mono HB.out.size)); clear b1)
        | (go_at_call 40; (with_reducible refine (H3.out _).mono ?_); rintro e w1 ⟨rfl, b1⟩; have HB := Lib.hid (HB.out.trans (b1.mono HB.out.size)); clear b1)
        | (go_at_call 77; (with_reducible refine (H4.out _).mono ?_); rintro e w1 ⟨rfl, b1⟩; have HB := Lib.hid (HB.out.trans (b1.mono HB.out.size)); clear b1))
      go_ret
      exact ⟨by rw [HV.out]; first | done | rfl, HB.out⟩
    · rw [he2, if_neg (by simp)] at hv
      obtain ⟨e2, f2⟩ := em_says he2
      clear he2
      cases he3 : emB t3
      · rw [he3, if_pos rfl] at hv
        have HV := Lib.hid hv
        obtain ⟨e3, f3⟩ := em_says he3
        clear hv he3
        go_enter Tryz.func52, Tryz.ntmps52
        go_wp2_with (first
          | (go_at_call 76; refine (usigns_any _).mono ?_; rintro e w1 ⟨g, rfl, hg, hp, b1⟩; have HB := Lib.hid (HB.out.trans (b1.mono HB.out.size)); have HP := Lib.hid hp; clear b1 hp hg)
          | (go_at_call 57; (with_reducible refine (H1.out _ _ HP.out).mono ?_); rintro e w1 ⟨rfl, b1⟩; have HB := Lib.hid (HB.out.trans (b1.mono HB.out.size)); clear b1)
          | (go_at_call 37; (with_reducible refine (H2.out _).mono ?_); rintro e w1 ⟨rfl, b1⟩; have HB := Lib.hid (HB.out.trans (b1.mono HB.out.size)); clear b1)
          | (go_at_call 40; (with_reducible refine (H3.out _).mono ?_); rintro e w1 ⟨rfl, b1⟩; have HB := Lib.hid (HB.out.trans (b1.mono HB.out.size)); clear b1)
          | (go_at_call 77; (with_reducible refine (H4.out _).mono ?_); rintro e w1 ⟨rfl, b1⟩; have HB := Lib.hid (HB.out.trans (b1.mono HB.out.size)); clear b1))
        go_ret
        exact ⟨by rw [HV.out]; first | done | rfl, HB.out⟩
      · rw [he3, if_neg (by simp)] at hv
        obtain ⟨e3, f3⟩ := em_says he3
        clear he3
        have HV := Lib.hid hv
        clear hv
        go_enter Tryz.func52, Tryz.ntmps52
        go_wp2_with (first
          | (go_at_call 76; refine (usigns_any _).mono ?_; rintro e w1 ⟨g, rfl, hg, hp, b1⟩; have HB := Lib.hid (HB.out.trans (b1.mono HB.out.size)); have HP := Lib.hid hp; clear b1 hp hg)
          | (go_at_call 57; (with_reducible refine (H1.out _ _ HP.out).mono ?_); rintro e w1 ⟨rfl, b1⟩; have HB := Lib.hid (HB.out.trans (b1.mono HB.out.size)); clear b1)
          | (go_at_call 37; (with_reducible refine (H2.out _).mono ?_); rintro e w1 ⟨rfl, b1⟩; have HB := Lib.hid (HB.out.trans (b1.mono HB.out.size)); clear b1)
          | (go_at_call 40; (with_reducible refine (H3.out _).mono ?_); rintro e w1 ⟨rfl, b1⟩; have HB := Lib.hid (HB.out.trans (b1.mono HB.out.size)); clear b1)
          | (go_at_call 77; (with_reducible refine (H4.out _).mono ?_); rintro e w1 ⟨rfl, b1⟩; have HB := Lib.hid (HB.out.trans (b1.mono HB.out.size)); clear b1))
        go_ret
        exact ⟨by rw [HV.out]; first | done | rfl, HB.out⟩

/-- What a body is, by its first bytes; b: whether what may have scripts within is told. -/
def typS (s : ByteArray) (b : Bool) (r1 r2 r3 r4 : Int) : ByteArray := tyA (if b then scA (htmB s) (xmlB s) (prefB s pdfS) else ⟨#[]⟩) (sgA (typeOf sgnP r1) (typeOf imgP r2) (mdA (typeOf medP r3) (filmB s) (filW s) (isO s)) (typeOf arcP r4)) (lsA (hasBin s))
/-- Which signs a body has. -/
structure Sgs (s : ByteArray) (r1 r2 r3 r4 : Int) : Prop where
  h1 : IsFirst s sgnP 4 r1
  h2 : IsFirst s imgP 8 r2
  h3 : IsFirst s medP 6 r3
  h4 : IsFirst s arcP 3 r4
theorem Sgs.some (s : ByteArray) : ∃ r1 r2 r3 r4, Sgs s r1 r2 r3 r4 := by
  obtain ⟨r1, h1⟩ := IsFirst.some s sgnP 4
  obtain ⟨r2, h2⟩ := IsFirst.some s imgP 8
  obtain ⟨r3, h3⟩ := IsFirst.some s medP 6
  obtain ⟨r4, h4⟩ := IsFirst.some s arcP 3
  exact ⟨r1, r2, r3, r4, h1, h2, h3, h4⟩

set_option maxHeartbeats 4000000 in
theorem utype_any (s u : ByteArray) (b : Bool) (r1 r2 r3 r4 : Int) (w : World) (hs : s.size ≤ 9223372036854775807) (hu : cutB s 1445 = u) (hr : Sgs u r1 r2 r3 r4) :
    Calls Tryz.prog 29 #[.string s, .bool b] w fun e w' => e = .returned (.string (typS u b r1 r2 r3 r4)) ∧ Below w.heap.size w w' := by
  have hus : u.size ≤ 1445 := by rw [← hu]; exact cutB_size s 1445
  have H0 := Lib.hid (fun W => cut19_any s W hs)
  rw [hu] at H0
  have H1 := Lib.hid (fun W => uscripted_any u W (by omega))
  have H2 := Lib.hid (fun W => usigned_any u r1 r2 r3 r4 W (by omega) hr.h1 hr.h2 hr.h3 hr.h4)
  have H3 := Lib.hid (fun W => utext_any u W (by omega))
  obtain ⟨v, hv⟩ : ∃ v, v = typS u b r1 r2 r3 r4 := ⟨_, rfl⟩
  rw [← hv]
  clear hr hu
  unfold typS at hv
  generalize scA (htmB u) (xmlB u) (prefB u pdfS) = c at *
  generalize sgA (typeOf sgnP r1) (typeOf imgP r2) (mdA (typeOf medP r3) (filmB u) (filW u) (isO u)) (typeOf arcP r4) = g at *
  generalize lsA (hasBin u) = l at *
  have HB := Lib.hid (Below.refl w.heap.size w)
  unfold tyA at hv
  cases b
  · rw [show (if false = true then c else ⟨#[]⟩) = (⟨#[]⟩ : ByteArray) from if_neg (by simp), em_none, if_neg (by simp)] at hv
    cases heg : emB g
    · rw [heg, if_pos rfl] at hv
      have HV := Lib.hid hv
      obtain ⟨e2, f2⟩ := em_says heg
      clear hv heg
      go_enter Tryz.func29, Tryz.ntmps29
      go_wp2_with (first
        | (go_at_call 33; (with_reducible refine (H0.out _).mono ?_); rintro e w1 ⟨rfl, rfl⟩)
        | (go_at_call 51; (with_reducible refine (H1.out _).mono ?_); rintro e w1 ⟨rfl, b1⟩; have HB := Lib.hid (HB.out.trans (b1.mono HB.out.size)); clear b1)
        | (go_at_call 52; (with_reducible refine (H2.out _).mono ?_); rintro e w1 ⟨rfl, b1⟩; have HB := Lib.hid (HB.out.trans (b1.mono HB.out.size)); clear b1)
        | (go_at_call 53; (with_reducible refine (H3.out _).mono ?_); rintro e w1 ⟨rfl, rfl⟩))
      go_ret
      exact ⟨by rw [HV.out]; first | done | rfl, HB.out⟩
    · rw [heg, if_neg (by simp)] at hv
      have HV := Lib.hid hv
      obtain ⟨e2, f2⟩ := em_says heg
      clear hv heg
      go_enter Tryz.func29, Tryz.ntmps29
      go_wp2_with (first
        | (go_at_call 33; (with_reducible refine (H0.out _).mono ?_); rintro e w1 ⟨rfl, rfl⟩)
        | (go_at_call 51; (with_reducible refine (H1.out _).mono ?_); rintro e w1 ⟨rfl, b1⟩; have HB := Lib.hid (HB.out.trans (b1.mono HB.out.size)); clear b1)
        | (go_at_call 52; (with_reducible refine (H2.out _).mono ?_); rintro e w1 ⟨rfl, b1⟩; have HB := Lib.hid (HB.out.trans (b1.mono HB.out.size)); clear b1)
        | (go_at_call 53; (with_reducible refine (H3.out _).mono ?_); rintro e w1 ⟨rfl, rfl⟩))
      go_ret
      exact ⟨by rw [HV.out]; first | done | rfl, HB.out⟩
  · rw [if_pos rfl] at hv
    cases hec : emB c
    · rw [hec, if_pos rfl] at hv
      have HV := Lib.hid hv
      obtain ⟨e1, f1⟩ := em_says hec
      clear hv hec
      go_enter Tryz.func29, Tryz.ntmps29
      go_wp2_with (first
        | (go_at_call 33; (with_reducible refine (H0.out _).mono ?_); rintro e w1 ⟨rfl, rfl⟩)
        | (go_at_call 51; (with_reducible refine (H1.out _).mono ?_); rintro e w1 ⟨rfl, b1⟩; have HB := Lib.hid (HB.out.trans (b1.mono HB.out.size)); clear b1)
        | (go_at_call 52; (with_reducible refine (H2.out _).mono ?_); rintro e w1 ⟨rfl, b1⟩; have HB := Lib.hid (HB.out.trans (b1.mono HB.out.size)); clear b1)
        | (go_at_call 53; (with_reducible refine (H3.out _).mono ?_); rintro e w1 ⟨rfl, rfl⟩))
      go_ret
      exact ⟨by rw [HV.out]; first | done | rfl, HB.out⟩
    · rw [hec, if_neg (by simp)] at hv
      obtain ⟨e1, f1⟩ := em_says hec
      clear hec
      cases heg : emB g
      · rw [heg, if_pos rfl] at hv
        have HV := Lib.hid hv
        obtain ⟨e2, f2⟩ := em_says heg
        clear hv heg
        go_enter Tryz.func29, Tryz.ntmps29
        go_wp2_with (first
          | (go_at_call 33; (with_reducible refine (H0.out _).mono ?_); rintro e w1 ⟨rfl, rfl⟩)
          | (go_at_call 51; (with_reducible refine (H1.out _).mono ?_); rintro e w1 ⟨rfl, b1⟩; have HB := Lib.hid (HB.out.trans (b1.mono HB.out.size)); clear b1)
          | (go_at_call 52; (with_reducible refine (H2.out _).mono ?_); rintro e w1 ⟨rfl, b1⟩; have HB := Lib.hid (HB.out.trans (b1.mono HB.out.size)); clear b1)
          | (go_at_call 53; (with_reducible refine (H3.out _).mono ?_); rintro e w1 ⟨rfl, rfl⟩))
        go_ret
        exact ⟨by rw [HV.out]; first | done | rfl, HB.out⟩
      · rw [heg, if_neg (by simp)] at hv
        have HV := Lib.hid hv
        obtain ⟨e2, f2⟩ := em_says heg
        clear hv heg
        go_enter Tryz.func29, Tryz.ntmps29
        go_wp2_with (first
          | (go_at_call 33; (with_reducible refine (H0.out _).mono ?_); rintro e w1 ⟨rfl, rfl⟩)
          | (go_at_call 51; (with_reducible refine (H1.out _).mono ?_); rintro e w1 ⟨rfl, b1⟩; have HB := Lib.hid (HB.out.trans (b1.mono HB.out.size)); clear b1)
          | (go_at_call 52; (with_reducible refine (H2.out _).mono ?_); rintro e w1 ⟨rfl, b1⟩; have HB := Lib.hid (HB.out.trans (b1.mono HB.out.size)); clear b1)
          | (go_at_call 53; (with_reducible refine (H3.out _).mono ?_); rintro e w1 ⟨rfl, rfl⟩))
        go_ret
        exact ⟨by rw [HV.out]; first | done | rfl, HB.out⟩

end Go.Proofs.YtkdjjlfpaciohaaGreatDoor
