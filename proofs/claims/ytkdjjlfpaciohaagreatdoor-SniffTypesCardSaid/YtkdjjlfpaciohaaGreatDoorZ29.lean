/-
  The head of a frame: what package mp3 answers. Condition: the text is not longer than memory.
  The frame with which a text begins: what package mp3 answers. Condition: the text is not longer than memory.
  Whether a text is a sound, and how many frames lie in it: what package mp3 answers. Condition: the text is not longer than memory.
-/
import Derived.Test.YtkdjjlfpaciohaaGreatDoorZ28
namespace Go.Proofs.YtkdjjlfpaciohaaGreatDoor
open Go.RowKit

theorem and3_8 (b : UInt8) : bits .and .u8 ((b.toNat : Int) / 8) 3 = ((b.toNat / 8 % 4 : Nat) : Int) :=
  of_decide_eq_true (bytes_all (p := fun b => decide (bits .and .u8 ((b.toNat : Int) / 8) 3 = ((b.toNat / 8 % 4 : Nat) : Int))) (by kernel_rfl) b)
theorem and3_2 (b : UInt8) : bits .and .u8 ((b.toNat : Int) / 2) 3 = ((b.toNat / 2 % 4 : Nat) : Int) :=
  of_decide_eq_true (bytes_all (p := fun b => decide (bits .and .u8 ((b.toNat : Int) / 2) 3 = ((b.toNat / 2 % 4 : Nat) : Int))) (by kernel_rfl) b)
theorem and3_4 (b : UInt8) : bits .and .u8 ((b.toNat : Int) / 4) 3 = ((b.toNat / 4 % 4 : Nat) : Int) :=
  of_decide_eq_true (bytes_all (p := fun b => decide (bits .and .u8 ((b.toNat : Int) / 4) 3 = ((b.toNat / 4 % 4 : Nat) : Int))) (by kernel_rfl) b)
theorem and1_2 (b : UInt8) : bits .and .u8 ((b.toNat : Int) / 2) 1 = ((b.toNat / 2 % 2 : Nat) : Int) :=
  of_decide_eq_true (bytes_all (p := fun b => decide (bits .and .u8 ((b.toNat : Int) / 2) 1 = ((b.toNat / 2 % 2 : Nat) : Int))) (by kernel_rfl) b)
theorem div_16 (b : UInt8) : (b.toNat : Int) / 16 = ((b.toNat / 16 : Nat) : Int) := by omega

theorem Blk.new2 (w : World) (o : Obj) (t : TypeId) (cs : Array Value) : Blk ((w.alloc o).alloc (.cells cs t)) (w.heap.size + 1) t cs := by
  have := Blk.new (w.alloc o) t cs
  rwa [show (w.alloc o).heap.size = w.heap.size + 1 from by simp] at this
theorem two_kept {w w1 w2 : World} {c0 c1 : Array Value} {t : TypeId} {n : Nat} (h1 : Below (((w.alloc (.cells c0 t)).alloc (.cells c1 t)).drewN n).heap.size (((w.alloc (.cells c0 t)).alloc (.cells c1 t)).drewN n) w1) (h2 : Below w1.heap.size w1 w2) (c2 c3 : Array Value) (t2 t3 : TypeId) :
    Below w.heap.size w ((w2.alloc (.cells c2 t2)).alloc (.cells c3 t3)) ∧ Blk ((w2.alloc (.cells c2 t2)).alloc (.cells c3 t3)) w.heap.size t c0 ∧ Blk ((w2.alloc (.cells c2 t2)).alloc (.cells c3 t3)) (w.heap.size + 1) t c1 ∧ Blk ((w2.alloc (.cells c2 t2)).alloc (.cells c3 t3)) w2.heap.size t2 c2 ∧ Blk ((w2.alloc (.cells c2 t2)).alloc (.cells c3 t3)) (w2.heap.size + 1) t3 c3 ∧ w.heap.size + 1 < w2.heap.size := by
  have e0 : (((w.alloc (.cells c0 t)).alloc (.cells c1 t)).drewN n).heap.size = w.heap.size + 2 := by
    show ((w.alloc (.cells c0 t)).alloc (.cells c1 t)).heap.size = _
    simp
  have s1 := h1.size
  have s2 := h2.size
  have b0 : Below w.heap.size w (((w.alloc (.cells c0 t)).alloc (.cells c1 t)).drewN n) := Below.drewN' (((Below.refl w.heap.size w).alloc (Nat.le_refl _) _).alloc (by simp) _) n
  have b1 := b0.trans (h1.mono (by omega))
  have b2 := b1.trans (h2.mono (by omega))
  have k0 : Blk w2 w.heap.size t c0 := (Blk.below (by exact ((Blk.new w t c0).alloc (.cells c1 t))) h1 (by omega)).below h2 (by omega)
  have k1 : Blk w2 (w.heap.size + 1) t c1 := (Blk.below (by exact Blk.new2 w (.cells c0 t) t c1) h1 (by omega)).below h2 (by omega)
  exact ⟨(b2.alloc (by omega) _).alloc (by simp; omega) _, (k0.alloc _).alloc _, (k1.alloc _).alloc _, (Blk.new w2 t2 c2).alloc _, Blk.new2 w2 _ t3 c3, by omega⟩

theorem Blk.set5 {W : World} {g : Nat} {t : TypeId} {u0 u1 u2 u3 u4 : Value} (h : Blk W g t #[u0, u1, u2, u3, u4]) (v0 v1 v2 v3 v4 : Value) :
    Blk (((((W.setCell ⟨g, 0, none⟩ v0).setCell ⟨g, 1, none⟩ v1).setCell ⟨g, 2, none⟩ v2).setCell ⟨g, 3, none⟩ v3).setCell ⟨g, 4, none⟩ v4) g t #[v0, v1, v2, v3, v4] :=
  ((((h.set_ 0 v0).set_ 1 v1).set_ 2 v2).set_ 3 v3).set_ 4 v4
theorem Below.set5 {w W : World} {g : Nat} (h : Below w.heap.size w W) (hg : w.heap.size ≤ g) (v0 v1 v2 v3 v4 : Value) :
    Below w.heap.size w (((((W.setCell ⟨g, 0, none⟩ v0).setCell ⟨g, 1, none⟩ v1).setCell ⟨g, 2, none⟩ v2).setCell ⟨g, 3, none⟩ v3).setCell ⟨g, 4, none⟩ v4) :=
  ((((h.setCell (by exact hg) v0).setCell (by exact hg) v1).setCell (by exact hg) v2).setCell (by exact hg) v3).setCell (by exact hg) v4

theorem hdO_mark {s : ByteArray} (h4 : 4 ≤ s.size) (h0 : s[0]!.toNat = 255) (c0 : 224 ≤ s[1]!.toNat) : hdO s = (decide (s[1]!.toNat / 2 % 4 = 1) && (decide (s[2]!.toNat / 16 < 15) && decide (s[2]!.toNat / 4 % 4 < 3))) := by
  unfold hdO hedB
  rw [decide_eq_true h4, decide_eq_true h0, decide_eq_true c0]
  rfl

set_option maxHeartbeats 2000000 in
set_option maxRecDepth 100000 in
/-- The tests behind the mark: y, r, q: what the two bytes say. -/
theorem mhead_mark (s : ByteArray) (w : World) (hs : s.size ≤ 9223372036854775807) (h4 : 4 ≤ s.size) (h0 : s[0]!.toNat = 255) (c0 : 224 ≤ s[1]!.toNat) :
    Calls Tryz.prog 92 #[.string s] w fun e w' => e = .returned (.tuple #[frmV (hdF s), .bool (hdO s)]) ∧ Below w.heap.size w w' := by
  obtain ⟨d, hd⟩ : ∃ d, d = hdF s := ⟨_, rfl⟩
  obtain ⟨o, ho⟩ : ∃ o, o = hdO s := ⟨_, rfl⟩
  rw [← hd, ← ho]
  have HD := Lib.hid (show d = if o = true then hedF s[1]! s[2]! else zeroF from by rw [hd, ho]; rfl)
  have HO := Lib.hid (ho.trans (hdO_mark h4 h0 c0))
  clear hd ho
  obtain ⟨x, hx, ex⟩ : ∃ x : UInt8, s[0]'(by omega) = x ∧ Hid (s[0]! = x) := ⟨_, rfl, Lib.hid (getElem!_pos s 0 (by omega))⟩
  obtain ⟨b, hb, eb⟩ : ∃ x : UInt8, s[1]'(by omega) = x ∧ Hid (s[1]! = x) := ⟨_, rfl, Lib.hid (getElem!_pos s 1 (by omega))⟩
  obtain ⟨c, hc, ec⟩ : ∃ x : UInt8, s[2]'(by omega) = x ∧ Hid (s[2]! = x) := ⟨_, rfl, Lib.hid (getElem!_pos s 2 (by omega))⟩
  rw [ex.out] at h0
  rw [eb.out] at c0
  rw [eb.out, ec.out] at HD HO
  unfold hedF at HD
  have g4 : ¬ ((s.size : Int) < 4) := by omega
  have hb8 := b.toNat_lt
  have hc8 := c.toNat_lt
  have k1 : (b.toNat : Int) / 32 = 7 := by omega
  have a1 := and3_8 b
  have a2 := and3_2 b
  have a3 := and1_2 c
  have a4 := div_16 c
  have a5 := and3_4 c
  obtain ⟨v, hv⟩ : ∃ v, v = b.toNat / 8 % 4 := ⟨_, rfl⟩
  obtain ⟨y, hy⟩ : ∃ v, v = b.toNat / 2 % 4 := ⟨_, rfl⟩
  obtain ⟨r, hr⟩ : ∃ v, v = c.toNat / 16 := ⟨_, rfl⟩
  obtain ⟨q, hq⟩ : ∃ v, v = c.toNat / 4 % 4 := ⟨_, rfl⟩
  obtain ⟨z, hz⟩ : ∃ v, v = c.toNat / 2 % 2 := ⟨_, rfl⟩
  have hv4 : v < 4 := by omega
  have hy4 : y < 4 := by omega
  have hr16 : r < 16 := by omega
  have hq4 : q < 4 := by omega
  have hz2 : z < 2 := by omega
  rw [← hv, ← hr, ← hq, ← hz] at HD
  rw [← hy, ← hr, ← hq] at HO
  rw [← hv] at a1
  rw [← hy] at a2
  rw [← hz] at a3
  rw [← hr] at a4
  rw [← hq] at a5
  clear hv hy hr hq hz
  obtain ⟨L, hL⟩ : ∃ L : Int, 4 - (y : Int) = L := ⟨_, rfl⟩
  have hL1 : 1 ≤ L ∧ L ≤ 4 := by omega
  obtain ⟨p, hp⟩ : ∃ p : Bool, ((z : Int) == 1) = p := ⟨_, rfl⟩
  have HP := Lib.hid (show decide (z = 1) = p from by rw [← hp, Bool.eq_iff_iff, decide_eq_true_eq, beq_iff_eq]; omega)
  rw [HP.out] at HD
  have HR := Lib.hid (fun W => rates_any v W ⟨by omega, by omega⟩)
  have HF := Lib.hid freqs_any
  have hT := tabL_size (ratL (oddB v))
  rw [ratL_len] at hT
  have hU : (tabL freL).size = 3 := tabL_size freL
  have HT1 := Lib.hid (tabL_one (ratL (oddB v)))
  have HU1 := Lib.hid (tabL_one freL)
  have HTA := Lib.hid (fun i => tabL_at (ratL (oddB v)) i)
  have HUA := Lib.hid (fun i => tabL_at freL i)
  generalize tabL (ratL (oddB v)) = T at *
  generalize tabL freL = U at *
  go_enter Tryz.func92, Tryz.ntmps92
  go_wp2
  go_region
  go_wp2
  go_quiet (fail)
  go_wp2_with (first
      | (go_at_call 120; (with_reducible refine (HR.out _).mono ?_); rintro e w1 ⟨rfl, hb⟩; have HB1 := Lib.hid hb; clear hb)
      | (go_at_call 121; (with_reducible refine (HF.out _).mono ?_); rintro e w2 ⟨rfl, hb⟩; have HB2 := Lib.hid hb; clear hb))
  obtain ⟨hbW, k0, k2, k3, k4, hg⟩ := two_kept HB1.out HB2.out T U 84 86
  rw [store_under w2 _ _ T _ (by rw [hT]; rfl) HT1.out]
  simp only [Result.andThen]
  rw [Oper.upon_skip]
  go_wp2
  rw [store_over w2 _ _ U _ (by rw [hU]; rfl) HU1.out]
  simp only [Result.andThen]
  rw [Oper.upon_skip]
  clear HB1 HB2 HR HF
  generalize (w2.alloc (.cells T 84)).alloc (.cells U 86) = W at *
  generalize w2.heap.size = g at *
  have HW := Lib.hid hbW
  have HK0 := Lib.hid k0
  have HK2 := Lib.hid k2
  have HK3 := Lib.hid k3
  have HK4 := Lib.hid k4
  clear hbW k0 k2 k3 k4
  have e0 := HK2.out.cell 0
  have e1 := HK2.out.cell 1
  have e2 := HK2.out.cell 2
  have e3 := HK2.out.cell 3
  have e4 := HK2.out.cell 4
  have r0 := HK0.out.cell 0
  have r1 := HK0.out.cell 1
  have r2 := HK0.out.cell 2
  have r3 := HK0.out.cell 3
  have r4 := HK0.out.cell 4
  have y0 := HK0.out.frozen 0
  have y1 := HK0.out.frozen 1
  have y2 := HK0.out.frozen 2
  have y3 := HK0.out.frozen 3
  have y4 := HK0.out.frozen 4
  by_cases hok : L = 3 ∧ r < 15 ∧ q < 3
  · obtain ⟨rfl, hr15, hq3⟩ := hok
    have HO2 : Hid (o = true) := Lib.hid (by rw [HO.out, decide_eq_true (show y = 1 by omega), decide_eq_true hr15, decide_eq_true hq3]; rfl)
    have HD2 : Hid (d = ⟨(v : Nat), 3, (ratN (oddB v) r : Nat), (freN q : Nat), p⟩) := Lib.hid (by rw [HD.out, HO2.out]; rfl)
    have f1 := (HK3.out.cell r).trans (HTA.out r (by rw [ratL_len]; exact hr15))
    have f2 := (HK4.out.cell q).trans (HUA.out q hq3)
    rw [show (ratL (oddB v))[r]'(by rw [ratL_len]; exact hr15) = ratN (oddB v) r from by unfold ratN; rw [List.getD_eq_getElem?_getD, List.getElem?_eq_getElem (by rw [ratL_len]; exact hr15)]; rfl] at f1
    rw [show freL[q]'hq3 = freN q from by unfold freN; rw [List.getD_eq_getElem?_getD, List.getElem?_eq_getElem hq3]; rfl] at f2
    generalize ratN (oddB v) r = rt at *
    generalize freN q = fq at *
    have j1 : (r : Int) < 15 := by omega
    have j2 : (q : Int) < 3 := by omega
    have x2 := HK2.out.frozen 2
    have x3 := HK2.out.frozen 3
    clear HTA HUA HD HO
    go_wp2
    go_region
    have HK5 := Lib.hid (show Blk ((W.setCell ⟨w.heap.size + 1, 2, none⟩ (.int .i64 (rt : Nat))).setCell ⟨w.heap.size + 1, 3, none⟩ (.int .i64 (fq : Nat))).drew (w.heap.size + 1) _ #[.int .i64 (v : Nat), .int .i64 3, .int .i64 (rt : Nat), .int .i64 (fq : Nat), .bool p] from (HK2.out.set_ 2 (.int .i64 (rt : Nat))).set_ 3 (.int .i64 (fq : Nat)))
    have HK6 := Lib.hid (show Blk ((W.setCell ⟨w.heap.size + 1, 2, none⟩ (.int .i64 (rt : Nat))).setCell ⟨w.heap.size + 1, 3, none⟩ (.int .i64 (fq : Nat))).drew w.heap.size _ _ from (HK0.out.far (by simp) (.int .i64 (rt : Nat))).far (by simp) (.int .i64 (fq : Nat)))
    have HW3 := Lib.hid (((HW.out.setCell (show w.heap.size ≤ (⟨w.heap.size + 1, 2, none⟩ : Addr).block by simp) (.int .i64 (rt : Nat))).setCell (show w.heap.size ≤ (⟨w.heap.size + 1, 3, none⟩ : Addr).block by simp) (.int .i64 (fq : Nat))).drew)
    generalize ((W.setCell ⟨w.heap.size + 1, 2, none⟩ (.int .i64 (rt : Nat))).setCell ⟨w.heap.size + 1, 3, none⟩ (.int .i64 (fq : Nat))).drew = W3 at *
    clear HK0 HK2 HK3 HK4 HW e0 e1 e2 e3 e4 r0 r1 r2 r3 r4 y0 y1 y2 y3 y4 f1 f2 x2 x3
    have e0 := HK5.out.cell 0
    have e1 := HK5.out.cell 1
    have e2 := HK5.out.cell 2
    have e3 := HK5.out.cell 3
    have e4 := HK5.out.cell 4
    have r0 := HK6.out.cell 0
    have r1 := HK6.out.cell 1
    have r2 := HK6.out.cell 2
    have r3 := HK6.out.cell 3
    have r4 := HK6.out.cell 4
    have y0 := HK6.out.frozen 0
    have y1 := HK6.out.frozen 1
    have y2 := HK6.out.frozen 2
    have y3 := HK6.out.frozen 3
    have y4 := HK6.out.frozen 4
    go_wp2
    have HZ := Lib.hid (HK6.out.set5 (.int .i64 (v : Nat)) (.int .i64 3) (.int .i64 (rt : Nat)) (.int .i64 (fq : Nat)) (.bool p))
    have HB := Lib.hid (Below.set5 HW3.out (Nat.le_refl _) (.int .i64 (v : Nat)) (.int .i64 3) (.int .i64 (rt : Nat)) (.int .i64 (fq : Nat)) (.bool p))
    generalize ((((W3.setCell ⟨w.heap.size, 0, none⟩ (.int .i64 (v : Nat))).setCell ⟨w.heap.size, 1, none⟩ (.int .i64 3)).setCell ⟨w.heap.size, 2, none⟩ (.int .i64 (rt : Nat))).setCell ⟨w.heap.size, 3, none⟩ (.int .i64 (fq : Nat))).setCell ⟨w.heap.size, 4, none⟩ (.bool p) = W2 at *
    refine bodyPost_ret (v := .tuple #[frmV ⟨(v : Nat), 3, (rt : Nat), (fq : Nat), p⟩, .bool true]) ?_ rfl ⟨by rw [HD2.out, HO2.out], HB.out⟩
    have s0 := HZ.out.cell 0
    have s1 := HZ.out.cell 1
    have s2 := HZ.out.cell 2
    have s3 := HZ.out.cell 3
    have s4 := HZ.out.cell 4
    simp at s0 s1 s2 s3 s4
    simp [results, Tryz.results92, go_sem, s0, s1, s2, s3, s4]
  · have HO2 : Hid (o = false) := Lib.hid (by
      rw [HO.out]
      by_cases h1 : y = 1
      · by_cases h2 : r < 15
        · rw [decide_eq_false (show ¬ q < 3 from fun h3 => hok ⟨by omega, h2, h3⟩)]; simp
        · rw [decide_eq_false h2]; simp
      · rw [decide_eq_false h1]; simp)
    have HD2 : Hid (d = zeroF) := Lib.hid (by rw [HD.out, HO2.out]; rfl)
    have hcase : (L ≠ 3) ∨ (L = 3 ∧ (15 : Int) ≤ r) ∨ (L = 3 ∧ (r : Int) < 15 ∧ (3 : Int) ≤ q) := by omega
    clear hok
    rcases hcase with h1 | ⟨rfl, h1⟩ | ⟨rfl, h1, h2⟩
    all_goals
      go_wp2
      have HZ := Lib.hid (HK0.out.set5 (.int .i64 0) (.int .i64 0) (.int .i64 0) (.int .i64 0) (.bool false))
      have HB := Lib.hid (Below.set5 HW.out (Nat.le_refl _) (.int .i64 0) (.int .i64 0) (.int .i64 0) (.int .i64 0) (.bool false))
      generalize ((((W.setCell ⟨w.heap.size, 0, none⟩ (.int .i64 0)).setCell ⟨w.heap.size, 1, none⟩ (.int .i64 0)).setCell ⟨w.heap.size, 2, none⟩ (.int .i64 0)).setCell ⟨w.heap.size, 3, none⟩ (.int .i64 0)).setCell ⟨w.heap.size, 4, none⟩ (.bool false) = W2 at *
      refine bodyPost_ret (v := .tuple #[frmV zeroF, .bool false]) ?_ rfl ⟨by rw [HD2.out, HO2.out], HB.out⟩
      have s0 := HZ.out.cell 0
      have s1 := HZ.out.cell 1
      have s2 := HZ.out.cell 2
      have s3 := HZ.out.cell 3
      have s4 := HZ.out.cell 4
      simp at s0 s1 s2 s3 s4
      simp [results, Tryz.results92, go_sem, s0, s1, s2, s3, s4, zeroF]

set_option maxHeartbeats 2000000 in
theorem mhead_any (s : ByteArray) (w : World) (hs : s.size ≤ 9223372036854775807) :
    Calls Tryz.prog 92 #[.string s] w fun e w' => e = .returned (.tuple #[frmV (hdF s), .bool (hdO s)]) ∧ Below w.heap.size w w' := by
  by_cases hok : 4 ≤ s.size ∧ s[0]!.toNat = 255 ∧ 224 ≤ s[1]!.toNat
  · exact mhead_mark s w hs hok.1 hok.2.1 hok.2.2
  · have ho : hdO s = false := by
      cases h : hdO s
      · rfl
      · obtain ⟨h4, h0, hb⟩ := hdO_all h
        exact absurd ⟨h4, h0, (hedB_all hb).1⟩ hok
    rw [hdF_no ho, ho]
    clear ho
    by_cases h4 : 4 ≤ s.size
    · obtain ⟨x, hx, ex⟩ : ∃ x : UInt8, s[0]'(by omega) = x ∧ s[0]! = x := ⟨_, rfl, getElem!_pos s 0 (by omega)⟩
      obtain ⟨b, hb, eb⟩ : ∃ x : UInt8, s[1]'(by omega) = x ∧ s[1]! = x := ⟨_, rfl, getElem!_pos s 1 (by omega)⟩
      rw [ex, eb] at hok
      have hb8 := b.toNat_lt
      clear ex eb
      by_cases h0 : x.toNat = 255
      · have k1 : ((b.toNat : Int) / 32 != 7) = true := by rw [bne_iff_ne]; omega
        have g4 : decide ((s.size : Int) < 4) = false := by simp; omega
        clear hok
        go_enter Tryz.func92, Tryz.ntmps92
        go_wp2
        exact bodyPost_ret (v := .tuple #[frmV zeroF, .bool false]) (by simp [results, Tryz.results92, go_sem, zeroF]) rfl ⟨rfl, (Below.refl w.heap.size w).alloc (Nat.le_refl _) _⟩
      · have k1 : ((x.toNat : Int) != 255) = true := by rw [bne_iff_ne]; omega
        have g4 : decide ((s.size : Int) < 4) = false := by simp; omega
        clear hok
        go_enter Tryz.func92, Tryz.ntmps92
        go_wp2
        exact bodyPost_ret (v := .tuple #[frmV zeroF, .bool false]) (by simp [results, Tryz.results92, go_sem, zeroF]) rfl ⟨rfl, (Below.refl w.heap.size w).alloc (Nat.le_refl _) _⟩
    · clear hok
      go_enter Tryz.func92, Tryz.ntmps92
      go_wp2
      exact bodyPost_ret (v := .tuple #[frmV zeroF, .bool false]) (by simp [results, Tryz.results92, go_sem, zeroF]) rfl ⟨rfl, (Below.refl w.heap.size w).alloc (Nat.le_refl _) _⟩

end Go.Proofs.YtkdjjlfpaciohaaGreatDoor
namespace Go.Proofs.YtkdjjlfpaciohaaGreatDoor
open Go.RowKit

theorem nxN_yes {s : ByteArray} (h1 : 4 ≤ szF (hdF s)) (h2 : szF (hdF s) ≤ s.size) : nxN s = szF (hdF s) := if_neg (by omega)
theorem nxN_no {s : ByteArray} (h : ¬(4 ≤ szF (hdF s) ∧ szF (hdF s) ≤ s.size)) : nxN s = 0 := if_pos (by omega)

set_option maxHeartbeats 2000000 in
set_option maxRecDepth 100000 in
theorem mfirst_any (s : ByteArray) (w : World) (hs : s.size ≤ 9223372036854775807) :
    Calls Tryz.prog 91 #[.string s] w fun e w' => e = .returned (.tuple #[frmV (fsF s), .int .i64 (nxN s : Nat)]) ∧ Below w.heap.size w w' := by
  obtain ⟨d, hd⟩ : ∃ d, d = fsF s := ⟨_, rfl⟩
  obtain ⟨k, hk⟩ : ∃ k, k = nxN s := ⟨_, rfl⟩
  rw [← hd, ← hk]
  have HD := Lib.hid (show d = if k = 0 then zeroF else hdF s from by rw [hd, hk]; rfl)
  have HK := Lib.hid hk
  have HY := Lib.hid (nxN_yes (s := s))
  have HN := Lib.hid (nxN_no (s := s))
  clear hd hk
  have HH := Lib.hid (fun W => mhead_any s W hs)
  have HS := Lib.hid (fun W => size_any (hdF s) W)
  have hz := szF_le (hdF s)
  generalize szF (hdF s) = n at *
  generalize hdF s = f at *
  generalize hdO s = o at *
  obtain ⟨v, l, r, q, p⟩ := f
  have hcase : (n < 4 ∧ k = 0 ∧ d = zeroF) ∨ (4 ≤ n ∧ s.size < n ∧ k = 0 ∧ d = zeroF) ∨ (4 ≤ n ∧ n ≤ s.size ∧ k = n ∧ d = ⟨v, l, r, q, p⟩) := by
    have h1 := HY.out
    have h2 := HN.out
    have h3 := HK.out
    have h4 := HD.out
    by_cases c1 : 4 ≤ n
    · by_cases c2 : n ≤ s.size
      · have e := h1 c1 c2
        refine .inr (.inr ⟨c1, c2, h3.trans e, ?_⟩)
        rw [h4, if_neg (by omega)]
      · have e := h2 (fun h => c2 h.2)
        refine .inr (.inl ⟨c1, by omega, h3.trans e, ?_⟩)
        rw [h4, if_pos (by omega)]
    · have e := h2 (fun h => c1 h.1)
      refine .inl ⟨by omega, h3.trans e, ?_⟩
      rw [h4, if_pos (by omega)]
  clear HY HN HK HD
  go_enter Tryz.func91, Tryz.ntmps91
  go_wp2_with (go_at_call 92; (with_reducible refine (HH.out _).mono ?_); rintro e w1 ⟨rfl, hb⟩; have HB1 := Lib.hid (((Below.refl w.heap.size w).alloc (Nat.le_refl _) _).trans (hb.mono (by simp))); have HK1 := Lib.hid ((Blk.new w _ _).below hb (by simp)); have hw1 := Nat.lt_of_lt_of_le (Blk.new w _ _).lt hb.size; clear hb)
  refine (HS.out _).mono ?_
  rintro e w2 ⟨rfl, hb2⟩
  have hw1' : w.heap.size < w1.heap.size := hw1
  have hs2 := hb2.size
  have hsz : w1.heap.size < w2.heap.size := Nat.lt_of_lt_of_le (by simp) hb2.size
  have HW := Lib.hid (HB1.out.trans ((((Below.refl w1.heap.size w1).alloc (Nat.le_refl _) _).trans (hb2.mono (by simp))).mono (Nat.le_of_lt hw1')))
  have HK0 := Lib.hid (((HK1.out.alloc _).below hb2 (by simp; omega)))
  have HK4 := Lib.hid ((Blk.new w1 _ _).below hb2 (by simp))
  clear hb2 hs2 HB1 HK1 HS HH
  have e0 := HK4.out.cell 0
  have e1 := HK4.out.cell 1
  have e2 := HK4.out.cell 2
  have e3 := HK4.out.cell 3
  have e4 := HK4.out.cell 4
  have r0 := HK0.out.cell 0
  have r1 := HK0.out.cell 1
  have r2 := HK0.out.cell 2
  have r3 := HK0.out.cell 3
  have r4 := HK0.out.cell 4
  have y0 := HK0.out.frozen 0
  have y1 := HK0.out.frozen 1
  have y2 := HK0.out.frozen 2
  have y3 := HK0.out.frozen 3
  have y4 := HK0.out.frozen 4
  rcases hcase with ⟨c1, rfl, rfl⟩ | ⟨c1, c2, rfl, rfl⟩ | ⟨c1, c2, rfl, rfl⟩
  · go_wp2
    have HZ := Lib.hid (HK0.out.set5 (.int .i64 0) (.int .i64 0) (.int .i64 0) (.int .i64 0) (.bool false))
    have HB := Lib.hid (Below.set5 HW.out (Nat.le_refl _) (.int .i64 0) (.int .i64 0) (.int .i64 0) (.int .i64 0) (.bool false))
    generalize ((((w2.setCell ⟨w.heap.size, 0, none⟩ (.int .i64 0)).setCell ⟨w.heap.size, 1, none⟩ (.int .i64 0)).setCell ⟨w.heap.size, 2, none⟩ (.int .i64 0)).setCell ⟨w.heap.size, 3, none⟩ (.int .i64 0)).setCell ⟨w.heap.size, 4, none⟩ (.bool false) = W2 at *
    refine bodyPost_ret (v := .tuple #[frmV zeroF, .int .i64 0]) ?_ rfl ⟨rfl, HB.out⟩
    have s0 := HZ.out.cell 0
    have s1 := HZ.out.cell 1
    have s2 := HZ.out.cell 2
    have s3 := HZ.out.cell 3
    have s4 := HZ.out.cell 4
    simp at s0 s1 s2 s3 s4
    simp [results, Tryz.results91, go_sem, s0, s1, s2, s3, s4, zeroF]
  · go_wp2
    have HZ := Lib.hid (HK0.out.set5 (.int .i64 0) (.int .i64 0) (.int .i64 0) (.int .i64 0) (.bool false))
    have HB := Lib.hid (Below.set5 HW.out (Nat.le_refl _) (.int .i64 0) (.int .i64 0) (.int .i64 0) (.int .i64 0) (.bool false))
    generalize ((((w2.setCell ⟨w.heap.size, 0, none⟩ (.int .i64 0)).setCell ⟨w.heap.size, 1, none⟩ (.int .i64 0)).setCell ⟨w.heap.size, 2, none⟩ (.int .i64 0)).setCell ⟨w.heap.size, 3, none⟩ (.int .i64 0)).setCell ⟨w.heap.size, 4, none⟩ (.bool false) = W2 at *
    refine bodyPost_ret (v := .tuple #[frmV zeroF, .int .i64 0]) ?_ rfl ⟨rfl, HB.out⟩
    have s0 := HZ.out.cell 0
    have s1 := HZ.out.cell 1
    have s2 := HZ.out.cell 2
    have s3 := HZ.out.cell 3
    have s4 := HZ.out.cell 4
    simp at s0 s1 s2 s3 s4
    simp [results, Tryz.results91, go_sem, s0, s1, s2, s3, s4, zeroF]
  · go_wp2
    have HZ := Lib.hid (HK0.out.set5 (.int .i64 v) (.int .i64 l) (.int .i64 r) (.int .i64 q) (.bool p))
    have HB := Lib.hid (Below.set5 HW.out (Nat.le_refl _) (.int .i64 v) (.int .i64 l) (.int .i64 r) (.int .i64 q) (.bool p))
    generalize ((((w2.setCell ⟨w.heap.size, 0, none⟩ (.int .i64 v)).setCell ⟨w.heap.size, 1, none⟩ (.int .i64 l)).setCell ⟨w.heap.size, 2, none⟩ (.int .i64 r)).setCell ⟨w.heap.size, 3, none⟩ (.int .i64 q)).setCell ⟨w.heap.size, 4, none⟩ (.bool p) = W2 at *
    refine bodyPost_ret (v := .tuple #[frmV ⟨v, l, r, q, p⟩, .int .i64 (k : Nat)]) ?_ rfl ⟨rfl, HB.out⟩
    have s0 := HZ.out.cell 0
    have s1 := HZ.out.cell 1
    have s2 := HZ.out.cell 2
    have s3 := HZ.out.cell 3
    have s4 := HZ.out.cell 4
    simp at s0 s1 s2 s3 s4
    simp [results, Tryz.results91, go_sem, s0, s1, s2, s3, s4]

end Go.Proofs.YtkdjjlfpaciohaaGreatDoor
namespace Go.Proofs.YtkdjjlfpaciohaaGreatDoor
open Go.RowKit

theorem frm_form (f : Frm) : ∃ v l r q p, f = ⟨v, l, r, q, p⟩ := ⟨_, _, _, _, _, rfl⟩

set_option maxHeartbeats 2000000 in
theorem mis_any (s : ByteArray) (w : World) (hs : s.size ≤ 9223372036854775807) :
    Calls Tryz.prog 64 #[.string s] w fun e w' => e = .returned (.bool (isO s)) ∧ Below w.heap.size w w' := by
  obtain ⟨d, hd⟩ : ∃ d, d = isO s := ⟨_, rfl⟩
  rw [← hd]
  have HD := Lib.hid hd
  clear hd
  have HF := Lib.hid (fun W => mfirst_any s W hs)
  have hn := nxN_le s
  obtain ⟨v, l, r, q, p, hf⟩ := frm_form (fsF s)
  rw [hf] at HF
  clear hf
  by_cases h0 : nxN s = 0
  · have HD2 : Hid (d = false) := Lib.hid (by rw [HD.out]; unfold isO; rw [decide_eq_false (fun h => h h0)]; rfl)
    rw [h0] at HF
    go_enter Tryz.func64, Tryz.ntmps64
    go_wp2_with (go_at_call 91; (with_reducible refine (HF.out _).mono ?_); rintro e w1 ⟨rfl, hb⟩; have HB1 := Lib.hid hb; clear hb)
    go_ret
    exact ⟨by rw [HD2.out]; first | done | rfl, HB1.out.alloc HB1.out.size _⟩
  · have HH := Lib.hid (fun W => mhead_any (s.extract (nxN s) s.size) W (by rw [ByteArray.size_extract]; omega))
    have HD2 : Hid (d = hdO (s.extract (nxN s) s.size)) := Lib.hid (by rw [HD.out]; unfold isO; rw [decide_eq_true h0, Bool.true_and])
    clear HD
    obtain ⟨x, hx⟩ : ∃ x, s.extract (nxN s) s.size = x := ⟨_, rfl⟩
    rw [hx] at HD2 HH
    obtain ⟨v', l', r', q', p', hf⟩ := frm_form (hdF x)
    rw [hf] at HH
    clear hf
    generalize hdO x = o at *
    generalize nxN s = n at *
    have hn0 : ((n : Int) == 0) = false := by rw [beq_eq_false_iff_ne]; omega
    have hn1 : (n : Int) ≤ (s.size : Int) := by omega
    go_enter Tryz.func64, Tryz.ntmps64
    go_wp2_with (first
      | (go_at_call 91; (with_reducible refine (HF.out _).mono ?_); rintro e w1 ⟨rfl, hb⟩; have HB1 := Lib.hid (hb.alloc hb.size (.cells #[.int .i64 v, .int .i64 l, .int .i64 r, .int .i64 q, .bool p] 66)); clear hb)
      | (go_at_call 92; (with_reducible refine (HH.out _).mono ?_); rintro e w2 ⟨rfl, hb⟩; have HB2 := Lib.hid (HB1.out.trans (hb.mono HB1.out.size)); clear hb))
    go_ret
    exact ⟨by rw [HD2.out]; first | done | rfl, HB2.out.alloc HB2.out.size _⟩

end Go.Proofs.YtkdjjlfpaciohaaGreatDoor
