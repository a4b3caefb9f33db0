/-
  How many bytes a frame has: what package mp3 answers. No condition.
  The head of a frame: what package mp3 answers. Condition: the text is not longer than memory.
  The frame with which a text begins: what package mp3 answers. Condition: the text is not longer than memory.
-/
import Derived.Test.YtjaockmbnjflaaaGreatDoorZ24
import Derived.Test.YtjaockmbnjflaaaGreatDoorZ10
import Derived.Test.YtjaockmbnjflaaaGreatDoorZ14
namespace Go.Proofs.YtjaockmbnjflaaaGreatDoor
open Go.RowKit

/-- A frame's cells. -/
abbrev frmC5 (f : Frm) : Array Value := #[.int .i64 f.ver, .int .i64 f.lay, .int .i64 f.rate, .int .i64 f.freq, .bool f.pad]
/-- A world that came of w, in which a frame lies in block g. -/
def FrmAt (w : World) (g : Nat) (f : Frm) (W : World) : Prop := Below w.heap.size w W ∧ Blk W g 57 (frmC5 f)
theorem FrmAt.drew {w W : World} {g : Nat} {f : Frm} (h : FrmAt w g f W) : FrmAt w g f W.drew := ⟨h.1.drew, h.2⟩
theorem FrmAt.step {w W W' : World} {g : Nat} {f : Frm} (h : FrmAt w g f W) (hb : Below W.heap.size W W') : FrmAt w g f W' := ⟨h.1.trans (hb.mono h.1.size), h.2.below hb h.2.lt⟩
theorem FrmAt.next {w : World} {g : Nat} {f : Frm} {x : Wld (FrmAt w g f)} {W' : World} (hb : Below x.val.heap.size x.val W') : FrmAt w g f W' := x.ok.step hb
theorem FrmAt.same {w : World} {g : Nat} {f : Frm} {x : Wld (FrmAt w g f)} {W' : World} (hb : x.val = W') : FrmAt w g f W' := hb ▸ x.ok
theorem FrmAt.new (w : World) (f : Frm) : FrmAt w w.heap.size f (w.alloc (.cells (frmC5 f) 57)) := ⟨(Below.refl w.heap.size w).alloc (Nat.le_refl _) _, Blk.new _ _ _⟩

theorem szF_parts {v l r q : Int} {p : Bool} (h : gdB ⟨v, l, r, q, p⟩ = true) : 0 ≤ r ∧ r ≤ 320000 ∧ 32000 ≤ q ∧ q ≤ 48000 ∧ 0 ≤ v ∧ v < 4 := by
  obtain ⟨a, b, _, c, d, e, f⟩ := gdB_all h
  exact ⟨c, d, e, f, a, b⟩

set_option maxHeartbeats 2000000 in
theorem size_parts (v l r q : Int) (p : Bool) (w : World) :
    Calls Tryz.prog 92 #[frmV ⟨v, l, r, q, p⟩] w fun e w' => e = .returned (.int .i64 (szF ⟨v, l, r, q, p⟩ : Nat)) ∧ Below w.heap.size w w' := by
  obtain ⟨d, hd⟩ : ∃ d : Nat, d = szF ⟨v, l, r, q, p⟩ := ⟨_, rfl⟩
  rw [← hd]
  have HD := Lib.hid hd
  clear hd
  have HG := Lib.hid (fgood_any ⟨v, l, r, q, p⟩)
  have HX := Lib.hid (FrmAt.new w ⟨v, l, r, q, p⟩)
  cases hg : gdB ⟨v, l, r, q, p⟩
  · rw [hg] at HG
    rw [szF_no hg] at HD
    clear hg
    go_enter Tryz.func92, Tryz.ntmps92
    go_wp2_with (go_at_call 117; (with_reducible refine (HG.out _).mono ?_); rintro e w1 ⟨rfl, hb⟩; have HX1 := Lib.hid (HX.out.step hb); clear hb)
    go_ret
    exact ⟨by rw [HD.out]; first | done | rfl, HX1.out.1⟩
  · obtain ⟨hr0, hr1, hq0, hq1, hv0, hv4⟩ := szF_parts hg
    have HL := Lib.hid (fun W => length_parts v l r q p W ⟨hv0, hv4⟩)
    rw [hg] at HG
    have HD2 := Lib.hid (HD.out.trans (szF_yes hg))
    clear hg HD
    obtain ⟨rn, rfl⟩ : ∃ n : Nat, r = n := ⟨r.toNat, by omega⟩
    obtain ⟨qn, rfl⟩ : ∃ n : Nat, q = n := ⟨q.toNat, by omega⟩
    have hlen : lenN v = 1152 ∨ lenN v = 576 := by unfold lenN; split <;> simp
    have hb1 : rn * (lenN v / 8) ≤ 46080000 := Nat.le_trans (Nat.mul_le_mul (by omega : rn ≤ 320000) (lenN_le v)) (by decide)
    simp only [Int.toNat_natCast] at HD2
    obtain ⟨m, hm, hm2⟩ : ∃ m : Nat, lenN v = 8 * m ∧ (m = 144 ∨ m = 72) := by
      rcases hlen with h | h
      · exact ⟨144, h, .inl rfl⟩
      · exact ⟨72, h, .inr rfl⟩
    rw [hm] at HL HD2 hb1
    rw [show 8 * m / 8 = m from by omega] at HD2 hb1
    clear hm hlen
    obtain ⟨k, hk⟩ : ∃ k, k = rn * m / qn := ⟨_, rfl⟩
    have hk1 : k ≤ 46080000 := by rw [hk]; exact Nat.le_trans (Nat.div_le_self _ _) hb1
    rw [← hk] at HD2
    have g1 : (rn : Int) * m ≤ 46080000 := by rw [← Int.natCast_mul]; omega
    have g0 : 0 ≤ (rn : Int) * m := by rw [← Int.natCast_mul]; omega
    have gd : ((rn : Int) * m).tdiv qn = k := by rw [← Int.natCast_mul, hk]; exact Int.ofNat_tdiv _ _
    have hm3 : m ≤ 144 := by omega
    clear hk hb1 hm2
    have f0 : ∀ x : Wld (FrmAt w w.heap.size ⟨v, l, rn, qn, p⟩), x.val.cell? ⟨w.heap.size, 0, none⟩ = some (.int .i64 v) := fun x => x.ok.2.cell 0
    have f1 : ∀ x : Wld (FrmAt w w.heap.size ⟨v, l, rn, qn, p⟩), x.val.cell? ⟨w.heap.size, 1, none⟩ = some (.int .i64 l) := fun x => x.ok.2.cell 1
    have f2 : ∀ x : Wld (FrmAt w w.heap.size ⟨v, l, rn, qn, p⟩), x.val.cell? ⟨w.heap.size, 2, none⟩ = some (.int .i64 rn) := fun x => x.ok.2.cell 2
    have f3 : ∀ x : Wld (FrmAt w w.heap.size ⟨v, l, rn, qn, p⟩), x.val.cell? ⟨w.heap.size, 3, none⟩ = some (.int .i64 qn) := fun x => x.ok.2.cell 3
    have f4 : ∀ x : Wld (FrmAt w w.heap.size ⟨v, l, rn, qn, p⟩), x.val.cell? ⟨w.heap.size, 4, none⟩ = some (.bool p) := fun x => x.ok.2.cell 4
    have inst : Nonempty (Wld (FrmAt w w.heap.size ⟨v, l, rn, qn, p⟩)) := ⟨⟨_, HX.out⟩⟩
    go_enter Tryz.func92, Tryz.ntmps92
    go_wp2_with (go_at_call 117; (with_reducible refine (HG.out _).mono ?_); rintro e w1 ⟨rfl, hb⟩; have HX1 := Lib.hid (HX.out.step hb); clear hb)
    refine wp_region_class (FrmAt w w.heap.size ⟨v, l, rn, qn, p⟩) (by kernel_rfl) (by kernel_rfl) HX1.out.drew ?_
    repeat (go_big_quiet_step ((go_at_call 118; exact Calls.cls (HL.out _) fun _ h => FrmAt.next h)))
    refine wpQuiet_nil ?_
    intro w2 h2
    have HX2 := Lib.hid h2
    clear h2 f0 f1 f2 f3 f4 inst
    have e4 := HX2.out.2.cell 4
    cases p
    · have HD3 : Hid (d = k) := Lib.hid HD2.out
      go_wp2
      go_ret
      exact ⟨by rw [HD3.out]; first | done | rfl, HX2.out.1⟩
    · have HD3 : Hid (d = k + 1) := Lib.hid HD2.out
      go_wp2
      go_ret
      exact ⟨by rw [HD3.out]; first | done | rfl, HX2.out.1⟩
theorem size_any (f : Frm) (w : World) :
    Calls Tryz.prog 92 #[frmV f] w fun e w' => e = .returned (.int .i64 (szF f : Nat)) ∧ Below w.heap.size w w' := size_parts _ _ _ _ _ w

end Go.Proofs.YtjaockmbnjflaaaGreatDoor
namespace Go.Proofs.YtjaockmbnjflaaaGreatDoor
open Go.RowKit

theorem and3_8 (b : UInt8) : bits .and .u8 ((b.toNat : Int) / 8) 3 = ((b.toNat / 8 % 4 : Nat) : Int) :=
  of_decide_eq_true (bytes_all (p := fun b => decide (bits .and .u8 ((b.toNat : Int) / 8) 3 = ((b.toNat / 8 % 4 : Nat) : Int))) (by kernel_rfl) b)
theorem and3_2 (b : UInt8) : bits .and .u8 ((b.toNat : Int) / 2) 3 = ((b.toNat / 2 % 4 : Nat) : Int) :=
  of_decide_eq_true (bytes_all (p := fun b => decide (bits .and .u8 ((b.toNat : Int) / 2) 3 = ((b.toNat / 2 % 4 : Nat) : Int))) (by kernel_rfl) b)
theorem and3_4 (b : UInt8) : bits .and .u8 ((b.toNat : Int) / 4) 3 = ((b.toNat / 4 % 4 : Nat) : Int) :=
  of_decide_eq_true (bytes_all (p := fun b => decide (bits .and .u8 ((b.toNat : Int) / 4) 3 = ((b.toNat / 4 % 4 : Nat) : Int))) (by kernel_rfl) b)
theorem and1_2 (b : UInt8) : bits .and .u8 ((b.toNat : Int) / 2) 1 = ((b.toNat / 2 % 2 : Nat) : Int) :=
  of_decide_eq_true (bytes_all (p := fun b => decide (bits .and .u8 ((b.toNat : Int) / 2) 1 = ((b.toNat / 2 % 2 : Nat) : Int))) (by kernel_rfl) b)
theorem div_16 (b : UInt8) : (b.toNat : Int) / 16 = ((b.toNat / 16 : Nat) : Int) := by omega

theorem Blk.new2 (w : World) (o : Obj) (t : TypeId) (cs : Array Value) : Blk ((w.alloc o).alloc (.cells cs t)) (w.heap.size + 1) t cs := by
  have := Blk.new (w.alloc o) t cs
  rwa [show (w.alloc o).heap.size = w.heap.size + 1 from by simp] at this
theorem two_kept {w w1 w2 : World} {c0 c1 : Array Value} {t : TypeId} {n : Nat} (h1 : Below (((w.alloc (.cells c0 t)).alloc (.cells c1 t)).drewN n).heap.size (((w.alloc (.cells c0 t)).alloc (.cells c1 t)).drewN n) w1) (h2 : Below w1.heap.size w1 w2) (c2 c3 : Array Value) (t2 t3 : TypeId) :
    Below w.heap.size w ((w2.alloc (.cells c2 t2)).alloc (.cells c3 t3)) ∧ Blk ((w2.alloc (.cells c2 t2)).alloc (.cells c3 t3)) w.heap.size t c0 ∧ Blk ((w2.alloc (.cells c2 t2)).alloc (.cells c3 t3)) (w.heap.size + 1) t c1 ∧ Blk ((w2.alloc (.cells c2 t2)).alloc (.cells c3 t3)) w2.heap.size t2 c2 ∧ Blk ((w2.alloc (.cells c2 t2)).alloc (.cells c3 t3)) (w2.heap.size + 1) t3 c3 ∧ w.heap.size + 1 < w2.heap.size := by
  have e0 : (((w.alloc (.cells c0 t)).alloc (.cells c1 t)).drewN n).heap.size = w.heap.size + 2 := by
    show ((w.alloc (.cells c0 t)).alloc (.cells c1 t)).heap.size = _
    simp
  have s1 := h1.size
  have s2 := h2.size
  have b0 : Below w.heap.size w (((w.alloc (.cells c0 t)).alloc (.cells c1 t)).drewN n) := Below.drewN' (((Below.refl w.heap.size w).alloc (Nat.le_refl _) _).alloc (by simp) _) n
  have b1 := b0.trans (h1.mono (by omega))
  have b2 := b1.trans (h2.mono (by omega))
  have k0 : Blk w2 w.heap.size t c0 := (Blk.below (by exact ((Blk.new w t c0).alloc (.cells c1 t))) h1 (by omega)).below h2 (by omega)
  have k1 : Blk w2 (w.heap.size + 1) t c1 := (Blk.below (by exact Blk.new2 w (.cells c0 t) t c1) h1 (by omega)).below h2 (by omega)
  exact ⟨(b2.alloc (by omega) _).alloc (by simp; omega) _, (k0.alloc _).alloc _, (k1.alloc _).alloc _, (Blk.new w2 t2 c2).alloc _, Blk.new2 w2 _ t3 c3, by omega⟩

theorem Blk.set5 {W : World} {g : Nat} {t : TypeId} {u0 u1 u2 u3 u4 : Value} (h : Blk W g t #[u0, u1, u2, u3, u4]) (v0 v1 v2 v3 v4 : Value) :
    Blk (((((W.setCell ⟨g, 0, none⟩ v0).setCell ⟨g, 1, none⟩ v1).setCell ⟨g, 2, none⟩ v2).setCell ⟨g, 3, none⟩ v3).setCell ⟨g, 4, none⟩ v4) g t #[v0, v1, v2, v3, v4] :=
  ((((h.set_ 0 v0).set_ 1 v1).set_ 2 v2).set_ 3 v3).set_ 4 v4
theorem Below.set5 {w W : World} {g : Nat} (h : Below w.heap.size w W) (hg : w.heap.size ≤ g) (v0 v1 v2 v3 v4 : Value) :
    Below w.heap.size w (((((W.setCell ⟨g, 0, none⟩ v0).setCell ⟨g, 1, none⟩ v1).setCell ⟨g, 2, none⟩ v2).setCell ⟨g, 3, none⟩ v3).setCell ⟨g, 4, none⟩ v4) :=
  ((((h.setCell (by exact hg) v0).setCell (by exact hg) v1).setCell (by exact hg) v2).setCell (by exact hg) v3).setCell (by exact hg) v4

theorem hdO_mark {s : ByteArray} (h4 : 4 ≤ s.size) (h0 : s[0]!.toNat = 255) (c0 : 224 ≤ s[1]!.toNat) : hdO s = (decide (s[1]!.toNat / 2 % 4 = 1) && (decide (s[2]!.toNat / 16 < 15) && decide (s[2]!.toNat / 4 % 4 < 3))) := by
  unfold hdO hedB
  rw [decide_eq_true h4, decide_eq_true h0, decide_eq_true c0]
  rfl

set_option maxHeartbeats 2000000 in
set_option maxRecDepth 100000 in
/-- The tests behind the mark: y, r, q: what the two bytes say. -/
theorem mhead_mark (s : ByteArray) (w : World) (hs : s.size ≤ 9223372036854775807) (h4 : 4 ≤ s.size) (h0 : s[0]!.toNat = 255) (c0 : 224 ≤ s[1]!.toNat) :
    Calls Tryz.prog 71 #[.string s] w fun e w' => e = .returned (.tuple #[frmV (hdF s), .bool (hdO s)]) ∧ Below w.heap.size w w' := by
  obtain ⟨d, hd⟩ : ∃ d, d = hdF s := ⟨_, rfl⟩
  obtain ⟨o, ho⟩ : ∃ o, o = hdO s := ⟨_, rfl⟩
  rw [← hd, ← ho]
  have HD := Lib.hid (show d = if o = true then hedF s[1]! s[2]! else zeroF from by rw [hd, ho]; rfl)
  have HO := Lib.hid (ho.trans (hdO_mark h4 h0 c0))
  clear hd ho
  obtain ⟨x, hx, ex⟩ : ∃ x : UInt8, s[0]'(by omega) = x ∧ Hid (s[0]! = x) := ⟨_, rfl, Lib.hid (getElem!_pos s 0 (by omega))⟩
  obtain ⟨b, hb, eb⟩ : ∃ x : UInt8, s[1]'(by omega) = x ∧ Hid (s[1]! = x) := ⟨_, rfl, Lib.hid (getElem!_pos s 1 (by omega))⟩
  obtain ⟨c, hc, ec⟩ : ∃ x : UInt8, s[2]'(by omega) = x ∧ Hid (s[2]! = x) := ⟨_, rfl, Lib.hid (getElem!_pos s 2 (by omega))⟩
  rw [ex.out] at h0
  rw [eb.out] at c0
  rw [eb.out, ec.out] at HD HO
  unfold hedF at HD
  have g4 : ¬ ((s.size : Int) < 4) := by omega
  have hb8 := b.toNat_lt
  have hc8 := c.toNat_lt
  have k1 : (b.toNat : Int) / 32 = 7 := by omega
  have a1 := and3_8 b
  have a2 := and3_2 b
  have a3 := and1_2 c
  have a4 := div_16 c
  have a5 := and3_4 c
  obtain ⟨v, hv⟩ : ∃ v, v = b.toNat / 8 % 4 := ⟨_, rfl⟩
  obtain ⟨y, hy⟩ : ∃ v, v = b.toNat / 2 % 4 := ⟨_, rfl⟩
  obtain ⟨r, hr⟩ : ∃ v, v = c.toNat / 16 := ⟨_, rfl⟩
  obtain ⟨q, hq⟩ : ∃ v, v = c.toNat / 4 % 4 := ⟨_, rfl⟩
  obtain ⟨z, hz⟩ : ∃ v, v = c.toNat / 2 % 2 := ⟨_, rfl⟩
  have hv4 : v < 4 := by omega
  have hy4 : y < 4 := by omega
  have hr16 : r < 16 := by omega
  have hq4 : q < 4 := by omega
  have hz2 : z < 2 := by omega
  rw [← hv, ← hr, ← hq, ← hz] at HD
  rw [← hy, ← hr, ← hq] at HO
  rw [← hv] at a1
  rw [← hy] at a2
  rw [← hz] at a3
  rw [← hr] at a4
  rw [← hq] at a5
  clear hv hy hr hq hz
  obtain ⟨L, hL⟩ : ∃ L : Int, 4 - (y : Int) = L := ⟨_, rfl⟩
  have hL1 : 1 ≤ L ∧ L ≤ 4 := by omega
  obtain ⟨p, hp⟩ : ∃ p : Bool, ((z : Int) == 1) = p := ⟨_, rfl⟩
  have HP := Lib.hid (show decide (z = 1) = p from by rw [← hp, Bool.eq_iff_iff, decide_eq_true_eq, beq_iff_eq]; omega)
  rw [HP.out] at HD
  have HR := Lib.hid (fun W => rates_any v W ⟨by omega, by omega⟩)
  have HF := Lib.hid freqs_any
  have hT := tabL_size (ratL (oddB v))
  rw [ratL_len] at hT
  have hU : (tabL freL).size = 3 := tabL_size freL
  have HT1 := Lib.hid (tabL_one (ratL (oddB v)))
  have HU1 := Lib.hid (tabL_one freL)
  have HTA := Lib.hid (fun i => tabL_at (ratL (oddB v)) i)
  have HUA := Lib.hid (fun i => tabL_at freL i)
  generalize tabL (ratL (oddB v)) = T at *
  generalize tabL freL = U at *
  go_enter Tryz.func71, Tryz.ntmps71
  go_wp2
  go_region
  go_wp2
  go_quiet (fail)
  go_wp2_with (first
      | (go_at_call 93; (with_reducible refine (HR.out _).mono ?_); rintro e w1 ⟨rfl, hb⟩; have HB1 := Lib.hid hb; clear hb)
      | (go_at_call 94; (with_reducible refine (HF.out _).mono ?_); rintro e w2 ⟨rfl, hb⟩; have HB2 := Lib.hid hb; clear hb))
  obtain ⟨hbW, k0, k2, k3, k4, hg⟩ := two_kept HB1.out HB2.out T U 70 72
  rw [store_under w2 _ _ T _ (by rw [hT]; rfl) HT1.out]
  simp only [Result.andThen]
  rw [Oper.upon_skip]
  go_wp2
  rw [store_over w2 _ _ U _ (by rw [hU]; rfl) HU1.out]
  simp only [Result.andThen]
  rw [Oper.upon_skip]
  clear HB1 HB2 HR HF
  generalize (w2.alloc (.cells T 70)).alloc (.cells U 72) = W at *
  generalize w2.heap.size = g at *
  have HW := Lib.hid hbW
  have HK0 := Lib.hid k0
  have HK2 := Lib.hid k2
  have HK3 := Lib.hid k3
  have HK4 := Lib.hid k4
  clear hbW k0 k2 k3 k4
  have e0 := HK2.out.cell 0
  have e1 := HK2.out.cell 1
  have e2 := HK2.out.cell 2
  have e3 := HK2.out.cell 3
  have e4 := HK2.out.cell 4
  have r0 := HK0.out.cell 0
  have r1 := HK0.out.cell 1
  have r2 := HK0.out.cell 2
  have r3 := HK0.out.cell 3
  have r4 := HK0.out.cell 4
  have y0 := HK0.out.frozen 0
  have y1 := HK0.out.frozen 1
  have y2 := HK0.out.frozen 2
  have y3 := HK0.out.frozen 3
  have y4 := HK0.out.frozen 4
  by_cases hok : L = 3 ∧ r < 15 ∧ q < 3
  · obtain ⟨rfl, hr15, hq3⟩ := hok
    have HO2 : Hid (o = true) := Lib.hid (by rw [HO.out, decide_eq_true (show y = 1 by omega), decide_eq_true hr15, decide_eq_true hq3]; rfl)
    have HD2 : Hid (d = ⟨(v : Nat), 3, (ratN (oddB v) r : Nat), (freN q : Nat), p⟩) := Lib.hid (by rw [HD.out, HO2.out]; rfl)
    have f1 := (HK3.out.cell r).trans (HTA.out r (by rw [ratL_len]; exact hr15))
    have f2 := (HK4.out.cell q).trans (HUA.out q hq3)
    rw [show (ratL (oddB v))[r]'(by rw [ratL_len]; exact hr15) = ratN (oddB v) r from by unfold ratN; rw [List.getD_eq_getElem?_getD, List.getElem?_eq_getElem (by rw [ratL_len]; exact hr15)]; rfl] at f1
    rw [show freL[q]'hq3 = freN q from by unfold freN; rw [List.getD_eq_getElem?_getD, List.getElem?_eq_getElem hq3]; rfl] at f2
    generalize ratN (oddB v) r = rt at *
    generalize freN q = fq at *
    have j1 : (r : Int) < 15 := by omega
    have j2 : (q : Int) < 3 := by omega
    have x2 := HK2.out.frozen 2
    have x3 := HK2.out.frozen 3
    clear HTA HUA HD HO
    go_wp2
    go_region
    have HK5 := Lib.hid (show Blk ((W.setCell ⟨w.heap.size + 1, 2, none⟩ (.int .i64 (rt : Nat))).setCell ⟨w.heap.size + 1, 3, none⟩ (.int .i64 (fq : Nat))).drew (w.heap.size + 1) _ #[.int .i64 (v : Nat), .int .i64 3, .int .i64 (rt : Nat), .int .i64 (fq : Nat), .bool p] from (HK2.out.set_ 2 (.int .i64 (rt : Nat))).set_ 3 (.int .i64 (fq : Nat)))
    have HK6 := Lib.hid (show Blk ((W.setCell ⟨w.heap.size + 1, 2, none⟩ (.int .i64 (rt : Nat))).setCell ⟨w.heap.size + 1, 3, none⟩ (.int .i64 (fq : Nat))).drew w.heap.size _ _ from (HK0.out.far (by simp) (.int .i64 (rt : Nat))).far (by simp) (.int .i64 (fq : Nat)))
    have HW3 := Lib.hid (((HW.out.setCell (show w.heap.size ≤ (⟨w.heap.size + 1, 2, none⟩ : Addr).block by simp) (.int .i64 (rt : Nat))).setCell (show w.heap.size ≤ (⟨w.heap.size + 1, 3, none⟩ : Addr).block by simp) (.int .i64 (fq : Nat))).drew)
    generalize ((W.setCell ⟨w.heap.size + 1, 2, none⟩ (.int .i64 (rt : Nat))).setCell ⟨w.heap.size + 1, 3, none⟩ (.int .i64 (fq : Nat))).drew = W3 at *
    clear HK0 HK2 HK3 HK4 HW e0 e1 e2 e3 e4 r0 r1 r2 r3 r4 y0 y1 y2 y3 y4 f1 f2 x2 x3
    have e0 := HK5.out.cell 0
    have e1 := HK5.out.cell 1
    have e2 := HK5.out.cell 2
    have e3 := HK5.out.cell 3
    have e4 := HK5.out.cell 4
    have r0 := HK6.out.cell 0
    have r1 := HK6.out.cell 1
    have r2 := HK6.out.cell 2
    have r3 := HK6.out.cell 3
    have r4 := HK6.out.cell 4
    have y0 := HK6.out.frozen 0
    have y1 := HK6.out.frozen 1
    have y2 := HK6.out.frozen 2
    have y3 := HK6.out.frozen 3
    have y4 := HK6.out.frozen 4
    go_wp2
    have HZ := Lib.hid (HK6.out.set5 (.int .i64 (v : Nat)) (.int .i64 3) (.int .i64 (rt : Nat)) (.int .i64 (fq : Nat)) (.bool p))
    have HB := Lib.hid (Below.set5 HW3.out (Nat.le_refl _) (.int .i64 (v : Nat)) (.int .i64 3) (.int .i64 (rt : Nat)) (.int .i64 (fq : Nat)) (.bool p))
    generalize ((((W3.setCell ⟨w.heap.size, 0, none⟩ (.int .i64 (v : Nat))).setCell ⟨w.heap.size, 1, none⟩ (.int .i64 3)).setCell ⟨w.heap.size, 2, none⟩ (.int .i64 (rt : Nat))).setCell ⟨w.heap.size, 3, none⟩ (.int .i64 (fq : Nat))).setCell ⟨w.heap.size, 4, none⟩ (.bool p) = W2 at *
    refine bodyPost_ret (v := .tuple #[frmV ⟨(v : Nat), 3, (rt : Nat), (fq : Nat), p⟩, .bool true]) ?_ rfl ⟨by rw [HD2.out, HO2.out], HB.out⟩
    have s0 := HZ.out.cell 0
    have s1 := HZ.out.cell 1
    have s2 := HZ.out.cell 2
    have s3 := HZ.out.cell 3
    have s4 := HZ.out.cell 4
    simp at s0 s1 s2 s3 s4
    simp [results, Tryz.results71, go_sem, s0, s1, s2, s3, s4]
  · have HO2 : Hid (o = false) := Lib.hid (by
      rw [HO.out]
      by_cases h1 : y = 1
      · by_cases h2 : r < 15
        · rw [decide_eq_false (show ¬ q < 3 from fun h3 => hok ⟨by omega, h2, h3⟩)]; simp
        · rw [decide_eq_false h2]; simp
      · rw [decide_eq_false h1]; simp)
    have HD2 : Hid (d = zeroF) := Lib.hid (by rw [HD.out, HO2.out]; rfl)
    have hcase : (L ≠ 3) ∨ (L = 3 ∧ (15 : Int) ≤ r) ∨ (L = 3 ∧ (r : Int) < 15 ∧ (3 : Int) ≤ q) := by omega
    clear hok
    rcases hcase with h1 | ⟨rfl, h1⟩ | ⟨rfl, h1, h2⟩
    all_goals
      go_wp2
      have HZ := Lib.hid (HK0.out.set5 (.int .i64 0) (.int .i64 0) (.int .i64 0) (.int .i64 0) (.bool false))
      have HB := Lib.hid (Below.set5 HW.out (Nat.le_refl _) (.int .i64 0) (.int .i64 0) (.int .i64 0) (.int .i64 0) (.bool false))
      generalize ((((W.setCell ⟨w.heap.size, 0, none⟩ (.int .i64 0)).setCell ⟨w.heap.size, 1, none⟩ (.int .i64 0)).setCell ⟨w.heap.size, 2, none⟩ (.int .i64 0)).setCell ⟨w.heap.size, 3, none⟩ (.int .i64 0)).setCell ⟨w.heap.size, 4, none⟩ (.bool false) = W2 at *
      refine bodyPost_ret (v := .tuple #[frmV zeroF, .bool false]) ?_ rfl ⟨by rw [HD2.out, HO2.out], HB.out⟩
      have s0 := HZ.out.cell 0
      have s1 := HZ.out.cell 1
      have s2 := HZ.out.cell 2
      have s3 := HZ.out.cell 3
      have s4 := HZ.out.cell 4
      simp at s0 s1 s2 s3 s4
      simp [results, Tryz.results71, go_sem, s0, s1, s2, s3, s4, zeroF]

set_option maxHeartbeats 2000000 in
theorem mhead_any (s : ByteArray) (w : World) (hs : s.size ≤ 9223372036854775807) :
    Calls Tryz.prog 71 #[.string s] w fun e w' => e = .returned (.tuple #[frmV (hdF s), .bool (hdO s)]) ∧ Below w.heap.size w w' := by
  by_cases hok : 4 ≤ s.size ∧ s[0]!.toNat = 255 ∧ 224 ≤ s[1]!.toNat
  · exact mhead_mark s w hs hok.1 hok.2.1 hok.2.2
  · have ho : hdO s = false := by
      cases h : hdO s
      · rfl
      · obtain ⟨h4, h0, hb⟩ := hdO_all h
        exact absurd ⟨h4, h0, (hedB_all hb).1⟩ hok
    rw [hdF_no ho, ho]
    clear ho
    by_cases h4 : 4 ≤ s.size
    · obtain ⟨x, hx, ex⟩ : ∃ x : UInt8, s[0]'(by omega) = x ∧ s[0]! = x := ⟨_, rfl, getElem!_pos s 0 (by omega)⟩
      obtain ⟨b, hb, eb⟩ : ∃ x : UInt8, s[1]'(by omega) = x ∧ s[1]! = x := ⟨_, rfl, getElem!_pos s 1 (by omega)⟩
      rw [ex, eb] at hok
      have hb8 := b.toNat_lt
      clear ex eb
      by_cases h0 : x.toNat = 255
      · have k1 : ((b.toNat : Int) / 32 != 7) = true := by rw [bne_iff_ne]; omega
        have g4 : decide ((s.size : Int) < 4) = false := by simp; omega
        clear hok
        go_enter Tryz.func71, Tryz.ntmps71
        go_wp2
        exact bodyPost_ret (v := .tuple #[frmV zeroF, .bool false]) (by simp [results, Tryz.results71, go_sem, zeroF]) rfl ⟨rfl, (Below.refl w.heap.size w).alloc (Nat.le_refl _) _⟩
      · have k1 : ((x.toNat : Int) != 255) = true := by rw [bne_iff_ne]; omega
        have g4 : decide ((s.size : Int) < 4) = false := by simp; omega
        clear hok
        go_enter Tryz.func71, Tryz.ntmps71
        go_wp2
        exact bodyPost_ret (v := .tuple #[frmV zeroF, .bool false]) (by simp [results, Tryz.results71, go_sem, zeroF]) rfl ⟨rfl, (Below.refl w.heap.size w).alloc (Nat.le_refl _) _⟩
    · clear hok
      go_enter Tryz.func71, Tryz.ntmps71
      go_wp2
      exact bodyPost_ret (v := .tuple #[frmV zeroF, .bool false]) (by simp [results, Tryz.results71, go_sem, zeroF]) rfl ⟨rfl, (Below.refl w.heap.size w).alloc (Nat.le_refl _) _⟩

end Go.Proofs.YtjaockmbnjflaaaGreatDoor
namespace Go.Proofs.YtjaockmbnjflaaaGreatDoor
open Go.RowKit

theorem nxN_yes {s : ByteArray} (h1 : 4 ≤ szF (hdF s)) (h2 : szF (hdF s) ≤ s.size) : nxN s = szF (hdF s) := if_neg (by omega)
theorem nxN_no {s : ByteArray} (h : ¬(4 ≤ szF (hdF s) ∧ szF (hdF s) ≤ s.size)) : nxN s = 0 := if_pos (by omega)

set_option maxHeartbeats 2000000 in
set_option maxRecDepth 100000 in
theorem mfirst_any (s : ByteArray) (w : World) (hs : s.size ≤ 9223372036854775807) :
    Calls Tryz.prog 70 #[.string s] w fun e w' => e = .returned (.tuple #[frmV (fsF s), .int .i64 (nxN s : Nat)]) ∧ Below w.heap.size w w' := by
  obtain ⟨d, hd⟩ : ∃ d, d = fsF s := ⟨_, rfl⟩
  obtain ⟨k, hk⟩ : ∃ k, k = nxN s := ⟨_, rfl⟩
  rw [← hd, ← hk]
  have HD := Lib.hid (show d = if k = 0 then zeroF else hdF s from by rw [hd, hk]; rfl)
  have HK := Lib.hid hk
  have HY := Lib.hid (nxN_yes (s := s))
  have HN := Lib.hid (nxN_no (s := s))
  clear hd hk
  have HH := Lib.hid (fun W => mhead_any s W hs)
  have HS := Lib.hid (fun W => size_any (hdF s) W)
  have hz := szF_le (hdF s)
  generalize szF (hdF s) = n at *
  generalize hdF s = f at *
  generalize hdO s = o at *
  obtain ⟨v, l, r, q, p⟩ := f
  have hcase : (n < 4 ∧ k = 0 ∧ d = zeroF) ∨ (4 ≤ n ∧ s.size < n ∧ k = 0 ∧ d = zeroF) ∨ (4 ≤ n ∧ n ≤ s.size ∧ k = n ∧ d = ⟨v, l, r, q, p⟩) := by
    have h1 := HY.out
    have h2 := HN.out
    have h3 := HK.out
    have h4 := HD.out
    by_cases c1 : 4 ≤ n
    · by_cases c2 : n ≤ s.size
      · have e := h1 c1 c2
        refine .inr (.inr ⟨c1, c2, h3.trans e, ?_⟩)
        rw [h4, if_neg (by omega)]
      · have e := h2 (fun h => c2 h.2)
        refine .inr (.inl ⟨c1, by omega, h3.trans e, ?_⟩)
        rw [h4, if_pos (by omega)]
    · have e := h2 (fun h => c1 h.1)
      refine .inl ⟨by omega, h3.trans e, ?_⟩
      rw [h4, if_pos (by omega)]
  clear HY HN HK HD
  go_enter Tryz.func70, Tryz.ntmps70
  go_wp2_with (go_at_call 71; (with_reducible refine (HH.out _).mono ?_); rintro e w1 ⟨rfl, hb⟩; have HB1 := Lib.hid (((Below.refl w.heap.size w).alloc (Nat.le_refl _) _).trans (hb.mono (by simp))); have HK1 := Lib.hid ((Blk.new w _ _).below hb (by simp)); have hw1 := Nat.lt_of_lt_of_le (Blk.new w _ _).lt hb.size; clear hb)
  refine (HS.out _).mono ?_
  rintro e w2 ⟨rfl, hb2⟩
  have hw1' : w.heap.size < w1.heap.size := hw1
  have hs2 := hb2.size
  have hsz : w1.heap.size < w2.heap.size := Nat.lt_of_lt_of_le (by simp) hb2.size
  have HW := Lib.hid (HB1.out.trans ((((Below.refl w1.heap.size w1).alloc (Nat.le_refl _) _).trans (hb2.mono (by simp))).mono (Nat.le_of_lt hw1')))
  have HK0 := Lib.hid (((HK1.out.alloc _).below hb2 (by simp; omega)))
  have HK4 := Lib.hid ((Blk.new w1 _ _).below hb2 (by simp))
  clear hb2 hs2 HB1 HK1 HS HH
  have e0 := HK4.out.cell 0
  have e1 := HK4.out.cell 1
  have e2 := HK4.out.cell 2
  have e3 := HK4.out.cell 3
  have e4 := HK4.out.cell 4
  have r0 := HK0.out.cell 0
  have r1 := HK0.out.cell 1
  have r2 := HK0.out.cell 2
  have r3 := HK0.out.cell 3
  have r4 := HK0.out.cell 4
  have y0 := HK0.out.frozen 0
  have y1 := HK0.out.frozen 1
  have y2 := HK0.out.frozen 2
  have y3 := HK0.out.frozen 3
  have y4 := HK0.out.frozen 4
  rcases hcase with ⟨c1, rfl, rfl⟩ | ⟨c1, c2, rfl, rfl⟩ | ⟨c1, c2, rfl, rfl⟩
  · go_wp2
    have HZ := Lib.hid (HK0.out.set5 (.int .i64 0) (.int .i64 0) (.int .i64 0) (.int .i64 0) (.bool false))
    have HB := Lib.hid (Below.set5 HW.out (Nat.le_refl _) (.int .i64 0) (.int .i64 0) (.int .i64 0) (.int .i64 0) (.bool false))
    generalize ((((w2.setCell ⟨w.heap.size, 0, none⟩ (.int .i64 0)).setCell ⟨w.heap.size, 1, none⟩ (.int .i64 0)).setCell ⟨w.heap.size, 2, none⟩ (.int .i64 0)).setCell ⟨w.heap.size, 3, none⟩ (.int .i64 0)).setCell ⟨w.heap.size, 4, none⟩ (.bool false) = W2 at *
    refine bodyPost_ret (v := .tuple #[frmV zeroF, .int .i64 0]) ?_ rfl ⟨rfl, HB.out⟩
    have s0 := HZ.out.cell 0
    have s1 := HZ.out.cell 1
    have s2 := HZ.out.cell 2
    have s3 := HZ.out.cell 3
    have s4 := HZ.out.cell 4
    simp at s0 s1 s2 s3 s4
    simp [results, Tryz.results70, go_sem, s0, s1, s2, s3, s4, zeroF]
  · go_wp2
    have HZ := Lib.hid (HK0.out.set5 (.int .i64 0) (.int .i64 0) (.int .i64 0) (.int .i64 0) (.bool false))
    have HB := Lib.hid (Below.set5 HW.out (Nat.le_refl _) (.int .i64 0) (.int .i64 0) (.int .i64 0) (.int .i64 0) (.bool false))
    generalize ((((w2.setCell ⟨w.heap.size, 0, none⟩ (.int .i64 0)).setCell ⟨w.heap.size, 1, none⟩ (.int .i64 0)).setCell ⟨w.heap.size, 2, none⟩ (.int .i64 0)).setCell ⟨w.heap.size, 3, none⟩ (.int .i64 0)).setCell ⟨w.heap.size, 4, none⟩ (.bool false) = W2 at *
    refine bodyPost_ret (v := .tuple #[frmV zeroF, .int .i64 0]) ?_ rfl ⟨rfl, HB.out⟩
    have s0 := HZ.out.cell 0
    have s1 := HZ.out.cell 1
    have s2 := HZ.out.cell 2
    have s3 := HZ.out.cell 3
    have s4 := HZ.out.cell 4
    simp at s0 s1 s2 s3 s4
    simp [results, Tryz.results70, go_sem, s0, s1, s2, s3, s4, zeroF]
  · go_wp2
    have HZ := Lib.hid (HK0.out.set5 (.int .i64 v) (.int .i64 l) (.int .i64 r) (.int .i64 q) (.bool p))
    have HB := Lib.hid (Below.set5 HW.out (Nat.le_refl _) (.int .i64 v) (.int .i64 l) (.int .i64 r) (.int .i64 q) (.bool p))
    generalize ((((w2.setCell ⟨w.heap.size, 0, none⟩ (.int .i64 v)).setCell ⟨w.heap.size, 1, none⟩ (.int .i64 l)).setCell ⟨w.heap.size, 2, none⟩ (.int .i64 r)).setCell ⟨w.heap.size, 3, none⟩ (.int .i64 q)).setCell ⟨w.heap.size, 4, none⟩ (.bool p) = W2 at *
    refine bodyPost_ret (v := .tuple #[frmV ⟨v, l, r, q, p⟩, .int .i64 (k : Nat)]) ?_ rfl ⟨rfl, HB.out⟩
    have s0 := HZ.out.cell 0
    have s1 := HZ.out.cell 1
    have s2 := HZ.out.cell 2
    have s3 := HZ.out.cell 3
    have s4 := HZ.out.cell 4
    simp at s0 s1 s2 s3 s4
    simp [results, Tryz.results70, go_sem, s0, s1, s2, s3, s4]

end Go.Proofs.YtjaockmbnjflaaaGreatDoor
