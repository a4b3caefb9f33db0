/-
  The frame with which a text begins: what package mp3 answers. Condition: the text is not longer than memory.
-/
import Derived.Test.YtmjkolkmpnadpaaPf
namespace Go.Proofs.Ytmjkolkmpnadpaa
open Go.RowKit

theorem nxN_yes {s : ByteArray} (h1 : 4 ≤ szF (hdF s)) (h2 : szF (hdF s) ≤ s.size) : nxN s = szF (hdF s) := if_neg (by omega)
theorem nxN_no {s : ByteArray} (h : ¬(4 ≤ szF (hdF s) ∧ szF (hdF s) ≤ s.size)) : nxN s = 0 := if_pos (by omega)

set_option maxHeartbeats 2000000 in
set_option maxRecDepth 100000 in
theorem mfirst_any (s : ByteArray) (w : World) (hs : s.size ≤ 9223372036854775807) :
    Calls Try.prog 29 #[.string s] w fun e w' => e = .returned (.tuple #[frmV (fsF s), .int .i64 (nxN s : Nat)]) ∧ Below w.heap.size w w' := by
  obtain ⟨d, hd⟩ : ∃ d, d = fsF s := ⟨_, rfl⟩
  obtain ⟨k, hk⟩ : ∃ k, k = nxN s := ⟨_, rfl⟩
  rw [← hd, ← hk]
  have HD := Lib.hid (show d = if k = 0 then zeroF else hdF s from by rw [hd, hk]; rfl)
  have HK := Lib.hid hk
  have HY := Lib.hid (nxN_yes (s := s))
  have HN := Lib.hid (nxN_no (s := s))
  clear hd hk
  have HH := Lib.hid (fun W => mhead_any s W hs)
  have HS := Lib.hid (fun W => size_any (hdF s) W)
  have hz := szF_le (hdF s)
  generalize szF (hdF s) = n at *
  generalize hdF s = f at *
  generalize hdO s = o at *
  obtain ⟨v, l, r, q, p⟩ := f
  have hcase : (n < 4 ∧ k = 0 ∧ d = zeroF) ∨ (4 ≤ n ∧ s.size < n ∧ k = 0 ∧ d = zeroF) ∨ (4 ≤ n ∧ n ≤ s.size ∧ k = n ∧ d = ⟨v, l, r, q, p⟩) := by
    have h1 := HY.out
    have h2 := HN.out
    have h3 := HK.out
    have h4 := HD.out
    by_cases c1 : 4 ≤ n
    · by_cases c2 : n ≤ s.size
      · have e := h1 c1 c2
        refine .inr (.inr ⟨c1, c2, h3.trans e, ?_⟩)
        rw [h4, if_neg (by omega)]
      · have e := h2 (fun h => c2 h.2)
        refine .inr (.inl ⟨c1, by omega, h3.trans e, ?_⟩)
        rw [h4, if_pos (by omega)]
    · have e := h2 (fun h => c1 h.1)
      refine .inl ⟨by omega, h3.trans e, ?_⟩
      rw [h4, if_pos (by omega)]
  clear HY HN HK HD
  go_enter Try.func29, Try.ntmps29
  go_wp2_with (go_at_call 8; (with_reducible refine (HH.out _).mono ?_); rintro e w1 ⟨rfl, hb⟩; have HB1 := Lib.hid (((Below.refl w.heap.size w).alloc (Nat.le_refl _) _).trans (hb.mono (by simp))); have HK1 := Lib.hid ((Blk.new w _ _).below hb (by simp)); have hw1 := Nat.lt_of_lt_of_le (Blk.new w _ _).lt hb.size; clear hb)
  refine (HS.out _).mono ?_
  rintro e w2 ⟨rfl, hb2⟩
  have hw1' : w.heap.size < w1.heap.size := hw1
  have hs2 := hb2.size
  have hsz : w1.heap.size < w2.heap.size := Nat.lt_of_lt_of_le (by simp) hb2.size
  have HW := Lib.hid (HB1.out.trans ((((Below.refl w1.heap.size w1).alloc (Nat.le_refl _) _).trans (hb2.mono (by simp))).mono (Nat.le_of_lt hw1')))
  have HK0 := Lib.hid (((HK1.out.alloc _).below hb2 (by simp; omega)))
  have HK4 := Lib.hid ((Blk.new w1 _ _).below hb2 (by simp))
  clear hb2 hs2 HB1 HK1 HS HH
  have e0 := HK4.out.cell 0
  have e1 := HK4.out.cell 1
  have e2 := HK4.out.cell 2
  have e3 := HK4.out.cell 3
  have e4 := HK4.out.cell 4
  have r0 := HK0.out.cell 0
  have r1 := HK0.out.cell 1
  have r2 := HK0.out.cell 2
  have r3 := HK0.out.cell 3
  have r4 := HK0.out.cell 4
  have y0 := HK0.out.frozen 0
  have y1 := HK0.out.frozen 1
  have y2 := HK0.out.frozen 2
  have y3 := HK0.out.frozen 3
  have y4 := HK0.out.frozen 4
  rcases hcase with ⟨c1, rfl, rfl⟩ | ⟨c1, c2, rfl, rfl⟩ | ⟨c1, c2, rfl, rfl⟩
  · go_wp2
    have HZ := Lib.hid (HK0.out.set5 (.int .i64 0) (.int .i64 0) (.int .i64 0) (.int .i64 0) (.bool false))
    have HB := Lib.hid (Below.set5 HW.out (Nat.le_refl _) (.int .i64 0) (.int .i64 0) (.int .i64 0) (.int .i64 0) (.bool false))
    generalize ((((w2.setCell ⟨w.heap.size, 0, none⟩ (.int .i64 0)).setCell ⟨w.heap.size, 1, none⟩ (.int .i64 0)).setCell ⟨w.heap.size, 2, none⟩ (.int .i64 0)).setCell ⟨w.heap.size, 3, none⟩ (.int .i64 0)).setCell ⟨w.heap.size, 4, none⟩ (.bool false) = W2 at *
    refine bodyPost_ret (v := .tuple #[frmV zeroF, .int .i64 0]) ?_ rfl ⟨rfl, HB.out⟩
    have s0 := HZ.out.cell 0
    have s1 := HZ.out.cell 1
    have s2 := HZ.out.cell 2
    have s3 := HZ.out.cell 3
    have s4 := HZ.out.cell 4
    simp at s0 s1 s2 s3 s4
    simp [results, Try.results29, go_sem, s0, s1, s2, s3, s4, zeroF]
  · go_wp2
    have HZ := Lib.hid (HK0.out.set5 (.int .i64 0) (.int .i64 0) (.int .i64 0) (.int .i64 0) (.bool false))
    have HB := Lib.hid (Below.set5 HW.out (Nat.le_refl _) (.int .i64 0) (.int .i64 0) (.int .i64 0) (.int .i64 0) (.bool false))
    generalize ((((w2.setCell ⟨w.heap.size, 0, none⟩ (.int .i64 0)).setCell ⟨w.heap.size, 1, none⟩ (.int .i64 0)).setCell ⟨w.heap.size, 2, none⟩ (.int .i64 0)).setCell ⟨w.heap.size, 3, none⟩ (.int .i64 0)).setCell ⟨w.heap.size, 4, none⟩ (.bool false) = W2 at *
    refine bodyPost_ret (v := .tuple #[frmV zeroF, .int .i64 0]) ?_ rfl ⟨rfl, HB.out⟩
    have s0 := HZ.out.cell 0
    have s1 := HZ.out.cell 1
    have s2 := HZ.out.cell 2
    have s3 := HZ.out.cell 3
    have s4 := HZ.out.cell 4
    simp at s0 s1 s2 s3 s4
    simp [results, Try.results29, go_sem, s0, s1, s2, s3, s4, zeroF]
  · go_wp2
    have HZ := Lib.hid (HK0.out.set5 (.int .i64 v) (.int .i64 l) (.int .i64 r) (.int .i64 q) (.bool p))
    have HB := Lib.hid (Below.set5 HW.out (Nat.le_refl _) (.int .i64 v) (.int .i64 l) (.int .i64 r) (.int .i64 q) (.bool p))
    generalize ((((w2.setCell ⟨w.heap.size, 0, none⟩ (.int .i64 v)).setCell ⟨w.heap.size, 1, none⟩ (.int .i64 l)).setCell ⟨w.heap.size, 2, none⟩ (.int .i64 r)).setCell ⟨w.heap.size, 3, none⟩ (.int .i64 q)).setCell ⟨w.heap.size, 4, none⟩ (.bool p) = W2 at *
    refine bodyPost_ret (v := .tuple #[frmV ⟨v, l, r, q, p⟩, .int .i64 (k : Nat)]) ?_ rfl ⟨rfl, HB.out⟩
    have s0 := HZ.out.cell 0
    have s1 := HZ.out.cell 1
    have s2 := HZ.out.cell 2
    have s3 := HZ.out.cell 3
    have s4 := HZ.out.cell 4
    simp at s0 s1 s2 s3 s4
    simp [results, Try.results29, go_sem, s0, s1, s2, s3, s4]

end Go.Proofs.Ytmjkolkmpnadpaa
