/-
  What fits of package mask and the document's Is answer: whether a text's bytes are a pattern's. Conditions: the pattern has a mask for each byte; texts are as long as a length can be.
-/
import Derived.Test.YtcoblepgehjamaaMk2
import Derived.Lib.MinMax
namespace Go.Proofs.Ytcoblepgehjamaa
open Go.RowKit

theorem bits_andB (a b : UInt8) : bits .and .u8 (a.toNat : Int) (b.toNat : Int) = ((andB a b).toNat : Int) := by
  rw [u8_and_nat a.toNat b.toNat a.toNat_lt b.toNat_lt]
  unfold andB
  rw [UInt8.toNat_and]
theorem andB_ne {a b c : UInt8} (h : andB a b ≠ c) : (((andB a b).toNat : Int) != (c.toNat : Int)) = true := by
  rw [bne_iff_ne]
  intro e
  exact h (UInt8.toNat_inj.1 (by omega))
theorem andB_eq {a b c : UInt8} (h : andB a b = c) : (((andB a b).toNat : Int) != (c.toNat : Int)) = false := by
  rw [h]
  simp

set_option maxHeartbeats 1000000 in
set_option maxRecDepth 100000 in
theorem fits_any (r b m k t : ByteArray) (w : World) (hr : r.size ≤ 9223372036854775807) (hb : b.size ≤ 9223372036854775807) (hm : m.size = b.size) :
    Calls Try.prog 48 #[.string r, patV b m k t] w fun e w' => e = .returned (.bool (fitB r b m)) ∧ Below w.heap.size w w' := by
  obtain ⟨w0, hw0⟩ : ∃ w0, w0 = w.alloc (.cells #[.string b, .string m, .string k, .string t] 40) := ⟨_, rfl⟩
  have HB0 := Lib.hid (show Below w.heap.size w w0 from by rw [hw0]; exact (Below.refl w.heap.size w).alloc (Nat.le_refl _) _)
  have HP := Lib.hid (show Blk w0 w.heap.size 40 #[.string b, .string m, .string k, .string t] from by rw [hw0]; exact Blk.new _ _ _)
  obtain ⟨l, hl⟩ : ∃ l, l = min r.size b.size := ⟨_, rfl⟩
  have HL := Lib.hid hl
  have hlr : l ≤ r.size := by omega
  have hlb : l ≤ b.size := by omega
  have hif : min (r.size : Int) (b.size : Int) = (l : Int) := by omega
  have hlm : l ≤ m.size := by omega
  have HM := Lib.hid hm
  clear hm hl
  go_enter Try.func48, Try.ntmps48
  go_wp2
  clear hif
  rw [← hw0]
  clear hw0
  go_loopw [12] (fun i wr => ∃ n : Nat, n ≤ l ∧ i = .int .i64 n ∧ FitN r b m n ∧ ∃ d, wr = w0.drewN d) (fun i _ => l - (intOf i).toNat)
  case atStart => exact ⟨0, by omega, rfl, FitN.zero _ _ _, 0, rfl⟩
  case round =>
    obtain ⟨n, hn, rfl, hno, hw⟩ := hrel
    have HN := Lib.hid hno
    have HW := Lib.hid hw
    have c0 : wr.cell? ⟨w.heap.size, 0, none⟩ = some (.string b) := by obtain ⟨d, rfl⟩ := hw; exact (HP.out.drewN d).cell 0
    have c1 : wr.cell? ⟨w.heap.size, 1, none⟩ = some (.string m) := by obtain ⟨d, rfl⟩ := hw; exact (HP.out.drewN d).cell 1
    clear hno hw
    by_cases hlt : n < l
    · have g1 : n < r.size := by omega
      have g2 : n < b.size := by omega
      have g3 : n < m.size := by omega
      have hbit := bits_andB r[n] m[n]
      by_cases he : andB r[n] m[n] = b[n]
      · have HH := Lib.hid (show (r[n]! &&& m[n]!) = b[n]! from by rw [getElem!_pos r n g1, getElem!_pos m n g3, getElem!_pos b n g2]; exact he)
        have ht := andB_eq he
        clear he
        go_wp2
        go_quiet (fail)
        go_wp2
        go_roundw
        case rel => exact ⟨n + 1, by omega, by go_num, HN.out.succ HH.out, by obtain ⟨d, hd⟩ := HW.out; rw [hd]; exact ⟨_, World.drewN_drewN _ _ _⟩⟩
        case measure => simp [intOf]; omega
      · have HH := Lib.hid (show fitB r b m = false from fitB_not g1 g2 (by rw [getElem!_pos r n g1, getElem!_pos m n g3, getElem!_pos b n g2]; exact he))
        have ht := andB_ne he
        clear he
        go_wp2
        go_quiet (fail)
        go_wp2
        go_ret
        exact ⟨by rw [HH.out]; rfl, by obtain ⟨d, hd⟩ := HW.out; rw [hd]; exact Below.drewN' (Below.drewN' HB0.out d) _⟩
    · have HH := Lib.hid (show fitB r b m = true from fitB_all HN.out (by rw [← HL.out]; omega))
      go_wp2
      go_ret
      exact ⟨by rw [HH.out]; rfl, by obtain ⟨d, hd⟩ := HW.out; rw [hd]; exact Below.drewN' HB0.out d⟩

set_option maxHeartbeats 2000000 in
set_option maxRecDepth 100000 in
theorem refIs_any (s b m k t : ByteArray) (w : World) (hs : s.size ≤ 9223372036854775807) (hb : b.size ≤ 9223372036854775807) (hk : k.size ≤ 9223372036854775807) (hm : m.size = b.size) (f g : Bool) (hf : fitB (restS s k) b m = f) (hg : decide (b.size ≤ (restS s k).size) = g) :
    Calls Try.prog 34 #[.string s, patV b m k t] w fun e w' => e = .returned (.tuple #[.bool f, .bool (f && g)]) ∧ Below w.heap.size w w' := by
  obtain ⟨w0, hw0⟩ : ∃ w0, w0 = w.alloc (.cells #[.string b, .string m, .string k, .string t] 40) := ⟨_, rfl⟩
  have HB0 := Lib.hid (show Below w.heap.size w w0 from by rw [hw0]; exact (Below.refl w.heap.size w).alloc (Nat.le_refl _) _)
  have HP := Lib.hid (show Blk w0 w.heap.size 40 #[.string b, .string m, .string k, .string t] from by rw [hw0]; exact Blk.new _ _ _)
  have HZ : w.heap.size < w0.heap.size := HP.out.lt
  have HC := Lib.hid (fun W => refBegins_any s b m k t W hs hk)
  obtain ⟨r, hr⟩ : ∃ r, r = restS s k := ⟨_, rfl⟩
  rw [← hr] at hf hg
  obtain ⟨n, hn⟩ : ∃ n, n = begN k s := ⟨_, rfl⟩
  have hns : n ≤ s.size := by rw [hn]; exact begN_le _ _
  have hrr : s.extract n s.size = r := by rw [hr, hn]; rfl
  have hrs : r.size ≤ 9223372036854775807 := by rw [hr, restS_size]; omega
  rw [← hn] at HC
  have HM := Lib.hid hm
  have HF := Lib.hid hf
  have HG := Lib.hid hg
  clear hm hf hg hn hr
  have c0 := HP.out.cell 0
  have c1 := HP.out.cell 1
  have c2 := HP.out.cell 2
  have c3 := HP.out.cell 3
  go_enter Try.func34, Try.ntmps34
  go_wp2_with fail
  rw [← hw0]
  clear hw0
  go_wp2_with (go_at_call 44; refine (HC.out _).mono ?_; rintro e w1 ⟨rfl, hb1⟩)
  have HB1 := Lib.hid (HB0.out.trans (hb1.mono (by omega)))
  have HP1 := Lib.hid (HP.out.below hb1 HZ)
  clear hb1 c0 c1 c2 c3 HB0 HP HZ hrr
  go_loopw [6] (fun i wr => ∃ n : Nat, n ≤ r.size ∧ n ≤ b.size ∧ i = .int .i64 n ∧ FitN r b m n ∧ ∃ d, wr = w1.drewN d) (fun i _ => b.size - (intOf i).toNat)
  case atStart => exact ⟨0, by omega, by omega, rfl, FitN.zero _ _ _, 0, rfl⟩
  case round =>
    obtain ⟨n, hn, hn2, rfl, hno, hw⟩ := hrel
    have HN := Lib.hid hno
    have HW := Lib.hid hw
    have c0 : wr.cell? ⟨w.heap.size, 0, none⟩ = some (.string b) := by obtain ⟨d, rfl⟩ := hw; exact (HP1.out.drewN d).cell 0
    have c1 : wr.cell? ⟨w.heap.size, 1, none⟩ = some (.string m) := by obtain ⟨d, rfl⟩ := hw; exact (HP1.out.drewN d).cell 1
    clear hno hw
    by_cases g2 : n < b.size
    · by_cases g1 : n < r.size
      · have g3 : n < m.size := by have := HM.out; omega
        by_cases he : andB r[n] m[n] = b[n]
        · have HH := Lib.hid (show (r[n]! &&& m[n]!) = b[n]! from by rw [getElem!_pos r n g1, getElem!_pos m n g3, getElem!_pos b n g2]; exact he)
          have ht := andB_eq he
          clear he
          go_wp2
          go_quiet ((go_at_call 45; exact Calls.quiet_of_same ((and_any r[n] m[n] _).mono fun _ _ h => ⟨h.1, h.2.symm⟩)))
          go_wp2
          go_roundw
          case rel => exact ⟨n + 1, by omega, by omega, by go_num, HN.out.succ HH.out, by obtain ⟨d, hd⟩ := HW.out; rw [hd]; exact ⟨_, World.drewN_drewN _ _ _⟩⟩
          case measure => simp [intOf]; omega
        · have HH := Lib.hid (show false = f from by rw [← HF.out]; exact (fitB_not g1 g2 (by rw [getElem!_pos r n g1, getElem!_pos m n g3, getElem!_pos b n g2]; exact he)).symm)
          have ht := andB_ne he
          clear he
          go_wp2
          go_quiet ((go_at_call 45; exact Calls.quiet_of_same ((and_any r[n] m[n] _).mono fun _ _ h => ⟨h.1, h.2.symm⟩)))
          go_wp2
          go_ret2
          exact ⟨by rw [← HH.out]; rfl, by obtain ⟨d, hd⟩ := HW.out; rw [hd]; exact Below.drewN' (Below.drewN' HB1.out d) _⟩
      · obtain rfl : n = r.size := by omega
        have HH := Lib.hid (show true = f from by rw [← HF.out]; exact (fitB_all HN.out (by omega)).symm)
        go_wp2
        go_quiet (fail)
        go_wp2
        go_ret2
        exact ⟨by rw [← HH.out, ← HG.out]; rfl, by obtain ⟨d, hd⟩ := HW.out; rw [hd]; exact Below.drewN' (Below.drewN' HB1.out d) _⟩
    · obtain rfl : n = b.size := by omega
      have HH := Lib.hid (show true = f from by rw [← HF.out]; exact (fitB_all HN.out (by omega)).symm)
      have HT := Lib.hid (show true = g from by rw [← HG.out]; simp [hn])
      go_wp2
      go_quiet (fail)
      go_wp2
      go_ret2
      exact ⟨by rw [← HH.out, ← HT.out]; rfl, by obtain ⟨d, hd⟩ := HW.out; rw [hd]; exact Below.drewN' (Below.drewN' HB1.out d) _⟩

end Go.Proofs.Ytcoblepgehjamaa

