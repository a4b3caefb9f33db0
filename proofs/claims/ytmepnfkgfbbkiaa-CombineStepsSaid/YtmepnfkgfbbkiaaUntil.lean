/-
  What Until does to a cursor. Conditions as in Cursor.
-/
import Derived.Test.YtmepnfkgfbbkiaaRun
import Derived.Test.YtmepnfkgfbbkiaaTbl
namespace Go.Proofs.Ytmepnfkgfbbkiaa
open Go.RowKit

set_option maxHeartbeats 1000000 in
set_option maxRecDepth 100000 in
theorem until_any (cb k : Nat) (s t : ByteArray) (w : World) (h : Cur w cb s k) (hk : k ≤ s.size) (hs : s.size ≤ 9223372036854775807) (ht : t.size ≤ 9223372036854775807) :
    Calls Try.prog 47 #[cptr cb, .string t] w fun e w' => e = .returned (.string (s.extract k (scan (fun b => !hasB t b) s k))) ∧ Mv w.heap.size [cb] w w' ∧ Cur w' cb s (scan (fun b => !hasB t b) s k) := by
  have c1 := h.c1
  have lc := h.lt
  have HC := Lib.hid h
  have hz := zero_tbl
  clear h
  go_enter Try.func47, Try.ntmps47
  go_wp2
  go_loopw [12] (fun i wr => ∃ m : Nat, m ≤ t.size ∧ i = .int .i64 m ∧ Blk wr w.heap.size 81 (tbl (t.data.toList.take m)) ∧ Below w.heap.size w wr) (fun i _ => t.size - (intOf i).toNat)
  case atStart => exact ⟨0, by omega, rfl, Blk.new _ _ _, (Below.refl _ _).alloc (Nat.le_refl _) _⟩
  case round =>
    obtain ⟨m, hm, rfl, hb, hw⟩ := hrel
    have HW := Lib.hid hw
    have HBk := Lib.hid hb
    by_cases hlt : m < t.size
    · have hu : (t[m].toNat : Int) < 256 := by have := t[m].toNat_lt; omega
      have hu2 : t[m].toNat < 256 := by omega
      have e0 : wr.cell? ⟨w.heap.size, t[m].toNat, none⟩ = some (.bool ((t.data.toList.take m).contains t[m])) := (hb.cell _).trans (tbl_at _ _)
      have z0 : wr.frozen? ⟨w.heap.size, t[m].toNat, none⟩ = false := hb.frozen _
      have HX : Hid (Blk (wr.setCell ⟨w.heap.size, t[m].toNat, none⟩ (.bool true)) w.heap.size 81 (tbl (t.data.toList.take (m + 1)))) := by
        have := hb.set_ t[m].toNat (.bool true)
        rw [tbl_set, ← take_snoc t m hlt] at this
        exact this
      clear hb hw
      go_wp2
      go_roundw
      case rel => exact ⟨m + 1, by omega, by go_num, HX.out, HW.out.setCell (by simp) _⟩
      case measure => simp [intOf]; omega
    · obtain rfl : m = t.size := by omega
      have hc : Cur wr cb s k := HC.out.below hw lc
      have e0 := Cur.c0 hc
      have e1 := Cur.c1 hc
      have HC2 := Lib.hid hc
      have HT : Hid (Blk wr w.heap.size 81 (tbl t.data.toList)) := by
        have := hb
        rwa [List.take_of_length_le (by simp)] at this
      clear hb hw hc HBk
      go_wp2
      go_loop [7] (fun i => ∃ m : Nat, k ≤ m ∧ m ≤ s.size ∧ i = .int .i64 m ∧ scan (fun b => !hasB t b) s m = scan (fun b => !hasB t b) s k) (fun i => s.size - (intOf i).toNat)
      case atStart => exact ⟨k, by omega, hk, rfl, rfl⟩
      case round =>
        obtain ⟨m, hkm, hms, rfl, hsc⟩ := hrel
        have HS := Lib.hid hsc
        clear hsc
        by_cases hlt : m < s.size
        · have hu : (s[m].toNat : Int) < 256 := by have := s[m].toNat_lt; omega
          have hu2 : s[m].toNat < 256 := by omega
          have HG : Hid (wr.cell? ⟨w.heap.size, s[m].toNat, none⟩ = some (.bool (hasB t s[m]))) := (Blk.cell HT.out _).trans (tbl_at _ _)
          cases hb : hasB t s[m]
          · have e5 : wr.cell? ⟨w.heap.size, s[m].toNat, none⟩ = some (.bool false) := by rw [HG.out, hb]
            have HF : Hid (scan (fun b => !hasB t b) s (m + 1) = scan (fun b => !hasB t b) s m) := scan_step hlt (by simp [hb])
            clear hb
            go_wp2
            go_round
            case rel => exact ⟨m + 1, by omega, by omega, by go_num, HF.out.trans HS.out⟩
            case measure => simp [intOf]; omega
          · have e5 : wr.cell? ⟨w.heap.size, s[m].toNat, none⟩ = some (.bool true) := by rw [HG.out, hb]
            have HF : Hid (scan (fun b => !hasB t b) s m = m) := scan_stop hlt (by simp [hb])
            have HP := Lib.hid (passTo_any cb k m s wr HC2.out hkm hms hs)
            clear hb
            go_wp2_with (go_at_call 62; refine HP.out.mono ?_; rintro e w2 ⟨rfl, hw2⟩; have HW2 := Lib.hid hw2; clear hw2)
            go_ret
            rw [← HS.out, HF.out]
            exact ⟨rfl, by rw [HW2.out]; exact (Mv.of_below HW.out _).setCell (.inl (by simp)) _, by rw [HW2.out]; exact Cur.set HC2.out m⟩
        · obtain rfl : m = s.size := by omega
          have HF : Hid (scan (fun b => !hasB t b) s s.size = s.size) := scan_end rfl
          have HP := Lib.hid (passTo_any cb k s.size s wr HC2.out hkm hms hs)
          go_wp2_with (go_at_call 62; refine HP.out.mono ?_; rintro e w2 ⟨rfl, hw2⟩; have HW2 := Lib.hid hw2; clear hw2)
          go_ret
          rw [← HS.out, HF.out]
          exact ⟨rfl, by rw [HW2.out]; exact (Mv.of_below HW.out _).setCell (.inl (by simp)) _, by rw [HW2.out]; exact Cur.set HC2.out s.size⟩

end Go.Proofs.Ytmepnfkgfbbkiaa
