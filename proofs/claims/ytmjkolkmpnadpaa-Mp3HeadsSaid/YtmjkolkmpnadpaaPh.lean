/-
  Whether a text is a sound, and how many frames lie in it: what package mp3 answers. Condition: the text is not longer than memory.
-/
import Derived.Test.YtmjkolkmpnadpaaPg
namespace Go.Proofs.Ytmjkolkmpnadpaa
open Go.RowKit

theorem frm_form (f : Frm) : ∃ v l r q p, f = ⟨v, l, r, q, p⟩ := ⟨_, _, _, _, _, rfl⟩

set_option maxHeartbeats 2000000 in
theorem mis_any (s : ByteArray) (w : World) (hs : s.size ≤ 9223372036854775807) :
    Calls Try.prog 18 #[.string s] w fun e w' => e = .returned (.bool (isO s)) ∧ Below w.heap.size w w' := by
  obtain ⟨d, hd⟩ : ∃ d, d = isO s := ⟨_, rfl⟩
  rw [← hd]
  have HD := Lib.hid hd
  clear hd
  have HF := Lib.hid (fun W => mfirst_any s W hs)
  have hn := nxN_le s
  obtain ⟨v, l, r, q, p, hf⟩ := frm_form (fsF s)
  rw [hf] at HF
  clear hf
  by_cases h0 : nxN s = 0
  · have HD2 : Hid (d = false) := Lib.hid (by rw [HD.out]; unfold isO; rw [decide_eq_false (fun h => h h0)]; rfl)
    rw [h0] at HF
    go_enter Try.func18, Try.ntmps18
    go_wp2_with (go_at_call 29; (with_reducible refine (HF.out _).mono ?_); rintro e w1 ⟨rfl, hb⟩; have HB1 := Lib.hid hb; clear hb)
    go_ret
    exact ⟨by rw [HD2.out]; first | done | rfl, HB1.out.alloc HB1.out.size _⟩
  · have HH := Lib.hid (fun W => mhead_any (s.extract (nxN s) s.size) W (by rw [ByteArray.size_extract]; omega))
    have HD2 : Hid (d = hdO (s.extract (nxN s) s.size)) := Lib.hid (by rw [HD.out]; unfold isO; rw [decide_eq_true h0, Bool.true_and])
    clear HD
    obtain ⟨x, hx⟩ : ∃ x, s.extract (nxN s) s.size = x := ⟨_, rfl⟩
    rw [hx] at HD2 HH
    obtain ⟨v', l', r', q', p', hf⟩ := frm_form (hdF x)
    rw [hf] at HH
    clear hf
    generalize hdO x = o at *
    generalize nxN s = n at *
    have hn0 : ((n : Int) == 0) = false := by rw [beq_eq_false_iff_ne]; omega
    have hn1 : (n : Int) ≤ (s.size : Int) := by omega
    go_enter Try.func18, Try.ntmps18
    go_wp2_with (first
      | (go_at_call 29; (with_reducible refine (HF.out _).mono ?_); rintro e w1 ⟨rfl, hb⟩; have HB1 := Lib.hid (hb.alloc hb.size (.cells #[.int .i64 v, .int .i64 l, .int .i64 r, .int .i64 q, .bool p] 24)); clear hb)
      | (go_at_call 8; (with_reducible refine (HH.out _).mono ?_); rintro e w2 ⟨rfl, hb⟩; have HB2 := Lib.hid (HB1.out.trans (hb.mono HB1.out.size)); clear hb))
    go_ret
    exact ⟨by rw [HD2.out]; first | done | rfl, HB2.out.alloc HB2.out.size _⟩

theorem ext_ext (s : ByteArray) (p k : Nat) (_hk : p + k ≤ s.size) : (s.extract p s.size).extract k (s.extract p s.size).size = s.extract (p + k) s.size := by
  rw [ByteArray.extract_extract, ByteArray.size_extract]
  congr 1
  omega
/-- How many frames stand behind a place, and how many bytes these have. -/
def frmAt (s : ByteArray) (p : Nat) : Nat × Nat := frmG (s.extract p s.size)

set_option maxHeartbeats 2000000 in
theorem frames_any (s : ByteArray) (w : World) (hs : s.size ≤ 9223372036854775807) :
    Calls Try.prog 17 #[.string s] w fun e w' => e = .returned (.tuple #[.int .i64 ((frmG s).1 : Nat), .int .i64 ((frmG s).2 : Nat)]) ∧ Below w.heap.size w w' := by
  obtain ⟨c, hc⟩ : ∃ d, d = (frmG s).1 := ⟨_, rfl⟩
  obtain ⟨b, hb⟩ : ∃ d, d = (frmG s).2 := ⟨_, rfl⟩
  rw [← hc, ← hb]
  have hle := frmG_le s.size s (Nat.le_refl _)
  rw [← hc, ← hb] at hle
  have HC := Lib.hid hc
  have HB := Lib.hid hb
  clear hc hb
  go_enter Try.func17, Try.ntmps17
  go_wp2
  go_loopw [4, 5] (fun i a wr => ∃ k p : Nat, p ≤ s.size ∧ i = .int .i64 (k : Nat) ∧ a = .int .i64 (p : Nat) ∧ k + (frmG (s.extract p s.size)).1 = c ∧ p + (frmG (s.extract p s.size)).2 = b ∧ Below w.heap.size w wr) (fun _ a _ => s.size - (intOf a).toNat)
  case atStart => exact ⟨0, 0, by omega, rfl, rfl, by rw [ByteArray.extract_zero_size, HC.out, Nat.zero_add], by rw [ByteArray.extract_zero_size, HB.out, Nat.zero_add], Below.refl _ _⟩
  case round =>
    obtain ⟨k, p, hp, rfl, rfl, hk, hb, hw⟩ := hrel
    have HW := Lib.hid hw
    clear hw
    have HF := Lib.hid (fun W => mfirst_any (s.extract p s.size) W (by rw [ByteArray.size_extract]; omega))
    have hn := nxN_le (s.extract p s.size)
    rw [ByteArray.size_extract] at hn
    obtain ⟨v, l, r, q, o, hf⟩ := frm_form (fsF (s.extract p s.size))
    rw [hf] at HF
    clear hf
    by_cases h0 : nxN (s.extract p s.size) = 0
    · rw [frmG_stop h0] at hk hb
      rw [h0] at HF
      obtain ⟨x, hx⟩ : ∃ x, s.extract p s.size = x := ⟨_, rfl⟩
      rw [hx] at HF
      have hk' : k = c := hk
      have hb' : p = b := hb
      subst hk' hb'
      clear hk hb HC HB h0
      have hpi : (p : Int) ≤ (s.size : Int) := by omega
      go_wp2_with (go_at_call 29; (with_reducible refine (HF.out _).mono ?_); rintro e w1 ⟨rfl, hb⟩; have HB1 := Lib.hid ((HW.out.trans (hb.mono HW.out.size)).alloc (Nat.le_trans HW.out.size hb.size) (.cells #[.int .i64 v, .int .i64 l, .int .i64 r, .int .i64 q, .bool o] 24)); clear hb)
      exact bodyPost_ret (v := .tuple #[.int .i64 (k : Nat), .int .i64 (p : Nat)]) (by simp [results, Try.results17, go_sem]) rfl ⟨rfl, HB1.out⟩
    · have h4 := nxN_ge h0
      have hstep := frmG_step h0
      rw [ext_ext s p _ (by omega)] at hstep
      rw [hstep] at hk hb
      obtain ⟨x, hx⟩ : ∃ x, s.extract p s.size = x := ⟨_, rfl⟩
      rw [hx] at HF h0 h4 hn hk hb
      generalize nxN x = n at *
      have HK := Lib.hid (show k + 1 + (frmG (s.extract (p + n) s.size)).1 = c from by rw [← hk]; exact Nat.add_right_comm _ _ _)
      have HBB := Lib.hid (show p + n + (frmG (s.extract (p + n) s.size)).2 = b from by rw [← hb]; show _ = p + ((frmG (s.extract (p + n) s.size)).2 + n); omega)
      have hk1 : k + 1 ≤ c := by have := HK.out; omega
      clear hk hb hstep
      have hn0 : ((n : Int) == 0) = false := by rw [beq_eq_false_iff_ne]; omega
      have hpi : (p : Int) ≤ (s.size : Int) := by omega
      go_wp2_with (go_at_call 29; (with_reducible refine (HF.out _).mono ?_); rintro e w1 ⟨rfl, hb⟩; have HB1 := Lib.hid ((HW.out.trans (hb.mono HW.out.size)).alloc (Nat.le_trans HW.out.size hb.size) (.cells #[.int .i64 v, .int .i64 l, .int .i64 r, .int .i64 q, .bool o] 24)); clear hb)
      go_roundw
      case rel => exact ⟨k + 1, p + n, by omega, by go_num, by go_num, HK.out, HBB.out, HB1.out⟩
      case measure => simp [intOf]; omega

end Go.Proofs.Ytmjkolkmpnadpaa
