/-
  The document's own answer for layer 18: the next frame, and whether a text is a sound. Condition: the text is not longer than memory.
-/
import Derived.Test.YtmjkolkmpnadpaaPn
namespace Go.Proofs.Ytmjkolkmpnadpaa
open Go.RowKit

set_option maxHeartbeats 1000000 in
theorem rnext_any (s : ByteArray) (w : World) (hs : s.size ≤ 9223372036854775807) :
    Calls Try.prog 15 #[.string s] w fun e w' => e = .returned (.int .i64 (nxN s : Nat)) ∧ Below w.heap.size w w' := by
  obtain ⟨k, hk⟩ : ∃ k, k = nxN s := ⟨_, rfl⟩
  rw [← hk]
  have HK := Lib.hid hk
  clear hk
  have HH := Lib.hid (fun W => rhead_any s W hs)
  have HS := Lib.hid (fun W => rsize_any (hdF s) W)
  have hz := szF_le (hdF s)
  have HY := Lib.hid (nxN_yes (s := s))
  have HN := Lib.hid (nxN_no (s := s))
  generalize szF (hdF s) = n at *
  obtain ⟨v, l, r, q, p, hf⟩ := frm_form (hdF s)
  rw [hf] at HH HS
  clear hf
  have hcase : (n < 4 ∧ Hid (k = 0)) ∨ (4 ≤ n ∧ s.size < n ∧ Hid (k = 0)) ∨ (4 ≤ n ∧ n ≤ s.size ∧ Hid (k = n)) := by
    by_cases c1 : 4 ≤ n
    · by_cases c2 : n ≤ s.size
      · exact .inr (.inr ⟨c1, c2, Lib.hid (HK.out.trans (HY.out c1 c2))⟩)
      · exact .inr (.inl ⟨c1, by omega, Lib.hid (HK.out.trans (HN.out (fun h => c2 h.2)))⟩)
    · exact .inl ⟨by omega, Lib.hid (HK.out.trans (HN.out (fun h => c1 h.1)))⟩
  clear HK HY HN
  rcases hcase with ⟨c1, HE⟩ | ⟨c1, c2, HE⟩ | ⟨c1, c2, HE⟩
  all_goals
    go_enter Try.func15, Try.ntmps15
    go_wp2_with (first
      | (go_at_call 9; (with_reducible refine (HH.out _).mono ?_); rintro e w1 ⟨rfl, hb⟩; have HB1 := Lib.hid hb; clear hb)
      | (go_at_call 12; (with_reducible refine (HS.out _).mono ?_); rintro e w2 ⟨rfl, hb⟩; have HB2 := Lib.hid (HB1.out.trans (hb.mono HB1.out.size)); clear hb))
    go_ret
    exact ⟨by rw [HE.out]; first | done | rfl, HB2.out⟩

theorem field_freq (v l r q : Int) (p : Bool) (W : World) : (Instr.field 24 (.agg #[.int .i64 v, .int .i64 l, .int .i64 r, .int .i64 q, .bool p]) 3).run Try.prog W = .ok (.int .i64 q) W := by
  simp [Instr.field, go_sem, part, asAgg]

theorem freq_pos (x : ByteArray) : decide (0 < (hdF x).freq) = hdO x := by
  cases h : hdO x
  · rw [hdF_no h]; rfl
  · have := gdB_all ((hdF_good x).trans h)
    exact decide_eq_true (by omega)

set_option maxHeartbeats 1000000 in
theorem ris18_any (s : ByteArray) (w : World) (hs : s.size ≤ 9223372036854775807) :
    Calls Try.prog 19 #[.string s] w fun e w' => e = .returned (.bool (isO s)) ∧ Below w.heap.size w w' := by
  obtain ⟨d, hd⟩ : ∃ d, d = isO s := ⟨_, rfl⟩
  rw [← hd]
  have HD := Lib.hid hd
  clear hd
  have HF := Lib.hid (fun W => rnext_any s W hs)
  have hn := nxN_le s
  by_cases h0 : nxN s = 0
  · have HD2 : Hid (d = false) := Lib.hid (by rw [HD.out]; unfold isO; rw [decide_eq_false (fun h => h h0)]; rfl)
    rw [h0] at HF
    go_enter Try.func19, Try.ntmps19
    go_wp2_with (go_at_call 15; (with_reducible refine (HF.out _).mono ?_); rintro e w1 ⟨rfl, hb⟩; have HB1 := Lib.hid hb; clear hb)
    go_ret
    exact ⟨by rw [HD2.out]; first | done | rfl, HB1.out⟩
  · have HH := Lib.hid (fun W => rhead_any (s.extract (nxN s) s.size) W (by rw [ByteArray.size_extract]; omega))
    have HD2 : Hid (d = hdO (s.extract (nxN s) s.size)) := Lib.hid (by rw [HD.out]; unfold isO; rw [decide_eq_true h0, Bool.true_and])
    clear HD
    obtain ⟨x, hx⟩ : ∃ x, s.extract (nxN s) s.size = x := ⟨_, rfl⟩
    rw [hx] at HD2 HH
    have hp := freq_pos x
    generalize hdF x = f at *
    obtain ⟨v, l, r, q, p⟩ := f
    have hq : decide (0 < q) = hdO x := hp
    clear hp
    generalize hdO x = o at *
    generalize nxN s = n at *
    have HH2 : Hid (∀ W, Calls Try.prog 9 #[.string x] W fun e w' => e = .returned (.agg #[.int .i64 v, .int .i64 l, .int .i64 r, .int .i64 q, .bool p]) ∧ Below W.heap.size W w') := HH
    have hfd := field_freq v l r q p
    have hn0 : decide ((0 : Int) < n) = true := by simp; omega
    have hn1 : (n : Int) ≤ (s.size : Int) := by omega
    go_enter Try.func19, Try.ntmps19
    go_wp2_with (first
      | (go_at_call 15; (with_reducible refine (HF.out _).mono ?_); rintro e w1 ⟨rfl, hb⟩; have HB1 := Lib.hid hb; clear hb)
      | (go_at_call 9; (with_reducible refine (HH2.out _).mono ?_); rintro e w2 ⟨rfl, hb⟩; have HB2 := Lib.hid (HB1.out.trans (hb.mono HB1.out.size)); clear hb))
    go_ret
    exact ⟨by rw [HD2.out]; first | done | rfl, HB2.out⟩

end Go.Proofs.Ytmjkolkmpnadpaa
