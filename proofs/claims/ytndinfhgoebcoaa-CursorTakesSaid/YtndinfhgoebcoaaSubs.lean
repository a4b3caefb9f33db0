/-
  What Cut and Sub answer, and that the laws on Sub and on no cursor return true. Condition: the text is no longer than a length can be.
-/
import Derived.Test.YtndinfhgoebcoaaLives
namespace Go.Proofs.Ytndinfhgoebcoaa
open Go.RowKit

/-- The first n bytes. -/
def cutB (s : ByteArray) (n : Nat) : ByteArray := if n < s.size then s.extract 0 n else s
theorem cutB_size (s : ByteArray) (n : Nat) : (cutB s n).size ≤ n := by
  unfold cutB
  split
  · simp; omega
  · omega

set_option maxHeartbeats 400000 in
theorem cut_any (s : ByteArray) (n : Nat) (w : World) (_hs : s.size ≤ 9223372036854775807) :
    Calls Try.prog 7 #[.string s, .int .i64 n] w fun e w' => e = .returned (.string (cutB s n)) ∧ w = w' := by
  by_cases h : n < s.size
  · have hx : cutB s n = s.extract 0 n := by simp [cutB, h]
    have h1 : decide ((n : Int) < (s.size : Int)) = true := by simpa using h
    have h2 : decide (n < s.size) = true := by simpa using h
    rw [hx]
    clear hx
    go_enter Try.func7, Try.ntmps7
    go_wp2
    go_ret
    exact ⟨rfl, rfl⟩
  · have hx : cutB s n = s := by simp [cutB, h]
    have h1 : decide ((n : Int) < (s.size : Int)) = false := by simp; omega
    have h2 : decide (n < s.size) = false := by simpa using h
    rw [hx]
    clear hx
    go_enter Try.func7, Try.ntmps7
    go_wp2
    go_ret
    exact ⟨rfl, rfl⟩

set_option maxHeartbeats 400000 in
theorem sub_ok (s : ByteArray) (a b : Nat) (w : World) (_hs : s.size ≤ 9223372036854775807) (h1 : a ≤ b) (h2 : b ≤ s.size) :
    Calls Try.prog 25 #[.string s, .int .i64 a, .int .i64 b] w fun e w' => e = .returned (.tuple #[.string (s.extract a b), .int .i64 0]) ∧ w = w' := by
  have d1 : decide ((a : Int) < 0) = false := by simp
  have d2 : decide (b < a) = false := by simp; omega
  have d3 : decide (s.size < b) = false := by simp; omega
  go_enter Try.func25, Try.ntmps25
  go_wp2
  go_ret2
  exact ⟨rfl, rfl⟩

set_option maxHeartbeats 400000 in
theorem sub_bad1 (s : ByteArray) (a b : Int) (w : World) (h : a < 0) :
    Calls Try.prog 25 #[.string s, .int .i64 a, .int .i64 b] w fun e w' => e = .returned (.tuple #[.string ⟨#[]⟩, .int .i64 9]) ∧ w = w' := by
  have d1 : decide (a < 0) = true := by simpa using h
  go_enter Try.func25, Try.ntmps25
  go_wp2
  go_ret2
  exact ⟨rfl, rfl⟩

set_option maxHeartbeats 400000 in
theorem sub_bad2 (s : ByteArray) (a b : Int) (w : World) (h : 0 ≤ a) (h2 : b < a) :
    Calls Try.prog 25 #[.string s, .int .i64 a, .int .i64 b] w fun e w' => e = .returned (.tuple #[.string ⟨#[]⟩, .int .i64 9]) ∧ w = w' := by
  have d1 : decide (a < 0) = false := by simp; omega
  have d2 : decide (b < a) = true := by simpa using h2
  go_enter Try.func25, Try.ntmps25
  go_wp2
  go_ret2
  exact ⟨rfl, rfl⟩

set_option maxHeartbeats 400000 in
theorem sub_bad3 (s : ByteArray) (a b : Int) (w : World) (_hs : s.size ≤ 9223372036854775807) (h : 0 ≤ a) (h2 : a ≤ b) (h3 : (s.size : Int) < b) :
    Calls Try.prog 25 #[.string s, .int .i64 a, .int .i64 b] w fun e w' => e = .returned (.tuple #[.string ⟨#[]⟩, .int .i64 9]) ∧ w = w' := by
  have d1 : decide (a < 0) = false := by simp; omega
  have d2 : decide (b < a) = false := by simp; omega
  have d3 : decide ((s.size : Int) < b) = true := by simpa using h3
  go_enter Try.func25, Try.ntmps25
  go_wp2
  go_ret2
  exact ⟨rfl, rfl⟩

set_option maxHeartbeats 400000 in
theorem cursorSubs_ok (s : ByteArray) (a b : Nat) (w : World) (hs : s.size ≤ 9223372036854775807) (h1 : a ≤ b) (h2 : b ≤ (cutB s 200).size) :
    Calls Try.prog 5 #[.string s, .int .i64 a, .int .i64 b] w fun e w' => e = .returned (.bool true) ∧ Below w.heap.size w w' := by
  have d1 : decide ((a : Int) < 0) = false := by simp
  have d2 : decide (b < a) = false := by simp; omega
  have d3 : decide ((cutB s 200).size < b) = false := by simp; omega
  have hc := cutB_size s 200
  go_enter Try.func5, Try.ntmps5
  go_wp2_with (first
    | (go_at_call 7; refine (cut_any s 200 _ hs).mono ?_; rintro e w1 ⟨rfl, rfl⟩)
    | (go_at_call 25; refine (sub_ok _ a b _ (by omega) h1 h2).mono ?_; rintro e w1 ⟨rfl, rfl⟩)
    | (go_at_call 18; refine (lives_any _).mono ?_; rintro e w2 ⟨rfl, hb2⟩))
  go_ret
  exact ⟨rfl, hb2⟩

set_option maxHeartbeats 400000 in
theorem cursorSubs_bad1 (s : ByteArray) (a b : Int) (w : World) (hs : s.size ≤ 9223372036854775807) (h : a < 0) :
    Calls Try.prog 5 #[.string s, .int .i64 a, .int .i64 b] w fun e w' => e = .returned (.bool true) ∧ Below w.heap.size w w' := by
  have d1 : decide (a < 0) = true := by simpa using h
  have hc := cutB_size s 200
  go_enter Try.func5, Try.ntmps5
  go_wp2_with (first
    | (go_at_call 7; refine (cut_any s 200 _ hs).mono ?_; rintro e w1 ⟨rfl, rfl⟩)
    | (go_at_call 25; refine (sub_bad1 _ a b _ h).mono ?_; rintro e w1 ⟨rfl, rfl⟩)
    | (go_at_call 18; refine (lives_any _).mono ?_; rintro e w2 ⟨rfl, hb2⟩))
  go_ret
  exact ⟨rfl, hb2⟩

set_option maxHeartbeats 400000 in
theorem cursorSubs_bad2 (s : ByteArray) (a b : Int) (w : World) (hs : s.size ≤ 9223372036854775807) (h : 0 ≤ a) (h2 : b < a) :
    Calls Try.prog 5 #[.string s, .int .i64 a, .int .i64 b] w fun e w' => e = .returned (.bool true) ∧ Below w.heap.size w w' := by
  have d1 : decide (a < 0) = false := by simp; omega
  have d2 : decide (b < a) = true := by simpa using h2
  have hc := cutB_size s 200
  go_enter Try.func5, Try.ntmps5
  go_wp2_with (first
    | (go_at_call 7; refine (cut_any s 200 _ hs).mono ?_; rintro e w1 ⟨rfl, rfl⟩)
    | (go_at_call 25; refine (sub_bad2 _ a b _ h h2).mono ?_; rintro e w1 ⟨rfl, rfl⟩)
    | (go_at_call 18; refine (lives_any _).mono ?_; rintro e w2 ⟨rfl, hb2⟩))
  go_ret
  exact ⟨rfl, hb2⟩

set_option maxHeartbeats 400000 in
theorem cursorSubs_bad3 (s : ByteArray) (a b : Int) (w : World) (hs : s.size ≤ 9223372036854775807) (h : 0 ≤ a) (h2 : a ≤ b) (h3 : ((cutB s 200).size : Int) < b) :
    Calls Try.prog 5 #[.string s, .int .i64 a, .int .i64 b] w fun e w' => e = .returned (.bool true) ∧ Below w.heap.size w w' := by
  have d1 : decide (a < 0) = false := by simp; omega
  have d2 : decide (b < a) = false := by simp; omega
  have d3 : decide (((cutB s 200).size : Int) < b) = true := by simpa using h3
  have hc := cutB_size s 200
  go_enter Try.func5, Try.ntmps5
  go_wp2_with (first
    | (go_at_call 7; refine (cut_any s 200 _ hs).mono ?_; rintro e w1 ⟨rfl, rfl⟩)
    | (go_at_call 25; refine (sub_bad3 _ a b _ (by omega) h h2 h3).mono ?_; rintro e w1 ⟨rfl, rfl⟩)
    | (go_at_call 18; refine (lives_any _).mono ?_; rintro e w2 ⟨rfl, hb2⟩))
  go_ret
  exact ⟨rfl, hb2⟩

theorem cursorSubs_any (s : ByteArray) (a b : Int) (w : World) (hs : s.size ≤ 9223372036854775807) :
    Calls Try.prog 5 #[.string s, .int .i64 a, .int .i64 b] w fun e w' => e = .returned (.bool true) ∧ Below w.heap.size w w' := by
  by_cases h1 : a < 0
  · exact cursorSubs_bad1 s a b w hs h1
  by_cases h2 : b < a
  · exact cursorSubs_bad2 s a b w hs (by omega) h2
  by_cases h3 : ((cutB s 200).size : Int) < b
  · exact cursorSubs_bad3 s a b w hs (by omega) (by omega) h3
  have := cursorSubs_ok s a.toNat b.toNat w hs (by omega) (by omega)
  rwa [Int.toNat_of_nonneg (by omega), Int.toNat_of_nonneg (by omega)] at this

set_option maxHeartbeats 400000 in
theorem skip_nil (s : ByteArray) (w : World) :
    Calls Try.prog 20 #[.pointer none, .string s] w fun e w' => e = .returned (.bool false) ∧ ∃ m, w' = w.drewN m := by
  go_enter Try.func20, Try.ntmps20
  go_wp2
  go_quiet (fail)
  go_wp2
  go_ret
  exact ⟨rfl, _, rfl⟩

set_option maxHeartbeats 400000 in
theorem until_nil (s : ByteArray) (w : World) :
    Calls Try.prog 24 #[.pointer none, .string s] w fun e w' => e = .returned (.string ⟨#[]⟩) ∧ w = w' := by
  go_enter Try.func24, Try.ntmps24
  go_wp2
  go_ret
  exact ⟨rfl, rfl⟩

set_option maxHeartbeats 1000000 in
theorem cursorNone_any (n : Int) (w : World) :
    Calls Try.prog 6 #[.int .i64 n] w fun e w' => e = .returned (.bool true) ∧ Below w.heap.size w w' := by
  have hmf := make_func
  go_enter Try.func6, Try.ntmps6
  go_wp2_with (first
    | (go_at_call 13; refine (peek_nil 0 _ (by omega)).mono ?_; rintro e w1 ⟨rfl, rfl⟩)
    | (go_at_call 26; refine (value_next_nil 0 _).mono ?_; rintro e w1 ⟨rfl, hb1⟩; have hz1 : w.heap.size ≤ w1.heap.size := hb1.size)
    | (go_at_call 9; refine (catch_back_nil n _).mono ?_; rintro e w2 ⟨rfl, hb2⟩; obtain ⟨hc2, hf2⟩ := bcell hb2; have hz2 : w1.heap.size < w2.heap.size := by (have := hb2.size; simp at this; omega))
    | (go_at_call 14; refine (at_nil _).mono ?_; rintro e w3 ⟨rfl, rfl⟩)
    | (go_at_call 15; refine (left_nil _).mono ?_; rintro e w3 ⟨rfl, rfl⟩)
    | (go_at_call 16; refine (end_nil _).mono ?_; rintro e w3 ⟨rfl, rfl⟩)
    | (go_at_call 17; refine (rest_nil _).mono ?_; rintro e w3 ⟨rfl, rfl⟩)
    | (go_at_call 20; refine (skip_nil _ _).mono ?_; rintro e w3 ⟨rfl, m3, rfl⟩)
    | (go_at_call 24; refine (until_nil _ _).mono ?_; rintro e w3 ⟨rfl, rfl⟩)
    | (go_at_call 18; refine (lives_any _).mono ?_; rintro e w4 ⟨rfl, hb4⟩))
  go_ret
  have hz4 := hb4.size
  exact ⟨rfl, (Below.drewN' (((hb1.alloc hz1 _).trans (hb2.mono (by simp; omega))).alloc (by omega) _) m3).trans (hb4.mono (by simp; omega))⟩

end Go.Proofs.Ytndinfhgoebcoaa
