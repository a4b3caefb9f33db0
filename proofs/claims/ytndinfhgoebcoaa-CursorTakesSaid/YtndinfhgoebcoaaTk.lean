/-
  What 'takes' answers of each call over a cursor, what Wants answers, and what Peek tells. Conditions as in Cursor.
-/
import Derived.Test.YtndinfhgoebcoaaTakes2
import Derived.Test.YtndinfhgoebcoaaSubs
namespace Go.Proofs.Ytndinfhgoebcoaa
open Go.RowKit

theorem extract_one (s : ByteArray) (k : Nat) (h : k < s.size) : s.extract k (k + 1) = ⟨#[s[k]]⟩ := by
  apply ByteArray.ext
  rw [ByteArray.data_extract]
  apply Array.ext
  · simp; have : s.data.size = s.size := rfl; omega
  · intro i h1 h2
    obtain rfl : i = 0 := by simpa using h2
    simp
    rfl

theorem tk0_ok (cb k : Nat) (s : ByteArray) (w : World) (h : Cur w cb s k) (hs : s.size ≤ 9223372036854775807) (n : Int) (x : ByteArray) (hx : x = s.extract k (k + 1)) (hk : k < s.size) :
    Calls Try.prog 12 #[call (some ⟨cb, 0, none⟩) n, .int .i64 0, .string x, flt k 0] w fun e w' => e = .returned (.bool true) ∧ Mv w.heap.size [cb] w w' ∧ Cur w' cb s (k + 1) := by
  subst hx
  refine takes0_ok _ n _ k w [cb] (fun W => Cur W cb s (k + 1)) (one_lt h.lt) (cur_stable h.lt) fun W hW => ?_
  rw [extract_one s k hk]
  exact value_next_ok cb k n s W (h.below hW h.lt) hk hs
theorem tk0_far (cb k : Nat) (s : ByteArray) (w : World) (h : Cur w cb s k) (hs : s.size ≤ 9223372036854775807) (n : Int) (x : ByteArray) (hx : x = ⟨#[]⟩) (hk : k = s.size) :
    Calls Try.prog 12 #[call (some ⟨cb, 0, none⟩) n, .int .i64 0, .string x, flt k 8] w fun e w' => e = .returned (.bool true) ∧ Mv w.heap.size [cb] w w' ∧ Cur w' cb s k := by
  subst hx
  refine takes0_bad _ n _ k 8 rfl w [cb] (fun W => Cur W cb s k) (one_lt h.lt) (cur_stable h.lt) fun W hW => ?_
  exact (value_next_far cb k n s W (h.below hW h.lt) hk hs).mono fun _ _ ⟨h1, h2⟩ => ⟨h1, Mv.of_below h2 _, (h.below hW h.lt).below h2 (Nat.lt_of_lt_of_le h.lt hW.size)⟩
theorem tk1_ok (cb k : Nat) (s : ByteArray) (w : World) (h : Cur w cb s k) (hs : s.size ≤ 9223372036854775807) (n : Nat) (x : ByteArray) (hx : x = s.extract k (k + n)) (hk : k + n ≤ s.size) :
    Calls Try.prog 12 #[call (some ⟨cb, 0, none⟩) n, .int .i64 1, .string x, flt k 0] w fun e w' => e = .returned (.bool true) ∧ Mv w.heap.size [cb] w w' ∧ Cur w' cb s (k + n) := by
  subst hx
  exact takes1_ok _ n _ k w [cb] (fun W => Cur W cb s (k + n)) (one_lt h.lt) (cur_stable h.lt) fun W hW => value_take_ok cb k n s W (h.below hW h.lt) hk hs
theorem tk1_neg (cb k : Nat) (s : ByteArray) (w : World) (h : Cur w cb s k) (n : Int) (x : ByteArray) (hx : x = ⟨#[]⟩) (h0 : n < 0) :
    Calls Try.prog 12 #[call (some ⟨cb, 0, none⟩) n, .int .i64 1, .string x, flt k 9] w fun e w' => e = .returned (.bool true) ∧ Mv w.heap.size [cb] w w' ∧ Cur w' cb s k := by
  subst hx
  refine takes1_bad _ n _ k 9 rfl w [cb] (fun W => Cur W cb s k) (one_lt h.lt) (cur_stable h.lt) fun W hW => ?_
  exact (value_take_neg cb k n s W (h.below hW h.lt) h0).mono fun _ _ ⟨h1, h2⟩ => ⟨h1, Mv.of_below h2 _, (h.below hW h.lt).below h2 (Nat.lt_of_lt_of_le h.lt hW.size)⟩
theorem tk1_far (cb k : Nat) (s : ByteArray) (w : World) (h : Cur w cb s k) (hs : s.size ≤ 9223372036854775807) (n : Int) (x : ByteArray) (hx : x = ⟨#[]⟩) (hk : k ≤ s.size) (h0 : 0 ≤ n) (h1 : (s.size : Int) - k < n) :
    Calls Try.prog 12 #[call (some ⟨cb, 0, none⟩) n, .int .i64 1, .string x, flt k 8] w fun e w' => e = .returned (.bool true) ∧ Mv w.heap.size [cb] w w' ∧ Cur w' cb s k := by
  subst hx
  refine takes1_bad _ n _ k 8 rfl w [cb] (fun W => Cur W cb s k) (one_lt h.lt) (cur_stable h.lt) fun W hW => ?_
  exact (value_take_far cb k n s W (h.below hW h.lt) hk hs h0 h1).mono fun _ _ ⟨h1, h2⟩ => ⟨h1, Mv.of_below h2 _, (h.below hW h.lt).below h2 (Nat.lt_of_lt_of_le h.lt hW.size)⟩
theorem tk2_ok (cb k : Nat) (s : ByteArray) (w : World) (h : Cur w cb s k) (hs : s.size ≤ 9223372036854775807) (n : Int) (x : ByteArray) (hx : x = s.extract k (k + 4)) (hk : k + 4 ≤ s.size) :
    Calls Try.prog 12 #[call (some ⟨cb, 0, none⟩) n, .int .i64 2, .string x, flt k 0] w fun e w' => e = .returned (.bool true) ∧ Mv w.heap.size [cb] w w' ∧ Cur w' cb s (k + 4) := by
  subst hx
  exact takes2_ok _ n _ k w [cb] (fun W => Cur W cb s (k + 4)) (by simp; omega) (one_lt h.lt) (cur_stable h.lt) fun W hW => value_u32_ok cb k n s W (h.below hW h.lt) hk hs
theorem tk2_far (cb k : Nat) (s : ByteArray) (w : World) (h : Cur w cb s k) (hs : s.size ≤ 9223372036854775807) (n : Int) (x : ByteArray) (hx : x = ⟨#[]⟩) (hk : k ≤ s.size) (hk4 : s.size < k + 4) :
    Calls Try.prog 12 #[call (some ⟨cb, 0, none⟩) n, .int .i64 2, .string x, flt k 8] w fun e w' => e = .returned (.bool true) ∧ Mv w.heap.size [cb] w w' ∧ Cur w' cb s k := by
  subst hx
  refine takes2_bad _ n _ k 8 rfl w [cb] (fun W => Cur W cb s k) (by decide) (one_lt h.lt) (cur_stable h.lt) fun W hW => ?_
  exact (value_u32_far cb k n s W (h.below hW h.lt) hk hk4 hs).mono fun _ _ ⟨h1, h2⟩ => ⟨h1, Mv.of_below h2 _, (h.below hW h.lt).below h2 (Nat.lt_of_lt_of_le h.lt hW.size)⟩

/-! ### Wants -/
abbrev deedc (q N : Int) (S : ByteArray) : Obj := .cells #[.int .i64 q, .int .i64 N, .string S] 27
abbrev wres (n e : Int) : Ending := .returned (.tuple #[.int .i64 n, .int .i64 e])

set_option maxHeartbeats 400000 in
theorem wants0_ok (N l : Int) (S : ByteArray) (w : World) (h : 1 ≤ l) :
    Calls Try.prog 11 #[.agg #[.int .i64 0, .int .i64 N, .string S], .int .i64 l] w fun e w' => e = wres 1 0 ∧ w' = w.alloc (deedc 0 N S) := by
  have h1 : decide (l < 1) = false := by simp; omega
  go_enter Try.func11, Try.ntmps11
  go_wp2
  go_ret2
  exact ⟨rfl, rfl⟩
set_option maxHeartbeats 400000 in
theorem wants0_far (N : Int) (S : ByteArray) (w : World) :
    Calls Try.prog 11 #[.agg #[.int .i64 0, .int .i64 N, .string S], .int .i64 0] w fun e w' => e = wres 0 8 ∧ w' = w.alloc (deedc 0 N S) := by
  go_enter Try.func11, Try.ntmps11
  go_wp2
  go_ret2
  exact ⟨rfl, rfl⟩
set_option maxHeartbeats 400000 in
theorem wants1_neg (N l : Int) (S : ByteArray) (w : World) (h : N < 0) :
    Calls Try.prog 11 #[.agg #[.int .i64 1, .int .i64 N, .string S], .int .i64 l] w fun e w' => e = wres 0 9 ∧ w' = w.alloc (deedc 1 N S) := by
  have h1 : decide (N < 0) = true := by simpa using h
  go_enter Try.func11, Try.ntmps11
  go_wp2
  go_ret2
  exact ⟨rfl, rfl⟩
set_option maxHeartbeats 400000 in
theorem wants1_far (N l : Int) (S : ByteArray) (w : World) (h : 0 ≤ N) (h2 : l < N) :
    Calls Try.prog 11 #[.agg #[.int .i64 1, .int .i64 N, .string S], .int .i64 l] w fun e w' => e = wres 0 8 ∧ w' = w.alloc (deedc 1 N S) := by
  have h1 : decide (N < 0) = false := by simp; omega
  have h3 : decide (l < N) = true := by simpa using h2
  go_enter Try.func11, Try.ntmps11
  go_wp2
  go_ret2
  exact ⟨rfl, rfl⟩
set_option maxHeartbeats 400000 in
theorem wants1_ok (N l : Int) (S : ByteArray) (w : World) (h : 0 ≤ N) (h2 : N ≤ l) :
    Calls Try.prog 11 #[.agg #[.int .i64 1, .int .i64 N, .string S], .int .i64 l] w fun e w' => e = wres N 0 ∧ w' = w.alloc (deedc 1 N S) := by
  have h1 : decide (N < 0) = false := by simp; omega
  have h3 : decide (l < N) = false := by simp; omega
  go_enter Try.func11, Try.ntmps11
  go_wp2
  go_ret2
  exact ⟨rfl, rfl⟩
set_option maxHeartbeats 400000 in
theorem wants2_ok (N l : Int) (S : ByteArray) (w : World) (h : 4 ≤ l) :
    Calls Try.prog 11 #[.agg #[.int .i64 2, .int .i64 N, .string S], .int .i64 l] w fun e w' => e = wres 4 0 ∧ w' = w.alloc (deedc 2 N S) := by
  have h1 : decide (l < 4) = false := by simp; omega
  go_enter Try.func11, Try.ntmps11
  go_wp2
  go_ret2
  exact ⟨rfl, rfl⟩
set_option maxHeartbeats 400000 in
theorem wants2_far (N l : Int) (S : ByteArray) (w : World) (h : l < 4) :
    Calls Try.prog 11 #[.agg #[.int .i64 2, .int .i64 N, .string S], .int .i64 l] w fun e w' => e = wres 0 8 ∧ w' = w.alloc (deedc 2 N S) := by
  have h1 : decide (l < 4) = true := by simpa using h
  go_enter Try.func11, Try.ntmps11
  go_wp2
  go_ret2
  exact ⟨rfl, rfl⟩

end Go.Proofs.Ytndinfhgoebcoaa
