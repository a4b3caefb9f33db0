/-
  What package cursor's New, At, Left, End, Peek, Take, Next, Rest, Back and U32 do, over a cursor of its own block, and over none. Conditions: the place lies in the text, and the text is no longer than a length can be.
-/
import Derived.Test.YtmepnfkgfbbkiaaTrap
import Derived.RegionTactic
import Derived.BigRegion
import Derived.Deep.QuietTactic
import Derived.BigQuiet
import Derived.Outline
import Derived.Deep.RegionHeld3
import Derived.StillTailTactics
import Derived.Lib.Hide
import Derived.IntWalk
namespace Go.Proofs.Ytmepnfkgfbbkiaa
open Go.RowKit

/-- A cursor: its text, and how many bytes are gone by. -/
abbrev Cur (w : World) (cb : Nat) (s : ByteArray) (k : Nat) : Prop := Blk w cb 79 #[.string s, .int .i64 k]
abbrev cptr (cb : Nat) : Value := .pointer (some ⟨cb, 0, none⟩)

theorem Cur.c0 {w : World} {cb k : Nat} {s : ByteArray} (h : Cur w cb s k) : w.cell? ⟨cb, 0, none⟩ = some (.string s) := h.cell 0
theorem Cur.c1 {w : World} {cb k : Nat} {s : ByteArray} (h : Cur w cb s k) : w.cell? ⟨cb, 1, none⟩ = some (.int .i64 k) := h.cell 1
theorem Cur.set {w : World} {cb k : Nat} {s : ByteArray} (h : Cur w cb s k) (j : Nat) : Cur (w.setCell ⟨cb, 1, none⟩ (.int .i64 j)) cb s j := h.set_ 1 _

theorem eq_ptr_nil (p : Addr) (w : World) : (binOp .eql 70 (.pointer (some p)) (.pointer none)).run Try.prog w = .ok (.bool false) w := by kernel_rfl
theorem eq_nilptr (w : World) : (binOp .eql 70 (.pointer none) (.pointer none)).run Try.prog w = .ok (.bool true) w := by kernel_rfl
theorem neq_ptr_nil (p : Addr) (w : World) : (binOp .neq 70 (.pointer (some p)) (.pointer none)).run Try.prog w = .ok (.bool true) w := by kernel_rfl
theorem neq_nilptr (w : World) : (binOp .neq 70 (.pointer none) (.pointer none)).run Try.prog w = .ok (.bool false) w := by kernel_rfl

set_option maxHeartbeats 400000 in
theorem new_any (s : ByteArray) (w : World) :
    Calls Try.prog 45 #[.string s] w fun e w' => e = .returned (cptr w.heap.size) ∧ w' = w.alloc (.cells #[.string s, .int .i64 0] 79) := by
  go_enter Try.func45, Try.ntmps45
  go_wp2
  go_ret
  exact ⟨rfl, rfl⟩

set_option maxHeartbeats 400000 in
theorem at_any (cb k : Nat) (s : ByteArray) (w : World) (h : Cur w cb s k) :
    Calls Try.prog 83 #[cptr cb] w fun e w' => e = .returned (.int .i64 k) ∧ w = w' := by
  have c1 := h.c1
  clear h
  go_enter Try.func83, Try.ntmps83
  go_wp2
  go_ret
  exact ⟨rfl, rfl⟩

set_option maxHeartbeats 400000 in
theorem at_nil (w : World) :
    Calls Try.prog 83 #[.pointer none] w fun e w' => e = .returned (.int .i64 0) ∧ w = w' := by
  go_enter Try.func83, Try.ntmps83
  go_wp2
  go_ret
  exact ⟨rfl, rfl⟩

set_option maxHeartbeats 400000 in
theorem left_any (cb k : Nat) (s : ByteArray) (w : World) (h : Cur w cb s k) (hk : k ≤ s.size) (hs : s.size ≤ 9223372036854775807) :
    Calls Try.prog 78 #[cptr cb] w fun e w' => e = .returned (.int .i64 ((s.size : Int) - (k : Int))) ∧ ∃ n, w' = w.drewN n := by
  have c0 := h.c0
  have c1 := h.c1
  clear h
  go_enter Try.func78, Try.ntmps78
  go_wp2
  go_quiet (fail)
  go_wp2
  go_ret
  exact ⟨rfl, _, rfl⟩

set_option maxHeartbeats 400000 in
theorem left_nil (w : World) :
    Calls Try.prog 78 #[.pointer none] w fun e w' => e = .returned (.int .i64 0) ∧ w = w' := by
  go_enter Try.func78, Try.ntmps78
  go_wp2
  go_ret
  exact ⟨rfl, rfl⟩

set_option maxHeartbeats 400000 in
theorem end_any (cb k : Nat) (s : ByteArray) (w : World) (h : Cur w cb s k) (hk : k ≤ s.size) (hs : s.size ≤ 9223372036854775807) :
    Calls Try.prog 64 #[cptr cb] w fun e w' => e = .returned (.bool (decide (k = s.size))) ∧ ∃ n, w' = w.drewN n := by
  by_cases hd : k = s.size
  · have hd' : decide (k = s.size) = true := by simp [hd]
    have he : (((s.size : Int) - (k : Int)) == 0) = true := by simp; omega
    rw [hd']
    clear hd hd'
    go_enter Try.func64, Try.ntmps64
    go_wp2_with (go_at_call 78; refine (left_any cb k s _ h hk hs).mono ?_; rintro e w1 ⟨rfl, n, rfl⟩)
    go_ret
    exact ⟨rfl, _, rfl⟩
  · have hd' : decide (k = s.size) = false := by simp [hd]
    have he : (((s.size : Int) - (k : Int)) == 0) = false := by simp; omega
    rw [hd']
    clear hd hd'
    go_enter Try.func64, Try.ntmps64
    go_wp2_with (go_at_call 78; refine (left_any cb k s _ h hk hs).mono ?_; rintro e w1 ⟨rfl, n, rfl⟩)
    go_ret
    exact ⟨rfl, _, rfl⟩

set_option maxHeartbeats 400000 in
theorem end_nil (w : World) :
    Calls Try.prog 64 #[.pointer none] w fun e w' => e = .returned (.bool true) ∧ w = w' := by
  go_enter Try.func64, Try.ntmps64
  go_wp2_with (go_at_call 78; refine (left_nil _).mono ?_; rintro e w1 ⟨rfl, rfl⟩)
  go_ret
  exact ⟨rfl, rfl⟩

set_option maxHeartbeats 400000 in
theorem passTo_any (cb k j : Nat) (s : ByteArray) (w : World) (h : Cur w cb s k) (hk : k ≤ j) (hj : j ≤ s.size) (_hs : s.size ≤ 9223372036854775807) :
    Calls Try.prog 62 #[cptr cb, .int .i64 j] w fun e w' => e = .returned (.string (s.extract k j)) ∧ w' = w.setCell ⟨cb, 1, none⟩ (.int .i64 j) := by
  have c0 := h.c0
  have c1 := h.c1
  have z1 := h.frozen 1
  clear h
  go_enter Try.func62, Try.ntmps62
  go_wp2
  go_ret
  exact ⟨rfl, rfl⟩

/-- Some draws further. -/
def Drawn (w w' : World) : Prop := ∃ m, w' = w.drewN m
theorem Drawn.refl (w : World) : Drawn w w := ⟨0, rfl⟩
theorem Drawn.one (w : World) : Drawn w w.drew := ⟨1, rfl⟩
theorem Drawn.more {w w' : World} (h : Drawn w w') (n : Nat) : Drawn w (w'.drewN n) := by
  obtain ⟨m, rfl⟩ := h; exact ⟨m + n, by rw [World.drewN_drewN]⟩
theorem Drawn.below {w w' : World} (h : Drawn w w') : Below w.heap.size w w' := by
  obtain ⟨m, rfl⟩ := h; exact Below.drewN' (Below.refl _ _) m

set_option maxHeartbeats 400000 in
theorem take_nil (n : Int) (w : World) :
    Calls Try.prog 87 #[.pointer none, .int .i64 n] w fun e w' => e = pnc 0 8 ∧ w = w' := by
  go_enter Try.func87, Try.ntmps87
  go_wp2_with (go_at_call 84; refine (check_not _ _ _).mono ?_; rintro e w1 ⟨rfl, rfl⟩)
  exact ⟨rfl, rfl, rfl⟩

set_option maxHeartbeats 400000 in
theorem take_neg (cb k : Nat) (s : ByteArray) (n : Int) (w : World) (h : Cur w cb s k) (h0 : n < 0) :
    Calls Try.prog 87 #[cptr cb, .int .i64 n] w fun e w' => e = pnc k 9 ∧ w = w' := by
  have c1 := h.c1
  have hd0 : decide (0 ≤ n) = false := by simp; omega
  go_enter Try.func87, Try.ntmps87
  go_wp2_with (first | (go_at_call 84; (with_reducible refine (check_ok _ _ _).mono ?_); rintro e w1 ⟨rfl, rfl⟩) | (go_at_call 84; (with_reducible refine (check_not _ _ _).mono ?_); rintro e w1 ⟨rfl, rfl⟩))
  exact ⟨rfl, rfl, rfl⟩

set_option maxHeartbeats 400000 in
theorem take_far (cb k : Nat) (s : ByteArray) (n : Int) (w : World) (h : Cur w cb s k) (hk : k ≤ s.size) (hs : s.size ≤ 9223372036854775807) (h0 : 0 ≤ n) (h1 : (s.size : Int) - k < n) :
    Calls Try.prog 87 #[cptr cb, .int .i64 n] w fun e w' => e = pnc k 8 ∧ Drawn w w' := by
  have c1 := h.c1
  have hd : decide (n ≤ (s.size : Int) - (k : Int)) = false := by simp; omega
  have hd0 : decide (0 ≤ n) = true := by simpa using h0
  go_enter Try.func87, Try.ntmps87
  go_wp2_with (go_at_call 84; refine (check_ok _ _ _).mono ?_; rintro e w1 ⟨rfl, rfl⟩)
  refine wp_region_held_drew (S := fun w' => Cur w' cb s k ∧ Drawn w w') (by kernel_rfl) ⟨h, Drawn.one w⟩ (fun hHeld => ?_)
  refine wpAnyH_take (i := 0) (oi := ⟨some 15, _, _, _, _, _⟩) (v := ?_) rfl (by kernel_rfl) (by kernel_rfl) (by kernel_rfl) (fun _ _ _ h => h) (Or.inl ⟨by rfl, ?_⟩) hHeld ?_
  rotate_left
  focus (intro wq hSw; go_simp; try with_reducible rfl; done)
  simp only [Act.put, List.setIfInBounds_toArray, List.set_cons_zero, List.set_cons_succ]
  refine wpAnyH_take (i := 1) (oi := ⟨some 16, _, _, _, _, _⟩) (v := ?_) rfl (by kernel_rfl) (by kernel_rfl) (by kernel_rfl) (fun _ _ _ h => h) (Or.inl ⟨by rfl, ?_⟩) hHeld ?_
  rotate_left
  focus (intro wq hSw; go_simp; try with_reducible rfl; done)
  simp only [Act.put, List.setIfInBounds_toArray, List.set_cons_zero, List.set_cons_succ]
  refine wpAnyH_take (i := 4) (oi := ⟨some 19, _, _, _, _, _⟩) (v := ?_) rfl (by kernel_rfl) (by kernel_rfl) (by kernel_rfl) (fun _ _ _ h => h) (Or.inl ⟨by rfl, ?_⟩) hHeld ?_
  rotate_left
  focus (intro wq hSw; go_simp; try with_reducible rfl; done)
  simp only [Act.put, List.setIfInBounds_toArray, List.set_cons_zero, List.set_cons_succ]
  refine wpAnyH_take (i := 5) (oi := ⟨some 20, _, _, _, _, _⟩) (v := ?_) rfl (by kernel_rfl) (by kernel_rfl) (by kernel_rfl) (fun _ _ _ h => h) (Or.inl ⟨by rfl, ?_⟩) hHeld ?_
  rotate_left
  focus (intro wq hSw; go_simp; try with_reducible rfl; done)
  simp only [Act.put, List.setIfInBounds_toArray, List.set_cons_zero, List.set_cons_succ]
  refine wpAnyH_take (i := 6) (oi := ⟨some 21, _, _, _, _, _⟩) (v := ?_) rfl (by kernel_rfl) (by kernel_rfl) (by kernel_rfl) (fun _ _ _ h => h) (Or.inl ⟨by rfl, ?_⟩) hHeld ?_
  rotate_left
  focus (intro wq hSw; go_simp; try with_reducible rfl; done)
  simp only [Act.put, List.setIfInBounds_toArray, List.set_cons_zero, List.set_cons_succ]
  refine wpAnyH_take (i := 7) (oi := ⟨some 22, _, _, _, _, _⟩) (v := ?_) rfl (by kernel_rfl) (by kernel_rfl) (by kernel_rfl) (fun _ _ _ h => h) (Or.inl ⟨by rfl, ?_⟩) hHeld ?_
  rotate_left
  focus (intro wq hSw; have cq := hSw.1.c1; go_simp; try with_reducible rfl; done)
  simp only [Act.put, List.setIfInBounds_toArray, List.set_cons_zero, List.set_cons_succ]
  refine wpAnyH_ready (rs := [2]) (by kernel_rfl) (by simp) ?_
  refine AllReadyH.cons rfl (fun K hK => ?_) AllReadyH.nil
  go_simp
  refine (left_any cb k s _ hHeld.1 hk hs).mono ?_
  rintro e w4 ⟨rfl, m, rfl⟩
  refine hK.out _ _ ⟨hHeld.1.drewN m, hHeld.2.more m⟩ (fun hHeld => ?_)
  clear hK K
  refine wpAnyH_take (i := 3) (oi := ⟨some 18, _, _, _, _, _⟩) (v := ?_) rfl (by kernel_rfl) (by kernel_rfl) (by kernel_rfl) (fun _ _ _ h => h) (Or.inl ⟨by rfl, ?_⟩) hHeld ?_
  rotate_left
  focus (intro wq hSw; go_simp; try with_reducible rfl; done)
  simp only [Act.put, List.setIfInBounds_toArray, List.set_cons_zero, List.set_cons_succ]
  refine wpAnyH_ready (rs := [8]) (by kernel_rfl) (by simp) ?_
  refine AllReadyH.cons rfl (fun K hK => ?_) AllReadyH.nil
  go_simp
  refine (check_not _ _ _).mono ?_
  rintro e w4 ⟨rfl, rfl⟩
  exact ⟨rfl, rfl, by simpa only [World.drewN_drew] using hHeld.2⟩

set_option maxHeartbeats 400000 in
theorem take_ok (cb k n : Nat) (s : ByteArray) (w : World) (h : Cur w cb s k) (hk : k + n ≤ s.size) (hs : s.size ≤ 9223372036854775807) :
    Calls Try.prog 87 #[cptr cb, .int .i64 n] w fun e w' => e = .returned (.string (s.extract k (k + n))) ∧ ∃ m, w' = (w.drewN m).setCell ⟨cb, 1, none⟩ (.int .i64 (k + n : Nat)) := by
  have c1 := h.c1
  have hd : decide ((n : Int) ≤ (s.size : Int) - (k : Int)) = true := by simp; omega
  have hd0 : decide (0 ≤ (n : Int)) = true := by simp
  have hp : ∀ w2 : World, Cur w2 cb s k → Calls Try.prog 62 #[cptr cb, .int .i64 ((k : Int) + (n : Int))] w2 fun e w' => e = .returned (.string (s.extract k (k + n))) ∧ w' = w2.setCell ⟨cb, 1, none⟩ (.int .i64 (k + n : Nat)) :=
    fun w2 h2 => by have := passTo_any cb k (k + n) s w2 h2 (by omega) (by omega) hs; simpa using this
  have HP := Lib.hid hp
  clear hp
  go_enter Try.func87, Try.ntmps87
  go_wp2_with (go_at_call 84; refine (check_ok _ _ _).mono ?_; rintro e w1 ⟨rfl, rfl⟩)
  go_quiet ((first | (go_at_call 78; exact Calls.quiet_of (left_any cb k s _ (by exact h) (by omega) hs)) | (go_at_call 84; exact Calls.quiet_of_same ((check_ok _ _ _).mono fun _ _ h => ⟨h.1, h.2.symm⟩))))
  go_wp2_with (go_at_call 62; refine (HP.out _ (by exact h)).mono ?_; rintro e w1 ⟨rfl, rfl⟩)
  go_ret
  exact ⟨rfl, _, rfl⟩

set_option maxHeartbeats 400000 in
theorem back_nil (n : Int) (w : World) :
    Calls Try.prog 86 #[.pointer none, .int .i64 n] w fun e w' => e = pnc 0 9 ∧ w = w' := by
  go_enter Try.func86, Try.ntmps86
  go_wp2_with (go_at_call 84; refine (check_not _ _ _).mono ?_; rintro e w1 ⟨rfl, rfl⟩)
  exact ⟨rfl, rfl, rfl⟩

set_option maxHeartbeats 400000 in
theorem back_ok (cb k j : Nat) (s : ByteArray) (w : World) (h : Cur w cb s k) (hj : j ≤ k) :
    Calls Try.prog 86 #[cptr cb, .int .i64 j] w fun e w' => e = .returned (.tuple #[]) ∧ ∃ m, w' = (w.drewN m).setCell ⟨cb, 1, none⟩ (.int .i64 j) := by
  have c1 := h.c1
  have z1 := h.frozen 1
  have hd0 : decide (0 ≤ (j : Int)) = true := by simp
  have hd1 : decide ((j : Int) ≤ (k : Int)) = true := by simp; omega
  have hd2 : decide (j ≤ k) = true := by simp; omega
  go_enter Try.func86, Try.ntmps86
  go_wp2_with (go_at_call 84; refine (check_ok _ _ _).mono ?_; rintro e w1 ⟨rfl, rfl⟩)
  go_quiet ((go_at_call 84; exact Calls.quiet_of_same ((check_ok _ _ _).mono fun _ _ h => ⟨h.1, h.2.symm⟩)))
  go_wp2
  go_end0
  exact ⟨rfl, _, rfl⟩

set_option maxRecDepth 100000 in
set_option maxHeartbeats 400000 in
theorem back_neg (cb k : Nat) (n : Int) (s : ByteArray) (w : World) (h : Cur w cb s k) (h0 : n < 0) :
    Calls Try.prog 86 #[cptr cb, .int .i64 n] w fun e w' => e = pnc k 9 ∧ Drawn w w' := by
  have c1 := h.c1
  have hd0 : decide (0 ≤ n) = false := by simp; omega
  go_enter Try.func86, Try.ntmps86
  go_wp2_with (go_at_call 84; refine (check_ok _ _ _).mono ?_; rintro e w1 ⟨rfl, rfl⟩)
  refine wp_region_held_drew (S := fun w' => Cur w' cb s k ∧ Drawn w w') (by kernel_rfl) ⟨h, Drawn.one w⟩ (fun hHeld => ?_)
  refine wpAnyH_take (i := 0) (oi := ⟨some 7, _, _, _, _, _⟩) (v := ?_) rfl (by kernel_rfl) (by kernel_rfl) (by kernel_rfl) (fun _ _ _ h => h) (Or.inl ⟨by rfl, ?_⟩) hHeld ?_
  rotate_left
  focus (intro wq hSw; go_simp; try with_reducible rfl; done)
  simp only [Act.put, List.setIfInBounds_toArray, List.set_cons_zero, List.set_cons_succ]
  refine wpAnyH_take (i := 1) (oi := ⟨some 8, _, _, _, _, _⟩) (v := ?_) rfl (by kernel_rfl) (by kernel_rfl) (by kernel_rfl) (fun _ _ _ h => h) (Or.inl ⟨by rfl, ?_⟩) hHeld ?_
  rotate_left
  focus (intro wq hSw; go_simp; try with_reducible rfl; done)
  simp only [Act.put, List.setIfInBounds_toArray, List.set_cons_zero, List.set_cons_succ]
  refine wpAnyH_take (i := 2) (oi := ⟨some 9, _, _, _, _, _⟩) (v := ?_) rfl (by kernel_rfl) (by kernel_rfl) (by kernel_rfl) (fun _ _ _ h => h) (Or.inl ⟨by rfl, ?_⟩) hHeld ?_
  rotate_left
  focus (intro wq hSw; go_simp; try with_reducible rfl; done)
  simp only [Act.put, List.setIfInBounds_toArray, List.set_cons_zero, List.set_cons_succ]
  refine wpAnyH_take (i := 3) (oi := ⟨some 10, _, _, _, _, _⟩) (v := undef) rfl (by kernel_rfl) (by kernel_rfl) (by kernel_rfl) (fun _ _ _ h => h) (Or.inr ⟨by rfl, rfl⟩) hHeld ?_
  simp only [Act.put, List.setIfInBounds_toArray, List.set_cons_zero, List.set_cons_succ]
  refine wpAnyH_take (i := 4) (oi := ⟨some 11, _, _, _, _, _⟩) (v := undef) rfl (by kernel_rfl) (by kernel_rfl) (by kernel_rfl) (fun _ _ _ h => h) (Or.inr ⟨by rfl, rfl⟩) hHeld ?_
  simp only [Act.put, List.setIfInBounds_toArray, List.set_cons_zero, List.set_cons_succ]
  refine wpAnyH_take (i := 5) (oi := ⟨some 12, _, _, _, _, _⟩) (v := undef) rfl (by kernel_rfl) (by kernel_rfl) (by kernel_rfl) (fun _ _ _ h => h) (Or.inr ⟨by rfl, rfl⟩) hHeld ?_
  simp only [Act.put, List.setIfInBounds_toArray, List.set_cons_zero, List.set_cons_succ]
  refine wpAnyH_take (i := 6) (oi := ⟨some 13, _, _, _, _, _⟩) (v := undef) rfl (by kernel_rfl) (by kernel_rfl) (by kernel_rfl) (fun _ _ _ h => h) (Or.inr ⟨by rfl, rfl⟩) hHeld ?_
  simp only [Act.put, List.setIfInBounds_toArray, List.set_cons_zero, List.set_cons_succ]
  refine wpAnyH_take (i := 7) (oi := ⟨some 14, _, _, _, _, _⟩) (v := undef) rfl (by kernel_rfl) (by kernel_rfl) (by kernel_rfl) (fun _ _ _ h => h) (Or.inr ⟨by rfl, rfl⟩) hHeld ?_
  simp only [Act.put, List.setIfInBounds_toArray, List.set_cons_zero, List.set_cons_succ]
  refine wpAnyH_take (i := 8) (oi := ⟨some 15, _, _, _, _, _⟩) (v := undef) rfl (by kernel_rfl) (by kernel_rfl) (by kernel_rfl) (fun _ _ _ h => h) (Or.inr ⟨by rfl, rfl⟩) hHeld ?_
  simp only [Act.put, List.setIfInBounds_toArray, List.set_cons_zero, List.set_cons_succ]
  refine wpAnyH_take (i := 9) (oi := ⟨some 16, _, _, _, _, _⟩) (v := ?_) rfl (by kernel_rfl) (by kernel_rfl) (by kernel_rfl) (fun _ _ _ h => h) (Or.inl ⟨by rfl, ?_⟩) hHeld ?_
  rotate_left
  focus (intro wq hSw; go_simp; try with_reducible rfl; done)
  simp only [Act.put, List.setIfInBounds_toArray, List.set_cons_zero, List.set_cons_succ]
  refine wpAnyH_take (i := 10) (oi := ⟨some 17, _, _, _, _, _⟩) (v := ?_) rfl (by kernel_rfl) (by kernel_rfl) (by kernel_rfl) (fun _ _ _ h => h) (Or.inl ⟨by rfl, ?_⟩) hHeld ?_
  rotate_left
  focus (intro wq hSw; go_simp; try with_reducible rfl; done)
  simp only [Act.put, List.setIfInBounds_toArray, List.set_cons_zero, List.set_cons_succ]
  refine wpAnyH_take (i := 11) (oi := ⟨some 18, _, _, _, _, _⟩) (v := ?_) rfl (by kernel_rfl) (by kernel_rfl) (by kernel_rfl) (fun _ _ _ h => h) (Or.inl ⟨by rfl, ?_⟩) hHeld ?_
  rotate_left
  focus (intro wq hSw; go_simp; try with_reducible rfl; done)
  simp only [Act.put, List.setIfInBounds_toArray, List.set_cons_zero, List.set_cons_succ]
  refine wpAnyH_take (i := 12) (oi := ⟨some 19, _, _, _, _, _⟩) (v := ?_) rfl (by kernel_rfl) (by kernel_rfl) (by kernel_rfl) (fun _ _ _ h => h) (Or.inl ⟨by rfl, ?_⟩) hHeld ?_
  rotate_left
  focus (intro wq hSw; go_simp; try with_reducible rfl; done)
  simp only [Act.put, List.setIfInBounds_toArray, List.set_cons_zero, List.set_cons_succ]
  refine wpAnyH_take (i := 13) (oi := ⟨some 20, _, _, _, _, _⟩) (v := ?_) rfl (by kernel_rfl) (by kernel_rfl) (by kernel_rfl) (fun _ _ _ h => h) (Or.inl ⟨by rfl, ?_⟩) hHeld ?_
  rotate_left
  focus (intro wq hSw; have cq := hSw.1.c1; go_simp; try with_reducible rfl; done)
  simp only [Act.put, List.setIfInBounds_toArray, List.set_cons_zero, List.set_cons_succ]
  refine wpAnyH_ready (rs := [14]) (by kernel_rfl) (by simp) ?_
  refine AllReadyH.cons rfl (fun K hK => ?_) AllReadyH.nil
  go_simp
  refine (check_not _ _ _).mono ?_
  rintro e w4 ⟨rfl, rfl⟩
  exact ⟨rfl, rfl, hHeld.2⟩

set_option maxRecDepth 100000 in
set_option maxHeartbeats 400000 in
theorem back_far (cb k : Nat) (n : Int) (s : ByteArray) (w : World) (h : Cur w cb s k) (h0 : 0 ≤ n) (h1 : (k : Int) < n) :
    Calls Try.prog 86 #[cptr cb, .int .i64 n] w fun e w' => e = pnc k 9 ∧ Drawn w w' := by
  have c1 := h.c1
  have hd0 : decide (0 ≤ n) = true := by simpa using h0
  have hd1 : decide (n ≤ (k : Int)) = false := by simp; omega
  go_enter Try.func86, Try.ntmps86
  go_wp2_with (go_at_call 84; refine (check_ok _ _ _).mono ?_; rintro e w1 ⟨rfl, rfl⟩)
  go_still_tail 14, (by kernel_rfl)
  change wpList _ _ _ _ _ w.drew
  have hD := Drawn.one w
  generalize w.drew = w2 at *
  go_wp2_with (go_at_call 84; refine (check_not _ _ _).mono ?_; rintro e w1 ⟨rfl, rfl⟩)
  exact ⟨rfl, rfl, hD⟩

set_option maxHeartbeats 400000 in
theorem next_nil (w : World) :
    Calls Try.prog 92 #[.pointer none] w fun e w' => e = pnc 0 8 ∧ w = w' := by
  go_enter Try.func92, Try.ntmps92
  go_wp2_with (go_at_call 87; refine (take_nil _ _).mono ?_; rintro e w1 ⟨rfl, rfl⟩)
  exact ⟨rfl, rfl, rfl⟩

set_option maxHeartbeats 400000 in
theorem next_far (cb k : Nat) (s : ByteArray) (w : World) (h : Cur w cb s k) (hk : k = s.size) (hs : s.size ≤ 9223372036854775807) :
    Calls Try.prog 92 #[cptr cb] w fun e w' => e = pnc k 8 ∧ Drawn w w' := by
  have HK := Lib.hid hk
  clear hk
  go_enter Try.func92, Try.ntmps92
  go_wp2_with (go_at_call 87; refine (take_far cb k s 1 _ h (by have := HK.out; omega) hs (by omega) (by have := HK.out; omega)).mono ?_; rintro e w1 ⟨rfl, hD⟩)
  exact ⟨rfl, rfl, hD⟩

set_option maxHeartbeats 400000 in
theorem next_of (cb j : Nat) (x : ByteArray) (w : World) (hlt : 0 < x.size)
    (h : Hid (Calls Try.prog 87 #[cptr cb, .int .i64 1] w fun e w' => e = .returned (.string x) ∧ ∃ m, w' = (w.drewN m).setCell ⟨cb, 1, none⟩ (.int .i64 j))) :
    Calls Try.prog 92 #[cptr cb] w fun e w' => e = .returned (.int .u8 (x[0].toNat : Int)) ∧ ∃ m, w' = (w.drewN m).setCell ⟨cb, 1, none⟩ (.int .i64 j) := by
  go_enter Try.func92, Try.ntmps92
  go_wp2_with (go_at_call 87; refine h.out.mono ?_; rintro e w1 ⟨rfl, m, rfl⟩)
  go_ret
  exact ⟨rfl, _, rfl⟩

theorem next_ok (cb k : Nat) (s : ByteArray) (w : World) (h : Cur w cb s k) (hk : k < s.size) (hs : s.size ≤ 9223372036854775807) :
    Calls Try.prog 92 #[cptr cb] w fun e w' => e = .returned (.int .u8 (s[k].toNat : Int)) ∧ ∃ m, w' = (w.drewN m).setCell ⟨cb, 1, none⟩ (.int .i64 (k + 1 : Nat)) := by
  have hsz : 0 < (s.extract k (k + 1)).size := by simp; omega
  have hx : (s.extract k (k + 1))[0] = s[k] := by simp [ByteArray.getElem_extract]
  rw [← hx]
  exact next_of cb (k + 1) _ w hsz (take_ok cb k 1 s w h (by omega) hs)

set_option maxHeartbeats 400000 in
theorem peek_neg (p : Option Addr) (n : Int) (w : World) (h0 : n < 0) :
    Calls Try.prog 72 #[.pointer p, .int .i64 n] w fun e w' => e = .returned (.tuple #[.int .u8 0, .bool false]) ∧ w = w' := by
  have hd0 : decide (n < 0) = true := by simpa using h0
  go_enter Try.func72, Try.ntmps72
  go_wp2
  go_ret2
  exact ⟨rfl, rfl⟩

set_option maxHeartbeats 400000 in
theorem peek_nil (n : Int) (w : World) (h0 : 0 ≤ n) :
    Calls Try.prog 72 #[.pointer none, .int .i64 n] w fun e w' => e = .returned (.tuple #[.int .u8 0, .bool false]) ∧ w = w' := by
  have hd0 : decide (n < 0) = false := by simp; omega
  go_enter Try.func72, Try.ntmps72
  go_wp2_with (go_at_call 78; refine (left_nil _).mono ?_; rintro e w1 ⟨rfl, rfl⟩)
  go_ret2
  exact ⟨rfl, rfl⟩

set_option maxHeartbeats 400000 in
theorem peek_far (cb k : Nat) (s : ByteArray) (n : Int) (w : World) (h : Cur w cb s k) (hk : k ≤ s.size) (hs : s.size ≤ 9223372036854775807) (h0 : 0 ≤ n) (h1 : (s.size : Int) - k ≤ n) :
    Calls Try.prog 72 #[cptr cb, .int .i64 n] w fun e w' => e = .returned (.tuple #[.int .u8 0, .bool false]) ∧ ∃ m, w' = w.drewN m := by
  have hd0 : decide (n < 0) = false := by simp; omega
  have hd1 : decide ((s.size : Int) - k ≤ n) = true := by simpa using h1
  go_enter Try.func72, Try.ntmps72
  go_wp2_with (go_at_call 78; refine (left_any cb k s _ h hk hs).mono ?_; rintro e w1 ⟨rfl, m, rfl⟩)
  go_ret2
  exact ⟨rfl, _, rfl⟩

set_option maxHeartbeats 400000 in
theorem peek_ok (cb k j : Nat) (s : ByteArray) (w : World) (h : Cur w cb s k) (hs : s.size ≤ 9223372036854775807) (hj : k + j < s.size) :
    Calls Try.prog 72 #[cptr cb, .int .i64 j] w fun e w' => e = .returned (.tuple #[.int .u8 (s[k + j].toNat : Int), .bool true]) ∧ ∃ m, w' = w.drewN m := by
  have c0 := h.c0
  have c1 := h.c1
  have hd0 : decide ((j : Int) < 0) = false := by simp
  have hd1 : decide ((s.size : Int) - k ≤ j) = false := by simp; omega
  have e1 : IntKind.i64.wrap ((k : Int) + (j : Int)) = (k : Int) + (j : Int) := IntWalk.i64_in _ (by omega)
  have e2 : 0 ≤ (k : Int) + (j : Int) := by omega
  have e3 : ((k : Int) + (j : Int)).toNat = k + j := by omega
  have e4 : (k : Int) + (j : Int) < (s.size : Int) := by omega
  go_enter Try.func72, Try.ntmps72
  go_wp2_with (go_at_call 78; refine (left_any cb k s _ h (by omega) hs).mono ?_; rintro e w1 ⟨rfl, m, rfl⟩)
  go_quiet (fail)
  go_wp2
  go_ret2
  exact ⟨rfl, _, World.drewN_drewN _ _ _⟩

end Go.Proofs.Ytmepnfkgfbbkiaa
