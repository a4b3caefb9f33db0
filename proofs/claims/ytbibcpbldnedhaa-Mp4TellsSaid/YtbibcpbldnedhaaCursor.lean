/-
  What package cursor's New, At, Left, End, Peek, Take, Next, Rest, Back and U32 do, over a cursor of its own block, and over none. Conditions: the place lies in the text, and the text is no longer than a length can be.
-/
import Derived.Test.YtbibcpbldnedhaaTrap
import Derived.RegionTactic
import Derived.BigRegion
import Derived.Deep.QuietTactic
import Derived.BigQuiet
import Derived.Outline
import Derived.Deep.RegionHeld3
import Derived.StillTailTactics
import Derived.Lib.Hide
import Derived.IntWalk
namespace Go.Proofs.Ytbibcpbldnedhaa
open Go.RowKit

/-- A cursor: its text, and how many bytes are gone by. -/
abbrev Cur (w : World) (cb : Nat) (s : ByteArray) (k : Nat) : Prop := Blk w cb 60 #[.string s, .int .i64 k]
abbrev cptr (cb : Nat) : Value := .pointer (some ⟨cb, 0, none⟩)

theorem Cur.c0 {w : World} {cb k : Nat} {s : ByteArray} (h : Cur w cb s k) : w.cell? ⟨cb, 0, none⟩ = some (.string s) := h.cell 0
theorem Cur.c1 {w : World} {cb k : Nat} {s : ByteArray} (h : Cur w cb s k) : w.cell? ⟨cb, 1, none⟩ = some (.int .i64 k) := h.cell 1
theorem Cur.set {w : World} {cb k : Nat} {s : ByteArray} (h : Cur w cb s k) (j : Nat) : Cur (w.setCell ⟨cb, 1, none⟩ (.int .i64 j)) cb s j := h.set_ 1 _

set_option maxHeartbeats 400000 in
theorem new_any (s : ByteArray) (w : World) :
    Calls Try.prog 26 #[.string s] w fun e w' => e = .returned (cptr w.heap.size) ∧ w' = w.alloc (.cells #[.string s, .int .i64 0] 60) := by
  go_enter Try.func26, Try.ntmps26
  go_wp2
  go_ret
  exact ⟨rfl, rfl⟩

set_option maxHeartbeats 400000 in
theorem at_any (cb k : Nat) (s : ByteArray) (w : World) (h : Cur w cb s k) :
    Calls Try.prog 37 #[cptr cb] w fun e w' => e = .returned (.int .i64 k) ∧ w = w' := by
  have c1 := h.c1
  clear h
  go_enter Try.func37, Try.ntmps37
  go_wp2
  go_ret
  exact ⟨rfl, rfl⟩

set_option maxHeartbeats 400000 in
theorem left_any (cb k : Nat) (s : ByteArray) (w : World) (h : Cur w cb s k) (hk : k ≤ s.size) (hs : s.size ≤ 9223372036854775807) :
    Calls Try.prog 41 #[cptr cb] w fun e w' => e = .returned (.int .i64 ((s.size : Int) - (k : Int))) ∧ ∃ n, w' = w.drewN n := by
  have c0 := h.c0
  have c1 := h.c1
  clear h
  go_enter Try.func41, Try.ntmps41
  go_wp2
  go_quiet (fail)
  go_wp2
  go_ret
  exact ⟨rfl, _, rfl⟩

set_option maxHeartbeats 400000 in
theorem passTo_any (cb k j : Nat) (s : ByteArray) (w : World) (h : Cur w cb s k) (hk : k ≤ j) (hj : j ≤ s.size) (_hs : s.size ≤ 9223372036854775807) :
    Calls Try.prog 42 #[cptr cb, .int .i64 j] w fun e w' => e = .returned (.string (s.extract k j)) ∧ w' = w.setCell ⟨cb, 1, none⟩ (.int .i64 j) := by
  have c0 := h.c0
  have c1 := h.c1
  have z1 := h.frozen 1
  clear h
  go_enter Try.func42, Try.ntmps42
  go_wp2
  go_ret
  exact ⟨rfl, rfl⟩

/-- Some draws further. -/
def Drawn (w w' : World) : Prop := ∃ m, w' = w.drewN m
theorem Drawn.refl (w : World) : Drawn w w := ⟨0, rfl⟩
theorem Drawn.one (w : World) : Drawn w w.drew := ⟨1, rfl⟩
theorem Drawn.more {w w' : World} (h : Drawn w w') (n : Nat) : Drawn w (w'.drewN n) := by
  obtain ⟨m, rfl⟩ := h; exact ⟨m + n, by rw [World.drewN_drewN]⟩
theorem Drawn.below {w w' : World} (h : Drawn w w') : Below w.heap.size w w' := by
  obtain ⟨m, rfl⟩ := h; exact Below.drewN' (Below.refl _ _) m

set_option maxHeartbeats 400000 in
theorem take_neg (cb k : Nat) (s : ByteArray) (n : Int) (w : World) (h : Cur w cb s k) (h0 : n < 0) :
    Calls Try.prog 35 #[cptr cb, .int .i64 n] w fun e w' => e = pnc k 9 ∧ w = w' := by
  have c1 := h.c1
  have hd0 : decide (0 ≤ n) = false := by simp; omega
  go_enter Try.func35, Try.ntmps35
  go_wp2_with (first | (go_at_call 36; (with_reducible refine (check_ok _ _ _).mono ?_); rintro e w1 ⟨rfl, rfl⟩) | (go_at_call 36; (with_reducible refine (check_not _ _ _).mono ?_); rintro e w1 ⟨rfl, rfl⟩))
  exact ⟨rfl, rfl, rfl⟩

set_option maxHeartbeats 400000 in
theorem take_far (cb k : Nat) (s : ByteArray) (n : Int) (w : World) (h : Cur w cb s k) (hk : k ≤ s.size) (hs : s.size ≤ 9223372036854775807) (h0 : 0 ≤ n) (h1 : (s.size : Int) - k < n) :
    Calls Try.prog 35 #[cptr cb, .int .i64 n] w fun e w' => e = pnc k 8 ∧ Drawn w w' := by
  have c1 := h.c1
  have hd : decide (n ≤ (s.size : Int) - (k : Int)) = false := by simp; omega
  have hd0 : decide (0 ≤ n) = true := by simpa using h0
  go_enter Try.func35, Try.ntmps35
  go_wp2_with (go_at_call 36; refine (check_ok _ _ _).mono ?_; rintro e w1 ⟨rfl, rfl⟩)
  refine wp_region_held_drew (S := fun w' => Cur w' cb s k ∧ Drawn w w') (by kernel_rfl) ⟨h, Drawn.one w⟩ (fun hHeld => ?_)
  refine wpAnyH_take (i := 0) (oi := ⟨some 15, _, _, _, _, _⟩) (v := ?_) rfl (by kernel_rfl) (by kernel_rfl) (by kernel_rfl) (fun _ _ _ h => h) (Or.inl ⟨by rfl, ?_⟩) hHeld ?_
  rotate_left
  focus (intro wq hSw; go_simp; try with_reducible rfl; done)
  simp only [Act.put, List.setIfInBounds_toArray, List.set_cons_zero, List.set_cons_succ]
  refine wpAnyH_take (i := 1) (oi := ⟨some 16, _, _, _, _, _⟩) (v := ?_) rfl (by kernel_rfl) (by kernel_rfl) (by kernel_rfl) (fun _ _ _ h => h) (Or.inl ⟨by rfl, ?_⟩) hHeld ?_
  rotate_left
  focus (intro wq hSw; go_simp; try with_reducible rfl; done)
  simp only [Act.put, List.setIfInBounds_toArray, List.set_cons_zero, List.set_cons_succ]
  refine wpAnyH_take (i := 4) (oi := ⟨some 19, _, _, _, _, _⟩) (v := ?_) rfl (by kernel_rfl) (by kernel_rfl) (by kernel_rfl) (fun _ _ _ h => h) (Or.inl ⟨by rfl, ?_⟩) hHeld ?_
  rotate_left
  focus (intro wq hSw; go_simp; try with_reducible rfl; done)
  simp only [Act.put, List.setIfInBounds_toArray, List.set_cons_zero, List.set_cons_succ]
  refine wpAnyH_take (i := 5) (oi := ⟨some 20, _, _, _, _, _⟩) (v := ?_) rfl (by kernel_rfl) (by kernel_rfl) (by kernel_rfl) (fun _ _ _ h => h) (Or.inl ⟨by rfl, ?_⟩) hHeld ?_
  rotate_left
  focus (intro wq hSw; go_simp; try with_reducible rfl; done)
  simp only [Act.put, List.setIfInBounds_toArray, List.set_cons_zero, List.set_cons_succ]
  refine wpAnyH_take (i := 6) (oi := ⟨some 21, _, _, _, _, _⟩) (v := ?_) rfl (by kernel_rfl) (by kernel_rfl) (by kernel_rfl) (fun _ _ _ h => h) (Or.inl ⟨by rfl, ?_⟩) hHeld ?_
  rotate_left
  focus (intro wq hSw; go_simp; try with_reducible rfl; done)
  simp only [Act.put, List.setIfInBounds_toArray, List.set_cons_zero, List.set_cons_succ]
  refine wpAnyH_take (i := 7) (oi := ⟨some 22, _, _, _, _, _⟩) (v := ?_) rfl (by kernel_rfl) (by kernel_rfl) (by kernel_rfl) (fun _ _ _ h => h) (Or.inl ⟨by rfl, ?_⟩) hHeld ?_
  rotate_left
  focus (intro wq hSw; have cq := hSw.1.c1; go_simp; try with_reducible rfl; done)
  simp only [Act.put, List.setIfInBounds_toArray, List.set_cons_zero, List.set_cons_succ]
  refine wpAnyH_ready (rs := [2]) (by kernel_rfl) (by simp) ?_
  refine AllReadyH.cons rfl (fun K hK => ?_) AllReadyH.nil
  go_simp
  refine (left_any cb k s _ hHeld.1 hk hs).mono ?_
  rintro e w4 ⟨rfl, m, rfl⟩
  refine hK.out _ _ ⟨hHeld.1.drewN m, hHeld.2.more m⟩ (fun hHeld => ?_)
  clear hK K
  refine wpAnyH_take (i := 3) (oi := ⟨some 18, _, _, _, _, _⟩) (v := ?_) rfl (by kernel_rfl) (by kernel_rfl) (by kernel_rfl) (fun _ _ _ h => h) (Or.inl ⟨by rfl, ?_⟩) hHeld ?_
  rotate_left
  focus (intro wq hSw; go_simp; try with_reducible rfl; done)
  simp only [Act.put, List.setIfInBounds_toArray, List.set_cons_zero, List.set_cons_succ]
  refine wpAnyH_ready (rs := [8]) (by kernel_rfl) (by simp) ?_
  refine AllReadyH.cons rfl (fun K hK => ?_) AllReadyH.nil
  go_simp
  refine (check_not _ _ _).mono ?_
  rintro e w4 ⟨rfl, rfl⟩
  exact ⟨rfl, rfl, by simpa only [World.drewN_drew] using hHeld.2⟩

set_option maxHeartbeats 400000 in
theorem take_ok (cb k n : Nat) (s : ByteArray) (w : World) (h : Cur w cb s k) (hk : k + n ≤ s.size) (hs : s.size ≤ 9223372036854775807) :
    Calls Try.prog 35 #[cptr cb, .int .i64 n] w fun e w' => e = .returned (.string (s.extract k (k + n))) ∧ ∃ m, w' = (w.drewN m).setCell ⟨cb, 1, none⟩ (.int .i64 (k + n : Nat)) := by
  have c1 := h.c1
  have hd : decide ((n : Int) ≤ (s.size : Int) - (k : Int)) = true := by simp; omega
  have hd0 : decide (0 ≤ (n : Int)) = true := by simp
  have hp : ∀ w2 : World, Cur w2 cb s k → Calls Try.prog 42 #[cptr cb, .int .i64 ((k : Int) + (n : Int))] w2 fun e w' => e = .returned (.string (s.extract k (k + n))) ∧ w' = w2.setCell ⟨cb, 1, none⟩ (.int .i64 (k + n : Nat)) :=
    fun w2 h2 => by have := passTo_any cb k (k + n) s w2 h2 (by omega) (by omega) hs; simpa using this
  have HP := Lib.hid hp
  clear hp
  go_enter Try.func35, Try.ntmps35
  go_wp2_with (go_at_call 36; refine (check_ok _ _ _).mono ?_; rintro e w1 ⟨rfl, rfl⟩)
  go_quiet ((first | (go_at_call 41; exact Calls.quiet_of (left_any cb k s _ (by exact h) (by omega) hs)) | (go_at_call 36; exact Calls.quiet_of_same ((check_ok _ _ _).mono fun _ _ h => ⟨h.1, h.2.symm⟩))))
  go_wp2_with (go_at_call 42; refine (HP.out _ (by exact h)).mono ?_; rintro e w1 ⟨rfl, rfl⟩)
  go_ret
  exact ⟨rfl, _, rfl⟩

end Go.Proofs.Ytbibcpbldnedhaa

