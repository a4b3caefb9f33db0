/-
  What package cursor's New, At, Left, End, Peek, Take, Next, Rest, Back and U32 do, over a cursor of its own block, and over none. Conditions: the place lies in the text, and the text is no longer than a length can be.
  What Lower, Prefix, HasPrefix and Has answer, and what Skip does to a cursor. Conditions: lengths as they can be.
  What Collect of layer 4 does to a cursor, and what it answers. Conditions: the place lies in the text, which takes at most 2^47 bytes.
-/
import Derived.Test.YtkdjjlfpaciohaaGreatDoorZ3
import Derived.RegionTactic
import Derived.BigRegion
import Derived.Deep.QuietTactic
import Derived.BigQuiet
import Derived.Outline
import Derived.Deep.RegionHeld3
import Derived.StillTailTactics
import Derived.Lib.Hide
import Derived.IntWalk
import Derived.Test.YtkdjjlfpaciohaaGreatDoorZ1
import Derived.Test.YtkdjjlfpaciohaaGreatDoorZ2
import Derived.LoopTactic
import Derived.Test.YtkdjjlfpaciohaaGreatDoorZ5
import Derived.Deep.RegionWith
import Derived.Test.YtkdjjlfpaciohaaGreatDoorRows
import Derived.WalkKit
import Derived.WalkSpells
import Derived.WalkLawsBesides
import Derived.Laws.Externs
import Derived.Lib.FrozenHead2
namespace Go.Proofs.YtkdjjlfpaciohaaGreatDoor
open Go.RowKit

/-- A cursor: its text, and how many bytes are gone by. -/
abbrev Cur (w : World) (cb : Nat) (s : ByteArray) (k : Nat) : Prop := Blk w cb 138 #[.string s, .int .i64 k]
abbrev cptr (cb : Nat) : Value := .pointer (some ⟨cb, 0, none⟩)

theorem Cur.c0 {w : World} {cb k : Nat} {s : ByteArray} (h : Cur w cb s k) : w.cell? ⟨cb, 0, none⟩ = some (.string s) := h.cell 0
theorem Cur.c1 {w : World} {cb k : Nat} {s : ByteArray} (h : Cur w cb s k) : w.cell? ⟨cb, 1, none⟩ = some (.int .i64 k) := h.cell 1
theorem Cur.set {w : World} {cb k : Nat} {s : ByteArray} (h : Cur w cb s k) (j : Nat) : Cur (w.setCell ⟨cb, 1, none⟩ (.int .i64 j)) cb s j := h.set_ 1 _

set_option maxHeartbeats 400000 in
theorem new_any (s : ByteArray) (w : World) :
    Calls Tryz.prog 154 #[.string s] w fun e w' => e = .returned (cptr w.heap.size) ∧ w' = w.alloc (.cells #[.string s, .int .i64 0] 138) := by
  go_enter Tryz.func154, Tryz.ntmps154
  go_wp2
  go_ret
  exact ⟨rfl, rfl⟩

set_option maxHeartbeats 400000 in
theorem left_any (cb k : Nat) (s : ByteArray) (w : World) (h : Cur w cb s k) (hk : k ≤ s.size) (hs : s.size ≤ 9223372036854775807) :
    Calls Tryz.prog 177 #[cptr cb] w fun e w' => e = .returned (.int .i64 ((s.size : Int) - (k : Int))) ∧ ∃ n, w' = w.drewN n := by
  have c0 := h.c0
  have c1 := h.c1
  clear h
  go_enter Tryz.func177, Tryz.ntmps177
  go_wp2
  go_quiet (fail)
  go_wp2
  go_ret
  exact ⟨rfl, _, rfl⟩

set_option maxHeartbeats 400000 in
theorem passTo_any (cb k j : Nat) (s : ByteArray) (w : World) (h : Cur w cb s k) (hk : k ≤ j) (hj : j ≤ s.size) (_hs : s.size ≤ 9223372036854775807) :
    Calls Tryz.prog 178 #[cptr cb, .int .i64 j] w fun e w' => e = .returned (.string (s.extract k j)) ∧ w' = w.setCell ⟨cb, 1, none⟩ (.int .i64 j) := by
  have c0 := h.c0
  have c1 := h.c1
  have z1 := h.frozen 1
  clear h
  go_enter Tryz.func178, Tryz.ntmps178
  go_wp2
  go_ret
  exact ⟨rfl, rfl⟩

/-- Some draws further. -/
def Drawn (w w' : World) : Prop := ∃ m, w' = w.drewN m
theorem Drawn.refl (w : World) : Drawn w w := ⟨0, rfl⟩
theorem Drawn.one (w : World) : Drawn w w.drew := ⟨1, rfl⟩
theorem Drawn.more {w w' : World} (h : Drawn w w') (n : Nat) : Drawn w (w'.drewN n) := by
  obtain ⟨m, rfl⟩ := h; exact ⟨m + n, by rw [World.drewN_drewN]⟩
theorem Drawn.below {w w' : World} (h : Drawn w w') : Below w.heap.size w w' := by
  obtain ⟨m, rfl⟩ := h; exact Below.drewN' (Below.refl _ _) m

set_option maxHeartbeats 400000 in
theorem take_far (cb k : Nat) (s : ByteArray) (n : Int) (w : World) (h : Cur w cb s k) (hk : k ≤ s.size) (hs : s.size ≤ 9223372036854775807) (h0 : 0 ≤ n) (h1 : (s.size : Int) - k < n) :
    Calls Tryz.prog 167 #[cptr cb, .int .i64 n] w fun e w' => e = pnc k 8 ∧ Drawn w w' := by
  have c1 := h.c1
  have hd : decide (n ≤ (s.size : Int) - (k : Int)) = false := by simp; omega
  have hd0 : decide (0 ≤ n) = true := by simpa using h0
  go_enter Tryz.func167, Tryz.ntmps167
  go_wp2_with (go_at_call 176; refine (check_ok _ _ _).mono ?_; rintro e w1 ⟨rfl, rfl⟩)
  refine wp_region_held_drew (S := fun w' => Cur w' cb s k ∧ Drawn w w') (by kernel_rfl) ⟨h, Drawn.one w⟩ (fun hHeld => ?_)
  refine wpAnyH_take (i := 0) (oi := ⟨some 15, _, _, _, _, _⟩) (v := ?_) rfl (by kernel_rfl) (by kernel_rfl) (by kernel_rfl) (fun _ _ _ h => h) (Or.inl ⟨by rfl, ?_⟩) hHeld ?_
  rotate_left
  focus (intro wq hSw; go_simp; try with_reducible rfl; done)
  simp only [Act.put, List.setIfInBounds_toArray, List.set_cons_zero, List.set_cons_succ]
  refine wpAnyH_take (i := 1) (oi := ⟨some 16, _, _, _, _, _⟩) (v := ?_) rfl (by kernel_rfl) (by kernel_rfl) (by kernel_rfl) (fun _ _ _ h => h) (Or.inl ⟨by rfl, ?_⟩) hHeld ?_
  rotate_left
  focus (intro wq hSw; go_simp; try with_reducible rfl; done)
  simp only [Act.put, List.setIfInBounds_toArray, List.set_cons_zero, List.set_cons_succ]
  refine wpAnyH_take (i := 4) (oi := ⟨some 19, _, _, _, _, _⟩) (v := ?_) rfl (by kernel_rfl) (by kernel_rfl) (by kernel_rfl) (fun _ _ _ h => h) (Or.inl ⟨by rfl, ?_⟩) hHeld ?_
  rotate_left
  focus (intro wq hSw; go_simp; try with_reducible rfl; done)
  simp only [Act.put, List.setIfInBounds_toArray, List.set_cons_zero, List.set_cons_succ]
  refine wpAnyH_take (i := 5) (oi := ⟨some 20, _, _, _, _, _⟩) (v := ?_) rfl (by kernel_rfl) (by kernel_rfl) (by kernel_rfl) (fun _ _ _ h => h) (Or.inl ⟨by rfl, ?_⟩) hHeld ?_
  rotate_left
  focus (intro wq hSw; go_simp; try with_reducible rfl; done)
  simp only [Act.put, List.setIfInBounds_toArray, List.set_cons_zero, List.set_cons_succ]
  refine wpAnyH_take (i := 6) (oi := ⟨some 21, _, _, _, _, _⟩) (v := ?_) rfl (by kernel_rfl) (by kernel_rfl) (by kernel_rfl) (fun _ _ _ h => h) (Or.inl ⟨by rfl, ?_⟩) hHeld ?_
  rotate_left
  focus (intro wq hSw; go_simp; try with_reducible rfl; done)
  simp only [Act.put, List.setIfInBounds_toArray, List.set_cons_zero, List.set_cons_succ]
  refine wpAnyH_take (i := 7) (oi := ⟨some 22, _, _, _, _, _⟩) (v := ?_) rfl (by kernel_rfl) (by kernel_rfl) (by kernel_rfl) (fun _ _ _ h => h) (Or.inl ⟨by rfl, ?_⟩) hHeld ?_
  rotate_left
  focus (intro wq hSw; have cq := hSw.1.c1; go_simp; try with_reducible rfl; done)
  simp only [Act.put, List.setIfInBounds_toArray, List.set_cons_zero, List.set_cons_succ]
  refine wpAnyH_ready (rs := [2]) (by kernel_rfl) (by simp) ?_
  refine AllReadyH.cons rfl (fun K hK => ?_) AllReadyH.nil
  go_simp
  refine (left_any cb k s _ hHeld.1 hk hs).mono ?_
  rintro e w4 ⟨rfl, m, rfl⟩
  refine hK.out _ _ ⟨hHeld.1.drewN m, hHeld.2.more m⟩ (fun hHeld => ?_)
  clear hK K
  refine wpAnyH_take (i := 3) (oi := ⟨some 18, _, _, _, _, _⟩) (v := ?_) rfl (by kernel_rfl) (by kernel_rfl) (by kernel_rfl) (fun _ _ _ h => h) (Or.inl ⟨by rfl, ?_⟩) hHeld ?_
  rotate_left
  focus (intro wq hSw; go_simp; try with_reducible rfl; done)
  simp only [Act.put, List.setIfInBounds_toArray, List.set_cons_zero, List.set_cons_succ]
  refine wpAnyH_ready (rs := [8]) (by kernel_rfl) (by simp) ?_
  refine AllReadyH.cons rfl (fun K hK => ?_) AllReadyH.nil
  go_simp
  refine (check_not _ _ _).mono ?_
  rintro e w4 ⟨rfl, rfl⟩
  exact ⟨rfl, rfl, by simpa only [World.drewN_drew] using hHeld.2⟩

set_option maxHeartbeats 400000 in
theorem take_ok (cb k n : Nat) (s : ByteArray) (w : World) (h : Cur w cb s k) (hk : k + n ≤ s.size) (hs : s.size ≤ 9223372036854775807) :
    Calls Tryz.prog 167 #[cptr cb, .int .i64 n] w fun e w' => e = .returned (.string (s.extract k (k + n))) ∧ ∃ m, w' = (w.drewN m).setCell ⟨cb, 1, none⟩ (.int .i64 (k + n : Nat)) := by
  have c1 := h.c1
  have hd : decide ((n : Int) ≤ (s.size : Int) - (k : Int)) = true := by simp; omega
  have hd0 : decide (0 ≤ (n : Int)) = true := by simp
  have hp : ∀ w2 : World, Cur w2 cb s k → Calls Tryz.prog 178 #[cptr cb, .int .i64 ((k : Int) + (n : Int))] w2 fun e w' => e = .returned (.string (s.extract k (k + n))) ∧ w' = w2.setCell ⟨cb, 1, none⟩ (.int .i64 (k + n : Nat)) :=
    fun w2 h2 => by have := passTo_any cb k (k + n) s w2 h2 (by omega) (by omega) hs; simpa using this
  have HP := Lib.hid hp
  clear hp
  go_enter Tryz.func167, Tryz.ntmps167
  go_wp2_with (go_at_call 176; refine (check_ok _ _ _).mono ?_; rintro e w1 ⟨rfl, rfl⟩)
  go_quiet ((first | (go_at_call 177; exact Calls.quiet_of (left_any cb k s _ (by exact h) (by omega) hs)) | (go_at_call 176; exact Calls.quiet_of_same ((check_ok _ _ _).mono fun _ _ h => ⟨h.1, h.2.symm⟩))))
  go_wp2_with (go_at_call 178; refine (HP.out _ (by exact h)).mono ?_; rintro e w1 ⟨rfl, rfl⟩)
  go_ret
  exact ⟨rfl, _, rfl⟩

end Go.Proofs.YtkdjjlfpaciohaaGreatDoor
namespace Go.Proofs.YtkdjjlfpaciohaaGreatDoor
open Go.RowKit

set_option maxHeartbeats 400000 in
theorem prefix_any (s p : ByteArray) (w : World) (_hs : s.size ≤ 9223372036854775807) (_hp : p.size ≤ 9223372036854775807) :
    Calls Tryz.prog 46 #[.string s, .string p] w fun e w' => e = .returned (.bool (prefB s p)) ∧ w = w' := by
  by_cases h1 : p.size ≤ s.size
  · have d1 : decide (p.size ≤ s.size) = true := by simpa using h1
    have e : prefB s p = ((s.extract 0 p.size).toList == p.toList) := by unfold prefB; rw [d1]; rfl
    rw [e]
    clear e
    go_enter Tryz.func46, Tryz.ntmps46
    go_wp2
    go_ret
    exact ⟨rfl, rfl⟩
  · have d1 : decide (p.size ≤ s.size) = false := by simpa using h1
    have e : prefB s p = false := by unfold prefB; rw [d1]; rfl
    rw [e]
    clear e
    go_enter Tryz.func46, Tryz.ntmps46
    go_wp2
    go_ret
    exact ⟨rfl, rfl⟩

set_option maxHeartbeats 400000 in
theorem hasPrefix0_any (s p : ByteArray) (w : World) (_hs : s.size ≤ 9223372036854775807) (_hp : p.size ≤ 9223372036854775807) :
    Calls Tryz.prog 108 #[.string s, .string p] w fun e w' => e = .returned (.bool (prefB s p)) ∧ w = w' := by
  by_cases h1 : p.size ≤ s.size
  · have d1 : decide (p.size ≤ s.size) = true := by simpa using h1
    have e : prefB s p = ((s.extract 0 p.size).toList == p.toList) := by unfold prefB; rw [d1]; rfl
    rw [e]
    clear e
    go_enter Tryz.func108, Tryz.ntmps108
    go_wp2
    go_ret
    exact ⟨rfl, rfl⟩
  · have d1 : decide (p.size ≤ s.size) = false := by simpa using h1
    have e : prefB s p = false := by unfold prefB; rw [d1]; rfl
    rw [e]
    clear e
    go_enter Tryz.func108, Tryz.ntmps108
    go_wp2
    go_ret
    exact ⟨rfl, rfl⟩

set_option maxHeartbeats 400000 in
theorem hasPrefix_any (s p : ByteArray) (w : World) (hs : s.size ≤ 9223372036854775807) (hp : p.size ≤ 9223372036854775807) :
    Calls Tryz.prog 80 #[.string s, .string p] w fun e w' => e = .returned (.bool (prefB s p)) ∧ w = w' := by
  go_enter Tryz.func80, Tryz.ntmps80
  go_wp2_with (go_at_call 108; refine (hasPrefix0_any s p _ hs hp).mono ?_; rintro e w' ⟨rfl, rfl⟩)
  go_ret
  exact ⟨rfl, rfl⟩

end Go.Proofs.YtkdjjlfpaciohaaGreatDoor
namespace Go.Proofs.YtkdjjlfpaciohaaGreatDoor
open Go.RowKit

theorem Mv.chain {B : Nat} {r : List Nat} {a b c : World} (h : Mv B r a b) (k : Mv b.heap.size r b c) (hB : B ≤ a.heap.size) : Mv B r a c :=
  h.trans (k.mono (Nat.le_trans hB h.size) fun _ hx => .inl hx)
theorem Mv.idle {B : Nat} {r : List Nat} {w w' : World} (he : ∃ m, w' = w.drewN m) : Mv B r w w' := by
  obtain ⟨m, rfl⟩ := he
  exact (Mv.refl _ _ _).drewN m

end Go.Proofs.YtkdjjlfpaciohaaGreatDoor
