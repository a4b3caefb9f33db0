/-
  Plain facts on types, as layer 10 has them: parameters, which are good, what a text says, and what it is written as. No condition.
  What package cursor's New, At, Left, End, Peek, Take, Next, Rest, Back and U32 do, over a cursor of its own block, and over none. Conditions: the place lies in the text, and the text is no longer than a length can be.
  What Lower, Prefix, HasPrefix and Has answer, and what Skip does to a cursor. Conditions: lengths as they can be.
-/
import Derived.Test.YteeheehoaklnbaaZ5
import Derived.Test.YteeheehoaklnbaaZ2
import Derived.Test.YteeheehoaklnbaaZ3
import Derived.Test.YteeheehoaklnbaaRows
import Derived.WalkKit
import Derived.WalkSpells
import Derived.WalkLawsBesides
import Derived.Laws.Externs
import Derived.Lib.Hide
import Derived.Lib.FrozenHead2
import Derived.LoopTactic
import Derived.RegionTactic
import Derived.BigRegion
import Derived.Deep.QuietTactic
import Derived.BigQuiet
import Derived.Outline
import Derived.Deep.RegionHeld3
import Derived.StillTailTactics
import Derived.IntWalk
import Derived.Test.YteeheehoaklnbaaZ1
namespace Go.Proofs.Yteeheehoaklnbaa

abbrev eqS (a b : ByteArray) : Bool := a.toList == b.toList
theorem eqS_eq {a b : ByteArray} (h : eqS a b = true) : a = b := by
  have e : a.toList = b.toList := beq_iff_eq.1 h
  rw [Lib.toList_data, Lib.toList_data] at e
  exact ByteArray.ext (Array.toList_inj.1 e)
theorem eqS_self (a : ByteArray) : eqS a a = true := beq_self_eq_true _

end Go.Proofs.Yteeheehoaklnbaa
namespace Go.Proofs.Yteeheehoaklnbaa
open Go.RowKit

/-- A cursor: its text, and how many bytes are gone by. -/
abbrev Cur (w : World) (cb : Nat) (s : ByteArray) (k : Nat) : Prop := Blk w cb 57 #[.string s, .int .i64 k]
abbrev cptr (cb : Nat) : Value := .pointer (some ⟨cb, 0, none⟩)

theorem Cur.c0 {w : World} {cb k : Nat} {s : ByteArray} (h : Cur w cb s k) : w.cell? ⟨cb, 0, none⟩ = some (.string s) := h.cell 0
theorem Cur.c1 {w : World} {cb k : Nat} {s : ByteArray} (h : Cur w cb s k) : w.cell? ⟨cb, 1, none⟩ = some (.int .i64 k) := h.cell 1
theorem Cur.set {w : World} {cb k : Nat} {s : ByteArray} (h : Cur w cb s k) (j : Nat) : Cur (w.setCell ⟨cb, 1, none⟩ (.int .i64 j)) cb s j := h.set_ 1 _

set_option maxHeartbeats 400000 in
theorem new_any (s : ByteArray) (w : World) :
    Calls Try.prog 23 #[.string s] w fun e w' => e = .returned (cptr w.heap.size) ∧ w' = w.alloc (.cells #[.string s, .int .i64 0] 57) := by
  go_enter Try.func23, Try.ntmps23
  go_wp2
  go_ret
  exact ⟨rfl, rfl⟩

set_option maxHeartbeats 400000 in
theorem at_any (cb k : Nat) (s : ByteArray) (w : World) (h : Cur w cb s k) :
    Calls Try.prog 51 #[cptr cb] w fun e w' => e = .returned (.int .i64 k) ∧ w = w' := by
  have c1 := h.c1
  clear h
  go_enter Try.func51, Try.ntmps51
  go_wp2
  go_ret
  exact ⟨rfl, rfl⟩

set_option maxHeartbeats 400000 in
theorem left_any (cb k : Nat) (s : ByteArray) (w : World) (h : Cur w cb s k) (hk : k ≤ s.size) (hs : s.size ≤ 9223372036854775807) :
    Calls Try.prog 54 #[cptr cb] w fun e w' => e = .returned (.int .i64 ((s.size : Int) - (k : Int))) ∧ ∃ n, w' = w.drewN n := by
  have c0 := h.c0
  have c1 := h.c1
  clear h
  go_enter Try.func54, Try.ntmps54
  go_wp2
  go_quiet (fail)
  go_wp2
  go_ret
  exact ⟨rfl, _, rfl⟩

set_option maxHeartbeats 400000 in
theorem end_any (cb k : Nat) (s : ByteArray) (w : World) (h : Cur w cb s k) (hk : k ≤ s.size) (hs : s.size ≤ 9223372036854775807) :
    Calls Try.prog 37 #[cptr cb] w fun e w' => e = .returned (.bool (decide (k = s.size))) ∧ ∃ n, w' = w.drewN n := by
  by_cases hd : k = s.size
  · have hd' : decide (k = s.size) = true := by simp [hd]
    have he : (((s.size : Int) - (k : Int)) == 0) = true := by simp; omega
    rw [hd']
    clear hd hd'
    go_enter Try.func37, Try.ntmps37
    go_wp2_with (go_at_call 54; refine (left_any cb k s _ h hk hs).mono ?_; rintro e w1 ⟨rfl, n, rfl⟩)
    go_ret
    exact ⟨rfl, _, rfl⟩
  · have hd' : decide (k = s.size) = false := by simp [hd]
    have he : (((s.size : Int) - (k : Int)) == 0) = false := by simp; omega
    rw [hd']
    clear hd hd'
    go_enter Try.func37, Try.ntmps37
    go_wp2_with (go_at_call 54; refine (left_any cb k s _ h hk hs).mono ?_; rintro e w1 ⟨rfl, n, rfl⟩)
    go_ret
    exact ⟨rfl, _, rfl⟩

set_option maxHeartbeats 400000 in
theorem passTo_any (cb k j : Nat) (s : ByteArray) (w : World) (h : Cur w cb s k) (hk : k ≤ j) (hj : j ≤ s.size) (_hs : s.size ≤ 9223372036854775807) :
    Calls Try.prog 53 #[cptr cb, .int .i64 j] w fun e w' => e = .returned (.string (s.extract k j)) ∧ w' = w.setCell ⟨cb, 1, none⟩ (.int .i64 j) := by
  have c0 := h.c0
  have c1 := h.c1
  have z1 := h.frozen 1
  clear h
  go_enter Try.func53, Try.ntmps53
  go_wp2
  go_ret
  exact ⟨rfl, rfl⟩

/-- Some draws further. -/
def Drawn (w w' : World) : Prop := ∃ m, w' = w.drewN m
theorem Drawn.refl (w : World) : Drawn w w := ⟨0, rfl⟩
theorem Drawn.one (w : World) : Drawn w w.drew := ⟨1, rfl⟩
theorem Drawn.below {w w' : World} (h : Drawn w w') : Below w.heap.size w w' := by
  obtain ⟨m, rfl⟩ := h; exact Below.drewN' (Below.refl _ _) m

set_option maxHeartbeats 400000 in
theorem rest_any (cb k : Nat) (s : ByteArray) (w : World) (h : Cur w cb s k) (hk : k ≤ s.size) (hs : s.size ≤ 9223372036854775807) :
    Calls Try.prog 39 #[cptr cb] w fun e w' => e = .returned (.string (s.extract k s.size)) ∧ w' = w.setCell ⟨cb, 1, none⟩ (.int .i64 s.size) := by
  have c0 := h.c0
  have c1 := h.c1
  go_enter Try.func39, Try.ntmps39
  go_wp2_with (go_at_call 53; refine (passTo_any cb k s.size s _ h hk (Nat.le_refl _) hs).mono ?_; rintro e w1 ⟨rfl, rfl⟩)
  go_ret
  exact ⟨rfl, rfl⟩

end Go.Proofs.Yteeheehoaklnbaa
namespace Go.Proofs.Yteeheehoaklnbaa
open Go.RowKit

set_option maxHeartbeats 400000 in
theorem prefix_any (s p : ByteArray) (w : World) (_hs : s.size ≤ 9223372036854775807) (_hp : p.size ≤ 9223372036854775807) :
    Calls Try.prog 26 #[.string s, .string p] w fun e w' => e = .returned (.bool (prefB s p)) ∧ w = w' := by
  by_cases h1 : p.size ≤ s.size
  · have d1 : decide (p.size ≤ s.size) = true := by simpa using h1
    have e : prefB s p = ((s.extract 0 p.size).toList == p.toList) := by unfold prefB; rw [d1]; rfl
    rw [e]
    clear e
    go_enter Try.func26, Try.ntmps26
    go_wp2
    go_ret
    exact ⟨rfl, rfl⟩
  · have d1 : decide (p.size ≤ s.size) = false := by simpa using h1
    have e : prefB s p = false := by unfold prefB; rw [d1]; rfl
    rw [e]
    clear e
    go_enter Try.func26, Try.ntmps26
    go_wp2
    go_ret
    exact ⟨rfl, rfl⟩

set_option maxHeartbeats 400000 in
theorem hasPrefix0_any (s p : ByteArray) (w : World) (_hs : s.size ≤ 9223372036854775807) (_hp : p.size ≤ 9223372036854775807) :
    Calls Try.prog 65 #[.string s, .string p] w fun e w' => e = .returned (.bool (prefB s p)) ∧ w = w' := by
  by_cases h1 : p.size ≤ s.size
  · have d1 : decide (p.size ≤ s.size) = true := by simpa using h1
    have e : prefB s p = ((s.extract 0 p.size).toList == p.toList) := by unfold prefB; rw [d1]; rfl
    rw [e]
    clear e
    go_enter Try.func65, Try.ntmps65
    go_wp2
    go_ret
    exact ⟨rfl, rfl⟩
  · have d1 : decide (p.size ≤ s.size) = false := by simpa using h1
    have e : prefB s p = false := by unfold prefB; rw [d1]; rfl
    rw [e]
    clear e
    go_enter Try.func65, Try.ntmps65
    go_wp2
    go_ret
    exact ⟨rfl, rfl⟩

set_option maxHeartbeats 400000 in
theorem hasPrefix_any (s p : ByteArray) (w : World) (hs : s.size ≤ 9223372036854775807) (hp : p.size ≤ 9223372036854775807) :
    Calls Try.prog 59 #[.string s, .string p] w fun e w' => e = .returned (.bool (prefB s p)) ∧ w = w' := by
  go_enter Try.func59, Try.ntmps59
  go_wp2_with (go_at_call 65; refine (hasPrefix0_any s p _ hs hp).mono ?_; rintro e w' ⟨rfl, rfl⟩)
  go_ret
  exact ⟨rfl, rfl⟩

set_option maxHeartbeats 400000 in
theorem skip_yes (cb k : Nat) (s t : ByteArray) (w : World) (h : Cur w cb s k) (hk : k ≤ s.size) (hs : s.size ≤ 9223372036854775807) (ht : t.size ≤ 9223372036854775807) (hp : prefB (s.extract k s.size) t = true) (hkt : k + t.size ≤ s.size) :
    Calls Try.prog 46 #[cptr cb, .string t] w fun e w' => e = .returned (.bool true) ∧ ∃ m, w' = (w.drewN m).setCell ⟨cb, 1, none⟩ (.int .i64 (k + t.size : Nat)) := by
  have c0 := h.c0
  have c1 := h.c1
  have z1 := h.frozen 1
  have HP : Hid (∀ W, Calls Try.prog 59 #[.string (s.extract k s.size), .string t] W fun e w' => e = .returned (.bool true) ∧ w' = W) := by
    intro W
    have := hasPrefix_any (s.extract k s.size) t W (by simp; omega) ht
    rw [hp] at this
    exact this.mono fun _ _ h => ⟨h.1, h.2.symm⟩
  clear h hp
  go_enter Try.func46, Try.ntmps46
  go_wp2
  go_quiet ((go_at_call 59; exact Calls.quiet_of_same (HP.out _)))
  go_wp2
  go_ret
  exact ⟨rfl, _, rfl⟩

set_option maxHeartbeats 400000 in
theorem skip_no (cb k : Nat) (s t : ByteArray) (w : World) (h : Cur w cb s k) (hk : k ≤ s.size) (hs : s.size ≤ 9223372036854775807) (ht : t.size ≤ 9223372036854775807) (hp : prefB (s.extract k s.size) t = false) :
    Calls Try.prog 46 #[cptr cb, .string t] w fun e w' => e = .returned (.bool false) ∧ ∃ m, w' = w.drewN m := by
  have c0 := h.c0
  have c1 := h.c1
  have HP : Hid (∀ W, Calls Try.prog 59 #[.string (s.extract k s.size), .string t] W fun e w' => e = .returned (.bool false) ∧ w' = W) := by
    intro W
    have := hasPrefix_any (s.extract k s.size) t W (by simp; omega) ht
    rw [hp] at this
    exact this.mono fun _ _ h => ⟨h.1, h.2.symm⟩
  clear h hp
  go_enter Try.func46, Try.ntmps46
  go_wp2
  go_quiet ((go_at_call 59; exact Calls.quiet_of_same (HP.out _)))
  go_wp2
  go_ret
  exact ⟨rfl, _, rfl⟩

end Go.Proofs.Yteeheehoaklnbaa
