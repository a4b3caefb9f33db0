/-
  What package cursor's New, At, Left, End, Peek, Take, Next, Rest, Back and U32 do, over a cursor of its own block, and over none. Conditions: the place lies in the text, and the text is no longer than a length can be.
  What Lower, Prefix, HasPrefix and Has answer, and what Skip does to a cursor. Conditions: lengths as they can be.
  What Collect of layer 4 does to a cursor, and what it answers. Conditions: the place lies in the text, which takes at most 2^47 bytes.
-/
import Derived.Test.YteeheehoaklnbaaDoorZ2
import Derived.RegionTactic
import Derived.BigRegion
import Derived.Deep.QuietTactic
import Derived.BigQuiet
import Derived.Outline
import Derived.Deep.RegionHeld3
import Derived.StillTailTactics
import Derived.Lib.Hide
import Derived.IntWalk
import Derived.Test.YteeheehoaklnbaaDoorZ1
import Derived.LoopTactic
import Derived.Test.YteeheehoaklnbaaDoorZ5
import Derived.Deep.RegionWith
import Derived.Test.YteeheehoaklnbaaDoorRows
import Derived.WalkKit
import Derived.KernelRfl
import Derived.WalkSpells
import Derived.WalkLawsBesides
import Derived.Laws.Externs
import Derived.Lib.FrozenHead2
namespace Go.Proofs.YteeheehoaklnbaaDoor
open Go.RowKit

/-- A cursor: its text, and how many bytes are gone by. -/
abbrev Cur (w : World) (cb : Nat) (s : ByteArray) (k : Nat) : Prop := Blk w cb 55 #[.string s, .int .i64 k]
abbrev cptr (cb : Nat) : Value := .pointer (some ⟨cb, 0, none⟩)

theorem Cur.c0 {w : World} {cb k : Nat} {s : ByteArray} (h : Cur w cb s k) : w.cell? ⟨cb, 0, none⟩ = some (.string s) := h.cell 0
theorem Cur.c1 {w : World} {cb k : Nat} {s : ByteArray} (h : Cur w cb s k) : w.cell? ⟨cb, 1, none⟩ = some (.int .i64 k) := h.cell 1
theorem Cur.set {w : World} {cb k : Nat} {s : ByteArray} (h : Cur w cb s k) (j : Nat) : Cur (w.setCell ⟨cb, 1, none⟩ (.int .i64 j)) cb s j := h.set_ 1 _

set_option maxHeartbeats 400000 in
theorem new_any (s : ByteArray) (w : World) :
    Calls Tryd.prog 22 #[.string s] w fun e w' => e = .returned (cptr w.heap.size) ∧ w' = w.alloc (.cells #[.string s, .int .i64 0] 55) := by
  go_enter Tryd.func22, Tryd.ntmps22
  go_wp2
  go_ret
  exact ⟨rfl, rfl⟩

set_option maxHeartbeats 400000 in
theorem at_any (cb k : Nat) (s : ByteArray) (w : World) (h : Cur w cb s k) :
    Calls Tryd.prog 51 #[cptr cb] w fun e w' => e = .returned (.int .i64 k) ∧ w = w' := by
  have c1 := h.c1
  clear h
  go_enter Tryd.func51, Tryd.ntmps51
  go_wp2
  go_ret
  exact ⟨rfl, rfl⟩

set_option maxHeartbeats 400000 in
theorem left_any (cb k : Nat) (s : ByteArray) (w : World) (h : Cur w cb s k) (hk : k ≤ s.size) (hs : s.size ≤ 9223372036854775807) :
    Calls Tryd.prog 54 #[cptr cb] w fun e w' => e = .returned (.int .i64 ((s.size : Int) - (k : Int))) ∧ ∃ n, w' = w.drewN n := by
  have c0 := h.c0
  have c1 := h.c1
  clear h
  go_enter Tryd.func54, Tryd.ntmps54
  go_wp2
  go_quiet (fail)
  go_wp2
  go_ret
  exact ⟨rfl, _, rfl⟩

set_option maxHeartbeats 400000 in
theorem end_any (cb k : Nat) (s : ByteArray) (w : World) (h : Cur w cb s k) (hk : k ≤ s.size) (hs : s.size ≤ 9223372036854775807) :
    Calls Tryd.prog 37 #[cptr cb] w fun e w' => e = .returned (.bool (decide (k = s.size))) ∧ ∃ n, w' = w.drewN n := by
  by_cases hd : k = s.size
  · have hd' : decide (k = s.size) = true := by simp [hd]
    have he : (((s.size : Int) - (k : Int)) == 0) = true := by simp; omega
    rw [hd']
    clear hd hd'
    go_enter Tryd.func37, Tryd.ntmps37
    go_wp2_with (go_at_call 54; refine (left_any cb k s _ h hk hs).mono ?_; rintro e w1 ⟨rfl, n, rfl⟩)
    go_ret
    exact ⟨rfl, _, rfl⟩
  · have hd' : decide (k = s.size) = false := by simp [hd]
    have he : (((s.size : Int) - (k : Int)) == 0) = false := by simp; omega
    rw [hd']
    clear hd hd'
    go_enter Tryd.func37, Tryd.ntmps37
    go_wp2_with (go_at_call 54; refine (left_any cb k s _ h hk hs).mono ?_; rintro e w1 ⟨rfl, n, rfl⟩)
    go_ret
    exact ⟨rfl, _, rfl⟩

set_option maxHeartbeats 400000 in
theorem passTo_any (cb k j : Nat) (s : ByteArray) (w : World) (h : Cur w cb s k) (hk : k ≤ j) (hj : j ≤ s.size) (_hs : s.size ≤ 9223372036854775807) :
    Calls Tryd.prog 53 #[cptr cb, .int .i64 j] w fun e w' => e = .returned (.string (s.extract k j)) ∧ w' = w.setCell ⟨cb, 1, none⟩ (.int .i64 j) := by
  have c0 := h.c0
  have c1 := h.c1
  have z1 := h.frozen 1
  clear h
  go_enter Tryd.func53, Tryd.ntmps53
  go_wp2
  go_ret
  exact ⟨rfl, rfl⟩

/-- Some draws further. -/
def Drawn (w w' : World) : Prop := ∃ m, w' = w.drewN m
theorem Drawn.refl (w : World) : Drawn w w := ⟨0, rfl⟩
theorem Drawn.one (w : World) : Drawn w w.drew := ⟨1, rfl⟩
theorem Drawn.below {w w' : World} (h : Drawn w w') : Below w.heap.size w w' := by
  obtain ⟨m, rfl⟩ := h; exact Below.drewN' (Below.refl _ _) m

set_option maxHeartbeats 400000 in
theorem rest_any (cb k : Nat) (s : ByteArray) (w : World) (h : Cur w cb s k) (hk : k ≤ s.size) (hs : s.size ≤ 9223372036854775807) :
    Calls Tryd.prog 39 #[cptr cb] w fun e w' => e = .returned (.string (s.extract k s.size)) ∧ w' = w.setCell ⟨cb, 1, none⟩ (.int .i64 s.size) := by
  have c0 := h.c0
  have c1 := h.c1
  go_enter Tryd.func39, Tryd.ntmps39
  go_wp2_with (go_at_call 53; refine (passTo_any cb k s.size s _ h hk (Nat.le_refl _) hs).mono ?_; rintro e w1 ⟨rfl, rfl⟩)
  go_ret
  exact ⟨rfl, rfl⟩

end Go.Proofs.YteeheehoaklnbaaDoor
namespace Go.Proofs.YteeheehoaklnbaaDoor
open Go.RowKit

set_option maxHeartbeats 400000 in
theorem hasPrefix0_any (s p : ByteArray) (w : World) (_hs : s.size ≤ 9223372036854775807) (_hp : p.size ≤ 9223372036854775807) :
    Calls Tryd.prog 65 #[.string s, .string p] w fun e w' => e = .returned (.bool (prefB s p)) ∧ w = w' := by
  by_cases h1 : p.size ≤ s.size
  · have d1 : decide (p.size ≤ s.size) = true := by simpa using h1
    have e : prefB s p = ((s.extract 0 p.size).toList == p.toList) := by unfold prefB; rw [d1]; rfl
    rw [e]
    clear e
    go_enter Tryd.func65, Tryd.ntmps65
    go_wp2
    go_ret
    exact ⟨rfl, rfl⟩
  · have d1 : decide (p.size ≤ s.size) = false := by simpa using h1
    have e : prefB s p = false := by unfold prefB; rw [d1]; rfl
    rw [e]
    clear e
    go_enter Tryd.func65, Tryd.ntmps65
    go_wp2
    go_ret
    exact ⟨rfl, rfl⟩

set_option maxHeartbeats 400000 in
theorem hasPrefix_any (s p : ByteArray) (w : World) (hs : s.size ≤ 9223372036854775807) (hp : p.size ≤ 9223372036854775807) :
    Calls Tryd.prog 58 #[.string s, .string p] w fun e w' => e = .returned (.bool (prefB s p)) ∧ w = w' := by
  go_enter Tryd.func58, Tryd.ntmps58
  go_wp2_with (go_at_call 65; refine (hasPrefix0_any s p _ hs hp).mono ?_; rintro e w' ⟨rfl, rfl⟩)
  go_ret
  exact ⟨rfl, rfl⟩

set_option maxHeartbeats 400000 in
theorem skip_yes (cb k : Nat) (s t : ByteArray) (w : World) (h : Cur w cb s k) (hk : k ≤ s.size) (hs : s.size ≤ 9223372036854775807) (ht : t.size ≤ 9223372036854775807) (hp : prefB (s.extract k s.size) t = true) (hkt : k + t.size ≤ s.size) :
    Calls Tryd.prog 46 #[cptr cb, .string t] w fun e w' => e = .returned (.bool true) ∧ ∃ m, w' = (w.drewN m).setCell ⟨cb, 1, none⟩ (.int .i64 (k + t.size : Nat)) := by
  have c0 := h.c0
  have c1 := h.c1
  have z1 := h.frozen 1
  have HP : Hid (∀ W, Calls Tryd.prog 58 #[.string (s.extract k s.size), .string t] W fun e w' => e = .returned (.bool true) ∧ w' = W) := by
    intro W
    have := hasPrefix_any (s.extract k s.size) t W (by simp; omega) ht
    rw [hp] at this
    exact this.mono fun _ _ h => ⟨h.1, h.2.symm⟩
  clear h hp
  go_enter Tryd.func46, Tryd.ntmps46
  go_wp2
  go_quiet ((go_at_call 58; exact Calls.quiet_of_same (HP.out _)))
  go_wp2
  go_ret
  exact ⟨rfl, _, rfl⟩

set_option maxHeartbeats 400000 in
theorem skip_no (cb k : Nat) (s t : ByteArray) (w : World) (h : Cur w cb s k) (hk : k ≤ s.size) (hs : s.size ≤ 9223372036854775807) (ht : t.size ≤ 9223372036854775807) (hp : prefB (s.extract k s.size) t = false) :
    Calls Tryd.prog 46 #[cptr cb, .string t] w fun e w' => e = .returned (.bool false) ∧ ∃ m, w' = w.drewN m := by
  have c0 := h.c0
  have c1 := h.c1
  have HP : Hid (∀ W, Calls Tryd.prog 58 #[.string (s.extract k s.size), .string t] W fun e w' => e = .returned (.bool false) ∧ w' = W) := by
    intro W
    have := hasPrefix_any (s.extract k s.size) t W (by simp; omega) ht
    rw [hp] at this
    exact this.mono fun _ _ h => ⟨h.1, h.2.symm⟩
  clear h hp
  go_enter Tryd.func46, Tryd.ntmps46
  go_wp2
  go_quiet ((go_at_call 58; exact Calls.quiet_of_same (HP.out _)))
  go_wp2
  go_ret
  exact ⟨rfl, _, rfl⟩

end Go.Proofs.YteeheehoaklnbaaDoor
namespace Go.Proofs.YteeheehoaklnbaaDoor
open Go.RowKit

theorem Mv.chain {B : Nat} {r : List Nat} {a b c : World} (h : Mv B r a b) (k : Mv b.heap.size r b c) (hB : B ≤ a.heap.size) : Mv B r a c :=
  h.trans (k.mono (Nat.le_trans hB h.size) fun _ hx => .inl hx)
theorem Mv.put {cb k : Nat} {s : ByteArray} {w w' : World} {j : Nat} (h : Cur w cb s k) (he : ∃ m, w' = (w.drewN m).setCell ⟨cb, 1, none⟩ (.int .i64 j)) : Mv w.heap.size [cb] w w' ∧ Cur w' cb s j := by
  obtain ⟨m, rfl⟩ := he
  exact ⟨((Mv.refl _ _ _).drewN m).setCell (.inl (by simp)) _, Cur.set (Blk.drewN h m) j⟩
theorem Mv.idle {B : Nat} {r : List Nat} {w w' : World} (he : ∃ m, w' = w.drewN m) : Mv B r w w' := by
  obtain ⟨m, rfl⟩ := he
  exact (Mv.refl _ _ _).drewN m

end Go.Proofs.YteeheehoaklnbaaDoor
