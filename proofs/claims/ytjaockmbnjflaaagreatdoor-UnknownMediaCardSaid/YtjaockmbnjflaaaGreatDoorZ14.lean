/-
  What package binary's Rule, Share and Cut answer, and the document's own; the law BinaryBytes. Condition: lengths as they can be.
  What Type, Needs, Most and Same of the document's own answer of a table of patterns. Conditions: texts are as long as a length can be; the slice lies in a block of its own; the patterns are good.
  What Needs of the document's own answers of a table of patterns. Conditions: the text is not longer than memory; the slice lies in a block of its own; the patterns are good.
-/
import Derived.Test.YtjaockmbnjflaaaGreatDoorZ13
import Derived.Test.YtjaockmbnjflaaaGreatDoorRows
import Derived.Laws.FloatArith
import Derived.KernelRfl
import Derived.WalkKit
import Derived.WalkSpells
import Derived.WalkLawsBesides
import Derived.Laws.Externs
import Derived.Laws.BitsAllLaws
import Derived.RegionTactic
import Derived.Deep.RegionWith
import Derived.Deep.DeepCutAuto
import Derived.Lib.Hide
import Derived.Test.YtjaockmbnjflaaaGreatDoorZ6
import Derived.Test.YtjaockmbnjflaaaGreatDoorZ5
import Derived.Test.YtjaockmbnjflaaaGreatDoorZ3
import Derived.BigQuiet
import Derived.Deep.QuietTactic
import Derived.OwnWalk
import Derived.LoopTactic
import Derived.Test.YtjaockmbnjflaaaGreatDoorZ10
namespace Go.Proofs.YtjaockmbnjflaaaGreatDoor
open Go.RowKit

set_option maxHeartbeats 400000 in
theorem cut19_any (s : ByteArray) (w : World) (_hs : s.size ≤ 9223372036854775807) :
    Calls Tryz.prog 24 #[.string s] w fun e w' => e = .returned (.string (cutB s 1445)) ∧ w = w' := by
  obtain ⟨m, hm⟩ : ∃ m : Nat, m = if 1445 < s.size then 1445 else s.size := ⟨_, rfl⟩
  have hr : ∀ (ts : Array TypeId) (t : TypeId) (w : World), (Builtin.min_ ts t #[.int .i64 (s.size : Nat), .int .i64 1445]).run Tryz.prog w = .ok (.int .i64 (m : Nat)) w := fun ts t w => by
    rw [hm]
    by_cases h : 1445 < s.size
    · rw [if_pos h]
      have h3 : (1445 : Int) < (s.size : Int) := by omega
      simp [Builtin.min_, Builtin.min2, h3]
    · rw [if_neg h]
      by_cases h3 : (s.size : Int) < 1445
      · simp [Builtin.min_, Builtin.min2]; omega
      · have h4 : s.size = 1445 := by omega
        rw [h4]
        simp [Builtin.min_, Builtin.min2]
  have hm2 : m ≤ s.size := by rw [hm]; split <;> omega
  have HV : Hid (cutB s 1445 = s.extract 0 m) := Lib.hid (by
    unfold cutB
    rw [hm]
    split
    · rfl
    · exact ByteArray.extract_zero_size.symm)
  clear hm
  generalize cutB s 1445 = v at *
  go_enter Tryz.func24, Tryz.ntmps24
  go_wp2
  go_ret
  exact ⟨by rw [HV.out]; first | done | rfl, rfl⟩

set_option maxHeartbeats 400000 in
theorem rcut19_any (s : ByteArray) (w : World) (_hs : s.size ≤ 9223372036854775807) :
    Calls Tryz.prog 28 #[.string s] w fun e w' => e = .returned (.string (cutB s 1445)) ∧ w = w' := by
  by_cases h : 1445 < s.size
  · have hx : Hid (cutB s 1445 = s.extract 0 1445) := Lib.hid (by simp [cutB, h])
    have h1 : decide ((1445 : Int) < (s.size : Int)) = true := by rw [decide_eq_true_eq]; omega
    generalize cutB s 1445 = v at *
    go_enter Tryz.func28, Tryz.ntmps28
    go_wp2
    go_ret
    exact ⟨by rw [hx.out]; first | done | rfl, rfl⟩
  · have hx : Hid (cutB s 1445 = s) := Lib.hid (by simp [cutB, h])
    have h1 : decide ((1445 : Int) < (s.size : Int)) = false := by rw [decide_eq_false_iff_not]; omega
    generalize cutB s 1445 = v at *
    go_enter Tryz.func28, Tryz.ntmps28
    go_wp2
    go_ret
    exact ⟨by rw [hx.out]; first | done | rfl, rfl⟩

end Go.Proofs.YtjaockmbnjflaaaGreatDoor
namespace Go.Proofs.YtjaockmbnjflaaaGreatDoor
open Go.RowKit

set_option maxHeartbeats 400000 in
theorem rType_any (g n c : Nat) (s : ByteArray) (ps : Nat → Pat) (r : Int) (w : World) (hp : PatsIn w g ps n) (hok : ∀ i, i < n → (ps i).ok) (hs : s.size ≤ 9223372036854775807) (hn : n ≤ 9223372036854775807) (hr : IsFirst s ps n r) :
    Calls Tryz.prog 30 #[.string s, .slice (some ⟨g, 0, none⟩) n c] w fun e w' => e = .returned (.string (typeOf ps r)) ∧ Below w.heap.size w w' := by
  have HC := Lib.hid (refFirst_any g n c s ps r w hp hok hs hn hr)
  by_cases h : r < 0
  · have HT := Lib.hid (show typeOf ps r = ⟨#[]⟩ from if_pos h)
    clear hr
    go_enter Tryz.func30, Tryz.ntmps30
    go_wp2_with (go_at_call 55; refine HC.out.mono ?_; rintro e w1 ⟨rfl, hb1⟩; have HB1 := Lib.hid hb1; clear hb1)
    go_ret
    exact ⟨by rw [HT.out]; rfl, HB1.out⟩
  · obtain ⟨k, rfl, hk⟩ : ∃ k : Nat, r = (k : Int) ∧ k < n := by
      rcases hr with ⟨h1, _⟩ | ⟨k, h1, h2, _⟩
      · omega
      · exact ⟨k, h2, h1⟩
    have HT := Lib.hid (show typeOf ps k = (ps k).t from by unfold typeOf; rw [if_neg h]; rfl)
    have HP := Lib.hid hp
    clear h hr hp
    go_enter Tryz.func30, Tryz.ntmps30
    go_wp2_with (go_at_call 55; refine HC.out.mono ?_; rintro e w1 ⟨rfl, hb1⟩; have HB1 := Lib.hid hb1; have c3 := ((HP.out.below hb1 HP.out.1 (Nat.le_refl _)).2 k hk).2.2.2; clear hb1)
    go_ret
    exact ⟨by rw [HT.out]; rfl, HB1.out⟩

set_option maxHeartbeats 1000000 in
set_option maxRecDepth 100000 in
/-- Of two slices of the same patterns. -/
theorem rSame_any (g c h d n : Nat) (ps : Nat → Pat) (w : World) (hp : PatsIn w g ps n) (hq : PatsIn w h ps n) (hn : n ≤ 9223372036854775807) :
    Calls Tryz.prog 21 #[.slice (some ⟨g, 0, none⟩) n c, .slice (some ⟨h, 0, none⟩) n d] w fun e w' => e = .returned (.bool true) ∧ Below w.heap.size w w' := by
  have HP := Lib.hid hp
  have HQ := Lib.hid hq
  clear hp hq
  go_enter Tryz.func21, Tryz.ntmps21
  go_wp2
  go_loopw [5] (fun i wr => ∃ k : Nat, k ≤ n ∧ i = .int .i64 k ∧ ∃ d, wr = w.drewN d) (fun i _ => n - (intOf i).toNat)
  case atStart => exact ⟨0, by omega, rfl, 0, rfl⟩
  case round =>
    obtain ⟨k, hk, rfl, hw⟩ := hrel
    have HW := Lib.hid hw
    clear hw
    by_cases hlt : k < n
    · have HC := Lib.hid (HP.out.2 k hlt)
      have HD := Lib.hid (HQ.out.2 k hlt)
      have c0 : wr.cell? ⟨g, k * 4, none⟩ = some (.string (ps k).b) := by obtain ⟨d, rfl⟩ := HW.out; exact HC.out.1
      have c1 : wr.cell? ⟨g, k * 4 + 1, none⟩ = some (.string (ps k).m) := by obtain ⟨d, rfl⟩ := HW.out; exact HC.out.2.1
      have c2 : wr.cell? ⟨g, k * 4 + 2, none⟩ = some (.string (ps k).k) := by obtain ⟨d, rfl⟩ := HW.out; exact HC.out.2.2.1
      have c3 : wr.cell? ⟨g, k * 4 + 3, none⟩ = some (.string (ps k).t) := by obtain ⟨d, rfl⟩ := HW.out; exact HC.out.2.2.2
      have e0 : wr.cell? ⟨h, k * 4, none⟩ = some (.string (ps k).b) := by obtain ⟨d, rfl⟩ := HW.out; exact HD.out.1
      have e1 : wr.cell? ⟨h, k * 4 + 1, none⟩ = some (.string (ps k).m) := by obtain ⟨d, rfl⟩ := HW.out; exact HD.out.2.1
      have e2 : wr.cell? ⟨h, k * 4 + 2, none⟩ = some (.string (ps k).k) := by obtain ⟨d, rfl⟩ := HW.out; exact HD.out.2.2.1
      have e3 : wr.cell? ⟨h, k * 4 + 3, none⟩ = some (.string (ps k).t) := by obtain ⟨d, rfl⟩ := HW.out; exact HD.out.2.2.2
      go_wp2
      go_quiet (fail)
      go_wp2
      go_roundw
      case rel => exact ⟨k + 1, by omega, by go_num, by obtain ⟨d, hd⟩ := HW.out; rw [hd]; exact ⟨_, World.drewN_drewN _ _ _⟩⟩
      case measure => simp [intOf]; omega
    · obtain rfl : k = n := by omega
      go_wp2
      go_ret
      exact ⟨rfl, by obtain ⟨d, hd⟩ := HW.out; rw [hd]; exact Below.drewN' (Below.refl _ _) _⟩

end Go.Proofs.YtjaockmbnjflaaaGreatDoor
namespace Go.Proofs.YtjaockmbnjflaaaGreatDoor
open Go.RowKit

/-- A world behind w: what w had is as it was. -/
def Aft (w W : World) : Prop := Below w.heap.size w W
theorem Aft.drew {w W : World} (h : Aft w W) : Aft w W.drew := Below.drew h
theorem Aft.step {w W W' : World} (h : Aft w W) (hb : Below W.heap.size W W') : Aft w W' := Below.trans h (hb.mono h.size)
theorem Aft.next {w : World} {x : Wld (Aft w)} {W' : World} (hb : Below x.val.heap.size x.val W') : Aft w W' := x.ok.step hb

end Go.Proofs.YtjaockmbnjflaaaGreatDoor
