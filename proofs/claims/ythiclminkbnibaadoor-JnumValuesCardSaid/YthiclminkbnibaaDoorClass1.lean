/-
  What package class's functions of one byte answer, and those of the document's own answer. No condition.
-/
import Derived.Test.YthiclminkbnibaaDoorRows
import Derived.Test.YthiclminkbnibaaDoorByte
import Derived.Test.YthiclminkbnibaaDoorHas
import Derived.WalkKit
import Derived.WalkSpells
import Derived.WalkLawsBesides
import Derived.Laws.Externs
namespace Go.Proofs.YthiclminkbnibaaDoor
open Go.RowKit

theorem dI (a : Nat) (b : UInt8) : decide (a ≤ b.toNat) = decide ((a : Int) ≤ (b.toNat : Int)) := by simp
theorem dJ (a : Nat) (b : UInt8) : decide (b.toNat ≤ a) = decide ((b.toNat : Int) ≤ (a : Int)) := by simp
theorem dE (a : Nat) (b : UInt8) : (b.toNat == a) = ((b.toNat : Int) == (a : Int)) := by
  rw [Bool.eq_iff_iff, beq_iff_eq, beq_iff_eq]
  omega

set_option maxHeartbeats 400000 in
theorem digit_any (b : UInt8) (w : World) :
    Calls Tryd.prog 61 #[.int .u8 (b.toNat : Int)] w fun e w' => e = .returned (.bool (digB b)) ∧ w = w' := by
  have e : digB b = (decide ((48 : Int) ≤ (b.toNat : Int)) && decide ((b.toNat : Int) ≤ 57)) := by unfold digB; rw [dI, dJ]; rfl
  rw [e]
  clear e
  cases h1 : decide ((48 : Int) ≤ (b.toNat : Int)) <;>
  · go_enter Tryd.func61, Tryd.ntmps61
    go_wp2
    go_ret
    exact ⟨rfl, rfl⟩

set_option maxHeartbeats 400000 in
theorem refDigit_any (b : UInt8) (w : World) :
    Calls Tryd.prog 53 #[.int .u8 (b.toNat : Int)] w fun e w' => e = .returned (.bool (digB b)) ∧ w = w' := by
  have e : digB b = (decide ((48 : Int) ≤ (b.toNat : Int)) && decide ((b.toNat : Int) ≤ 57)) := by unfold digB; rw [dI, dJ]; rfl
  rw [e]
  clear e
  cases h0 : decide ((48 : Int) ≤ (b.toNat : Int)) <;>
  · go_enter Tryd.func53, Tryd.ntmps53
    go_wp2
    go_ret
    exact ⟨rfl, rfl⟩

theorem indexByte2_any (s : ByteArray) (b : UInt8) (w : World) : (callFunc 81 #[.string s, .int .u8 (b.toNat : Int)]).run Tryd.prog w = .ok (.value (.int .i64 (firstIdx s b))) w := by
  rw [run_callFunc_extern (fn := Tryd.f81) (e := Extern.BytealgIndexByte.indexByte) Tryd.func81 rfl rfl rfl rfl]
  rw [run_indexByte_string]
  simp [Result.andThen]

set_option maxHeartbeats 400000 in
theorem indexByte1_any (s : ByteArray) (b : UInt8) (w : World) :
    Calls Tryd.prog 75 #[.string s, .int .u8 (b.toNat : Int)] w fun e w' => e = .returned (.int .i64 (firstIdx s b)) ∧ w = w' := by
  have hx := indexByte2_any s b
  go_enter Tryd.func75, Tryd.ntmps75
  go_wp2
  go_ret
  exact ⟨rfl, rfl⟩

set_option maxHeartbeats 400000 in
theorem indexByte_any (s : ByteArray) (b : UInt8) (w : World) :
    Calls Tryd.prog 64 #[.string s, .int .u8 (b.toNat : Int)] w fun e w' => e = .returned (.int .i64 (firstIdx s b)) ∧ w = w' := by
  go_enter Tryd.func64, Tryd.ntmps64
  go_wp2_with (go_at_call 75; refine (indexByte1_any s b _).mono ?_; rintro e w' ⟨rfl, rfl⟩)
  go_ret
  exact ⟨rfl, rfl⟩

/-- What Hex answers: of none, 0 and false. -/
def hexV (b : UInt8) : Value := if 0 ≤ hexB b then .tuple #[.int .i64 (hexB b), .bool true] else .tuple #[.int .i64 0, .bool false]
end Go.Proofs.YthiclminkbnibaaDoor
