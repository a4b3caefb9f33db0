/-
  What package class's functions of one byte answer, and those of the document's own answer. No condition.
-/
import Derived.Test.YtpnkdcakhjejnaaDoorRows
import Derived.Test.YtpnkdcakhjejnaaDoorByte
import Derived.Test.YtpnkdcakhjejnaaDoorHas
import Derived.WalkKit
import Derived.WalkSpells
import Derived.WalkLawsBesides
import Derived.Laws.Externs
namespace Go.Proofs.YtpnkdcakhjejnaaDoor
open Go.RowKit

theorem dI (a : Nat) (b : UInt8) : decide (a ≤ b.toNat) = decide ((a : Int) ≤ (b.toNat : Int)) := by simp
theorem dJ (a : Nat) (b : UInt8) : decide (b.toNat ≤ a) = decide ((b.toNat : Int) ≤ (a : Int)) := by simp
theorem dE (a : Nat) (b : UInt8) : (b.toNat == a) = ((b.toNat : Int) == (a : Int)) := by
  rw [Bool.eq_iff_iff, beq_iff_eq, beq_iff_eq]
  omega

set_option maxHeartbeats 400000 in
theorem digit_any (b : UInt8) (w : World) :
    Calls Tryd.prog 13 #[.int .u8 (b.toNat : Int)] w fun e w' => e = .returned (.bool (digB b)) ∧ w = w' := by
  have e : digB b = (decide ((48 : Int) ≤ (b.toNat : Int)) && decide ((b.toNat : Int) ≤ 57)) := by unfold digB; rw [dI, dJ]; rfl
  rw [e]
  clear e
  cases h1 : decide ((48 : Int) ≤ (b.toNat : Int)) <;>
  · go_enter Tryd.func13, Tryd.ntmps13
    go_wp2
    go_ret
    exact ⟨rfl, rfl⟩

/-- What Hex answers: of none, 0 and false. -/
def hexV (b : UInt8) : Value := if 0 ≤ hexB b then .tuple #[.int .i64 (hexB b), .bool true] else .tuple #[.int .i64 0, .bool false]
end Go.Proofs.YtpnkdcakhjejnaaDoor
