/-
  What package class's functions of one byte answer, and those of the document's own answer. No condition.
-/
import Derived.Test.YtlfbbphkbpajoaaRows
import Derived.Test.YtlfbbphkbpajoaaByte
import Derived.Test.YtlfbbphkbpajoaaScan
import Derived.WalkKit
import Derived.WalkSpells
import Derived.WalkLawsBesides
import Derived.Laws.Externs
import Derived.LoopTactic
import Derived.Lib.Hide
namespace Go.Proofs.Ytlfbbphkbpajoaa
open Go.RowKit

theorem dI (a : Nat) (b : UInt8) : decide (a ≤ b.toNat) = decide ((a : Int) ≤ (b.toNat : Int)) := by simp
theorem dJ (a : Nat) (b : UInt8) : decide (b.toNat ≤ a) = decide ((b.toNat : Int) ≤ (a : Int)) := by simp
theorem dE (a : Nat) (b : UInt8) : (b.toNat == a) = ((b.toNat : Int) == (a : Int)) := by
  rw [Bool.eq_iff_iff, beq_iff_eq, beq_iff_eq]
  omega

theorem indexByte2_any (s : ByteArray) (b : UInt8) (w : World) : (callFunc 34 #[.string s, .int .u8 (b.toNat : Int)]).run Try.prog w = .ok (.value (.int .i64 (firstIdx s b))) w := by
  rw [run_callFunc_extern (fn := Try.f34) (e := Extern.BytealgIndexByte.indexByte) Try.func34 rfl rfl rfl rfl]
  rw [run_indexByte_string]
  simp [Result.andThen]

set_option maxHeartbeats 400000 in
theorem indexByte1_any (s : ByteArray) (b : UInt8) (w : World) :
    Calls Try.prog 29 #[.string s, .int .u8 (b.toNat : Int)] w fun e w' => e = .returned (.int .i64 (firstIdx s b)) ∧ w = w' := by
  have hx := indexByte2_any s b
  go_enter Try.func29, Try.ntmps29
  go_wp2
  go_ret
  exact ⟨rfl, rfl⟩

set_option maxHeartbeats 400000 in
theorem indexByte_any (s : ByteArray) (b : UInt8) (w : World) :
    Calls Try.prog 24 #[.string s, .int .u8 (b.toNat : Int)] w fun e w' => e = .returned (.int .i64 (firstIdx s b)) ∧ w = w' := by
  go_enter Try.func24, Try.ntmps24
  go_wp2_with (go_at_call 29; refine (indexByte1_any s b _).mono ?_; rintro e w' ⟨rfl, rfl⟩)
  go_ret
  exact ⟨rfl, rfl⟩

end Go.Proofs.Ytlfbbphkbpajoaa

