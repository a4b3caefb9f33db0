/-
  What Fonts and Archives of the document's own answer of layer 15. No condition.
  Plain facts on members that stand one behind the other. No condition.
  What two and Members of the document's own answer of layer 15. Condition: the text is not longer than memory.
-/
import Derived.Test.YtjaockmbnjflaaaGreatDoorZ6
import Derived.Test.YtjaockmbnjflaaaGreatDoorZ15
import Derived.Test.YtjaockmbnjflaaaGreatDoorZ12
import Derived.LoopTactic
import Derived.Test.YtjaockmbnjflaaaGreatDoorZ13
import Derived.Test.YtjaockmbnjflaaaGreatDoorZ10
import Derived.Lib.Hide
import Derived.Test.YtjaockmbnjflaaaGreatDoorZ3
import Derived.BigQuiet
import Derived.Deep.QuietTactic
import Derived.OwnWalk
import Derived.WalkKit
namespace Go.Proofs.YtjaockmbnjflaaaGreatDoor
open Go.RowKit

theorem arcX0 (W : World) : Calls Tryz.prog 50 #[.string ⟨#[31, 139, 8]⟩, .string ⟨#[97, 112, 112, 108, 105, 99, 97, 116, 105, 111, 110, 47, 120, 45, 103, 122, 105, 112]⟩, .int .i64 0, .int .i64 0] W fun e w' => e = .returned (patV ⟨#[31, 139, 8]⟩ ⟨#[255, 255, 255]⟩ ⟨#[]⟩ ⟨#[97, 112, 112, 108, 105, 99, 97, 116, 105, 111, 110, 47, 120, 45, 103, 122, 105, 112]⟩) ∧ Below W.heap.size W w' := by
  have := rExact_any ⟨#[31, 139, 8]⟩ ⟨#[97, 112, 112, 108, 105, 99, 97, 116, 105, 111, 110, 47, 120, 45, 103, 122, 105, 112]⟩ 0 0 W (by decide)
  rwa [show exM (⟨#[31, 139, 8]⟩ : ByteArray).size 0 0 = ⟨#[255, 255, 255]⟩ from by kernel_rfl] at this
theorem arcX1 (W : World) : Calls Tryz.prog 50 #[.string ⟨#[80, 75, 3, 4]⟩, .string ⟨#[97, 112, 112, 108, 105, 99, 97, 116, 105, 111, 110, 47, 122, 105, 112]⟩, .int .i64 0, .int .i64 0] W fun e w' => e = .returned (patV ⟨#[80, 75, 3, 4]⟩ ⟨#[255, 255, 255, 255]⟩ ⟨#[]⟩ ⟨#[97, 112, 112, 108, 105, 99, 97, 116, 105, 111, 110, 47, 122, 105, 112]⟩) ∧ Below W.heap.size W w' := by
  have := rExact_any ⟨#[80, 75, 3, 4]⟩ ⟨#[97, 112, 112, 108, 105, 99, 97, 116, 105, 111, 110, 47, 122, 105, 112]⟩ 0 0 W (by decide)
  rwa [show exM (⟨#[80, 75, 3, 4]⟩ : ByteArray).size 0 0 = ⟨#[255, 255, 255, 255]⟩ from by kernel_rfl] at this
theorem arcX2 (W : World) : Calls Tryz.prog 50 #[.string ⟨#[82, 97, 114, 32, 26, 7, 0]⟩, .string ⟨#[97, 112, 112, 108, 105, 99, 97, 116, 105, 111, 110, 47, 120, 45, 114, 97, 114, 45, 99, 111, 109, 112, 114, 101, 115, 115, 101, 100]⟩, .int .i64 0, .int .i64 0] W fun e w' => e = .returned (patV ⟨#[82, 97, 114, 32, 26, 7, 0]⟩ ⟨#[255, 255, 255, 255, 255, 255, 255]⟩ ⟨#[]⟩ ⟨#[97, 112, 112, 108, 105, 99, 97, 116, 105, 111, 110, 47, 120, 45, 114, 97, 114, 45, 99, 111, 109, 112, 114, 101, 115, 115, 101, 100]⟩) ∧ Below W.heap.size W w' := by
  have := rExact_any ⟨#[82, 97, 114, 32, 26, 7, 0]⟩ ⟨#[97, 112, 112, 108, 105, 99, 97, 116, 105, 111, 110, 47, 120, 45, 114, 97, 114, 45, 99, 111, 109, 112, 114, 101, 115, 115, 101, 100]⟩ 0 0 W (by decide)
  rwa [show exM (⟨#[82, 97, 114, 32, 26, 7, 0]⟩ : ByteArray).size 0 0 = ⟨#[255, 255, 255, 255, 255, 255, 255]⟩ from by kernel_rfl] at this
/-- The cells of a table of three patterns. -/
def cells3 (ps : Nat → Pat) : Array Value := #[.string (ps 0).b, .string (ps 0).m, .string (ps 0).k, .string (ps 0).t, .string (ps 1).b, .string (ps 1).m, .string (ps 1).k, .string (ps 1).t, .string (ps 2).b, .string (ps 2).m, .string (ps 2).k, .string (ps 2).t]
theorem pats3 {W : World} {g : Nat} {ps : Nat → Pat} (h : Blk W g 38 (cells3 ps)) : PatsIn W g ps 3 :=
  ⟨h.lt, fun i hi => match i, hi with
    | 0, _ => ⟨h.cell 0, h.cell 1, h.cell 2, h.cell 3⟩
    | 1, _ => ⟨h.cell 4, h.cell 5, h.cell 6, h.cell 7⟩
    | 2, _ => ⟨h.cell 8, h.cell 9, h.cell 10, h.cell 11⟩
    | n + 3, h => absurd h (by omega)⟩

set_option maxHeartbeats 2000000 in
set_option maxRecDepth 100000 in
theorem refArchives_any (w : World) :
    Calls Tryz.prog 32 #[] w fun e w' => ∃ g, e = .returned (.slice (some ⟨g, 0, none⟩) 3 3) ∧ w.heap.size ≤ g ∧ PatsIn w' g arcP 3 ∧ Below w.heap.size w w' := by
  have HB := Lib.hid (Below.refl w.heap.size w)
  go_enter Tryz.func32, Tryz.ntmps32
  go_wp2_with (go_at_call 50; (first | with_reducible refine (arcX0 _).mono ?_ | with_reducible refine (arcX1 _).mono ?_ | with_reducible refine (arcX2 _).mono ?_); rintro e w1 ⟨rfl, b1⟩; have HB := Lib.hid (HB.out.trans (b1.mono HB.out.size)); clear b1)
  go_ret
  exact ⟨w1.heap.size, rfl, HB.out.size, pats3 (Blk.new w1 _ (cells3 arcP)), HB.out.alloc HB.out.size _⟩

end Go.Proofs.YtjaockmbnjflaaaGreatDoor
namespace Go.Proofs.YtjaockmbnjflaaaGreatDoor

theorem at_left {x y : ByteArray} {i : Nat} (h : i < x.size) : (x ++ y)[i]! = x[i]! := by
  have h2 : i < (x ++ y).size := by rw [ByteArray.size_append]; omega
  rw [getElem!_pos (x ++ y) i h2, getElem!_pos x i h]
  exact ByteArray.getElem_append_left h
theorem behind (x y : ByteArray) : (x ++ y).extract x.size (x ++ y).size = y := by
  have h : (x.extract x.size (x.size + y.size)).size = 0 := by simp
  have h0 : x.extract x.size (x.size + y.size) = ByteArray.empty := ByteArray.size_eq_zero_iff.1 h
  rw [ByteArray.size_append, ByteArray.extract_append, h0]
  simp
end Go.Proofs.YtjaockmbnjflaaaGreatDoor
namespace Go.Proofs.YtjaockmbnjflaaaGreatDoor
open Go.RowKit

theorem byte_ne {a b : UInt8} {n : Int} (h : a ≠ b) (hn : (b.toNat : Int) = n) : ((a.toNat : Int) == n) = false := by
  rw [beq_eq_false_iff_ne, ← hn]
  intro e
  exact h (UInt8.toNat_inj.1 (by omega))

end Go.Proofs.YtjaockmbnjflaaaGreatDoor
