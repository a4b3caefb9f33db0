/-
  The statement of TrapCatches: for every deed the law returns true, and the deed reads as before. No condition beyond the statement's own.
-/
import Derived.Test.YtnifdponeccdgaaOpen
import Derived.Test.YtnifdponeccdgaaCatches
namespace Go.Proofs.Ytnifdponeccdgaa
open Go.ChangeShapes Go.WideShapes Go.ChangeAt Go.RowKit Go.Joins

set_option maxRecDepth 100000 in
theorem trapCatches_lifted (os : Os) (started : os.Started) (H : Type) (enc : TypeId × Value → H) :
    ReturnsInHanded {} Try.checked os 3 .any (Rows.trapCatchesSpec.pre6 enc Try.prog Try.f3 Rows.trapCatchesRow.domain false) (Rows.trapCatchesSpec.post enc Try.prog Try.f3 false true false false) := by
  refine law_lifted (C := Try.checked) (tb := 4) Try.own started (by kernel_rfl) Try.func3 Try.laidOut rfl rfl Try.underlying4 (by kernel_rfl) ?_
    (ChangeSpec.witness6 (enc := enc) (C := Try.checked) false ⟨#[], #[.agg #[.int .i64 0, .int .i64 0, .bool false, .int .i64 0]], []⟩ 8 (by kernel_rfl) (by kernel_rfl) (by kernel_rfl) (by kernel_rfl)) ?_
  · intro ds h
    rw [Try.params3] at h
    obtain ⟨d, rfl⟩ := List.length_eq_one_iff.1 h
    exact ⟨rfl, rfl, rfl⟩
  · intro W base args ds p hval hA _
    rw [Try.params3] at hA hval
    obtain ⟨v0, d0, rfl, rfl, h0⟩ := trodAll_one hA
    obtain ⟨a, c, f, n, rfl, _, _, _⟩ := open_deed (hval 0 24 v0 rfl rfl) h0
    cases f
    · exact trapCatches_idle a c n W
    · exact trapCatches_fails a c n W

theorem trapCatches_holds : Rows.TrapCatchesSaid :=
  OpenClaim.holds_of_wide 3 Try.f3 rfl rfl rfl rfl rfl rfl rfl ⟨rfl, rfl, rfl, rfl, rfl⟩ rfl rfl rfl rfl rfl (by kernel_rfl) Try.func3 (by kernel_rfl)
    (of_decide_eq_true (by kernel_rfl)) (by unfold Func.isWrapper; rw [if_neg (of_decide_eq_false (by kernel_rfl))]; exact ⟨rfl, rfl⟩)
    (fun os started H enc _ => trapCatches_lifted os started H enc)

#print axioms trapCatches_holds
end Go.Proofs.Ytnifdponeccdgaa
