/-
  The statement of RangesFits: for every range and part the law returns true. No condition beyond the statement's own.
-/
import Derived.Test.YtaolclpjlkdkjaaZ18
import Derived.ChangeMaps5
namespace Go.Proofs.Ytaolclpjlkdkjaa
open Go.ChangeShapes Go.WideShapes Go.ChangeAt Go.RowKit Go.Joins

set_option maxRecDepth 100000 in
theorem rangesFits_lifted (os : Os) (started : os.Started) (H : Type) (enc : TypeId × Value → H) :
    ReturnsInHanded {} Try.checked os 4 .any (Rows.rangesFitsSpec.pre6 enc Try.prog Try.f4 Rows.rangesFitsRow.domain false) (Rows.rangesFitsSpec.post enc Try.prog Try.f4 false true false false) := by
  refine law_lifted (C := Try.checked) (tb := 4) Try.own started (by kernel_rfl) Try.func4 Try.laidOut rfl rfl Try.underlying4 (by kernel_rfl) ?_
    (ChangeSpec.witness6 (enc := enc) (C := Try.checked) false ⟨#[], #[.agg #[.int .i64 0, .int .i64 0], .agg #[.int .i64 0, .int .i64 0, .int .i64 0]], []⟩ 8 (by kernel_rfl) (by kernel_rfl) (by kernel_rfl) (by kernel_rfl)) ?_
  · intro ds h
    rw [Try.params4] at h
    match ds, h with
    | [d0, d1], _ => exact ⟨rfl, rfl, rfl⟩
  · intro W base args ds p hval hA hlt
    rw [Try.params4] at hA hval
    obtain ⟨v0, v1, d0, d1, q0, q1, rfl, rfl, _, h0, h1⟩ := trodAll_two hA
    obtain ⟨x, y, rfl⟩ := open_rng (hval 0 24 v0 rfl rfl) h0
    obtain ⟨a, b, c, rfl⟩ := open_part (hval 1 29 v1 rfl rfl) h1
    exact lfits_any x y a b c W

theorem rangesFits_holds : Rows.RangesFitsSaid :=
  OpenClaim.holds_of_wide 4 Try.f4 rfl rfl rfl rfl rfl rfl rfl ⟨rfl, rfl, rfl, rfl, rfl⟩ rfl rfl rfl rfl rfl (by kernel_rfl) Try.func4 (by kernel_rfl)
    (of_decide_eq_true (by kernel_rfl)) (by unfold Func.isWrapper; rw [if_neg (of_decide_eq_false (by kernel_rfl))]; exact ⟨rfl, rfl⟩)
    (fun os started H enc _ => rangesFits_lifted os started H enc)

#print axioms rangesFits_holds
end Go.Proofs.Ytaolclpjlkdkjaa
