/-
  The statement of CombineSteps: for any two types and any charset the law returns true. No condition beyond the statement's own.
-/
import Derived.Test.YtmepnfkgfbbkiaaZ5
import Derived.Test.YtmepnfkgfbbkiaaMco
import Derived.Test.YtmepnfkgfbbkiaaLift
namespace Go.Proofs.Ytmepnfkgfbbkiaa
open Go.ChangeShapes Go.WideShapes Go.ChangeAt Go.RowKit Go.Joins

set_option maxRecDepth 100000 in
theorem combineSteps_lifted (os : Os) (started : os.Started) (H : Type) (enc : TypeId × Value → H) :
    ReturnsInHanded {} Try.checked os 3 .any (Rows.combineStepsSpec.pre6 enc Try.prog Try.f3 Rows.combineStepsRow.domain false) (Rows.combineStepsSpec.post enc Try.prog Try.f3 false true false false) := by
  refine law_lifted (C := Try.checked) (tb := 4) Try.own started (by kernel_rfl) Try.func3 Try.laidOut rfl rfl Try.underlying4 (by kernel_rfl) ?_
    (ChangeSpec.witness6 (enc := enc) (C := Try.checked) false ⟨#[], #[.agg #[.string ⟨#[]⟩, .string ⟨#[]⟩, .slice none 0 0], .agg #[.string ⟨#[]⟩, .string ⟨#[]⟩, .slice none 0 0], .string ⟨#[]⟩], []⟩ 8 (by kernel_rfl) (by kernel_rfl) (by kernel_rfl) (by kernel_rfl)) ?_
  · intro ds h
    rw [Try.params3] at h
    match ds, h with
    | [d0, d1, d2], _ => exact ⟨rfl, rfl, rfl⟩
  · intro W base args ds p hval hA hlt
    rw [Try.params3] at hA hval
    obtain ⟨v0, v1, v2, d0, d1, d2, p0, p1, p2, rfl, rfl, rfl, h0, h1, h2⟩ := trodAll_three hA
    obtain ⟨t0, u0, A0, n0, c0, l0, rfl, a0, b0, e0, m0⟩ := open_mime (hval 0 24 v0 rfl rfl) h0
    obtain ⟨t1, u1, A1, n1, c1, l1, rfl, a1, b1, e1, m1⟩ := open_mime (hval 1 24 v1 rfl rfl) h1
    obtain ⟨s2, rfl, _, _, hs2⟩ := Go.ChangeMaps.open_string Try.underlying9 (hval 2 9 v2 rfl rfl) h2
    unfold maxLen at hs2
    exact combineSteps_any t0 u0 t1 u1 s2 A0 A1 n0 c0 n1 c1 l0 l1 W m0 m1 a0 b0 e0 a1 b1 e1 hs2

theorem combineSteps_holds : Rows.CombineStepsSaid :=
  OpenClaim.holds_of_wide 3 Try.f3 rfl rfl rfl rfl rfl rfl rfl ⟨rfl, rfl, rfl, rfl, rfl⟩ rfl rfl rfl rfl rfl (by kernel_rfl) Try.func3 (by kernel_rfl)
    (of_decide_eq_true (by kernel_rfl)) (by unfold Func.isWrapper; rw [if_neg (of_decide_eq_false (by kernel_rfl))]; exact ⟨rfl, rfl⟩)
    (fun os started H enc _ => combineSteps_lifted os started H enc)

#print axioms combineSteps_holds
end Go.Proofs.Ytmepnfkgfbbkiaa
