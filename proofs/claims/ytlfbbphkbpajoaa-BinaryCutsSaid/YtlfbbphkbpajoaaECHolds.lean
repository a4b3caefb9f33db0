/-
  The statement of BinaryCuts: for every text and number the law returns true. No condition beyond the statement's own.
-/
import Derived.Test.YtlfbbphkbpajoaaEf
import Derived.ChangeMaps5
import Derived.Test.YtlfbbphkbpajoaaLift
namespace Go.Proofs.Ytlfbbphkbpajoaa
open Go.ChangeShapes Go.WideShapes Go.ChangeAt Go.RowKit Go.Joins

set_option maxRecDepth 100000 in
theorem binaryCuts_lifted (os : Os) (started : os.Started) (H : Type) (enc : TypeId × Value → H) :
    ReturnsInHanded {} Try.checked os 5 .any (Rows.binaryCutsSpec.pre6 enc Try.prog Try.f5 Rows.binaryCutsRow.domain false) (Rows.binaryCutsSpec.post enc Try.prog Try.f5 false true false false) := by
  refine law_lifted (C := Try.checked) (tb := 4) Try.own started (by kernel_rfl) Try.func5 Try.laidOut rfl rfl Try.underlying4 (by kernel_rfl) ?_
    (ChangeSpec.witness6 (enc := enc) (C := Try.checked) false ⟨#[], #[.string ⟨#[]⟩, .int .u16 0], []⟩ 8 (by kernel_rfl) (by kernel_rfl) (by kernel_rfl) (by kernel_rfl)) ?_
  · intro ds h
    rw [Try.params5] at h
    match ds, h with
    | [d0, d1], _ => exact ⟨rfl, rfl, rfl⟩
  · intro W base args ds p hval hA hlt
    rw [Try.params5] at hA hval
    obtain ⟨v0, v1, d0, d1, p0, p1, rfl, rfl, rfl, h0, h1⟩ := trodAll_two hA
    obtain ⟨s0, rfl, _, _, hs0⟩ := Go.ChangeMaps.open_string Try.underlying9 (hval 0 9 v0 rfl rfl) h0
    unfold maxLen at hs0
    obtain ⟨n1, rfl, _, _, w1⟩ := open_int Try.underlying36 (hval 1 36 v1 rfl rfl) h1
    obtain ⟨b1, rfl, l1⟩ := bits16_of w1
    exact binaryCuts_any s0 b1 W hs0 l1

theorem binaryCuts_holds : Rows.BinaryCutsSaid :=
  OpenClaim.holds_of_wide 5 Try.f5 rfl rfl rfl rfl rfl rfl rfl ⟨rfl, rfl, rfl, rfl, rfl⟩ rfl rfl rfl rfl rfl (by kernel_rfl) Try.func5 (by kernel_rfl)
    (of_decide_eq_true (by kernel_rfl)) (by unfold Func.isWrapper; rw [if_neg (of_decide_eq_false (by kernel_rfl))]; exact ⟨rfl, rfl⟩)
    (fun os started H enc _ => binaryCuts_lifted os started H enc)

#print axioms binaryCuts_holds
end Go.Proofs.Ytlfbbphkbpajoaa
