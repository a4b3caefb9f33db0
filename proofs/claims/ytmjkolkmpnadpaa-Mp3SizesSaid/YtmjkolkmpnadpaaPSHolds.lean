/-
  The statement of Mp3Sizes: for every frame the law returns true. No condition beyond the statement's own.
-/
import Derived.Test.YtmjkolkmpnadpaaPt
import Derived.ChangeMaps5
import Derived.Test.YtmjkolkmpnadpaaLift
namespace Go.Proofs.Ytmjkolkmpnadpaa
open Go.ChangeShapes Go.WideShapes Go.ChangeAt Go.RowKit Go.Joins

set_option maxRecDepth 100000 in
theorem mp3Sizes_lifted (os : Os) (started : os.Started) (H : Type) (enc : TypeId × Value → H) :
    ReturnsInHanded {} Try.checked os 4 .any (Rows.mp3SizesSpec.pre6 enc Try.prog Try.f4 Rows.mp3SizesRow.domain false) (Rows.mp3SizesSpec.post enc Try.prog Try.f4 false true false false) := by
  refine law_lifted (C := Try.checked) (tb := 4) Try.own started (by kernel_rfl) Try.func4 Try.laidOut rfl rfl Try.underlying4 (by kernel_rfl) ?_
    (ChangeSpec.witness6 (enc := enc) (C := Try.checked) false ⟨#[], #[.agg #[.int .i64 0, .int .i64 0, .int .i64 0, .int .i64 0, .bool false]], []⟩ 8 (by kernel_rfl) (by kernel_rfl) (by kernel_rfl) (by kernel_rfl)) ?_
  · intro ds h
    rw [Try.params4] at h
    obtain ⟨d, rfl⟩ := List.length_eq_one_iff.1 h
    exact ⟨rfl, rfl, rfl⟩
  · intro W base args ds p hval hA hlt
    rw [Try.params4] at hA hval
    obtain ⟨v0, d0, rfl, rfl, h0⟩ := trodAll_one hA
    obtain ⟨v, l, r, q, p, rfl⟩ := open_frm (hval 0 24 v0 rfl rfl) h0
    exact mp3Sizes_any v l r q p W

theorem mp3Sizes_holds : Rows.Mp3SizesSaid :=
  OpenClaim.holds_of_wide 4 Try.f4 rfl rfl rfl rfl rfl rfl rfl ⟨rfl, rfl, rfl, rfl, rfl⟩ rfl rfl rfl rfl rfl (by kernel_rfl) Try.func4 (by kernel_rfl)
    (of_decide_eq_true (by kernel_rfl)) (by unfold Func.isWrapper; rw [if_neg (of_decide_eq_false (by kernel_rfl))]; exact ⟨rfl, rfl⟩)
    (fun os started H enc _ => mp3Sizes_lifted os started H enc)

#print axioms mp3Sizes_holds
end Go.Proofs.Ytmjkolkmpnadpaa
