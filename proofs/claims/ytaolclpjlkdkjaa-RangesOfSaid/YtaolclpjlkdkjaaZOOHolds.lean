/-
  The statement of RangesOf: for all headers the law returns true. No condition beyond the statement's own.
-/
import Derived.Test.YtaolclpjlkdkjaaZ25
import Derived.ChangeMaps5
import Derived.Test.YtaolclpjlkdkjaaZ18
namespace Go.Proofs.Ytaolclpjlkdkjaa
open Go.ChangeShapes Go.WideShapes Go.ChangeAt Go.RowKit Go.Joins

set_option maxRecDepth 100000 in
theorem rangesOf_lifted (os : Os) (started : os.Started) (H : Type) (enc : TypeId × Value → H) :
    ReturnsInHanded {} Try.checked os 5 .any (Rows.rangesOfSpec.pre6 enc Try.prog Try.f5 Rows.rangesOfRow.domain false) (Rows.rangesOfSpec.post enc Try.prog Try.f5 false true false false) := by
  refine law_lifted (C := Try.checked) (tb := 4) Try.own started (by kernel_rfl) Try.func5 Try.laidOut rfl rfl Try.underlying4 (by kernel_rfl) ?_
    (ChangeSpec.witness6 (enc := enc) (C := Try.checked) false ⟨#[], #[.slice none 0 0], []⟩ 8 (by kernel_rfl) (by kernel_rfl) (by kernel_rfl) (by kernel_rfl)) ?_
  · intro ds h
    rw [Try.params5] at h
    obtain ⟨d, rfl⟩ := List.length_eq_one_iff.1 h
    exact ⟨rfl, rfl, rfl⟩
  · intro W base args ds p hval hA hlt
    rw [Try.params5] at hA hval
    obtain ⟨v0, d0, rfl, rfl, h0⟩ := trodAll_one hA
    obtain ⟨A, n, c, lp, rfl, hn, hd⟩ := open_hdrs (hval 0 37 v0 rfl rfl) h0
    exact lof24_any A n c lp W hd hn

theorem rangesOf_holds : Rows.RangesOfSaid :=
  OpenClaim.holds_of_wide 5 Try.f5 rfl rfl rfl rfl rfl rfl rfl ⟨rfl, rfl, rfl, rfl, rfl⟩ rfl rfl rfl rfl rfl (by kernel_rfl) Try.func5 (by kernel_rfl)
    (of_decide_eq_true (by kernel_rfl)) (by unfold Func.isWrapper; rw [if_neg (of_decide_eq_false (by kernel_rfl))]; exact ⟨rfl, rfl⟩)
    (fun os started H enc _ => rangesOf_lifted os started H enc)

#print axioms rangesOf_holds
end Go.Proofs.Ytaolclpjlkdkjaa
