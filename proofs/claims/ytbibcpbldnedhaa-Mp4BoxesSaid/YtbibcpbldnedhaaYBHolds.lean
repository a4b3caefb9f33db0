/-
  The statement of Mp4Boxes: for every text and all twos of texts the law returns true. No condition beyond the statement's own.
-/
import Derived.Test.YtbibcpbldnedhaaYl
import Derived.ChangeMaps5
import Derived.Test.YtbibcpbldnedhaaLift
namespace Go.Proofs.Ytbibcpbldnedhaa
open Go.ChangeShapes Go.WideShapes Go.ChangeAt Go.RowKit Go.Joins

set_option maxRecDepth 100000 in
theorem mp4Boxes_lifted (os : Os) (started : os.Started) (H : Type) (enc : TypeId × Value → H) :
    ReturnsInHanded {} Try.checked os 5 .any (Rows.mp4BoxesSpec.pre6 enc Try.prog Try.f5 Rows.mp4BoxesRow.domain false) (Rows.mp4BoxesSpec.post enc Try.prog Try.f5 false true false false) := by
  refine law_lifted_sized (C := Try.checked) (tb := 4) Try.own started (by kernel_rfl) Try.func5 Try.laidOut rfl rfl Try.underlying4 (by kernel_rfl) ?_
    (ChangeSpec.witness6 (enc := enc) (C := Try.checked) false ⟨#[], #[.string ⟨#[]⟩, .slice none 0 0], []⟩ 8 (by kernel_rfl) (by kernel_rfl) (by kernel_rfl) (by kernel_rfl)) ?_
  · intro ds h
    rw [Try.params5] at h
    match ds, h with
    | [d0, d1], _ => exact ⟨rfl, rfl, rfl⟩
  · intro W base args ds p hval hA hlt hsz
    rw [Try.params5] at hA hval hsz
    obtain ⟨v0, v1, d0, d1, p0, p1, rfl, rfl, rfl, h0, h1⟩ := trodAll_two hA
    obtain ⟨s0, rfl, _, _, hs0⟩ := Go.ChangeMaps.open_string Try.underlying9 (hval 0 9 v0 rfl rfl) h0
    unfold maxLen at hs0
    obtain ⟨A, n, c, lp, rfl, hn, hd⟩ := open_twos (hval 1 32 v1 rfl rfl) h1 (fun k hk => by
      have := List.all_eq_true.1 hsz k (DataW.weights_mem_each (j := 1) rfl rfl k hk)
      simpa using this)
    exact mp4BoxesLaw_any s0 A n c lp W hs0 hd hn

theorem mp4Boxes_holds : Rows.Mp4BoxesSaid :=
  OpenClaim.holds_of_wide 5 Try.f5 rfl rfl rfl rfl rfl rfl rfl ⟨rfl, rfl, rfl, rfl, rfl⟩ rfl rfl rfl rfl rfl (by kernel_rfl) Try.func5 (by kernel_rfl)
    (of_decide_eq_true (by kernel_rfl)) (by unfold Func.isWrapper; rw [if_neg (of_decide_eq_false (by kernel_rfl))]; exact ⟨rfl, rfl⟩)
    (fun os started H enc _ => mp4Boxes_lifted os started H enc)

#print axioms mp4Boxes_holds
end Go.Proofs.Ytbibcpbldnedhaa
