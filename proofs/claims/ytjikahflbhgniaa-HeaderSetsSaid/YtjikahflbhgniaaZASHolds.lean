/-
  The statement of HeaderSets: for all headers, every name and every value the law returns true. No condition beyond the statement's own.
-/
import Derived.Test.YtjikahflbhgniaaZ20
import Derived.ChangeMaps5
import Derived.Test.YtjikahflbhgniaaZ10
namespace Go.Proofs.Ytjikahflbhgniaa
open Go.ChangeShapes Go.WideShapes Go.ChangeAt Go.RowKit Go.Joins

set_option maxRecDepth 100000 in
theorem headerSets_lifted (os : Os) (started : os.Started) (H : Type) (enc : TypeId × Value → H) :
    ReturnsInHanded {} Try.checked os 4 .any (Rows.headerSetsSpec.pre6 enc Try.prog Try.f4 Rows.headerSetsRow.domain false) (Rows.headerSetsSpec.post enc Try.prog Try.f4 false true false false) := by
  refine law_lifted (C := Try.checked) (tb := 4) Try.own started (by kernel_rfl) Try.func4 Try.laidOut rfl rfl Try.underlying4 (by kernel_rfl) ?_
    (ChangeSpec.witness6 (enc := enc) (C := Try.checked) false ⟨#[], #[.string ⟨#[]⟩, .string ⟨#[]⟩, .slice none 0 0], []⟩ 8 (by kernel_rfl) (by kernel_rfl) (by kernel_rfl) (by kernel_rfl)) ?_
  · intro ds h
    rw [Try.params4] at h
    match ds, h with
    | [d0, d1, d2], _ => exact ⟨rfl, rfl, rfl⟩
  · intro W base args ds p hval hA hlt
    rw [Try.params4] at hA hval
    obtain ⟨v0, v1, v2, d0, d1, d2, q0, q1, q2, rfl, rfl, _, h0, h1, h2⟩ := trodAll_three hA
    obtain ⟨s0, rfl, _, _, hs0⟩ := Go.ChangeMaps.open_string Try.underlying9 (hval 0 9 v0 rfl rfl) h0
    unfold maxLen at hs0
    obtain ⟨s1, rfl, _, _, hs1⟩ := Go.ChangeMaps.open_string Try.underlying9 (hval 1 9 v1 rfl rfl) h1
    unfold maxLen at hs1
    obtain ⟨A, n, c, lp, rfl, hn, hd⟩ := open_hdrs (hval 2 22 v2 rfl rfl) h2
    exact sets_any s0 s1 A n c lp W hd hn hs0 hs1

theorem headerSets_holds : Rows.HeaderSetsSaid :=
  OpenClaim.holds_of_wide 4 Try.f4 rfl rfl rfl rfl rfl rfl rfl ⟨rfl, rfl, rfl, rfl, rfl⟩ rfl rfl rfl rfl rfl (by kernel_rfl) Try.func4 (by kernel_rfl)
    (of_decide_eq_true (by kernel_rfl)) (by unfold Func.isWrapper; rw [if_neg (of_decide_eq_false (by kernel_rfl))]; exact ⟨rfl, rfl⟩)
    (fun os started H enc _ => headerSets_lifted os started H enc)

#print axioms headerSets_holds
end Go.Proofs.Ytjikahflbhgniaa
