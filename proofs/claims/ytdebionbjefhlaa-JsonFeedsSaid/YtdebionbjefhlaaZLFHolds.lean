/-
  The statement of JsonFeeds: for all texts and every depth the law returns true. No condition beyond the statement's own.
-/
import Derived.Test.YtdebionbjefhlaaZ14
import Derived.ChangeMaps5
import Derived.Test.YtdebionbjefhlaaZ13
namespace Go.Proofs.Ytdebionbjefhlaa
open Go.ChangeShapes Go.WideShapes Go.ChangeAt Go.RowKit Go.Joins

set_option maxRecDepth 100000 in
theorem jsonFeeds_lifted (os : Os) (started : os.Started) (H : Type) (enc : TypeId × Value → H) :
    ReturnsInHanded {} Try.checked os 4 .any (Rows.jsonFeedsSpec.pre6 enc Try.prog Try.f4 Rows.jsonFeedsRow.domain false) (Rows.jsonFeedsSpec.post enc Try.prog Try.f4 false true false false) := by
  refine law_lifted (C := Try.checked) (tb := 4) Try.own started (by kernel_rfl) Try.func4 Try.laidOut rfl rfl Try.underlying4 (by kernel_rfl) ?_
    (ChangeSpec.witness6 (enc := enc) (C := Try.checked) false ⟨#[], #[.slice none 0 0, .int .i64 0], []⟩ 8 (by kernel_rfl) (by kernel_rfl) (by kernel_rfl) (by kernel_rfl)) ?_
  · intro ds h
    rw [Try.params4] at h
    match ds, h with
    | [d0, d1], _ => exact ⟨rfl, rfl, rfl⟩
  · intro W base args ds p hval hA hlt
    rw [Try.params4] at hA hval
    obtain ⟨v0, v1, d0, d1, p0, p1, rfl, rfl, rfl, h0, h1⟩ := trodAll_two hA
    obtain ⟨A, n, c, lp, rfl, hn, hd⟩ := open_txs (hval 0 28 v0 rfl rfl) h0
    obtain ⟨i1, rfl, _, _, hwf1⟩ := open_int Try.underlying3 (hval 1 3 v1 rfl rfl) h1
    exact jsonFeeds_any A n c lp i1 W hd hn

theorem jsonFeeds_holds : Rows.JsonFeedsSaid :=
  OpenClaim.holds_of_wide 4 Try.f4 rfl rfl rfl rfl rfl rfl rfl ⟨rfl, rfl, rfl, rfl, rfl⟩ rfl rfl rfl rfl rfl (by kernel_rfl) Try.func4 (by kernel_rfl)
    (of_decide_eq_true (by kernel_rfl)) (by unfold Func.isWrapper; rw [if_neg (of_decide_eq_false (by kernel_rfl))]; exact ⟨rfl, rfl⟩)
    (fun os started H enc _ => jsonFeeds_lifted os started H enc)

#print axioms jsonFeeds_holds
end Go.Proofs.Ytdebionbjefhlaa
