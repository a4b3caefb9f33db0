/-
  The statement of LexerFeeds: for all texts and every depth the law returns true. No condition beyond the statement's own.
-/
import Derived.Test.YtbojbkpplejdmaaGreatZ26
import Derived.ChangeMaps5
import Derived.Test.YtbojbkpplejdmaaGreatZ25
namespace Go.Proofs.YtbojbkpplejdmaaGreat
open Go.ChangeShapes Go.WideShapes Go.ChangeAt Go.RowKit Go.Joins

set_option maxRecDepth 100000 in
theorem lexerFeeds_lifted (os : Os) (started : os.Started) (H : Type) (enc : TypeId × Value → H) :
    ReturnsInHanded {} Tryz.checked os 4 .any (Rows.lexerFeedsSpec.pre6 enc Tryz.prog Tryz.f4 Rows.lexerFeedsRow.domain false) (Rows.lexerFeedsSpec.post enc Tryz.prog Tryz.f4 false true false false) := by
  refine law_lifted (C := Tryz.checked) (tb := 4) Tryz.own started (by kernel_rfl) Tryz.func4 Tryz.laidOut rfl rfl Tryz.underlying4 (by kernel_rfl) ?_
    (ChangeSpec.witness6 (enc := enc) (C := Tryz.checked) false ⟨#[], #[.slice none 0 0, .int .i64 0], []⟩ 8 (by kernel_rfl) (by kernel_rfl) (by kernel_rfl) (by kernel_rfl)) ?_
  · intro ds h
    rw [Tryz.params4] at h
    match ds, h with
    | [d0, d1], _ => exact ⟨rfl, rfl, rfl⟩
  · intro W base args ds p hval hA hlt
    rw [Tryz.params4] at hA hval
    obtain ⟨v0, v1, d0, d1, p0, p1, rfl, rfl, rfl, h0, h1⟩ := trodAll_two hA
    obtain ⟨A, n, c, lp, rfl, hn, hd⟩ := open_txs (hval 0 28 v0 rfl rfl) h0
    obtain ⟨i1, rfl, _, _, hwf1⟩ := open_int Tryz.underlying3 (hval 1 3 v1 rfl rfl) h1
    exact lexerFeeds_any A n c lp i1 W hd hn

theorem lexerFeeds_holds : Rows.LexerFeedsSaid :=
  OpenClaim.holds_of_wide 4 Tryz.f4 rfl rfl rfl rfl rfl rfl rfl ⟨rfl, rfl, rfl, rfl, rfl⟩ rfl rfl rfl rfl rfl (by kernel_rfl) Tryz.func4 (by kernel_rfl)
    (of_decide_eq_true (by kernel_rfl)) (by unfold Func.isWrapper; rw [if_neg (of_decide_eq_false (by kernel_rfl))]; exact ⟨rfl, rfl⟩)
    (fun os started H enc _ => lexerFeeds_lifted os started H enc)

#print axioms lexerFeeds_holds
end Go.Proofs.YtbojbkpplejdmaaGreat
