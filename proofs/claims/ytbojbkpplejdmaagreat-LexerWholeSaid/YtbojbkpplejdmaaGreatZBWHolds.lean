/-
  The statement of LexerWhole: for every text and depth, ended or not, the law returns true. No condition beyond the statement's own.
-/
import Derived.Test.YtbojbkpplejdmaaGreatZ24
import Derived.ChangeMaps5
import Derived.Test.YtbojbkpplejdmaaGreatZ25
namespace Go.Proofs.YtbojbkpplejdmaaGreat
open Go.ChangeShapes Go.WideShapes Go.ChangeAt Go.RowKit Go.Joins

set_option maxRecDepth 100000 in
theorem lexerWhole_lifted (os : Os) (started : os.Started) (H : Type) (enc : TypeId × Value → H) :
    ReturnsInHanded {} Tryz.checked os 3 .any (Rows.lexerWholeSpec.pre6 enc Tryz.prog Tryz.f3 Rows.lexerWholeRow.domain false) (Rows.lexerWholeSpec.post enc Tryz.prog Tryz.f3 false true false false) := by
  refine law_lifted (C := Tryz.checked) (tb := 4) Tryz.own started (by kernel_rfl) Tryz.func3 Tryz.laidOut rfl rfl Tryz.underlying4 (by kernel_rfl) ?_
    (ChangeSpec.witness6 (enc := enc) (C := Tryz.checked) false ⟨#[], #[.string ⟨#[]⟩, .int .u8 0, .bool false], []⟩ 8 (by kernel_rfl) (by kernel_rfl) (by kernel_rfl) (by kernel_rfl)) ?_
  · intro ds h
    rw [Tryz.params3] at h
    match ds, h with
    | [d0, d1, d2], _ => exact ⟨rfl, rfl, rfl⟩
  · intro W base args ds p hval hA hlt
    rw [Tryz.params3] at hA hval
    obtain ⟨v0, v1, v2, d0, d1, d2, p0, p1, p2, rfl, rfl, rfl, h0, h1, h2⟩ := trodAll_three hA
    obtain ⟨s0, rfl, _, _, hs0⟩ := Go.ChangeMaps.open_string Tryz.underlying9 (hval 0 9 v0 rfl rfl) h0
    unfold maxLen at hs0
    obtain ⟨n1, rfl, _, _, hwf1⟩ := open_int Tryz.underlying5 (hval 1 5 v1 rfl rfl) h1
    obtain ⟨b1, rfl⟩ := byte_of hwf1
    have lb := b1.toNat_lt
    obtain ⟨o2, rfl, _, _⟩ := open_bool Tryz.underlying4 (hval 2 4 v2 rfl rfl) h2
    exact lexerWhole_any s0 b1.toNat o2 W hs0 (by omega)

theorem lexerWhole_holds : Rows.LexerWholeSaid :=
  OpenClaim.holds_of_wide 3 Tryz.f3 rfl rfl rfl rfl rfl rfl rfl ⟨rfl, rfl, rfl, rfl, rfl⟩ rfl rfl rfl rfl rfl (by kernel_rfl) Tryz.func3 (by kernel_rfl)
    (of_decide_eq_true (by kernel_rfl)) (by unfold Func.isWrapper; rw [if_neg (of_decide_eq_false (by kernel_rfl))]; exact ⟨rfl, rfl⟩)
    (fun os started H enc _ => lexerWhole_lifted os started H enc)

#print axioms lexerWhole_holds
end Go.Proofs.YtbojbkpplejdmaaGreat
