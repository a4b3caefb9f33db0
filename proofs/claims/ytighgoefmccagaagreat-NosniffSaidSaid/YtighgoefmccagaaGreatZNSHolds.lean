/-
  The statement of NosniffSaid: for all headers the law returns true. No condition beyond the statement's own.
-/
import Derived.Test.YtighgoefmccagaaGreatZ28
import Derived.ChangeMaps5
import Derived.Test.YtighgoefmccagaaGreatZ13
namespace Go.Proofs.YtighgoefmccagaaGreat
open Go.ChangeShapes Go.WideShapes Go.ChangeAt Go.RowKit Go.Joins

set_option maxRecDepth 100000 in
theorem nosniffSaid_lifted (os : Os) (started : os.Started) (H : Type) (enc : TypeId × Value → H) :
    ReturnsInHanded {} Tryz.checked os 3 .any (Rows.nosniffSaidSpec.pre6 enc Tryz.prog Tryz.f3 Rows.nosniffSaidRow.domain false) (Rows.nosniffSaidSpec.post enc Tryz.prog Tryz.f3 false true false false) := by
  refine law_lifted (C := Tryz.checked) (tb := 4) Tryz.own started (by kernel_rfl) Tryz.func3 Tryz.laidOut rfl rfl Tryz.underlying4 (by kernel_rfl) ?_
    (ChangeSpec.witness6 (enc := enc) (C := Tryz.checked) false ⟨#[], #[.slice none 0 0], []⟩ 8 (by kernel_rfl) (by kernel_rfl) (by kernel_rfl) (by kernel_rfl)) ?_
  · intro ds h
    rw [Tryz.params3] at h
    obtain ⟨d, rfl⟩ := List.length_eq_one_iff.1 h
    exact ⟨rfl, rfl, rfl⟩
  · intro W base args ds p hval hA hlt
    rw [Tryz.params3] at hA hval
    obtain ⟨v0, d0, rfl, rfl, h0⟩ := trodAll_one hA
    obtain ⟨A, n, c, lp, rfl, hn, hd⟩ := open_hdrs (hval 0 22 v0 rfl rfl) h0
    exact nsaidLaw_any A n c lp W hd hn

theorem nosniffSaid_holds : Rows.NosniffSaidSaid :=
  OpenClaim.holds_of_wide 3 Tryz.f3 rfl rfl rfl rfl rfl rfl rfl ⟨rfl, rfl, rfl, rfl, rfl⟩ rfl rfl rfl rfl rfl (by kernel_rfl) Tryz.func3 (by kernel_rfl)
    (of_decide_eq_true (by kernel_rfl)) (by unfold Func.isWrapper; rw [if_neg (of_decide_eq_false (by kernel_rfl))]; exact ⟨rfl, rfl⟩)
    (fun os started H enc _ => nosniffSaid_lifted os started H enc)

#print axioms nosniffSaid_holds
end Go.Proofs.YtighgoefmccagaaGreat
