/-
  The statement of CombineExtracts: for all texts the law returns true. No condition beyond the statement's own.
-/
import Derived.Test.YtmepnfkgfbbkiaaGreatZ5
import Derived.Test.YtmepnfkgfbbkiaaGreatZ6
import Derived.Test.YtmepnfkgfbbkiaaGreatLift
namespace Go.Proofs.YtmepnfkgfbbkiaaGreat
open Go.ChangeShapes Go.WideShapes Go.ChangeAt Go.RowKit Go.Joins

set_option maxRecDepth 100000 in
theorem combineExtracts_lifted (os : Os) (started : os.Started) (H : Type) (enc : TypeId × Value → H) :
    ReturnsInHanded {} Tryz.checked os 4 .any (Rows.combineExtractsSpec.pre6 enc Tryz.prog Tryz.f4 Rows.combineExtractsRow.domain false) (Rows.combineExtractsSpec.post enc Tryz.prog Tryz.f4 false true false false) := by
  refine law_lifted (C := Tryz.checked) (tb := 4) Tryz.own started (by kernel_rfl) Tryz.func4 Tryz.laidOut rfl rfl Tryz.underlying4 (by kernel_rfl) ?_
    (ChangeSpec.witness6 (enc := enc) (C := Tryz.checked) false ⟨#[], #[.slice none 0 0], []⟩ 8 (by kernel_rfl) (by kernel_rfl) (by kernel_rfl) (by kernel_rfl)) ?_
  · intro ds h
    rw [Tryz.params4] at h
    obtain ⟨d, rfl⟩ := List.length_eq_one_iff.1 h
    exact ⟨rfl, rfl, rfl⟩
  · intro W base args ds p hval hA hlt
    rw [Tryz.params4] at hA hval
    obtain ⟨v0, d0, rfl, rfl, h0⟩ := trodAll_one hA
    obtain ⟨A, n, c, lp, rfl, hn, hd⟩ := open_txs (hval 0 22 v0 rfl rfl) h0
    exact combineExtracts_any A n c lp W hd hn

theorem combineExtracts_holds : Rows.CombineExtractsSaid :=
  OpenClaim.holds_of_wide 4 Tryz.f4 rfl rfl rfl rfl rfl rfl rfl ⟨rfl, rfl, rfl, rfl, rfl⟩ rfl rfl rfl rfl rfl (by kernel_rfl) Tryz.func4 (by kernel_rfl)
    (of_decide_eq_true (by kernel_rfl)) (by unfold Func.isWrapper; rw [if_neg (of_decide_eq_false (by kernel_rfl))]; exact ⟨rfl, rfl⟩)
    (fun os started H enc _ => combineExtracts_lifted os started H enc)

#print axioms combineExtracts_holds
end Go.Proofs.YtmepnfkgfbbkiaaGreat
