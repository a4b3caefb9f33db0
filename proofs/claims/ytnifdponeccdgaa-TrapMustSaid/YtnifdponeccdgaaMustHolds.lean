/-
  The statement of TrapMust: for every deed the law returns true, and the deed reads as before. No condition beyond the statement's own.
-/
import Derived.Test.YtnifdponeccdgaaOpen
import Derived.Test.YtnifdponeccdgaaMust
namespace Go.Proofs.Ytnifdponeccdgaa
open Go.ChangeShapes Go.WideShapes Go.ChangeAt Go.RowKit Go.Joins

set_option maxRecDepth 100000 in
theorem trapMust_lifted (os : Os) (started : os.Started) (H : Type) (enc : TypeId × Value → H) :
    ReturnsInHanded {} Try.checked os 4 .any (Rows.trapMustSpec.pre6 enc Try.prog Try.f4 Rows.trapMustRow.domain false) (Rows.trapMustSpec.post enc Try.prog Try.f4 false true false false) := by
  refine law_lifted (C := Try.checked) (tb := 4) Try.own started (by kernel_rfl) Try.func4 Try.laidOut rfl rfl Try.underlying4 (by kernel_rfl) ?_
    (ChangeSpec.witness6 (enc := enc) (C := Try.checked) false ⟨#[], #[.agg #[.int .i64 0, .int .i64 0, .bool false, .int .i64 0]], []⟩ 8 (by kernel_rfl) (by kernel_rfl) (by kernel_rfl) (by kernel_rfl)) ?_
  · intro ds h
    rw [Try.params4] at h
    obtain ⟨d, rfl⟩ := List.length_eq_one_iff.1 h
    exact ⟨rfl, rfl, rfl⟩
  · intro W base args ds p hval hA _
    rw [Try.params4] at hA hval
    obtain ⟨v0, d0, rfl, rfl, h0⟩ := trodAll_one hA
    obtain ⟨a, c, f, n, rfl, _, _, _⟩ := open_deed (hval 0 24 v0 rfl rfl) h0
    by_cases hc : c = 0
    · subst hc
      exact trapMust_ok a n f W
    · exact trapMust_not a c n f (by simp [hc]) (by simp [tc, hc]) W

theorem trapMust_holds : Rows.TrapMustSaid :=
  OpenClaim.holds_of_wide 4 Try.f4 rfl rfl rfl rfl rfl rfl rfl ⟨rfl, rfl, rfl, rfl, rfl⟩ rfl rfl rfl rfl rfl (by kernel_rfl) Try.func4 (by kernel_rfl)
    (of_decide_eq_true (by kernel_rfl)) (by unfold Func.isWrapper; rw [if_neg (of_decide_eq_false (by kernel_rfl))]; exact ⟨rfl, rfl⟩)
    (fun os started H enc _ => trapMust_lifted os started H enc)

#print axioms trapMust_holds
end Go.Proofs.Ytnifdponeccdgaa
