/-
  The statement of TrapNil: for every deed the law returns true, and the deed reads as before. No condition beyond the statement's own.
-/
import Derived.Test.YtnifdponeccdgaaOpen
import Derived.Test.YtnifdponeccdgaaNil
namespace Go.Proofs.Ytnifdponeccdgaa
open Go.ChangeShapes Go.WideShapes Go.ChangeAt Go.RowKit Go.Joins

set_option maxRecDepth 100000 in
theorem trapNil_lifted (os : Os) (started : os.Started) (H : Type) (enc : TypeId × Value → H) :
    ReturnsInHanded {} Try.checked os 8 .any (Rows.trapNilSpec.pre6 enc Try.prog Try.f8 Rows.trapNilRow.domain false) (Rows.trapNilSpec.post enc Try.prog Try.f8 false true false false) := by
  refine law_lifted (C := Try.checked) (tb := 4) Try.own started (by kernel_rfl) Try.func8 Try.laidOut rfl rfl Try.underlying4 (by kernel_rfl) ?_
    (ChangeSpec.witness6 (enc := enc) (C := Try.checked) false ⟨#[], #[.agg #[.int .i64 0, .int .i64 0, .bool false, .int .i64 0]], []⟩ 8 (by kernel_rfl) (by kernel_rfl) (by kernel_rfl) (by kernel_rfl)) ?_
  · intro ds h
    rw [Try.params8] at h
    obtain ⟨d, rfl⟩ := List.length_eq_one_iff.1 h
    exact ⟨rfl, rfl, rfl⟩
  · intro W base args ds p hval hA _
    rw [Try.params8] at hA hval
    obtain ⟨v0, d0, rfl, rfl, h0⟩ := trodAll_one hA
    obtain ⟨a, c, f, n, rfl, _, _, _⟩ := open_deed (hval 0 24 v0 rfl rfl) h0
    cases f
    · by_cases hn : n = 0
      · exact trapNil_any a c n false 1 1 (by omega) (Or.inr (Or.inr ⟨rfl, hn, rfl, rfl⟩)) W
      · exact trapNil_any a c n false 0 n (by omega) (Or.inr (Or.inl ⟨rfl, by simp [hn], rfl, rfl⟩)) W
    · exact trapNil_any a c n true 0 (tc c) (by omega) (Or.inl ⟨rfl, rfl, rfl⟩) W

theorem trapNil_holds : Rows.TrapNilSaid :=
  OpenClaim.holds_of_wide 8 Try.f8 rfl rfl rfl rfl rfl rfl rfl ⟨rfl, rfl, rfl, rfl, rfl⟩ rfl rfl rfl rfl rfl (by kernel_rfl) Try.func8 (by kernel_rfl)
    (of_decide_eq_true (by kernel_rfl)) (by unfold Func.isWrapper; rw [if_neg (of_decide_eq_false (by kernel_rfl))]; exact ⟨rfl, rfl⟩)
    (fun os started H enc _ => trapNil_lifted os started H enc)

#print axioms trapNil_holds
end Go.Proofs.Ytnifdponeccdgaa
