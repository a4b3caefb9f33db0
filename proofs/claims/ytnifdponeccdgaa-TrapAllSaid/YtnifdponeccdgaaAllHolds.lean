/-
  The statement of TrapAll: for every three deeds the law returns true, and they read as before. No condition beyond the statement's own.
-/
import Derived.Test.YtnifdponeccdgaaOpen
import Derived.Test.YtnifdponeccdgaaThree
namespace Go.Proofs.Ytnifdponeccdgaa
open Go.ChangeShapes Go.WideShapes Go.ChangeAt Go.RowKit Go.Joins

set_option maxRecDepth 100000 in
theorem trapAll_lifted (os : Os) (started : os.Started) (H : Type) (enc : TypeId × Value → H) :
    ReturnsInHanded {} Try.checked os 6 .any (Rows.trapAllSpec.pre6 enc Try.prog Try.f6 Rows.trapAllRow.domain false) (Rows.trapAllSpec.post enc Try.prog Try.f6 false true false false) := by
  refine law_lifted (C := Try.checked) (tb := 4) Try.own started (by kernel_rfl) Try.func6 Try.laidOut rfl rfl Try.underlying4 (by kernel_rfl) ?_
    (ChangeSpec.witness6 (enc := enc) (C := Try.checked) false ⟨#[], #[.agg #[.int .i64 0, .int .i64 0, .bool false, .int .i64 0], .agg #[.int .i64 0, .int .i64 0, .bool false, .int .i64 0], .agg #[.int .i64 0, .int .i64 0, .bool false, .int .i64 0]], []⟩ 8 (by kernel_rfl) (by kernel_rfl) (by kernel_rfl) (by kernel_rfl)) ?_
  · intro ds h
    rw [Try.params6] at h
    match ds, h with
    | [d1, d2, d3], _ => exact ⟨rfl, rfl, rfl⟩
  · intro W base args ds p hval hA _
    rw [Try.params6] at hA hval
    obtain ⟨v0, v1, v2, d0, d1, d2, p0, p1, p2, rfl, rfl, rfl, h0, h1, h2⟩ := trodAll_three hA
    obtain ⟨a0, c0, f0, n0, rfl, _, _, _⟩ := open_deed (hval 0 24 v0 rfl rfl) h0
    obtain ⟨a1, c1, f1, n1, rfl, _, _, _⟩ := open_deed (hval 1 24 v1 rfl rfl) h1
    obtain ⟨a2, c2, f2, n2, rfl, _, _, _⟩ := open_deed (hval 2 24 v2 rfl rfl) h2
    exact trapAll_any a0 c0 f0 n0 a1 c1 f1 n1 a2 c2 f2 n2 W

theorem trapAll_holds : Rows.TrapAllSaid :=
  OpenClaim.holds_of_wide 6 Try.f6 rfl rfl rfl rfl rfl rfl rfl ⟨rfl, rfl, rfl, rfl, rfl⟩ rfl rfl rfl rfl rfl (by kernel_rfl) Try.func6 (by kernel_rfl)
    (of_decide_eq_true (by kernel_rfl)) (by unfold Func.isWrapper; rw [if_neg (of_decide_eq_false (by kernel_rfl))]; exact ⟨rfl, rfl⟩)
    (fun os started H enc _ => trapAll_lifted os started H enc)

#print axioms trapAll_holds
end Go.Proofs.Ytnifdponeccdgaa
