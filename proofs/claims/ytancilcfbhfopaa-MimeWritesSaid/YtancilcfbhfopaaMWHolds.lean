/-
  The statement of MimeWrites: for any two types the law returns true. No condition beyond the statement's own.
-/
import Derived.Test.YtancilcfbhfopaaMwr
import Derived.Test.YtancilcfbhfopaaMco
import Derived.Test.YtancilcfbhfopaaLift
namespace Go.Proofs.Ytancilcfbhfopaa
open Go.ChangeShapes Go.WideShapes Go.ChangeAt Go.RowKit Go.Joins

set_option maxRecDepth 100000 in
theorem mimeWrites_lifted (os : Os) (started : os.Started) (H : Type) (enc : TypeId × Value → H) :
    ReturnsInHanded {} Try.checked os 4 .any (Rows.mimeWritesSpec.pre6 enc Try.prog Try.f4 Rows.mimeWritesRow.domain false) (Rows.mimeWritesSpec.post enc Try.prog Try.f4 false true false false) := by
  refine law_lifted (C := Try.checked) (tb := 4) Try.own started (by kernel_rfl) Try.func4 Try.laidOut rfl rfl Try.underlying4 (by kernel_rfl) ?_
    (ChangeSpec.witness6 (enc := enc) (C := Try.checked) false ⟨#[], #[.agg #[.string ⟨#[]⟩, .string ⟨#[]⟩, .slice none 0 0], .agg #[.string ⟨#[]⟩, .string ⟨#[]⟩, .slice none 0 0]], []⟩ 8 (by kernel_rfl) (by kernel_rfl) (by kernel_rfl) (by kernel_rfl)) ?_
  · intro ds h
    rw [Try.params4] at h
    match ds, h with
    | [d0, d1], _ => exact ⟨rfl, rfl, rfl⟩
  · intro W base args ds p hval hA hlt
    rw [Try.params4] at hA hval
    obtain ⟨v0, v1, d0, d1, p0, p1, rfl, rfl, rfl, h0, h1⟩ := trodAll_two hA
    obtain ⟨t0, u0, A0, n0, c0, l0, rfl, a0, b0, e0, m0⟩ := open_mime (hval 0 25 v0 rfl rfl) h0
    obtain ⟨t1, u1, A1, n1, c1, l1, rfl, a1, b1, e1, m1⟩ := open_mime (hval 1 25 v1 rfl rfl) h1
    exact writes_few t0 u0 t1 u1 _ _ _ _ _ _ A0 A1 n0 c0 n1 c1 W (fewIs t0 u0 l0 n0) (fewIs t1 u1 l1 n1) (fun W' hb => few_first t0 u0 A0 n0 c0 l0 W' (m0.below hb) a0 b0 e0) (fun W' hb => few_first t1 u1 A1 n1 c1 l1 W' (m1.below hb) a1 b1 e1)

theorem mimeWrites_holds : Rows.MimeWritesSaid :=
  OpenClaim.holds_of_wide 4 Try.f4 rfl rfl rfl rfl rfl rfl rfl ⟨rfl, rfl, rfl, rfl, rfl⟩ rfl rfl rfl rfl rfl (by kernel_rfl) Try.func4 (by kernel_rfl)
    (of_decide_eq_true (by kernel_rfl)) (by unfold Func.isWrapper; rw [if_neg (of_decide_eq_false (by kernel_rfl))]; exact ⟨rfl, rfl⟩)
    (fun os started H enc _ => mimeWrites_lifted os started H enc)

#print axioms mimeWrites_holds
end Go.Proofs.Ytancilcfbhfopaa
