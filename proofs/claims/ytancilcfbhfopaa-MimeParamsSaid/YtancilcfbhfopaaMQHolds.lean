/-
  The statement of MimeParams: for any type and any two texts the law returns true. No condition beyond the statement's own.
-/
import Derived.Test.YtancilcfbhfopaaMpa
import Derived.Test.YtancilcfbhfopaaMco
import Derived.Test.YtancilcfbhfopaaLift
namespace Go.Proofs.Ytancilcfbhfopaa
open Go.ChangeShapes Go.WideShapes Go.ChangeAt Go.RowKit Go.Joins

set_option maxRecDepth 100000 in
theorem mimeParams_lifted (os : Os) (started : os.Started) (H : Type) (enc : TypeId × Value → H) :
    ReturnsInHanded {} Try.checked os 5 .any (Rows.mimeParamsSpec.pre6 enc Try.prog Try.f5 Rows.mimeParamsRow.domain false) (Rows.mimeParamsSpec.post enc Try.prog Try.f5 false true false false) := by
  refine law_lifted (C := Try.checked) (tb := 4) Try.own started (by kernel_rfl) Try.func5 Try.laidOut rfl rfl Try.underlying4 (by kernel_rfl) ?_
    (ChangeSpec.witness6 (enc := enc) (C := Try.checked) false ⟨#[], #[.agg #[.string ⟨#[]⟩, .string ⟨#[]⟩, .slice none 0 0], .string ⟨#[]⟩, .string ⟨#[]⟩], []⟩ 8 (by kernel_rfl) (by kernel_rfl) (by kernel_rfl) (by kernel_rfl)) ?_
  · intro ds h
    rw [Try.params5] at h
    match ds, h with
    | [d0, d1, d2], _ => exact ⟨rfl, rfl, rfl⟩
  · intro W base args ds p hval hA hlt
    rw [Try.params5] at hA hval
    obtain ⟨v0, v1, v2, d0, d1, d2, p0, p1, p2, rfl, rfl, rfl, h0, h1, h2⟩ := trodAll_three hA
    obtain ⟨t0, u0, A0, n0, c0, l0, rfl, a0, b0, e0, m0⟩ := open_mime (hval 0 25 v0 rfl rfl) h0
    obtain ⟨s1, rfl, _, _, hs1⟩ := Go.ChangeMaps.open_string Try.underlying9 (hval 1 9 v1 rfl rfl) h1
    unfold maxLen at hs1
    obtain ⟨s2, rfl, _, _, hs2⟩ := Go.ChangeMaps.open_string Try.underlying9 (hval 2 9 v2 rfl rfl) h2
    unfold maxLen at hs2
    have hf : Hid (∀ W', Below W.heap.size W W' → Calls Try.prog 13 #[mimV t0 u0 A0 n0 c0] W' fun e w' => ∃ A' c', e = .returned (mimV (cutB t0 30) (cutB u0 30) A' (fewK l0 (min n0 6)).length c') ∧ w'.ownsRow W'.heap.size 39 2 (.slice A' (fewK l0 (min n0 6)).length c') (fewK l0 (min n0 6)).length (prmL (fewK l0 (min n0 6))) ∧ Below W'.heap.size W' w') := fun W' hb => few_first t0 u0 A0 n0 c0 l0 W' (m0.below hb) a0 b0 e0
    cases hse : seenB (fewK l0 (min n0 6)) (cutB s1 20)
    · exact params_false t0 u0 s1 s2 _ _ _ _ _ A0 n0 c0 W (fewIs t0 u0 l0 n0) (cutB_size _ _) (cutB_size _ _) hse hf (fun W => cut_any s1 20 W hs1) (fun W => cut_any s2 30 W hs2)
    · exact params_true t0 u0 s1 s2 _ _ _ _ _ A0 n0 c0 W (fewIs t0 u0 l0 n0) (cutB_size _ _) (cutB_size _ _) hse hf (fun W => cut_any s1 20 W hs1) (fun W => cut_any s2 30 W hs2)

theorem mimeParams_holds : Rows.MimeParamsSaid :=
  OpenClaim.holds_of_wide 5 Try.f5 rfl rfl rfl rfl rfl rfl rfl ⟨rfl, rfl, rfl, rfl, rfl⟩ rfl rfl rfl rfl rfl (by kernel_rfl) Try.func5 (by kernel_rfl)
    (of_decide_eq_true (by kernel_rfl)) (by unfold Func.isWrapper; rw [if_neg (of_decide_eq_false (by kernel_rfl))]; exact ⟨rfl, rfl⟩)
    (fun os started H enc _ => mimeParams_lifted os started H enc)

#print axioms mimeParams_holds
end Go.Proofs.Ytancilcfbhfopaa
