/-
  The statement of Mp3Joined: for all twos of bytes the law returns true. No condition beyond the statement's own.
-/
import Derived.Test.YtmjkolkmpnadpaaPs
import Derived.ChangeMaps5
import Derived.Test.YtmjkolkmpnadpaaLift
namespace Go.Proofs.Ytmjkolkmpnadpaa
open Go.ChangeShapes Go.WideShapes Go.ChangeAt Go.RowKit Go.Joins

set_option maxRecDepth 100000 in
theorem mp3Joined_lifted (os : Os) (started : os.Started) (H : Type) (enc : TypeId × Value → H) :
    ReturnsInHanded {} Try.checked os 6 .any (Rows.mp3JoinedSpec.pre6 enc Try.prog Try.f6 Rows.mp3JoinedRow.domain false) (Rows.mp3JoinedSpec.post enc Try.prog Try.f6 false true false false) := by
  refine law_lifted (C := Try.checked) (tb := 4) Try.own started (by kernel_rfl) Try.func6 Try.laidOut rfl rfl Try.underlying4 (by kernel_rfl) ?_
    (ChangeSpec.witness6 (enc := enc) (C := Try.checked) false ⟨#[], #[.slice none 0 0], []⟩ 8 (by kernel_rfl) (by kernel_rfl) (by kernel_rfl) (by kernel_rfl)) ?_
  · intro ds h
    rw [Try.params6] at h
    obtain ⟨d, rfl⟩ := List.length_eq_one_iff.1 h
    exact ⟨rfl, rfl, rfl⟩
  · intro W base args ds p hval hA hlt
    rw [Try.params6] at hA hval
    obtain ⟨v0, d0, rfl, rfl, h0⟩ := trodAll_one hA
    obtain ⟨A, n, c, lp, rfl, hn, hd⟩ := open_bytes2 (hval 0 39 v0 rfl rfl) h0
    exact mp3Joined_any A n c lp W hd hn

theorem mp3Joined_holds : Rows.Mp3JoinedSaid :=
  OpenClaim.holds_of_wide 6 Try.f6 rfl rfl rfl rfl rfl rfl rfl ⟨rfl, rfl, rfl, rfl, rfl⟩ rfl rfl rfl rfl rfl (by kernel_rfl) Try.func6 (by kernel_rfl)
    (of_decide_eq_true (by kernel_rfl)) (by unfold Func.isWrapper; rw [if_neg (of_decide_eq_false (by kernel_rfl))]; exact ⟨rfl, rfl⟩)
    (fun os started H enc _ => mp3Joined_lifted os started H enc)

#print axioms mp3Joined_holds
end Go.Proofs.Ytmjkolkmpnadpaa
