/-
  The statement of WebmWrites: for every number, size and text the law returns true, where the listed tables lie as the program's text lays them; its tied card. No condition beyond the statement's own.
-/
import Derived.Test.YtcjcbbahhphcdaaDoorUl
import Derived.Test.YtcjcbbahhphcdaaDoorByte
import Derived.Test.YtcjcbbahhphcdaaDoorLiftD
import Derived.Test.YtcjcbbahhphcdaaDoorCards
import Derived.Test.YtcjcbbahhphcdaaDoorTie
import Derived.SevenTiedAt
import Derived.ChangeMaps5
import Derived.Lay
namespace Go.Proofs.YtcjcbbahhphcdaaDoor
open Go.ChangeShapes Go.WideShapes Go.ChangeAt Go.RowKit Go.Joins

set_option maxRecDepth 100000 in
theorem webmWrites_lifted (os : Os) (started : os.Started) (H : Type) (enc : TypeId × Value → H) :
    ReturnsInHanded {} Tryd.checked os 5 .any (fun w args => (Rows.webmWritesSpec.pre enc Tryd.prog Tryd.f5 [] false w args ∧ laidMetH Tryd.prog Rows.webmWritesRow.laid w) ∧ sizedMet enc Tryd.prog Tryd.f5 (OpenSpec.ofChange Rows.webmWritesSpec) false w args)
      (Rows.webmWritesSpec.post enc Tryd.prog Tryd.f5 false true false false) := by
  refine law_lifted_laid (C := Tryd.checked) (tb := 4) Rows.webmWritesRow.laid Tryd.own started (by kernel_rfl) Tryd.func5 Tryd.laidOut rfl rfl Tryd.underlying4 (by kernel_rfl) ?_
    (ChangeSpec.witness_shaped (enc := enc) (C := Tryd.checked) (os := os) (X := fun w _ => laidMetH Tryd.prog Rows.webmWritesRow.laid w) false (World.laidAll Tryd.prog os Rows.webmWritesRow.laid) #[.int .u64 0, .int .i64 0, .string ⟨#[]⟩] 8 (World.laidAll_os _ _ _)
      (World.shaped_of_ZipB (by kernel_rfl) (by kernel_rfl)) (by kernel_rfl) (by kernel_rfl) (by kernel_rfl)
      (by rw [MakeChecks.laidMetH_plain _ _ _ (by kernel_rfl)]; exact laidMet_laidAll _ (by kernel_rfl) (by kernel_rfl))) ?_
  · intro ds h
    rw [Tryd.params5] at h
    match ds, h with
    | [d0, d1, d2], _ => exact ⟨rfl, rfl, rfl⟩
  · intro W base args ds p hval hA hlt _
    rw [Tryd.params5] at hA hval
    obtain ⟨v0, v1, v2, d0, d1, d2, p0, p1, p2, rfl, rfl, rfl, h0, h1, h2⟩ := trodAll_three hA
    obtain ⟨n0, rfl, _, _, hwf0⟩ := open_int Tryd.underlying26 (hval 0 26 v0 rfl rfl) h0
    have hr0 : 0 ≤ n0 ∧ n0 < 18446744073709551616 := by
      have e1 : IntKind.u64.min = 0 := by kernel_rfl
      have e2 : IntKind.u64.max = 18446744073709551615 := by kernel_rfl
      simp [Lit.wf, e1, e2] at hwf0
      omega
    obtain ⟨u0, rfl⟩ := Int.eq_ofNat_of_zero_le hr0.1
    have hu0 : u0 < 18446744073709551616 := by omega
    obtain ⟨i1, rfl, _, _, hwf1⟩ := open_int Tryd.underlying3 (hval 1 3 v1 rfl rfl) h1
    obtain ⟨s2, rfl, _, _, hs2⟩ := Go.ChangeMaps.open_string Tryd.underlying9 (hval 2 9 v2 rfl rfl) h2
    unfold maxLen at hs2
    exact webmWrites_any u0 i1 s2 W hu0 hs2

theorem webmWrites_holds : Rows.WebmWritesSaid :=
  OpenClaim.holds_of_wide 5 Tryd.f5 rfl rfl rfl rfl rfl rfl rfl ⟨rfl, rfl, rfl, rfl, rfl⟩ rfl rfl rfl rfl rfl (by kernel_rfl) Tryd.func5 (by kernel_rfl)
    (of_decide_eq_true (by kernel_rfl)) (by unfold Func.isWrapper; rw [if_neg (of_decide_eq_false (by kernel_rfl))]; exact ⟨rfl, rfl⟩)
    (fun os started H enc _ => webmWrites_lifted os started H enc)

theorem webmWrites_card : Rows.WebmWritesCardSaid :=
  Claim7.holds_tied_plain_at .later [] [.data, .pinned] true _ _
    webmWrites_holds (fun _ h => by cases h) (by kernel_rfl) (fun _ h => by cases h) webmWrites_row_tie rfl ⟨rfl, rfl⟩ (by kernel_rfl) rfl
    (fun f fn hf hfn => by
      obtain rfl : f = 5 := Option.some.inj ((show Tryd.prog.funcNamed Rows.webmWritesRow.func = some 5 by kernel_rfl).symm.trans hf) |>.symm
      obtain rfl : fn = Tryd.f5 := (Option.some.inj (Tryd.func5.symm.trans hfn)).symm
      exact ⟨by kernel_rfl, fun j t ht => by
        rw [Tryd.params5] at ht
        have hm : t ∈ [26, 3, 9] := by have := Array.mem_of_getElem? ht; simp at this ⊢; omega
        have hall : ([26, 3, 9].all fun u => !Tryd.prog.wantsStandIn u) = true := by kernel_rfl
        exact (show Tryd.prog.wantsStandIn t = false by simpa using List.all_eq_true.1 hall t hm)⟩)
    (by kernel_rfl)

#print axioms webmWrites_card
end Go.Proofs.YtcjcbbahhphcdaaDoor
