/-
  The statement of StatusWrites: for every status the law returns true, where the listed tables lie as the program's text lays them; its tied card. No condition beyond the statement's own.
-/
import Derived.Test.YteeheehoaklnbaaDoorZ16
import Derived.Test.YteeheehoaklnbaaDoorZ10
import Derived.Test.YteeheehoaklnbaaDoorZ17
import Derived.Test.YteeheehoaklnbaaDoorCards
import Derived.Test.YteeheehoaklnbaaDoorTie
import Derived.SevenTiedAt
import Derived.ChangeMaps5
namespace Go.Proofs.YteeheehoaklnbaaDoor
open Go.ChangeShapes Go.WideShapes Go.ChangeAt Go.RowKit Go.Joins

theorem powGlobal : (Tryd.prog.globals[0]?).map (·.type) = some 79 := by kernel_rfl
theorem powCells : Tryd.prog.cellsOf 79 = 20 := by kernel_rfl
theorem powCell : Tryd.prog.cellsOf 58 = 1 := by kernel_rfl

/-- What the row's condition gives the walk. -/
theorem pow_of_laid {W : World} (h : laidMetH Tryd.prog Rows.statusWritesRow.laid W) : PowTab W := by
  rw [MakeChecks.laidMetH_plain _ _ _ (by kernel_rfl)] at h
  have h3 : laidMet Tryd.prog ((_, Lib.tabData .u64 Lib.pow10Tab) :: []) W := h.tail.tail
  intro nm hnm
  have e := Lib.tabIs_of_head itoaLays.m17 powGlobal Tryd.underlying79 Tryd.underlying58 powCell powCells h3
  have g : Tryd.prog.globalNamed nm = Tryd.prog.globalNamed _ := hnm.trans itoaLays.m17.symm
  unfold Lib.TabIs World.var? at e ⊢
  rw [g]
  exact e

/-- The door's own heap meets the condition. -/
theorem door_met (os : Os) (args : Array Value) : laidMetH Tryd.prog Rows.statusWritesRow.laid ((World.doorLaid Tryd.prog 24 os).forCall (fun _ _ => 0) ⟨#[], args, []⟩).memory :=
  laidMetH_of_parts3 (fuel := 8) (laidMet_of_run' 8 (by kernel_rfl) (by kernel_rfl)) (by kernel_rfl) (by kernel_rfl)

set_option maxRecDepth 100000 in
theorem statusWrites_lifted (os : Os) (started : os.Started) (H : Type) (enc : TypeId × Value → H) :
    ReturnsInHanded {} Tryd.checked os 3 .any (fun w args => (Rows.statusWritesSpec.pre enc Tryd.prog Tryd.f3 [] false w args ∧ laidMetH Tryd.prog Rows.statusWritesRow.laid w) ∧ sizedMet enc Tryd.prog Tryd.f3 (OpenSpec.ofChange Rows.statusWritesSpec) false w args)
      (Rows.statusWritesSpec.post enc Tryd.prog Tryd.f3 false true false false) := by
  refine law_lifted_laid (C := Tryd.checked) (tb := 4) Rows.statusWritesRow.laid Tryd.own started (by kernel_rfl) Tryd.func3 Tryd.laidOut rfl rfl Tryd.underlying4 (by kernel_rfl) ?_
    (ChangeSpec.witness_shaped (enc := enc) (C := Tryd.checked) (os := os) (X := fun w _ => laidMetH Tryd.prog Rows.statusWritesRow.laid w) false (World.doorLaid Tryd.prog 24 os) #[.agg #[.int .i64 0, .int .i64 0, .int .i64 0, .string ⟨#[]⟩]] 8 rfl (World.shaped_of_RefB (by kernel_rfl) (by kernel_rfl)) (by kernel_rfl) (by kernel_rfl) (by kernel_rfl) (door_met os _)) ?_
  · intro ds h
    rw [Tryd.params3] at h
    obtain ⟨d, rfl⟩ := List.length_eq_one_iff.1 h
    exact ⟨rfl, rfl, rfl⟩
  · intro W base args ds p hval hA hlt hL
    rw [Tryd.params3] at hA hval
    obtain ⟨v0, d0, rfl, rfl, h0⟩ := trodAll_one hA
    obtain ⟨a, b, c, r, rfl, hr⟩ := open_stat (hval 0 23 v0 rfl rfl) h0
    exact swrites_any a b c r W hr (pow_of_laid hL)

theorem statusWrites_holds : Rows.StatusWritesSaid :=
  OpenClaim.holds_of_wide 3 Tryd.f3 rfl rfl rfl rfl rfl rfl rfl ⟨rfl, rfl, rfl, rfl, rfl⟩ rfl rfl rfl rfl rfl (by kernel_rfl) Tryd.func3 (by kernel_rfl)
    (of_decide_eq_true (by kernel_rfl)) (by unfold Func.isWrapper; rw [if_neg (of_decide_eq_false (by kernel_rfl))]; exact ⟨rfl, rfl⟩)
    (fun os started H enc _ => statusWrites_lifted os started H enc)

theorem statusWrites_card : Rows.StatusWritesCardSaid :=
  Claim7.holds_tied_plain_at .later [] [.data, .data, .data] true _ _
    statusWrites_holds (fun _ h => by cases h) (by kernel_rfl) (fun _ h => by cases h) statusWrites_row_tie rfl ⟨rfl, rfl⟩ (by kernel_rfl) rfl
    (fun f fn hf hfn => by
      obtain rfl : f = 3 := Option.some.inj ((show Tryd.prog.funcNamed Rows.statusWritesRow.func = some 3 by kernel_rfl).symm.trans hf) |>.symm
      obtain rfl : fn = Tryd.f3 := (Option.some.inj (Tryd.func3.symm.trans hfn)).symm
      exact ⟨by kernel_rfl, fun j t ht => by
        rw [Tryd.params3] at ht
        have hm : t ∈ [23] := by simpa using Array.mem_of_getElem? ht
        have hall : ([23].all fun u => !Tryd.prog.wantsStandIn u) = true := by kernel_rfl
        exact (show Tryd.prog.wantsStandIn t = false by simpa using List.all_eq_true.1 hall t hm)⟩)
    (by kernel_rfl)

#print axioms statusWrites_card
end Go.Proofs.YteeheehoaklnbaaDoor
