/-
  What Type, Needs, Most and Same of the document's own answer of a table of patterns. Conditions: texts are as long as a length can be; the slice lies in a block of its own; the patterns are good.
  What Needs of the document's own answers of a table of patterns. Conditions: the text is not longer than memory; the slice lies in a block of its own; the patterns are good.
  What Type, Is, Needs, Open and Most of package image answer. Condition: the text is not longer than memory.
-/
import Derived.Test.YtkdjjlfpaciohaaGreatDoorZ7
import Derived.Test.YtkdjjlfpaciohaaGreatDoorZ6
import Derived.Test.YtkdjjlfpaciohaaGreatDoorZ2
import Derived.BigQuiet
import Derived.Deep.QuietTactic
import Derived.OwnWalk
import Derived.LoopTactic
import Derived.Test.YtkdjjlfpaciohaaGreatDoorZ14
import Derived.Test.YtkdjjlfpaciohaaGreatDoorZ15
namespace Go.Proofs.YtkdjjlfpaciohaaGreatDoor
open Go.RowKit

set_option maxHeartbeats 400000 in
theorem rType_any (g n c : Nat) (s : ByteArray) (ps : Nat → Pat) (r : Int) (w : World) (hp : PatsIn w g ps n) (hok : ∀ i, i < n → (ps i).ok) (hs : s.size ≤ 9223372036854775807) (hn : n ≤ 9223372036854775807) (hr : IsFirst s ps n r) :
    Calls Tryz.prog 38 #[.string s, .slice (some ⟨g, 0, none⟩) n c] w fun e w' => e = .returned (.string (typeOf ps r)) ∧ Below w.heap.size w w' := by
  have HC := Lib.hid (refFirst_any g n c s ps r w hp hok hs hn hr)
  by_cases h : r < 0
  · have HT := Lib.hid (show typeOf ps r = ⟨#[]⟩ from if_pos h)
    clear hr
    go_enter Tryz.func38, Tryz.ntmps38
    go_wp2_with (go_at_call 59; refine HC.out.mono ?_; rintro e w1 ⟨rfl, hb1⟩; have HB1 := Lib.hid hb1; clear hb1)
    go_ret
    exact ⟨by rw [HT.out]; rfl, HB1.out⟩
  · obtain ⟨k, rfl, hk⟩ : ∃ k : Nat, r = (k : Int) ∧ k < n := by
      rcases hr with ⟨h1, _⟩ | ⟨k, h1, h2, _⟩
      · omega
      · exact ⟨k, h2, h1⟩
    have HT := Lib.hid (show typeOf ps k = (ps k).t from by unfold typeOf; rw [if_neg h]; rfl)
    have HP := Lib.hid hp
    clear h hr hp
    go_enter Tryz.func38, Tryz.ntmps38
    go_wp2_with (go_at_call 59; refine HC.out.mono ?_; rintro e w1 ⟨rfl, hb1⟩; have HB1 := Lib.hid hb1; have c3 := ((HP.out.below hb1 HP.out.1 (Nat.le_refl _)).2 k hk).2.2.2; clear hb1)
    go_ret
    exact ⟨by rw [HT.out]; rfl, HB1.out⟩

end Go.Proofs.YtkdjjlfpaciohaaGreatDoor
namespace Go.Proofs.YtkdjjlfpaciohaaGreatDoor
open Go.RowKit

/-- A world behind w: what w had is as it was. -/
def Aft (w W : World) : Prop := Below w.heap.size w W
theorem Aft.drew {w W : World} (h : Aft w W) : Aft w W.drew := Below.drew h
theorem Aft.step {w W W' : World} (h : Aft w W) (hb : Below W.heap.size W W') : Aft w W' := Below.trans h (hb.mono h.size)
theorem Aft.next {w : World} {x : Wld (Aft w)} {W' : World} (hb : Below x.val.heap.size x.val W') : Aft w W' := x.ok.step hb

end Go.Proofs.YtkdjjlfpaciohaaGreatDoor
namespace Go.Proofs.YtkdjjlfpaciohaaGreatDoor
open Go.RowKit

set_option maxHeartbeats 400000 in
theorem imgType_any (s : ByteArray) (r : Int) (w : World) (hs : s.size ≤ 140737488351232) (hr : IsFirst s imgP 8 r) :
    Calls Tryz.prog 37 #[.string s] w fun e w' => e = .returned (.string (typeOf imgP r)) ∧ Below w.heap.size w w' := by
  have HT := Lib.hid (fun W g (h : PatsIn W g imgP 8) => type_any g 8 8 s imgP r W h (fun i hi => img_ok hi) (by omega) (by decide) hr)
  have HB := Lib.hid (Below.refl w.heap.size w)
  clear hr
  go_enter Tryz.func37, Tryz.ntmps37
  go_wp2_with (first
    | (go_at_call 58; refine (imgTable_any _).mono ?_; rintro e w1 ⟨g, rfl, hg, hp, b1⟩; have HB := Lib.hid (HB.out.trans (b1.mono HB.out.size)); have HP := Lib.hid hp; clear b1 hp)
    | (go_at_call 57; refine (HT.out _ _ HP.out).mono ?_; rintro e w2 ⟨rfl, b2⟩; have HB := Lib.hid (HB.out.trans (b2.mono HB.out.size)); clear b2))
  go_ret
  exact ⟨rfl, HB.out⟩

end Go.Proofs.YtkdjjlfpaciohaaGreatDoor
