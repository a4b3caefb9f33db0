/-
  Plain facts on members that stand one behind the other. No condition.
  What two and Members of the document's own answer of layer 15. Condition: the text is not longer than memory.
  What Fonts, Archives, Font, Archive, Either and Members of package pack answer. Condition: the text is not longer than memory.
-/
import Derived.Test.YtkdjjlfpaciohaaGreatDoorZ7
import Derived.Test.YtkdjjlfpaciohaaGreatDoorZ11
import Derived.Test.YtkdjjlfpaciohaaGreatDoorZ14
import Derived.Lib.Hide
import Derived.Test.YtkdjjlfpaciohaaGreatDoorZ2
import Derived.BigQuiet
import Derived.Deep.QuietTactic
import Derived.OwnWalk
import Derived.LoopTactic
import Derived.WalkKit
import Derived.Test.YtkdjjlfpaciohaaGreatDoorZ19
import Derived.Test.YtkdjjlfpaciohaaGreatDoorZ1
import Derived.Test.YtkdjjlfpaciohaaGreatDoorZ9
import Derived.Test.YtkdjjlfpaciohaaGreatDoorZ15
import Derived.Test.YtkdjjlfpaciohaaGreatDoorZ6
namespace Go.Proofs.YtkdjjlfpaciohaaGreatDoor

theorem at_left {x y : ByteArray} {i : Nat} (h : i < x.size) : (x ++ y)[i]! = x[i]! := by
  have h2 : i < (x ++ y).size := by rw [ByteArray.size_append]; omega
  rw [getElem!_pos (x ++ y) i h2, getElem!_pos x i h]
  exact ByteArray.getElem_append_left h
theorem behind (x y : ByteArray) : (x ++ y).extract x.size (x ++ y).size = y := by
  have h : (x.extract x.size (x.size + y.size)).size = 0 := by simp
  have h0 : x.extract x.size (x.size + y.size) = ByteArray.empty := ByteArray.size_eq_zero_iff.1 h
  rw [ByteArray.size_append, ByteArray.extract_append, h0]
  simp
end Go.Proofs.YtkdjjlfpaciohaaGreatDoor
namespace Go.Proofs.YtkdjjlfpaciohaaGreatDoor
open Go.RowKit

theorem byte_ne {a b : UInt8} {n : Int} (h : a ≠ b) (hn : (b.toNat : Int) = n) : ((a.toNat : Int) == n) = false := by
  rw [beq_eq_false_iff_ne, ← hn]
  intro e
  exact h (UInt8.toNat_inj.1 (by omega))

end Go.Proofs.YtkdjjlfpaciohaaGreatDoor
namespace Go.Proofs.YtkdjjlfpaciohaaGreatDoor
open Go.RowKit

/-- The mask of the longest pattern of which all bytes count. -/
abbrev ff7 : ByteArray := ⟨#[255, 255, 255, 255, 255, 255, 255]⟩
set_option maxHeartbeats 400000 in
theorem pexact_any (t k : ByteArray) (w : World) (ht : t.size ≤ 7) :
    Calls Tryz.prog 133 #[.string t, .string k] w fun e w' => e = .returned (patV t (ff7.extract 0 t.size) ⟨#[]⟩ k) ∧ Below w.heap.size w w' := by
  have hsz : ff7.size = 7 := rfl
  have g1 : (t.size : Int) ≤ 7 := by omega
  go_enter Tryz.func133, Tryz.ntmps133
  go_wp2
  exact bodyPost_ret (v := patV t (ff7.extract 0 t.size) ⟨#[]⟩ k) (by simp [results, Tryz.results133, go_sem]) rfl ⟨rfl, (Below.refl w.heap.size w).alloc (Nat.le_refl _) _⟩

theorem arcE0 (W : World) : Calls Tryz.prog 133 #[.string ⟨#[31, 139, 8]⟩, .string ⟨#[97, 112, 112, 108, 105, 99, 97, 116, 105, 111, 110, 47, 120, 45, 103, 122, 105, 112]⟩] W fun e w' => e = .returned (patV ⟨#[31, 139, 8]⟩ ⟨#[255, 255, 255]⟩ ⟨#[]⟩ ⟨#[97, 112, 112, 108, 105, 99, 97, 116, 105, 111, 110, 47, 120, 45, 103, 122, 105, 112]⟩) ∧ Below W.heap.size W w' := by
  have := pexact_any ⟨#[31, 139, 8]⟩ ⟨#[97, 112, 112, 108, 105, 99, 97, 116, 105, 111, 110, 47, 120, 45, 103, 122, 105, 112]⟩ W (by decide)
  rwa [show ff7.extract 0 (⟨#[31, 139, 8]⟩ : ByteArray).size = ⟨#[255, 255, 255]⟩ from by kernel_rfl] at this
theorem arcE1 (W : World) : Calls Tryz.prog 133 #[.string ⟨#[80, 75, 3, 4]⟩, .string ⟨#[97, 112, 112, 108, 105, 99, 97, 116, 105, 111, 110, 47, 122, 105, 112]⟩] W fun e w' => e = .returned (patV ⟨#[80, 75, 3, 4]⟩ ⟨#[255, 255, 255, 255]⟩ ⟨#[]⟩ ⟨#[97, 112, 112, 108, 105, 99, 97, 116, 105, 111, 110, 47, 122, 105, 112]⟩) ∧ Below W.heap.size W w' := by
  have := pexact_any ⟨#[80, 75, 3, 4]⟩ ⟨#[97, 112, 112, 108, 105, 99, 97, 116, 105, 111, 110, 47, 122, 105, 112]⟩ W (by decide)
  rwa [show ff7.extract 0 (⟨#[80, 75, 3, 4]⟩ : ByteArray).size = ⟨#[255, 255, 255, 255]⟩ from by kernel_rfl] at this
theorem arcE2 (W : World) : Calls Tryz.prog 133 #[.string ⟨#[82, 97, 114, 32, 26, 7, 0]⟩, .string ⟨#[97, 112, 112, 108, 105, 99, 97, 116, 105, 111, 110, 47, 120, 45, 114, 97, 114, 45, 99, 111, 109, 112, 114, 101, 115, 115, 101, 100]⟩] W fun e w' => e = .returned (patV ⟨#[82, 97, 114, 32, 26, 7, 0]⟩ ⟨#[255, 255, 255, 255, 255, 255, 255]⟩ ⟨#[]⟩ ⟨#[97, 112, 112, 108, 105, 99, 97, 116, 105, 111, 110, 47, 120, 45, 114, 97, 114, 45, 99, 111, 109, 112, 114, 101, 115, 115, 101, 100]⟩) ∧ Below W.heap.size W w' := by
  have := pexact_any ⟨#[82, 97, 114, 32, 26, 7, 0]⟩ ⟨#[97, 112, 112, 108, 105, 99, 97, 116, 105, 111, 110, 47, 120, 45, 114, 97, 114, 45, 99, 111, 109, 112, 114, 101, 115, 115, 101, 100]⟩ W (by decide)
  rwa [show ff7.extract 0 (⟨#[82, 97, 114, 32, 26, 7, 0]⟩ : ByteArray).size = ⟨#[255, 255, 255, 255, 255, 255, 255]⟩ from by kernel_rfl] at this

set_option maxHeartbeats 2000000 in
set_option maxRecDepth 100000 in
theorem packArchives_any (w : World) :
    Calls Tryz.prog 106 #[] w fun e w' => ∃ g, e = .returned (.slice (some ⟨g, 0, none⟩) 3 3) ∧ w.heap.size ≤ g ∧ PatsIn w' g arcP 3 ∧ Below w.heap.size w w' := by
  have HB := Lib.hid (Below.refl w.heap.size w)
  go_enter Tryz.func106, Tryz.ntmps106
  go_wp2_with (go_at_call 133; (first | with_reducible refine (arcE0 _).mono ?_ | with_reducible refine (arcE1 _).mono ?_ | with_reducible refine (arcE2 _).mono ?_); rintro e w1 ⟨rfl, b1⟩; have HB := Lib.hid (HB.out.trans (b1.mono HB.out.size)); clear b1)
  go_ret
  exact ⟨w1.heap.size, rfl, HB.out.size, pats3 (Blk.new w1 _ (cells3 arcP)), HB.out.alloc HB.out.size _⟩

set_option maxHeartbeats 400000 in
theorem packArchive_any (s : ByteArray) (q : Int) (w : World) (hs : s.size ≤ 140737488351232) (hq : IsFirst s arcP 3 q) :
    Calls Tryz.prog 77 #[.string s] w fun e w' => e = .returned (.string (typeOf arcP q)) ∧ Below w.heap.size w w' := by
  have HT := Lib.hid (fun W g (h : PatsIn W g arcP 3) => type_any g 3 3 s arcP q W h (fun i hi => arc_ok hi) (by omega) (by decide) hq)
  have HB := Lib.hid (Below.refl w.heap.size w)
  clear hq
  go_enter Tryz.func77, Tryz.ntmps77
  go_wp2_with (first
    | (go_at_call 106; refine (packArchives_any _).mono ?_; rintro e w1 ⟨g, rfl, hg, hp, b1⟩; have HB := Lib.hid (HB.out.trans (b1.mono HB.out.size)); have HP := Lib.hid hp; clear b1 hp)
    | (go_at_call 57; refine (HT.out _ _ HP.out).mono ?_; rintro e w2 ⟨rfl, b2⟩; have HB := Lib.hid (HB.out.trans (b2.mono HB.out.size)); clear b2))
  go_ret
  exact ⟨rfl, HB.out⟩

end Go.Proofs.YtkdjjlfpaciohaaGreatDoor
