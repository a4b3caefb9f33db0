/-
  What lives of layer 9 answers, and the law JnumScans: true of every text. Condition: the text is as long as a length can be.
-/
import Derived.Test.YthiclminkbnibaaDoorJv2
import Derived.Test.YthiclminkbnibaaDoorJl
import Derived.Test.YthiclminkbnibaaDoorCut
namespace Go.Proofs.YthiclminkbnibaaDoor
open Go.RowKit

theorem val_nought : valB ⟨#[45, 48, 46, 48]⟩ = 9223372036854775808 ∧ errB ⟨#[45, 48, 46, 48]⟩ = 0 := ⟨by kernel_rfl, by kernel_rfl⟩
theorem val_great : valB ⟨#[49, 101, 57, 57, 57]⟩ = 9218868437227405312 ∧ errB ⟨#[49, 101, 57, 57, 57]⟩ = 0 := ⟨by kernel_rfl, by kernel_rfl⟩
theorem sign_nought : signB 9223372036854775808 = -1 := by kernel_rfl
theorem kind_great : kindB 9218868437227405312 = 1 := by kernel_rfl

set_option maxHeartbeats 1000000 in
theorem lives9_any (w : World) :
    Calls Tryd.prog 11 #[] w fun e w' => e = .returned (.bool true) ∧ Below w.heap.size w w' := by
  have HX := Lib.hid fun W => value_any ⟨#[45, 48, 46, 48]⟩ W (by decide)
  have HY := Lib.hid fun W => value_any ⟨#[49, 101, 57, 57, 57]⟩ W (by decide)
  have HS := Lib.hid fun W => rsign_any 9223372036854775808 (by decide) W
  have HK := Lib.hid fun W => rkind_any 9218868437227405312 (by decide) W
  rw [val_nought.1, val_nought.2] at HX
  rw [val_great.1, val_great.2] at HY
  rw [sign_nought] at HS
  rw [kind_great] at HK
  go_enter Tryd.func11, Tryd.ntmps11
  go_wp2_with (first
    | (go_at_call 15; (with_reducible refine (HX.out _).mono ?_); rintro e w1 ⟨rfl, hb1⟩)
    | (go_at_call 15; (with_reducible refine (HY.out _).mono ?_); rintro e w2 ⟨rfl, hb2⟩)
    | (go_at_call 22; (with_reducible refine (HS.out _).mono ?_); rintro e w3 ⟨rfl, n3, rfl⟩)
    | (go_at_call 19; (with_reducible refine (HK.out _).mono ?_); rintro e w4 ⟨rfl, n4, rfl⟩))
  go_ret
  exact ⟨rfl, Below.drewN' (hb1.trans (hb2.mono hb1.size)) _⟩

end Go.Proofs.YthiclminkbnibaaDoor
