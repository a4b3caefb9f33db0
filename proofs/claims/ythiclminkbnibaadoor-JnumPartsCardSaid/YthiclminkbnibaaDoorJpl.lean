/-
  The law JnumParts returns true of every text. Condition: the text is as long as a length can be.
-/
import Derived.Test.YthiclminkbnibaaDoorJvl
import Derived.Test.YthiclminkbnibaaDoorJg
namespace Go.Proofs.YthiclminkbnibaaDoor
open Go.RowKit

set_option maxHeartbeats 4000000 in
set_option maxRecDepth 100000 in
theorem jnumParts_any (s : ByteArray) (w : World) (hs : s.size ≤ 9223372036854775807) :
    Calls Tryd.prog 4 #[.string s] w fun e w' => e = .returned (.bool true) ∧ Below w.heap.size w w' := by
  have HC : Hid (∀ W, Calls Tryd.prog 6 #[.string s, .int .i64 60] W fun e w' => e = .returned (.string (cutB s 60)) ∧ W = w') := fun W => cut_any s 60 W hs
  have hu := cutB_size s 60
  generalize cutB s 60 = u at *
  have HP := Lib.hid fun W => parts_any u W (by omega)
  have HI := Lib.hid fun W => is_any u W (by omega)
  have HL := Lib.hid fun W => lives9_any W
  cases h : isB u
  · rw [prtV_no h] at HP
    rw [h] at HI
    clear h
    go_enter Tryd.func4, Tryd.ntmps4
    go_wp2_with (first
      | (go_at_call 6; refine (HC.out _).mono ?_; rintro e w' ⟨rfl, rfl⟩)
      | (go_at_call 12; refine (HP.out _).mono ?_; rintro e w1 ⟨rfl, hb1⟩)
      | (go_at_call 13; refine (HI.out _).mono ?_; rintro e w' ⟨rfl, rfl⟩)
      | (go_at_call 11; (with_reducible refine (HL.out _).mono ?_); rintro e w3 ⟨rfl, hb3⟩))
    go_ret
    exact ⟨rfl, hb1.trans (hb3.mono hb1.size)⟩
  · have hp : prtV u = .tuple #[.bool (negL u.data.toList), .string (bs (dL u.data.toList)), .int .i64 (expL u.data.toList), .bool true] := by unfold prtV; rw [if_pos h]
    have HR := Lib.hid fun W => refParts_any u W (by omega) h
    rw [hp] at HP
    rw [h] at HI
    clear h hp
    generalize negL u.data.toList = ng at *
    generalize bs (dL u.data.toList) = D at *
    generalize expL u.data.toList = x at *
    go_enter Tryd.func4, Tryd.ntmps4
    go_wp2_with (first
      | (go_at_call 6; refine (HC.out _).mono ?_; rintro e w' ⟨rfl, rfl⟩)
      | (go_at_call 12; refine (HP.out _).mono ?_; rintro e w1 ⟨rfl, hb1⟩)
      | (go_at_call 13; refine (HI.out _).mono ?_; rintro e w' ⟨rfl, rfl⟩)
      | (go_at_call 14; refine (HR.out _).mono ?_; rintro e w2 ⟨rfl, hb2⟩)
      | (go_at_call 11; (with_reducible refine (HL.out _).mono ?_); rintro e w3 ⟨rfl, hb3⟩))
    go_ret
    have b2 : Below w.heap.size w w2 := hb1.trans (hb2.mono hb1.size)
    have b3 := b2.alloc b2.size (.cells #[.bool ng, .string D, .int .i64 x] 31)
    exact ⟨rfl, b3.trans (hb3.mono b3.size)⟩

end Go.Proofs.YthiclminkbnibaaDoor
