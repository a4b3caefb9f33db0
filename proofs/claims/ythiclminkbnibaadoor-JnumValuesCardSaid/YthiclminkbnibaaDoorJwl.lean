/-
  The law JnumValues returns true of every text. Condition: the text is as long as a length can be.
-/
import Derived.Test.YthiclminkbnibaaDoorJvl
import Derived.Test.YthiclminkbnibaaDoorJw
namespace Go.Proofs.YthiclminkbnibaaDoor
open Go.RowKit

theorem refValue_any (s : ByteArray) (w : World) (hs : s.size ≤ 1000000) :
    Calls Tryd.prog 16 #[.string s] w fun e w' => e = .returned (.tuple #[.float .f64 (valB s), .int .i64 (errB s)]) ∧ Below w.heap.size w w' := by
  cases h : isB s
  · exact refValue_no s w hs h
  · exact refValue_yes s w hs h

set_option maxHeartbeats 4000000 in
set_option maxRecDepth 100000 in
theorem jnumValues_any (s : ByteArray) (w : World) (hs : s.size ≤ 9223372036854775807) :
    Calls Tryd.prog 5 #[.string s] w fun e w' => e = .returned (.bool true) ∧ Below w.heap.size w w' := by
  have HC : Hid (∀ W, Calls Tryd.prog 6 #[.string s, .int .i64 60] W fun e w' => e = .returned (.string (cutB s 60)) ∧ W = w') := fun W => cut_any s 60 W hs
  have hu := cutB_size s 60
  generalize cutB s 60 = u at *
  have HV := Lib.hid fun W => value_any u W (by omega)
  have HR := Lib.hid fun W => refValue_any u W (by omega)
  have HB := Lib.hid fun W => rbits_any (valB u) (valB_lt u) W
  have HE := Lib.hid fun W => edge_any u W (by omega)
  have HK := Lib.hid fun W => rkind_any (valB u) (valB_lt u) W
  have HL := Lib.hid fun W => lives9_any W
  have he : edgB u = if errB u = 0 then kindB (valB u) else -1 := rfl
  generalize normB (valB u) = nb at *
  generalize kindB (valB u) = kb at *
  generalize valB u = v at *
  generalize errB u = r at *
  generalize edgB u = eb at *
  by_cases h : r = 0
  · rw [if_pos h] at he
    subst he
    subst h
    go_enter Tryd.func5, Tryd.ntmps5
    go_wp2_with (first
      | (go_at_call 6; refine (HC.out _).mono ?_; rintro e w' ⟨rfl, rfl⟩)
      | (go_at_call 15; refine (HV.out _).mono ?_; rintro e w1 ⟨rfl, hb1⟩)
      | (go_at_call 16; refine (HR.out _).mono ?_; rintro e w2 ⟨rfl, hb2⟩)
      | (go_at_call 17; refine (HB.out _).mono ?_; rintro e w' ⟨rfl, n, rfl⟩)
      | (go_at_call 18; refine (HE.out _).mono ?_; rintro e w3 ⟨rfl, hb3⟩)
      | (go_at_call 19; refine (HK.out _).mono ?_; rintro e w' ⟨rfl, n, rfl⟩)
      | (go_at_call 11; (with_reducible refine (HL.out _).mono ?_); rintro e w4 ⟨rfl, hb4⟩))
    go_ret
    have b2 := hb1.trans (hb2.mono hb1.size)
    have b3 := (Below.drewN' b2 _).trans (hb3.mono b2.size)
    exact ⟨rfl, (Below.drewN' b3 _).trans (hb4.mono b3.size)⟩
  · rw [if_neg h] at he
    subst he
    have r1 : (r == 0) = false := by simpa using h
    have r2 : (r != 0) = true := by simpa using h
    clear h HK
    go_enter Tryd.func5, Tryd.ntmps5
    go_wp2_with (first
      | (go_at_call 6; refine (HC.out _).mono ?_; rintro e w' ⟨rfl, rfl⟩)
      | (go_at_call 15; refine (HV.out _).mono ?_; rintro e w1 ⟨rfl, hb1⟩)
      | (go_at_call 16; refine (HR.out _).mono ?_; rintro e w2 ⟨rfl, hb2⟩)
      | (go_at_call 17; refine (HB.out _).mono ?_; rintro e w' ⟨rfl, n, rfl⟩)
      | (go_at_call 18; refine (HE.out _).mono ?_; rintro e w3 ⟨rfl, hb3⟩)
      | (go_at_call 11; (with_reducible refine (HL.out _).mono ?_); rintro e w4 ⟨rfl, hb4⟩))
    go_ret
    have b2 := hb1.trans (hb2.mono hb1.size)
    have b3 := (Below.drewN' b2 _).trans (hb3.mono b2.size)
    exact ⟨rfl, b3.trans (hb4.mono b3.size)⟩

end Go.Proofs.YthiclminkbnibaaDoor
