/-
  What strconv.Itoa answers at this translation: the decimal numeral. Condition: the library's table of powers of ten is laid.
  What Text of layer 5 answers, and the document's own. Condition: the library's table of powers of ten is laid.
  What Text and Write of both sides answer at layer 24. Condition: the library's table of powers of ten is laid.
-/
import Derived.Shelf.LaysM
import Derived.Shelf.Strconv.Itoa3
import Derived.Lib.AppendIntMem
import Derived.Stop.LaidErr
import Derived.Test.YteeheehoaklnbaaDoorRows
import Derived.WalkKit
import Derived.Test.YteeheehoaklnbaaDoorZ7
import Derived.WalkSpells
import Derived.WalkLawsBesides
import Derived.Lib.Hide
import Derived.Test.YteeheehoaklnbaaDoorZ8
import Derived.Test.YteeheehoaklnbaaDoorZ2
import Derived.RegionTactic
import Derived.BigRegion
import Derived.Deep.QuietTactic
import Derived.BigQuiet
import Derived.Deep.RegionHeld2
import Derived.IntWalk
namespace Go.Proofs.YteeheehoaklnbaaDoor
open Go.RowKit

def itoaRen : Go.Shelf.Ren := ⟨fun | 171 => 25 | 243 => 42 | 246 => 55 | 283 => 61 | 284 => 62 | 285 => 63 | 286 => 64 | 129 => 67 | 317 => 66 | 318 => 68 | 319 => 69 | 320 => 70 | 337 => 71 | 338 => 72 | n => n, fun | 3 => 3 | 9 => 9 | 2 => 2 | 4 => 4 | 171 => 72 | 0 => 0 | 53 => 58 | 37 => 75 | 5 => 5 | 173 => 76 | 212 => 79 | 51 => 80 | 20 => 20 | 213 => 81 | 46 => 82 | 232 => 85 | 233 => 86 | n => n, fun | 17 => 0 | 18 => 1 | 19 => 2 | n => n⟩
theorem itoaLays : Go.Proofs.LaysM.n171 Tryd.prog itoaRen := {
  mixed := by kernel_rfl
  f129 := Tryd.func67.trans (congrArg some (by kernel_rfl))
  f171 := Tryd.func25.trans (congrArg some (by kernel_rfl))
  f243 := Tryd.func42.trans (congrArg some (by kernel_rfl))
  f246 := Tryd.func55.trans (congrArg some (by kernel_rfl))
  f283 := Tryd.func61.trans (congrArg some (by kernel_rfl))
  f284 := Tryd.func62.trans (congrArg some (by kernel_rfl))
  f285 := Tryd.func63.trans (congrArg some (by kernel_rfl))
  f286 := Tryd.func64.trans (congrArg some (by kernel_rfl))
  f317 := Tryd.func66.trans (congrArg some (by kernel_rfl))
  f318 := Tryd.func68.trans (congrArg some (by kernel_rfl))
  f319 := Tryd.func69.trans (congrArg some (by kernel_rfl))
  f320 := Tryd.func70.trans (congrArg some (by kernel_rfl))
  f337 := Tryd.func71.trans (congrArg some (by kernel_rfl))
  f338 := Tryd.func72.trans (congrArg some (by kernel_rfl))
  t0 := Tryd.underlying0
  a0 := Tryd.isAgg0
  z0 := Tryd.sizeOf0
  v0 := Tryd.zeroValue0
  t2 := Tryd.underlying2
  a2 := Tryd.isAgg2
  z2 := Tryd.sizeOf2
  v2 := Tryd.zeroValue2
  t3 := Tryd.underlying3
  a3 := Tryd.isAgg3
  z3 := Tryd.sizeOf3
  v3 := Tryd.zeroValue3
  t4 := Tryd.underlying4
  a4 := Tryd.isAgg4
  z4 := Tryd.sizeOf4
  v4 := Tryd.zeroValue4
  t5 := Tryd.underlying5
  a5 := Tryd.isAgg5
  z5 := Tryd.sizeOf5
  v5 := Tryd.zeroValue5
  t9 := Tryd.underlying9
  a9 := Tryd.isAgg9
  z9 := Tryd.sizeOf9
  v9 := Tryd.zeroValue9
  t20 := Tryd.underlying20
  a20 := Tryd.isAgg20
  z20 := Tryd.sizeOf20
  v20 := Tryd.zeroValue20
  t37 := Tryd.underlying75
  a37 := Tryd.isAgg75
  z37 := Tryd.sizeOf75
  v37 := Tryd.zeroValue75
  t46 := Tryd.underlying82
  a46 := Tryd.isAgg82
  z46 := Tryd.sizeOf82
  v46 := Tryd.zeroValue82
  t51 := Tryd.underlying80
  a51 := Tryd.isAgg80
  z51 := Tryd.sizeOf80
  v51 := Tryd.zeroValue80
  t53 := Tryd.underlying58
  a53 := Tryd.isAgg58
  z53 := Tryd.sizeOf58
  v53 := Tryd.zeroValue58
  t171 := Tryd.underlying72
  a171 := Tryd.isAgg72
  z171 := Tryd.sizeOf72
  v171 := Tryd.zeroValue72
  t173 := Tryd.underlying76
  a173 := Tryd.isAgg76
  z173 := Tryd.sizeOf76
  v173 := Tryd.zeroValue76
  t212 := Tryd.underlying79
  a212 := Tryd.isAgg79
  z212 := Tryd.sizeOf79
  v212 := Tryd.zeroValue79
  t213 := Tryd.underlying81
  a213 := Tryd.isAgg81
  z213 := Tryd.sizeOf81
  t232 := Tryd.underlying85
  a232 := Tryd.isAgg85
  z232 := Tryd.sizeOf85
  v232 := Tryd.zeroValue85
  t233 := Tryd.underlying86
  a233 := Tryd.isAgg86
  z233 := Tryd.sizeOf86
  v233 := Tryd.zeroValue86
  g17 := by kernel_rfl
  g18 := by kernel_rfl
  g19 := by kernel_rfl
  i0 := by kernel_rfl
  i2 := by kernel_rfl
  i3 := by kernel_rfl
  i4 := by kernel_rfl
  i5 := by kernel_rfl
  i9 := by kernel_rfl
  i20 := by kernel_rfl
  i37 := by kernel_rfl
  i46 := by kernel_rfl
  i51 := by kernel_rfl
  i53 := by kernel_rfl
  i171 := by kernel_rfl
  i173 := by kernel_rfl
  i212 := by kernel_rfl
  i232 := by kernel_rfl
  i233 := by kernel_rfl
  m17 := by kernel_rfl
  m18 := by kernel_rfl
  m19 := by kernel_rfl }

/-- The library's table of powers of ten lies as its initialiser lays it. -/
def PowTab (w : World) : Prop := ∀ nm, Tryd.prog.globalNamed nm = some 0 → Lib.TabIs Tryd.prog w nm .u64 Lib.pow10Tab

theorem itoa_any (n : Int) (w : World) (h0 : -9223372036854775808 ≤ n) (h1 : n ≤ 9223372036854775807) (ht : PowTab w) :
    Calls Tryd.prog 25 #[.int .i64 n] w fun e w' => e = .returned (.string ⟨(Lib.itoa n).toArray⟩) ∧ Below w.heap.size w w' := by
  refine Calls.mono (Any.strconv_Itoa itoaLays n h0 h1 w (ht _ itoaLays.m17)) ?_
  rintro e w' ⟨rfl, k, os, rfl⟩
  exact ⟨rfl, Lib.below_grow _ _ (Nat.le_refl _) k os⟩

end Go.Proofs.YteeheehoaklnbaaDoor
namespace Go.Proofs.YteeheehoaklnbaaDoor
open Go.RowKit

set_option maxHeartbeats 400000 in
theorem text_any (n : Int) (w : World) (h0 : -9223372036854775808 ≤ n) (h1 : n ≤ 9223372036854775807) (ht : PowTab w) :
    Calls Tryd.prog 11 #[.int .i64 n] w fun e w' => e = .returned (.string ⟨(Lib.itoa n).toArray⟩) ∧ Below w.heap.size w w' := by
  have HI := Lib.hid (itoa_any n w h0 h1 ht)
  go_enter Tryd.func11, Tryd.ntmps11
  go_wp2_with (go_at_call 25; refine HI.out.mono ?_; rintro e w1 ⟨rfl, hb⟩)
  go_ret
  exact ⟨rfl, hb⟩

def tenS : ByteArray := ⟨#[48, 49, 50, 51, 52, 53, 54, 55, 56, 57]⟩
theorem tenS_piece {u : Nat} (h : u < 10) : tenS.extract u (u + 1) = digS u := by
  have key : (List.range 10).all (fun u => decide (tenS.extract u (u + 1) = (⟨#[UInt8.ofNat (48 + u)]⟩ : ByteArray))) = true := by kernel_rfl
  rw [List.all_eq_true] at key
  have := key u (List.mem_range.2 h)
  rw [decide_eq_true_eq] at this
  rw [this]
  unfold digS
  rw [Lib.decDigits, dif_pos h]

theorem digS_join {u : Nat} (h : ¬ u < 10) : digS (u / 10) ++ digS (u % 10) = digS u := by
  have e : Lib.decDigits u = Lib.decDigits (u / 10) ++ Lib.decDigits (u % 10) := by
    rw [Lib.decDigits, dif_neg h]
    congr 1
    rw [Lib.decDigits, dif_pos (by omega)]
  unfold digS
  rw [e]
  apply ByteArray.ext
  rw [ByteArray.data_append]
  simp

set_option maxHeartbeats 1000000 in
theorem num_nat (k : Nat) : ∀ (u : Nat) (w : World), u ≤ k → u < 18446744073709551616 →
    Calls Tryd.prog 41 #[.int .u64 (u : Int)] w fun e w' => e = .returned (.string (digS u)) ∧ w = w' := by
  induction k with
  | zero =>
    intro u w hk _
    obtain rfl : u = 0 := by omega
    have HV := Lib.hid (tenS_piece (u := 0) (by omega))
    go_enter Tryd.func41, Tryd.ntmps41
    go_wp2_with fail
    go_ret
    exact ⟨by rw [← HV.out]; rfl, rfl⟩
  | succ k ih =>
    intro u w hk hu
    by_cases h : u < 10
    · have HV := Lib.hid (tenS_piece h)
      have g1 : (u : Int) < 10 := by omega
      go_enter Tryd.func41, Tryd.ntmps41
      go_wp2_with fail
      go_ret
      exact ⟨by rw [← HV.out]; rfl, rfl⟩
    · have HV := Lib.hid (digS_join h)
      have l1 := digS_le (u := u / 10) (by omega)
      have l2 := digS_le (u := u % 10) (by omega)
      have HQ : Hid (∀ W, Calls Tryd.prog 41 #[.int .u64 ((u : Int) / 10)] W fun e w' => e = .returned (.string (digS (u / 10))) ∧ W = w') := fun W => ih (u / 10) W (by omega) (by omega)
      have HR : Hid (∀ W, Calls Tryd.prog 41 #[.int .u64 ((u : Int) % 10)] W fun e w' => e = .returned (.string (digS (u % 10))) ∧ W = w') := fun W => ih (u % 10) W (by omega) (by omega)
      have g1 : ¬ (u : Int) < 10 := by omega
      clear ih
      generalize digS (u / 10) = x at *
      generalize digS (u % 10) = y at *
      go_enter Tryd.func41, Tryd.ntmps41
      go_wp2_with (first
        | (go_at_call 41; with_reducible refine (HQ.out _).mono ?_; rintro e w' ⟨rfl, rfl⟩)
        | (go_at_call 41; with_reducible refine (HR.out _).mono ?_; rintro e w' ⟨rfl, rfl⟩))
      go_ret
      exact ⟨by rw [← HV.out]; rfl, rfl⟩

set_option maxHeartbeats 400000 in
theorem refText_pos (u : Nat) (w : World) (h1 : u ≤ 9223372036854775807) :
    Calls Tryd.prog 24 #[.int .i64 (u : Int)] w fun e w' => e = .returned (.string (digS u)) ∧ w = w' := by
  have HN : Hid (∀ W, Calls Tryd.prog 41 #[.int .u64 (u : Int)] W fun e w' => e = .returned (.string (digS u)) ∧ W = w') := fun W => num_nat u u W (Nat.le_refl _) (by omega)
  have g1 : ¬ (u : Int) < 0 := by omega
  generalize digS u = y at *
  go_enter Tryd.func24, Tryd.ntmps24
  go_wp2_with (go_at_call 41; refine (HN.out _).mono ?_; rintro e w' ⟨rfl, rfl⟩)
  go_ret
  exact ⟨rfl, rfl⟩

end Go.Proofs.YteeheehoaklnbaaDoor
namespace Go.Proofs.YteeheehoaklnbaaDoor
open Go.RowKit

theorem PowTab.stays {w w' : World} (h : PowTab w) (hb : Below w.heap.size w w') : PowTab w' := fun nm hn => Lib.tabBelow_of_tabIs (h nm hn) w' hb
theorem worS_pos {n : Int} (h : ¬n < 0) : worS n = digS n.toNat := if_neg h

theorem worS_le {n : Int} (h : n ≤ 9223372036854775807) : (worS n).size ≤ 20 := by
  unfold worS
  split
  · exact Nat.zero_le _
  · exact digS_le (by omega)

theorem dtext24_any (n : Int) (w : World) (h0 : 0 ≤ n) (h1 : n ≤ 9223372036854775807) (ht : PowTab w) :
    Calls Tryd.prog 11 #[.int .i64 n] w fun e w' => e = .returned (.string (worS n)) ∧ Below w.heap.size w w' := by
  have := text_any n w (by omega) h1 ht
  rw [show n = ((n.toNat : Nat) : Int) from by omega, itoa_pos] at this
  rw [worS_pos (by omega)]
  rw [show ((n.toNat : Nat) : Int) = n from by omega] at this
  exact this
end Go.Proofs.YteeheehoaklnbaaDoor
