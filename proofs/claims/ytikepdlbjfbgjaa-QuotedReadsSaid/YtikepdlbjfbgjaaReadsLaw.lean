/-
  The law QuotedReads returns true for any text and byte. Condition: the text is as long as a length can be.
-/
import Derived.Test.YtikepdlbjfbgjaaLives4
import Derived.Test.YtikepdlbjfbgjaaRead
import Derived.Test.YtikepdlbjfbgjaaRef4
import Derived.Test.YtikepdlbjfbgjaaCut
namespace Go.Proofs.Ytikepdlbjfbgjaa
open Go.RowKit

set_option maxHeartbeats 2000000 in
set_option maxRecDepth 100000 in
theorem reads_none_in_end (s u t y z z0 : ByteArray) (b : UInt8) (r m n g : Nat) (x : Bool) (hx : decide ((128 : Int) ≤ (b.toNat : Int)) = x) (w : World) (_hu : u.size ≤ 80) (hy0 : ((y.size : Int) != (m : Int)) = false)
    (hr0 : ((u.size : Int) == 0) = true) (hm : m ≤ u.size) (hm3 : (b.toNat : Int) % 10 = (m : Int)) (he0 : ((m : Int) == (u.size : Int)) = true)
    (HCS : Hid (∀ W, Below w.heap.size w W → Calls Try.prog 5 #[.string s, .int .i64 80] W fun e w' => e = .returned (.string u) ∧ Below w.heap.size w w'))
    (HRD : Hid (∀ W, Below w.heap.size w W → Calls Try.prog 6 #[.string u] W fun e w' => e = .returned (.tuple #[.string ⟨#[]⟩, .int .i64 0, .int .i64 2]) ∧ Below w.heap.size w w'))
    (HSK : Hid (∀ W cb, Cur W cb u 0 → Calls Try.prog 8 #[.func (.func 9) #[skipc cb m] #[]] W fun e w' => e = .returned (.tuple #[.string y, flt 0 0]) ∧ Mv W.heap.size [cb] W w' ∧ Cur w' cb u m))
    (HCL : Hid (∀ W cb, Cur W cb u m → Calls Try.prog 8 #[.func (.func 10) #[callc cb x] #[]] W fun e w' => e = .returned (.tuple #[.string ⟨#[]⟩, flt m 2]) ∧ Mv W.heap.size [cb] W w' ∧ Cur w' cb u m))
    (HLV : Hid (∀ W, Below w.heap.size w W → Calls Try.prog 13 #[] W fun e w' => e = .returned (.bool true) ∧ Below w.heap.size w w')) :
    Calls Try.prog 3 #[.string s, .int .u8 (b.toNat : Int)] w fun e w' => e = .returned (.bool true) ∧ Below w.heap.size w w' := by
  have hb0 := Below.refl w.heap.size w
  have hmf := make_func
  go_enter Try.func3, Try.ntmps3
  go_wp2_with (first
    | (go_at_call 5; with_reducible refine (HCS.out _ (by assumption)).mono ?_; rintro e w1 ⟨rfl, hb1⟩)
    | (go_at_call 6; with_reducible refine (HRD.out _ (by assumption)).mono ?_; rintro e w1 ⟨rfl, hb1⟩))
  go_wp2_with fail
  refine (new_any u _).mono ?_
  rintro e w2 ⟨rfl, hw2⟩
  have hc2 : Cur w2 w1.heap.size u 0 := by rw [hw2]; exact Blk.new w1 48 #[.string u, .int .i64 0]
  have hb2 : Below w.heap.size w w2 := by rw [hw2]; exact hb1.alloc hb1.size _
  have hcb : w.heap.size ≤ w1.heap.size := hb1.size
  clear hw2
  generalize w1.heap.size = cb at *
  have HC2 := Lib.hid hc2
  have HB2 := Lib.hid hb2
  clear hc2 hb2 hb1 hb0 HCS HRD
  go_wp2_with fail
  refine (HSK.out _ _ HC2.out).mono ?_
  rintro e w3 ⟨rfl, m3, c3⟩
  have HC3 := Lib.hid (Blk.alloc c3 (flc 0 0))
  have HB3 := Lib.hid ((HB2.out.trans ((m3.mono (B' := w.heap.size) HB2.out.size (fun x hx => .inl hx)).below (Nat.le_refl _) (by simpa using hcb))).alloc (Nat.le_trans HB2.out.size m3.size) (flc 0 0))
  clear m3 c3 HC2 HB2 HSK
  go_wp2_with fail
  refine (HCL.out _ _ HC3.out).mono ?_
  rintro e w4 ⟨rfl, m4, c4⟩
  have HC4 := Lib.hid (Blk.alloc c4 (flc m 2))
  have hb4 := (HB3.out.trans ((m4.mono (B' := w.heap.size) HB3.out.size (fun x hx => .inl hx)).below (Nat.le_refl _) (by simpa using hcb))).alloc (Nat.le_trans HB3.out.size m4.size) (flc m 2)
  have HB4 := Lib.hid hb4
  have HF4 := Lib.hid (show Blk (w4.alloc (flc m 2)) w4.heap.size 29 #[.int .i64 m, .int .i64 2] from Blk.new _ _ _)
  clear m4 c4 HC3 HB3 HCL hb4
  have k0 := HF4.out.cell 0
  have k1 := HF4.out.cell 1
  have hb9 := HB4.out
  go_wp2_with (first
    | (go_at_call 12; refine (at_any cb _ u _ HC4.out).mono ?_; rintro e w8 ⟨rfl, rfl⟩)
    | (go_at_call 13; with_reducible refine (HLV.out _ (by assumption)).mono ?_; rintro e w8 ⟨rfl, hb8⟩))
  go_ret
  exact ⟨rfl, by assumption⟩

set_option maxHeartbeats 2000000 in
set_option maxRecDepth 100000 in
theorem reads_none_far_end (s u t y z z0 : ByteArray) (b : UInt8) (r m n g : Nat) (x : Bool) (hx : decide ((128 : Int) ≤ (b.toNat : Int)) = x) (w : World) (_hu : u.size ≤ 80) (hy0 : ((y.size : Int) != (m : Int)) = false)
    (hr0 : ((u.size : Int) == 0) = true) (hc : u.size < r) (hm3 : (b.toNat : Int) % 10 = (r : Int)) (hm : m = u.size) (he0 : ((m : Int) == (u.size : Int)) = true)
    (HCS : Hid (∀ W, Below w.heap.size w W → Calls Try.prog 5 #[.string s, .int .i64 80] W fun e w' => e = .returned (.string u) ∧ Below w.heap.size w w'))
    (HRD : Hid (∀ W, Below w.heap.size w W → Calls Try.prog 6 #[.string u] W fun e w' => e = .returned (.tuple #[.string ⟨#[]⟩, .int .i64 0, .int .i64 2]) ∧ Below w.heap.size w w'))
    (HSK : Hid (∀ W cb, Cur W cb u 0 → Calls Try.prog 8 #[.func (.func 9) #[skipc cb m] #[]] W fun e w' => e = .returned (.tuple #[.string y, flt 0 0]) ∧ Mv W.heap.size [cb] W w' ∧ Cur w' cb u m))
    (HCL : Hid (∀ W cb, Cur W cb u m → Calls Try.prog 8 #[.func (.func 10) #[callc cb x] #[]] W fun e w' => e = .returned (.tuple #[.string ⟨#[]⟩, flt m 2]) ∧ Mv W.heap.size [cb] W w' ∧ Cur w' cb u m))
    (HLV : Hid (∀ W, Below w.heap.size w W → Calls Try.prog 13 #[] W fun e w' => e = .returned (.bool true) ∧ Below w.heap.size w w')) :
    Calls Try.prog 3 #[.string s, .int .u8 (b.toNat : Int)] w fun e w' => e = .returned (.bool true) ∧ Below w.heap.size w w' := by
  subst hm
  have hb0 := Below.refl w.heap.size w
  have hmf := make_func
  go_enter Try.func3, Try.ntmps3
  go_wp2_with (first
    | (go_at_call 5; with_reducible refine (HCS.out _ (by assumption)).mono ?_; rintro e w1 ⟨rfl, hb1⟩)
    | (go_at_call 6; with_reducible refine (HRD.out _ (by assumption)).mono ?_; rintro e w1 ⟨rfl, hb1⟩))
  go_wp2_with fail
  refine (new_any u _).mono ?_
  rintro e w2 ⟨rfl, hw2⟩
  have hc2 : Cur w2 w1.heap.size u 0 := by rw [hw2]; exact Blk.new w1 48 #[.string u, .int .i64 0]
  have hb2 : Below w.heap.size w w2 := by rw [hw2]; exact hb1.alloc hb1.size _
  have hcb : w.heap.size ≤ w1.heap.size := hb1.size
  clear hw2
  generalize w1.heap.size = cb at *
  have HC2 := Lib.hid hc2
  have HB2 := Lib.hid hb2
  clear hc2 hb2 hb1 hb0 HCS HRD
  go_wp2_with fail
  refine (HSK.out _ _ HC2.out).mono ?_
  rintro e w3 ⟨rfl, m3, c3⟩
  have HC3 := Lib.hid (Blk.alloc c3 (flc 0 0))
  have HB3 := Lib.hid ((HB2.out.trans ((m3.mono (B' := w.heap.size) HB2.out.size (fun x hx => .inl hx)).below (Nat.le_refl _) (by simpa using hcb))).alloc (Nat.le_trans HB2.out.size m3.size) (flc 0 0))
  clear m3 c3 HC2 HB2 HSK
  go_wp2_with fail
  refine (HCL.out _ _ HC3.out).mono ?_
  rintro e w4 ⟨rfl, m4, c4⟩
  have HC4 := Lib.hid (Blk.alloc c4 (flc u.size 2))
  have hb4 := (HB3.out.trans ((m4.mono (B' := w.heap.size) HB3.out.size (fun x hx => .inl hx)).below (Nat.le_refl _) (by simpa using hcb))).alloc (Nat.le_trans HB3.out.size m4.size) (flc u.size 2)
  have HB4 := Lib.hid hb4
  have HF4 := Lib.hid (show Blk (w4.alloc (flc u.size 2)) w4.heap.size 29 #[.int .i64 u.size, .int .i64 2] from Blk.new _ _ _)
  clear m4 c4 HC3 HB3 HCL hb4
  have k0 := HF4.out.cell 0
  have k1 := HF4.out.cell 1
  have hb9 := HB4.out
  go_wp2_with (first
    | (go_at_call 12; refine (at_any cb _ u _ HC4.out).mono ?_; rintro e w8 ⟨rfl, rfl⟩)
    | (go_at_call 13; with_reducible refine (HLV.out _ (by assumption)).mono ?_; rintro e w8 ⟨rfl, hb8⟩))
  go_ret
  exact ⟨rfl, by assumption⟩

set_option maxHeartbeats 2000000 in
set_option maxRecDepth 100000 in
theorem reads_other_far_end (s u t y z z0 : ByteArray) (b : UInt8) (r m n g : Nat) (x : Bool) (hx : decide ((128 : Int) ≤ (b.toNat : Int)) = x) (w : World) (_hu : u.size ≤ 80) (hy0 : ((y.size : Int) != (m : Int)) = false)
    (hr1 : 0 < u.size) (hr0 : ((u.size : Int) == 0) = false) (hr2 : ((u[0].toNat : Int) != 34) = true) (hc : u.size < r) (hm3 : (b.toNat : Int) % 10 = (r : Int)) (hm : m = u.size) (he0 : ((m : Int) == (u.size : Int)) = true)
    (HCS : Hid (∀ W, Below w.heap.size w W → Calls Try.prog 5 #[.string s, .int .i64 80] W fun e w' => e = .returned (.string u) ∧ Below w.heap.size w w'))
    (HRD : Hid (∀ W, Below w.heap.size w W → Calls Try.prog 6 #[.string u] W fun e w' => e = .returned (.tuple #[.string ⟨#[]⟩, .int .i64 0, .int .i64 2]) ∧ Below w.heap.size w w'))
    (HSK : Hid (∀ W cb, Cur W cb u 0 → Calls Try.prog 8 #[.func (.func 9) #[skipc cb m] #[]] W fun e w' => e = .returned (.tuple #[.string y, flt 0 0]) ∧ Mv W.heap.size [cb] W w' ∧ Cur w' cb u m))
    (HCL : Hid (∀ W cb, Cur W cb u m → Calls Try.prog 8 #[.func (.func 10) #[callc cb x] #[]] W fun e w' => e = .returned (.tuple #[.string ⟨#[]⟩, flt m 2]) ∧ Mv W.heap.size [cb] W w' ∧ Cur w' cb u m))
    (HLV : Hid (∀ W, Below w.heap.size w W → Calls Try.prog 13 #[] W fun e w' => e = .returned (.bool true) ∧ Below w.heap.size w w')) :
    Calls Try.prog 3 #[.string s, .int .u8 (b.toNat : Int)] w fun e w' => e = .returned (.bool true) ∧ Below w.heap.size w w' := by
  subst hm
  have hb0 := Below.refl w.heap.size w
  have hmf := make_func
  go_enter Try.func3, Try.ntmps3
  go_wp2_with (first
    | (go_at_call 5; with_reducible refine (HCS.out _ (by assumption)).mono ?_; rintro e w1 ⟨rfl, hb1⟩)
    | (go_at_call 6; with_reducible refine (HRD.out _ (by assumption)).mono ?_; rintro e w1 ⟨rfl, hb1⟩))
  go_wp2_with fail
  refine (new_any u _).mono ?_
  rintro e w2 ⟨rfl, hw2⟩
  have hc2 : Cur w2 w1.heap.size u 0 := by rw [hw2]; exact Blk.new w1 48 #[.string u, .int .i64 0]
  have hb2 : Below w.heap.size w w2 := by rw [hw2]; exact hb1.alloc hb1.size _
  have hcb : w.heap.size ≤ w1.heap.size := hb1.size
  clear hw2
  generalize w1.heap.size = cb at *
  have HC2 := Lib.hid hc2
  have HB2 := Lib.hid hb2
  clear hc2 hb2 hb1 hb0 HCS HRD
  go_wp2_with fail
  refine (HSK.out _ _ HC2.out).mono ?_
  rintro e w3 ⟨rfl, m3, c3⟩
  have HC3 := Lib.hid (Blk.alloc c3 (flc 0 0))
  have HB3 := Lib.hid ((HB2.out.trans ((m3.mono (B' := w.heap.size) HB2.out.size (fun x hx => .inl hx)).below (Nat.le_refl _) (by simpa using hcb))).alloc (Nat.le_trans HB2.out.size m3.size) (flc 0 0))
  clear m3 c3 HC2 HB2 HSK
  go_wp2_with fail
  refine (HCL.out _ _ HC3.out).mono ?_
  rintro e w4 ⟨rfl, m4, c4⟩
  have HC4 := Lib.hid (Blk.alloc c4 (flc u.size 2))
  have hb4 := (HB3.out.trans ((m4.mono (B' := w.heap.size) HB3.out.size (fun x hx => .inl hx)).below (Nat.le_refl _) (by simpa using hcb))).alloc (Nat.le_trans HB3.out.size m4.size) (flc u.size 2)
  have HB4 := Lib.hid hb4
  have HF4 := Lib.hid (show Blk (w4.alloc (flc u.size 2)) w4.heap.size 29 #[.int .i64 u.size, .int .i64 2] from Blk.new _ _ _)
  clear m4 c4 HC3 HB3 HCL hb4
  have k0 := HF4.out.cell 0
  have k1 := HF4.out.cell 1
  have hb9 := HB4.out
  go_wp2_with (first
    | (go_at_call 12; refine (at_any cb _ u _ HC4.out).mono ?_; rintro e w8 ⟨rfl, rfl⟩)
    | (go_at_call 13; with_reducible refine (HLV.out _ (by assumption)).mono ?_; rintro e w8 ⟨rfl, hb8⟩))
  go_ret
  exact ⟨rfl, by assumption⟩

set_option maxHeartbeats 2000000 in
set_option maxRecDepth 100000 in
theorem reads_quote_far_end (s u t y z z0 : ByteArray) (b : UInt8) (r m n g : Nat) (x : Bool) (hx : decide ((128 : Int) ≤ (b.toNat : Int)) = x) (w : World) (_hu : u.size ≤ 80) (hy0 : ((y.size : Int) != (m : Int)) = false)
    (hr1 : 0 < u.size) (hr0 : ((u.size : Int) == 0) = false) (hr2 : ((u[0].toNat : Int) != 34) = false) (hc : u.size < r) (hm3 : (b.toNat : Int) % 10 = (r : Int)) (hm : m = u.size) (he0 : ((m : Int) == (u.size : Int)) = true)
    (HCS : Hid (∀ W, Below w.heap.size w W → Calls Try.prog 5 #[.string s, .int .i64 80] W fun e w' => e = .returned (.string u) ∧ Below w.heap.size w w'))
    (HRD : Hid (∀ W, Below w.heap.size w W → Calls Try.prog 6 #[.string u] W fun e w' => e = .returned (.tuple #[.string t, .int .i64 n, .int .i64 0]) ∧ Below w.heap.size w w'))
    (HSK : Hid (∀ W cb, Cur W cb u 0 → Calls Try.prog 8 #[.func (.func 9) #[skipc cb m] #[]] W fun e w' => e = .returned (.tuple #[.string y, flt 0 0]) ∧ Mv W.heap.size [cb] W w' ∧ Cur w' cb u m))
    (HCL : Hid (∀ W cb, Cur W cb u m → Calls Try.prog 8 #[.func (.func 10) #[callc cb x] #[]] W fun e w' => e = .returned (.tuple #[.string ⟨#[]⟩, flt m 2]) ∧ Mv W.heap.size [cb] W w' ∧ Cur w' cb u m))
    (HLV : Hid (∀ W, Below w.heap.size w W → Calls Try.prog 13 #[] W fun e w' => e = .returned (.bool true) ∧ Below w.heap.size w w'))
    (HRR : Hid (∀ W, Calls Try.prog 11 #[.string u] W fun e w' => e = .returned (.tuple #[.string t, .int .i64 n]) ∧ Below W.heap.size W w')) :
    Calls Try.prog 3 #[.string s, .int .u8 (b.toNat : Int)] w fun e w' => e = .returned (.bool true) ∧ Below w.heap.size w w' := by
  subst hm
  have hb0 := Below.refl w.heap.size w
  have hmf := make_func
  go_enter Try.func3, Try.ntmps3
  go_wp2_with (first
    | (go_at_call 5; with_reducible refine (HCS.out _ (by assumption)).mono ?_; rintro e w1 ⟨rfl, hb1⟩)
    | (go_at_call 6; with_reducible refine (HRD.out _ (by assumption)).mono ?_; rintro e w1 ⟨rfl, hb1⟩))
  go_wp2_with fail
  refine (new_any u _).mono ?_
  rintro e w2 ⟨rfl, hw2⟩
  have hc2 : Cur w2 w1.heap.size u 0 := by rw [hw2]; exact Blk.new w1 48 #[.string u, .int .i64 0]
  have hb2 : Below w.heap.size w w2 := by rw [hw2]; exact hb1.alloc hb1.size _
  have hcb : w.heap.size ≤ w1.heap.size := hb1.size
  clear hw2
  generalize w1.heap.size = cb at *
  have HC2 := Lib.hid hc2
  have HB2 := Lib.hid hb2
  clear hc2 hb2 hb1 hb0 HCS HRD
  go_wp2_with fail
  refine (HSK.out _ _ HC2.out).mono ?_
  rintro e w3 ⟨rfl, m3, c3⟩
  have HC3 := Lib.hid (Blk.alloc c3 (flc 0 0))
  have HB3 := Lib.hid ((HB2.out.trans ((m3.mono (B' := w.heap.size) HB2.out.size (fun x hx => .inl hx)).below (Nat.le_refl _) (by simpa using hcb))).alloc (Nat.le_trans HB2.out.size m3.size) (flc 0 0))
  clear m3 c3 HC2 HB2 HSK
  go_wp2_with fail
  refine (HCL.out _ _ HC3.out).mono ?_
  rintro e w4 ⟨rfl, m4, c4⟩
  have HC4 := Lib.hid (Blk.alloc c4 (flc u.size 2))
  have hb4 := (HB3.out.trans ((m4.mono (B' := w.heap.size) HB3.out.size (fun x hx => .inl hx)).below (Nat.le_refl _) (by simpa using hcb))).alloc (Nat.le_trans HB3.out.size m4.size) (flc u.size 2)
  have HB4 := Lib.hid hb4
  have HF4 := Lib.hid (show Blk (w4.alloc (flc u.size 2)) w4.heap.size 29 #[.int .i64 u.size, .int .i64 2] from Blk.new _ _ _)
  clear m4 c4 HC3 HB3 HCL hb4
  go_wp2_with fail
  refine (HRR.out _).mono ?_
  rintro e w5 ⟨rfl, hb5⟩
  have HC5 := Lib.hid (Blk.below HC4.out hb5 HC4.out.lt)
  have HF5 := Lib.hid (Blk.below HF4.out hb5 HF4.out.lt)
  have HB5 := Lib.hid (HB4.out.trans (hb5.mono HB4.out.size))
  clear hb5
  have k0 := HF5.out.cell 0
  have k1 := HF5.out.cell 1
  have hb9 := HB5.out
  go_wp2_with (first
    | (go_at_call 12; refine (at_any cb _ u _ HC5.out).mono ?_; rintro e w8 ⟨rfl, rfl⟩)
    | (go_at_call 13; with_reducible refine (HLV.out _ (by assumption)).mono ?_; rintro e w8 ⟨rfl, hb8⟩))
  go_ret
  exact ⟨rfl, by assumption⟩

set_option maxHeartbeats 2000000 in
set_option maxRecDepth 100000 in
theorem reads_other_in_end (s u t y z z0 : ByteArray) (b : UInt8) (r m n g : Nat) (x : Bool) (hx : decide ((128 : Int) ≤ (b.toNat : Int)) = x) (w : World) (_hu : u.size ≤ 80) (hy0 : ((y.size : Int) != (m : Int)) = false)
    (hr1 : 0 < u.size) (hr0 : ((u.size : Int) == 0) = false) (hr2 : ((u[0].toNat : Int) != 34) = true) (hm : m ≤ u.size) (hm3 : (b.toNat : Int) % 10 = (m : Int)) (he0 : ((m : Int) == (u.size : Int)) = true)
    (HCS : Hid (∀ W, Below w.heap.size w W → Calls Try.prog 5 #[.string s, .int .i64 80] W fun e w' => e = .returned (.string u) ∧ Below w.heap.size w w'))
    (HRD : Hid (∀ W, Below w.heap.size w W → Calls Try.prog 6 #[.string u] W fun e w' => e = .returned (.tuple #[.string ⟨#[]⟩, .int .i64 0, .int .i64 2]) ∧ Below w.heap.size w w'))
    (HSK : Hid (∀ W cb, Cur W cb u 0 → Calls Try.prog 8 #[.func (.func 9) #[skipc cb m] #[]] W fun e w' => e = .returned (.tuple #[.string y, flt 0 0]) ∧ Mv W.heap.size [cb] W w' ∧ Cur w' cb u m))
    (HCL : Hid (∀ W cb, Cur W cb u m → Calls Try.prog 8 #[.func (.func 10) #[callc cb x] #[]] W fun e w' => e = .returned (.tuple #[.string ⟨#[]⟩, flt m 2]) ∧ Mv W.heap.size [cb] W w' ∧ Cur w' cb u m))
    (HLV : Hid (∀ W, Below w.heap.size w W → Calls Try.prog 13 #[] W fun e w' => e = .returned (.bool true) ∧ Below w.heap.size w w')) :
    Calls Try.prog 3 #[.string s, .int .u8 (b.toNat : Int)] w fun e w' => e = .returned (.bool true) ∧ Below w.heap.size w w' := by
  have hb0 := Below.refl w.heap.size w
  have hmf := make_func
  go_enter Try.func3, Try.ntmps3
  go_wp2_with (first
    | (go_at_call 5; with_reducible refine (HCS.out _ (by assumption)).mono ?_; rintro e w1 ⟨rfl, hb1⟩)
    | (go_at_call 6; with_reducible refine (HRD.out _ (by assumption)).mono ?_; rintro e w1 ⟨rfl, hb1⟩))
  go_wp2_with fail
  refine (new_any u _).mono ?_
  rintro e w2 ⟨rfl, hw2⟩
  have hc2 : Cur w2 w1.heap.size u 0 := by rw [hw2]; exact Blk.new w1 48 #[.string u, .int .i64 0]
  have hb2 : Below w.heap.size w w2 := by rw [hw2]; exact hb1.alloc hb1.size _
  have hcb : w.heap.size ≤ w1.heap.size := hb1.size
  clear hw2
  generalize w1.heap.size = cb at *
  have HC2 := Lib.hid hc2
  have HB2 := Lib.hid hb2
  clear hc2 hb2 hb1 hb0 HCS HRD
  go_wp2_with fail
  refine (HSK.out _ _ HC2.out).mono ?_
  rintro e w3 ⟨rfl, m3, c3⟩
  have HC3 := Lib.hid (Blk.alloc c3 (flc 0 0))
  have HB3 := Lib.hid ((HB2.out.trans ((m3.mono (B' := w.heap.size) HB2.out.size (fun x hx => .inl hx)).below (Nat.le_refl _) (by simpa using hcb))).alloc (Nat.le_trans HB2.out.size m3.size) (flc 0 0))
  clear m3 c3 HC2 HB2 HSK
  go_wp2_with fail
  refine (HCL.out _ _ HC3.out).mono ?_
  rintro e w4 ⟨rfl, m4, c4⟩
  have HC4 := Lib.hid (Blk.alloc c4 (flc m 2))
  have hb4 := (HB3.out.trans ((m4.mono (B' := w.heap.size) HB3.out.size (fun x hx => .inl hx)).below (Nat.le_refl _) (by simpa using hcb))).alloc (Nat.le_trans HB3.out.size m4.size) (flc m 2)
  have HB4 := Lib.hid hb4
  have HF4 := Lib.hid (show Blk (w4.alloc (flc m 2)) w4.heap.size 29 #[.int .i64 m, .int .i64 2] from Blk.new _ _ _)
  clear m4 c4 HC3 HB3 HCL hb4
  have k0 := HF4.out.cell 0
  have k1 := HF4.out.cell 1
  have hb9 := HB4.out
  go_wp2_with (first
    | (go_at_call 12; refine (at_any cb _ u _ HC4.out).mono ?_; rintro e w8 ⟨rfl, rfl⟩)
    | (go_at_call 13; with_reducible refine (HLV.out _ (by assumption)).mono ?_; rintro e w8 ⟨rfl, hb8⟩))
  go_ret
  exact ⟨rfl, by assumption⟩

set_option maxHeartbeats 2000000 in
set_option maxRecDepth 100000 in
theorem reads_other_in_other (s u t y z z0 : ByteArray) (b : UInt8) (r m n g : Nat) (x : Bool) (hx : decide ((128 : Int) ≤ (b.toNat : Int)) = x) (w : World) (_hu : u.size ≤ 80) (hy0 : ((y.size : Int) != (m : Int)) = false)
    (hr1 : 0 < u.size) (hr0 : ((u.size : Int) == 0) = false) (hr2 : ((u[0].toNat : Int) != 34) = true) (hm : m ≤ u.size) (hm3 : (b.toNat : Int) % 10 = (m : Int)) (he1 : m < u.size) (he0 : ((m : Int) == (u.size : Int)) = false) (he2 : ((u[m].toNat : Int) != 34) = true)
    (HCS : Hid (∀ W, Below w.heap.size w W → Calls Try.prog 5 #[.string s, .int .i64 80] W fun e w' => e = .returned (.string u) ∧ Below w.heap.size w w'))
    (HRD : Hid (∀ W, Below w.heap.size w W → Calls Try.prog 6 #[.string u] W fun e w' => e = .returned (.tuple #[.string ⟨#[]⟩, .int .i64 0, .int .i64 2]) ∧ Below w.heap.size w w'))
    (HSK : Hid (∀ W cb, Cur W cb u 0 → Calls Try.prog 8 #[.func (.func 9) #[skipc cb m] #[]] W fun e w' => e = .returned (.tuple #[.string y, flt 0 0]) ∧ Mv W.heap.size [cb] W w' ∧ Cur w' cb u m))
    (HCL : Hid (∀ W cb, Cur W cb u m → Calls Try.prog 8 #[.func (.func 10) #[callc cb x] #[]] W fun e w' => e = .returned (.tuple #[.string ⟨#[]⟩, flt m 2]) ∧ Mv W.heap.size [cb] W w' ∧ Cur w' cb u m))
    (HLV : Hid (∀ W, Below w.heap.size w W → Calls Try.prog 13 #[] W fun e w' => e = .returned (.bool true) ∧ Below w.heap.size w w')) :
    Calls Try.prog 3 #[.string s, .int .u8 (b.toNat : Int)] w fun e w' => e = .returned (.bool true) ∧ Below w.heap.size w w' := by
  have hb0 := Below.refl w.heap.size w
  have hmf := make_func
  go_enter Try.func3, Try.ntmps3
  go_wp2_with (first
    | (go_at_call 5; with_reducible refine (HCS.out _ (by assumption)).mono ?_; rintro e w1 ⟨rfl, hb1⟩)
    | (go_at_call 6; with_reducible refine (HRD.out _ (by assumption)).mono ?_; rintro e w1 ⟨rfl, hb1⟩))
  go_wp2_with fail
  refine (new_any u _).mono ?_
  rintro e w2 ⟨rfl, hw2⟩
  have hc2 : Cur w2 w1.heap.size u 0 := by rw [hw2]; exact Blk.new w1 48 #[.string u, .int .i64 0]
  have hb2 : Below w.heap.size w w2 := by rw [hw2]; exact hb1.alloc hb1.size _
  have hcb : w.heap.size ≤ w1.heap.size := hb1.size
  clear hw2
  generalize w1.heap.size = cb at *
  have HC2 := Lib.hid hc2
  have HB2 := Lib.hid hb2
  clear hc2 hb2 hb1 hb0 HCS HRD
  go_wp2_with fail
  refine (HSK.out _ _ HC2.out).mono ?_
  rintro e w3 ⟨rfl, m3, c3⟩
  have HC3 := Lib.hid (Blk.alloc c3 (flc 0 0))
  have HB3 := Lib.hid ((HB2.out.trans ((m3.mono (B' := w.heap.size) HB2.out.size (fun x hx => .inl hx)).below (Nat.le_refl _) (by simpa using hcb))).alloc (Nat.le_trans HB2.out.size m3.size) (flc 0 0))
  clear m3 c3 HC2 HB2 HSK
  go_wp2_with fail
  refine (HCL.out _ _ HC3.out).mono ?_
  rintro e w4 ⟨rfl, m4, c4⟩
  have HC4 := Lib.hid (Blk.alloc c4 (flc m 2))
  have hb4 := (HB3.out.trans ((m4.mono (B' := w.heap.size) HB3.out.size (fun x hx => .inl hx)).below (Nat.le_refl _) (by simpa using hcb))).alloc (Nat.le_trans HB3.out.size m4.size) (flc m 2)
  have HB4 := Lib.hid hb4
  have HF4 := Lib.hid (show Blk (w4.alloc (flc m 2)) w4.heap.size 29 #[.int .i64 m, .int .i64 2] from Blk.new _ _ _)
  clear m4 c4 HC3 HB3 HCL hb4
  have k0 := HF4.out.cell 0
  have k1 := HF4.out.cell 1
  have hb9 := HB4.out
  go_wp2_with (first
    | (go_at_call 12; refine (at_any cb _ u _ HC4.out).mono ?_; rintro e w8 ⟨rfl, rfl⟩)
    | (go_at_call 13; with_reducible refine (HLV.out _ (by assumption)).mono ?_; rintro e w8 ⟨rfl, hb8⟩))
  go_ret
  exact ⟨rfl, by assumption⟩

set_option maxHeartbeats 2000000 in
set_option maxRecDepth 100000 in
theorem reads_other_in_said (s u t y z z0 : ByteArray) (b : UInt8) (r m n g : Nat) (hx : (128 : Int) ≤ (b.toNat : Int)) (w : World) (_hu : u.size ≤ 80) (hy0 : ((y.size : Int) != (m : Int)) = false) (hg : m + g ≤ u.size) (hz : z = z0)
    (hr1 : 0 < u.size) (hr0 : ((u.size : Int) == 0) = false) (hr2 : ((u[0].toNat : Int) != 34) = true) (hm : m ≤ u.size) (hm3 : (b.toNat : Int) % 10 = (m : Int)) (he1 : m < u.size) (he0 : ((m : Int) == (u.size : Int)) = false) (he2 : ((u[m].toNat : Int) != 34) = false)
    (HCS : Hid (∀ W, Below w.heap.size w W → Calls Try.prog 5 #[.string s, .int .i64 80] W fun e w' => e = .returned (.string u) ∧ Below w.heap.size w w'))
    (HRD : Hid (∀ W, Below w.heap.size w W → Calls Try.prog 6 #[.string u] W fun e w' => e = .returned (.tuple #[.string ⟨#[]⟩, .int .i64 0, .int .i64 2]) ∧ Below w.heap.size w w'))
    (HSK : Hid (∀ W cb, Cur W cb u 0 → Calls Try.prog 8 #[.func (.func 9) #[skipc cb m] #[]] W fun e w' => e = .returned (.tuple #[.string y, flt 0 0]) ∧ Mv W.heap.size [cb] W w' ∧ Cur w' cb u m))
    (HCL : Hid (∀ W cb, Cur W cb u m → Calls Try.prog 8 #[.func (.func 10) #[callc cb true] #[]] W fun e w' => e = .returned (.tuple #[.string z, flt 0 0]) ∧ Mv W.heap.size [cb] W w' ∧ Cur w' cb u (m + g)))
    (HLV : Hid (∀ W, Below w.heap.size w W → Calls Try.prog 13 #[] W fun e w' => e = .returned (.bool true) ∧ Below w.heap.size w w'))
    (HRT : Hid (∀ W, Calls Try.prog 11 #[.string (u.extract m u.size)] W fun e w' => e = .returned (.tuple #[.string z0, .int .i64 g]) ∧ Below W.heap.size W w')) :
    Calls Try.prog 3 #[.string s, .int .u8 (b.toNat : Int)] w fun e w' => e = .returned (.bool true) ∧ Below w.heap.size w w' := by
  subst hz
  have hb0 := Below.refl w.heap.size w
  have hmf := make_func
  go_enter Try.func3, Try.ntmps3
  go_wp2_with (first
    | (go_at_call 5; with_reducible refine (HCS.out _ (by assumption)).mono ?_; rintro e w1 ⟨rfl, hb1⟩)
    | (go_at_call 6; with_reducible refine (HRD.out _ (by assumption)).mono ?_; rintro e w1 ⟨rfl, hb1⟩))
  go_wp2_with fail
  refine (new_any u _).mono ?_
  rintro e w2 ⟨rfl, hw2⟩
  have hc2 : Cur w2 w1.heap.size u 0 := by rw [hw2]; exact Blk.new w1 48 #[.string u, .int .i64 0]
  have hb2 : Below w.heap.size w w2 := by rw [hw2]; exact hb1.alloc hb1.size _
  have hcb : w.heap.size ≤ w1.heap.size := hb1.size
  clear hw2
  generalize w1.heap.size = cb at *
  have HC2 := Lib.hid hc2
  have HB2 := Lib.hid hb2
  clear hc2 hb2 hb1 hb0 HCS HRD
  go_wp2_with fail
  refine (HSK.out _ _ HC2.out).mono ?_
  rintro e w3 ⟨rfl, m3, c3⟩
  have HC3 := Lib.hid (Blk.alloc c3 (flc 0 0))
  have HB3 := Lib.hid ((HB2.out.trans ((m3.mono (B' := w.heap.size) HB2.out.size (fun x hx => .inl hx)).below (Nat.le_refl _) (by simpa using hcb))).alloc (Nat.le_trans HB2.out.size m3.size) (flc 0 0))
  clear m3 c3 HC2 HB2 HSK
  go_wp2_with fail
  refine (HCL.out _ _ HC3.out).mono ?_
  rintro e w4 ⟨rfl, m4, c4⟩
  have HC4 := Lib.hid (Blk.alloc c4 (flc 0 0))
  have hb4 := (HB3.out.trans ((m4.mono (B' := w.heap.size) HB3.out.size (fun x hx => .inl hx)).below (Nat.le_refl _) (by simpa using hcb))).alloc (Nat.le_trans HB3.out.size m4.size) (flc 0 0)
  have HB4 := Lib.hid hb4
  have HF4 := Lib.hid (show Blk (w4.alloc (flc 0 0)) w4.heap.size 29 #[.int .i64 0, .int .i64 0] from Blk.new _ _ _)
  clear m4 c4 HC3 HB3 HCL hb4
  go_wp2_with fail
  refine (HRT.out _).mono ?_
  rintro e w5 ⟨rfl, hb5⟩
  have HC5 := Lib.hid (Blk.below HC4.out hb5 HC4.out.lt)
  have HF5 := Lib.hid (Blk.below HF4.out hb5 HF4.out.lt)
  have HB5 := Lib.hid (HB4.out.trans (hb5.mono HB4.out.size))
  clear hb5
  have k0 := HF5.out.cell 0
  have k1 := HF5.out.cell 1
  have hb9 := HB5.out
  go_wp2_with (first
    | (go_at_call 12; refine (at_any cb _ u _ HC5.out).mono ?_; rintro e w8 ⟨rfl, rfl⟩)
    | (go_at_call 13; with_reducible refine (HLV.out _ (by assumption)).mono ?_; rintro e w8 ⟨rfl, hb8⟩))
  go_ret
  exact ⟨rfl, by assumption⟩

set_option maxHeartbeats 2000000 in
set_option maxRecDepth 100000 in
theorem reads_other_in_all (s u t y z z0 : ByteArray) (b : UInt8) (r m n g : Nat) (hx : decide ((128 : Int) ≤ (b.toNat : Int)) = false) (hx2 : decide ((b.toNat : Int) < 128) = true) (w : World) (_hu : u.size ≤ 80) (hy0 : ((y.size : Int) != (m : Int)) = false) (hg : m + g ≤ u.size) (hz : (z.toList == (u.extract m (m + g)).toList) = true)
    (hr1 : 0 < u.size) (hr0 : ((u.size : Int) == 0) = false) (hr2 : ((u[0].toNat : Int) != 34) = true) (hm : m ≤ u.size) (hm3 : (b.toNat : Int) % 10 = (m : Int)) (he1 : m < u.size) (he0 : ((m : Int) == (u.size : Int)) = false) (he2 : ((u[m].toNat : Int) != 34) = false)
    (HCS : Hid (∀ W, Below w.heap.size w W → Calls Try.prog 5 #[.string s, .int .i64 80] W fun e w' => e = .returned (.string u) ∧ Below w.heap.size w w'))
    (HRD : Hid (∀ W, Below w.heap.size w W → Calls Try.prog 6 #[.string u] W fun e w' => e = .returned (.tuple #[.string ⟨#[]⟩, .int .i64 0, .int .i64 2]) ∧ Below w.heap.size w w'))
    (HSK : Hid (∀ W cb, Cur W cb u 0 → Calls Try.prog 8 #[.func (.func 9) #[skipc cb m] #[]] W fun e w' => e = .returned (.tuple #[.string y, flt 0 0]) ∧ Mv W.heap.size [cb] W w' ∧ Cur w' cb u m))
    (HCL : Hid (∀ W cb, Cur W cb u m → Calls Try.prog 8 #[.func (.func 10) #[callc cb false] #[]] W fun e w' => e = .returned (.tuple #[.string z, flt 0 0]) ∧ Mv W.heap.size [cb] W w' ∧ Cur w' cb u (m + g)))
    (HLV : Hid (∀ W, Below w.heap.size w W → Calls Try.prog 13 #[] W fun e w' => e = .returned (.bool true) ∧ Below w.heap.size w w'))
    (HRT : Hid (∀ W, Calls Try.prog 11 #[.string (u.extract m u.size)] W fun e w' => e = .returned (.tuple #[.string z0, .int .i64 g]) ∧ Below W.heap.size W w')) :
    Calls Try.prog 3 #[.string s, .int .u8 (b.toNat : Int)] w fun e w' => e = .returned (.bool true) ∧ Below w.heap.size w w' := by
  have hb0 := Below.refl w.heap.size w
  have hmf := make_func
  go_enter Try.func3, Try.ntmps3
  go_wp2_with (first
    | (go_at_call 5; with_reducible refine (HCS.out _ (by assumption)).mono ?_; rintro e w1 ⟨rfl, hb1⟩)
    | (go_at_call 6; with_reducible refine (HRD.out _ (by assumption)).mono ?_; rintro e w1 ⟨rfl, hb1⟩))
  go_wp2_with fail
  refine (new_any u _).mono ?_
  rintro e w2 ⟨rfl, hw2⟩
  have hc2 : Cur w2 w1.heap.size u 0 := by rw [hw2]; exact Blk.new w1 48 #[.string u, .int .i64 0]
  have hb2 : Below w.heap.size w w2 := by rw [hw2]; exact hb1.alloc hb1.size _
  have hcb : w.heap.size ≤ w1.heap.size := hb1.size
  clear hw2
  generalize w1.heap.size = cb at *
  have HC2 := Lib.hid hc2
  have HB2 := Lib.hid hb2
  clear hc2 hb2 hb1 hb0 HCS HRD
  go_wp2_with fail
  refine (HSK.out _ _ HC2.out).mono ?_
  rintro e w3 ⟨rfl, m3, c3⟩
  have HC3 := Lib.hid (Blk.alloc c3 (flc 0 0))
  have HB3 := Lib.hid ((HB2.out.trans ((m3.mono (B' := w.heap.size) HB2.out.size (fun x hx => .inl hx)).below (Nat.le_refl _) (by simpa using hcb))).alloc (Nat.le_trans HB2.out.size m3.size) (flc 0 0))
  clear m3 c3 HC2 HB2 HSK
  go_wp2_with fail
  refine (HCL.out _ _ HC3.out).mono ?_
  rintro e w4 ⟨rfl, m4, c4⟩
  have HC4 := Lib.hid (Blk.alloc c4 (flc 0 0))
  have hb4 := (HB3.out.trans ((m4.mono (B' := w.heap.size) HB3.out.size (fun x hx => .inl hx)).below (Nat.le_refl _) (by simpa using hcb))).alloc (Nat.le_trans HB3.out.size m4.size) (flc 0 0)
  have HB4 := Lib.hid hb4
  have HF4 := Lib.hid (show Blk (w4.alloc (flc 0 0)) w4.heap.size 29 #[.int .i64 0, .int .i64 0] from Blk.new _ _ _)
  clear m4 c4 HC3 HB3 HCL hb4
  go_wp2_with fail
  refine (HRT.out _).mono ?_
  rintro e w5 ⟨rfl, hb5⟩
  have HC5 := Lib.hid (Blk.below HC4.out hb5 HC4.out.lt)
  have HF5 := Lib.hid (Blk.below HF4.out hb5 HF4.out.lt)
  have HB5 := Lib.hid (HB4.out.trans (hb5.mono HB4.out.size))
  clear hb5
  have k0 := HF5.out.cell 0
  have k1 := HF5.out.cell 1
  have hb9 := HB5.out
  go_wp2_with (first
    | (go_at_call 12; refine (at_any cb _ u _ HC5.out).mono ?_; rintro e w8 ⟨rfl, rfl⟩)
    | (go_at_call 13; with_reducible refine (HLV.out _ (by assumption)).mono ?_; rintro e w8 ⟨rfl, hb8⟩))
  go_ret
  exact ⟨rfl, by assumption⟩

set_option maxHeartbeats 2000000 in
set_option maxRecDepth 100000 in
theorem reads_quote_in_end (s u t y z z0 : ByteArray) (b : UInt8) (r m n g : Nat) (x : Bool) (hx : decide ((128 : Int) ≤ (b.toNat : Int)) = x) (w : World) (_hu : u.size ≤ 80) (hy0 : ((y.size : Int) != (m : Int)) = false)
    (hr1 : 0 < u.size) (hr0 : ((u.size : Int) == 0) = false) (hr2 : ((u[0].toNat : Int) != 34) = false) (hm : m ≤ u.size) (hm3 : (b.toNat : Int) % 10 = (m : Int)) (he0 : ((m : Int) == (u.size : Int)) = true)
    (HCS : Hid (∀ W, Below w.heap.size w W → Calls Try.prog 5 #[.string s, .int .i64 80] W fun e w' => e = .returned (.string u) ∧ Below w.heap.size w w'))
    (HRD : Hid (∀ W, Below w.heap.size w W → Calls Try.prog 6 #[.string u] W fun e w' => e = .returned (.tuple #[.string t, .int .i64 n, .int .i64 0]) ∧ Below w.heap.size w w'))
    (HSK : Hid (∀ W cb, Cur W cb u 0 → Calls Try.prog 8 #[.func (.func 9) #[skipc cb m] #[]] W fun e w' => e = .returned (.tuple #[.string y, flt 0 0]) ∧ Mv W.heap.size [cb] W w' ∧ Cur w' cb u m))
    (HCL : Hid (∀ W cb, Cur W cb u m → Calls Try.prog 8 #[.func (.func 10) #[callc cb x] #[]] W fun e w' => e = .returned (.tuple #[.string ⟨#[]⟩, flt m 2]) ∧ Mv W.heap.size [cb] W w' ∧ Cur w' cb u m))
    (HLV : Hid (∀ W, Below w.heap.size w W → Calls Try.prog 13 #[] W fun e w' => e = .returned (.bool true) ∧ Below w.heap.size w w'))
    (HRR : Hid (∀ W, Calls Try.prog 11 #[.string u] W fun e w' => e = .returned (.tuple #[.string t, .int .i64 n]) ∧ Below W.heap.size W w')) :
    Calls Try.prog 3 #[.string s, .int .u8 (b.toNat : Int)] w fun e w' => e = .returned (.bool true) ∧ Below w.heap.size w w' := by
  have hb0 := Below.refl w.heap.size w
  have hmf := make_func
  go_enter Try.func3, Try.ntmps3
  go_wp2_with (first
    | (go_at_call 5; with_reducible refine (HCS.out _ (by assumption)).mono ?_; rintro e w1 ⟨rfl, hb1⟩)
    | (go_at_call 6; with_reducible refine (HRD.out _ (by assumption)).mono ?_; rintro e w1 ⟨rfl, hb1⟩))
  go_wp2_with fail
  refine (new_any u _).mono ?_
  rintro e w2 ⟨rfl, hw2⟩
  have hc2 : Cur w2 w1.heap.size u 0 := by rw [hw2]; exact Blk.new w1 48 #[.string u, .int .i64 0]
  have hb2 : Below w.heap.size w w2 := by rw [hw2]; exact hb1.alloc hb1.size _
  have hcb : w.heap.size ≤ w1.heap.size := hb1.size
  clear hw2
  generalize w1.heap.size = cb at *
  have HC2 := Lib.hid hc2
  have HB2 := Lib.hid hb2
  clear hc2 hb2 hb1 hb0 HCS HRD
  go_wp2_with fail
  refine (HSK.out _ _ HC2.out).mono ?_
  rintro e w3 ⟨rfl, m3, c3⟩
  have HC3 := Lib.hid (Blk.alloc c3 (flc 0 0))
  have HB3 := Lib.hid ((HB2.out.trans ((m3.mono (B' := w.heap.size) HB2.out.size (fun x hx => .inl hx)).below (Nat.le_refl _) (by simpa using hcb))).alloc (Nat.le_trans HB2.out.size m3.size) (flc 0 0))
  clear m3 c3 HC2 HB2 HSK
  go_wp2_with fail
  refine (HCL.out _ _ HC3.out).mono ?_
  rintro e w4 ⟨rfl, m4, c4⟩
  have HC4 := Lib.hid (Blk.alloc c4 (flc m 2))
  have hb4 := (HB3.out.trans ((m4.mono (B' := w.heap.size) HB3.out.size (fun x hx => .inl hx)).below (Nat.le_refl _) (by simpa using hcb))).alloc (Nat.le_trans HB3.out.size m4.size) (flc m 2)
  have HB4 := Lib.hid hb4
  have HF4 := Lib.hid (show Blk (w4.alloc (flc m 2)) w4.heap.size 29 #[.int .i64 m, .int .i64 2] from Blk.new _ _ _)
  clear m4 c4 HC3 HB3 HCL hb4
  go_wp2_with fail
  refine (HRR.out _).mono ?_
  rintro e w5 ⟨rfl, hb5⟩
  have HC5 := Lib.hid (Blk.below HC4.out hb5 HC4.out.lt)
  have HF5 := Lib.hid (Blk.below HF4.out hb5 HF4.out.lt)
  have HB5 := Lib.hid (HB4.out.trans (hb5.mono HB4.out.size))
  clear hb5
  have k0 := HF5.out.cell 0
  have k1 := HF5.out.cell 1
  have hb9 := HB5.out
  go_wp2_with (first
    | (go_at_call 12; refine (at_any cb _ u _ HC5.out).mono ?_; rintro e w8 ⟨rfl, rfl⟩)
    | (go_at_call 13; with_reducible refine (HLV.out _ (by assumption)).mono ?_; rintro e w8 ⟨rfl, hb8⟩))
  go_ret
  exact ⟨rfl, by assumption⟩

set_option maxHeartbeats 2000000 in
set_option maxRecDepth 100000 in
theorem reads_quote_in_other (s u t y z z0 : ByteArray) (b : UInt8) (r m n g : Nat) (x : Bool) (hx : decide ((128 : Int) ≤ (b.toNat : Int)) = x) (w : World) (_hu : u.size ≤ 80) (hy0 : ((y.size : Int) != (m : Int)) = false)
    (hr1 : 0 < u.size) (hr0 : ((u.size : Int) == 0) = false) (hr2 : ((u[0].toNat : Int) != 34) = false) (hm : m ≤ u.size) (hm3 : (b.toNat : Int) % 10 = (m : Int)) (he1 : m < u.size) (he0 : ((m : Int) == (u.size : Int)) = false) (he2 : ((u[m].toNat : Int) != 34) = true)
    (HCS : Hid (∀ W, Below w.heap.size w W → Calls Try.prog 5 #[.string s, .int .i64 80] W fun e w' => e = .returned (.string u) ∧ Below w.heap.size w w'))
    (HRD : Hid (∀ W, Below w.heap.size w W → Calls Try.prog 6 #[.string u] W fun e w' => e = .returned (.tuple #[.string t, .int .i64 n, .int .i64 0]) ∧ Below w.heap.size w w'))
    (HSK : Hid (∀ W cb, Cur W cb u 0 → Calls Try.prog 8 #[.func (.func 9) #[skipc cb m] #[]] W fun e w' => e = .returned (.tuple #[.string y, flt 0 0]) ∧ Mv W.heap.size [cb] W w' ∧ Cur w' cb u m))
    (HCL : Hid (∀ W cb, Cur W cb u m → Calls Try.prog 8 #[.func (.func 10) #[callc cb x] #[]] W fun e w' => e = .returned (.tuple #[.string ⟨#[]⟩, flt m 2]) ∧ Mv W.heap.size [cb] W w' ∧ Cur w' cb u m))
    (HLV : Hid (∀ W, Below w.heap.size w W → Calls Try.prog 13 #[] W fun e w' => e = .returned (.bool true) ∧ Below w.heap.size w w'))
    (HRR : Hid (∀ W, Calls Try.prog 11 #[.string u] W fun e w' => e = .returned (.tuple #[.string t, .int .i64 n]) ∧ Below W.heap.size W w')) :
    Calls Try.prog 3 #[.string s, .int .u8 (b.toNat : Int)] w fun e w' => e = .returned (.bool true) ∧ Below w.heap.size w w' := by
  have hb0 := Below.refl w.heap.size w
  have hmf := make_func
  go_enter Try.func3, Try.ntmps3
  go_wp2_with (first
    | (go_at_call 5; with_reducible refine (HCS.out _ (by assumption)).mono ?_; rintro e w1 ⟨rfl, hb1⟩)
    | (go_at_call 6; with_reducible refine (HRD.out _ (by assumption)).mono ?_; rintro e w1 ⟨rfl, hb1⟩))
  go_wp2_with fail
  refine (new_any u _).mono ?_
  rintro e w2 ⟨rfl, hw2⟩
  have hc2 : Cur w2 w1.heap.size u 0 := by rw [hw2]; exact Blk.new w1 48 #[.string u, .int .i64 0]
  have hb2 : Below w.heap.size w w2 := by rw [hw2]; exact hb1.alloc hb1.size _
  have hcb : w.heap.size ≤ w1.heap.size := hb1.size
  clear hw2
  generalize w1.heap.size = cb at *
  have HC2 := Lib.hid hc2
  have HB2 := Lib.hid hb2
  clear hc2 hb2 hb1 hb0 HCS HRD
  go_wp2_with fail
  refine (HSK.out _ _ HC2.out).mono ?_
  rintro e w3 ⟨rfl, m3, c3⟩
  have HC3 := Lib.hid (Blk.alloc c3 (flc 0 0))
  have HB3 := Lib.hid ((HB2.out.trans ((m3.mono (B' := w.heap.size) HB2.out.size (fun x hx => .inl hx)).below (Nat.le_refl _) (by simpa using hcb))).alloc (Nat.le_trans HB2.out.size m3.size) (flc 0 0))
  clear m3 c3 HC2 HB2 HSK
  go_wp2_with fail
  refine (HCL.out _ _ HC3.out).mono ?_
  rintro e w4 ⟨rfl, m4, c4⟩
  have HC4 := Lib.hid (Blk.alloc c4 (flc m 2))
  have hb4 := (HB3.out.trans ((m4.mono (B' := w.heap.size) HB3.out.size (fun x hx => .inl hx)).below (Nat.le_refl _) (by simpa using hcb))).alloc (Nat.le_trans HB3.out.size m4.size) (flc m 2)
  have HB4 := Lib.hid hb4
  have HF4 := Lib.hid (show Blk (w4.alloc (flc m 2)) w4.heap.size 29 #[.int .i64 m, .int .i64 2] from Blk.new _ _ _)
  clear m4 c4 HC3 HB3 HCL hb4
  go_wp2_with fail
  refine (HRR.out _).mono ?_
  rintro e w5 ⟨rfl, hb5⟩
  have HC5 := Lib.hid (Blk.below HC4.out hb5 HC4.out.lt)
  have HF5 := Lib.hid (Blk.below HF4.out hb5 HF4.out.lt)
  have HB5 := Lib.hid (HB4.out.trans (hb5.mono HB4.out.size))
  clear hb5
  have k0 := HF5.out.cell 0
  have k1 := HF5.out.cell 1
  have hb9 := HB5.out
  go_wp2_with (first
    | (go_at_call 12; refine (at_any cb _ u _ HC5.out).mono ?_; rintro e w8 ⟨rfl, rfl⟩)
    | (go_at_call 13; with_reducible refine (HLV.out _ (by assumption)).mono ?_; rintro e w8 ⟨rfl, hb8⟩))
  go_ret
  exact ⟨rfl, by assumption⟩

set_option maxHeartbeats 2000000 in
set_option maxRecDepth 100000 in
theorem reads_quote_in_said (s u t y z z0 : ByteArray) (b : UInt8) (r m n g : Nat) (hx : (128 : Int) ≤ (b.toNat : Int)) (w : World) (_hu : u.size ≤ 80) (hy0 : ((y.size : Int) != (m : Int)) = false) (hg : m + g ≤ u.size) (hz : z = z0)
    (hr1 : 0 < u.size) (hr0 : ((u.size : Int) == 0) = false) (hr2 : ((u[0].toNat : Int) != 34) = false) (hm : m ≤ u.size) (hm3 : (b.toNat : Int) % 10 = (m : Int)) (he1 : m < u.size) (he0 : ((m : Int) == (u.size : Int)) = false) (he2 : ((u[m].toNat : Int) != 34) = false)
    (HCS : Hid (∀ W, Below w.heap.size w W → Calls Try.prog 5 #[.string s, .int .i64 80] W fun e w' => e = .returned (.string u) ∧ Below w.heap.size w w'))
    (HRD : Hid (∀ W, Below w.heap.size w W → Calls Try.prog 6 #[.string u] W fun e w' => e = .returned (.tuple #[.string t, .int .i64 n, .int .i64 0]) ∧ Below w.heap.size w w'))
    (HSK : Hid (∀ W cb, Cur W cb u 0 → Calls Try.prog 8 #[.func (.func 9) #[skipc cb m] #[]] W fun e w' => e = .returned (.tuple #[.string y, flt 0 0]) ∧ Mv W.heap.size [cb] W w' ∧ Cur w' cb u m))
    (HCL : Hid (∀ W cb, Cur W cb u m → Calls Try.prog 8 #[.func (.func 10) #[callc cb true] #[]] W fun e w' => e = .returned (.tuple #[.string z, flt 0 0]) ∧ Mv W.heap.size [cb] W w' ∧ Cur w' cb u (m + g)))
    (HLV : Hid (∀ W, Below w.heap.size w W → Calls Try.prog 13 #[] W fun e w' => e = .returned (.bool true) ∧ Below w.heap.size w w'))
    (HRR : Hid (∀ W, Calls Try.prog 11 #[.string u] W fun e w' => e = .returned (.tuple #[.string t, .int .i64 n]) ∧ Below W.heap.size W w'))
    (HRT : Hid (∀ W, Calls Try.prog 11 #[.string (u.extract m u.size)] W fun e w' => e = .returned (.tuple #[.string z0, .int .i64 g]) ∧ Below W.heap.size W w')) :
    Calls Try.prog 3 #[.string s, .int .u8 (b.toNat : Int)] w fun e w' => e = .returned (.bool true) ∧ Below w.heap.size w w' := by
  subst hz
  have hb0 := Below.refl w.heap.size w
  have hmf := make_func
  go_enter Try.func3, Try.ntmps3
  go_wp2_with (first
    | (go_at_call 5; with_reducible refine (HCS.out _ (by assumption)).mono ?_; rintro e w1 ⟨rfl, hb1⟩)
    | (go_at_call 6; with_reducible refine (HRD.out _ (by assumption)).mono ?_; rintro e w1 ⟨rfl, hb1⟩))
  go_wp2_with fail
  refine (new_any u _).mono ?_
  rintro e w2 ⟨rfl, hw2⟩
  have hc2 : Cur w2 w1.heap.size u 0 := by rw [hw2]; exact Blk.new w1 48 #[.string u, .int .i64 0]
  have hb2 : Below w.heap.size w w2 := by rw [hw2]; exact hb1.alloc hb1.size _
  have hcb : w.heap.size ≤ w1.heap.size := hb1.size
  clear hw2
  generalize w1.heap.size = cb at *
  have HC2 := Lib.hid hc2
  have HB2 := Lib.hid hb2
  clear hc2 hb2 hb1 hb0 HCS HRD
  go_wp2_with fail
  refine (HSK.out _ _ HC2.out).mono ?_
  rintro e w3 ⟨rfl, m3, c3⟩
  have HC3 := Lib.hid (Blk.alloc c3 (flc 0 0))
  have HB3 := Lib.hid ((HB2.out.trans ((m3.mono (B' := w.heap.size) HB2.out.size (fun x hx => .inl hx)).below (Nat.le_refl _) (by simpa using hcb))).alloc (Nat.le_trans HB2.out.size m3.size) (flc 0 0))
  clear m3 c3 HC2 HB2 HSK
  go_wp2_with fail
  refine (HCL.out _ _ HC3.out).mono ?_
  rintro e w4 ⟨rfl, m4, c4⟩
  have HC4 := Lib.hid (Blk.alloc c4 (flc 0 0))
  have hb4 := (HB3.out.trans ((m4.mono (B' := w.heap.size) HB3.out.size (fun x hx => .inl hx)).below (Nat.le_refl _) (by simpa using hcb))).alloc (Nat.le_trans HB3.out.size m4.size) (flc 0 0)
  have HB4 := Lib.hid hb4
  have HF4 := Lib.hid (show Blk (w4.alloc (flc 0 0)) w4.heap.size 29 #[.int .i64 0, .int .i64 0] from Blk.new _ _ _)
  clear m4 c4 HC3 HB3 HCL hb4
  go_wp2_with fail
  refine (HRR.out _).mono ?_
  rintro e w5 ⟨rfl, hb5⟩
  have HC5 := Lib.hid (Blk.below HC4.out hb5 HC4.out.lt)
  have HF5 := Lib.hid (Blk.below HF4.out hb5 HF4.out.lt)
  have HB5 := Lib.hid (HB4.out.trans (hb5.mono HB4.out.size))
  clear hb5
  go_wp2_with fail
  refine (HRT.out _).mono ?_
  rintro e w6 ⟨rfl, hb6⟩
  have HC6 := Lib.hid (Blk.below HC5.out hb6 HC5.out.lt)
  have HF6 := Lib.hid (Blk.below HF5.out hb6 HF5.out.lt)
  have HB6 := Lib.hid (HB5.out.trans (hb6.mono HB5.out.size))
  clear hb6
  have k0 := HF6.out.cell 0
  have k1 := HF6.out.cell 1
  have hb9 := HB6.out
  go_wp2_with (first
    | (go_at_call 12; refine (at_any cb _ u _ HC6.out).mono ?_; rintro e w8 ⟨rfl, rfl⟩)
    | (go_at_call 13; with_reducible refine (HLV.out _ (by assumption)).mono ?_; rintro e w8 ⟨rfl, hb8⟩))
  go_ret
  exact ⟨rfl, by assumption⟩

set_option maxHeartbeats 2000000 in
set_option maxRecDepth 100000 in
theorem reads_quote_in_all (s u t y z z0 : ByteArray) (b : UInt8) (r m n g : Nat) (hx : decide ((128 : Int) ≤ (b.toNat : Int)) = false) (hx2 : decide ((b.toNat : Int) < 128) = true) (w : World) (_hu : u.size ≤ 80) (hy0 : ((y.size : Int) != (m : Int)) = false) (hg : m + g ≤ u.size) (hz : (z.toList == (u.extract m (m + g)).toList) = true)
    (hr1 : 0 < u.size) (hr0 : ((u.size : Int) == 0) = false) (hr2 : ((u[0].toNat : Int) != 34) = false) (hm : m ≤ u.size) (hm3 : (b.toNat : Int) % 10 = (m : Int)) (he1 : m < u.size) (he0 : ((m : Int) == (u.size : Int)) = false) (he2 : ((u[m].toNat : Int) != 34) = false)
    (HCS : Hid (∀ W, Below w.heap.size w W → Calls Try.prog 5 #[.string s, .int .i64 80] W fun e w' => e = .returned (.string u) ∧ Below w.heap.size w w'))
    (HRD : Hid (∀ W, Below w.heap.size w W → Calls Try.prog 6 #[.string u] W fun e w' => e = .returned (.tuple #[.string t, .int .i64 n, .int .i64 0]) ∧ Below w.heap.size w w'))
    (HSK : Hid (∀ W cb, Cur W cb u 0 → Calls Try.prog 8 #[.func (.func 9) #[skipc cb m] #[]] W fun e w' => e = .returned (.tuple #[.string y, flt 0 0]) ∧ Mv W.heap.size [cb] W w' ∧ Cur w' cb u m))
    (HCL : Hid (∀ W cb, Cur W cb u m → Calls Try.prog 8 #[.func (.func 10) #[callc cb false] #[]] W fun e w' => e = .returned (.tuple #[.string z, flt 0 0]) ∧ Mv W.heap.size [cb] W w' ∧ Cur w' cb u (m + g)))
    (HLV : Hid (∀ W, Below w.heap.size w W → Calls Try.prog 13 #[] W fun e w' => e = .returned (.bool true) ∧ Below w.heap.size w w'))
    (HRR : Hid (∀ W, Calls Try.prog 11 #[.string u] W fun e w' => e = .returned (.tuple #[.string t, .int .i64 n]) ∧ Below W.heap.size W w'))
    (HRT : Hid (∀ W, Calls Try.prog 11 #[.string (u.extract m u.size)] W fun e w' => e = .returned (.tuple #[.string z0, .int .i64 g]) ∧ Below W.heap.size W w')) :
    Calls Try.prog 3 #[.string s, .int .u8 (b.toNat : Int)] w fun e w' => e = .returned (.bool true) ∧ Below w.heap.size w w' := by
  have hb0 := Below.refl w.heap.size w
  have hmf := make_func
  go_enter Try.func3, Try.ntmps3
  go_wp2_with (first
    | (go_at_call 5; with_reducible refine (HCS.out _ (by assumption)).mono ?_; rintro e w1 ⟨rfl, hb1⟩)
    | (go_at_call 6; with_reducible refine (HRD.out _ (by assumption)).mono ?_; rintro e w1 ⟨rfl, hb1⟩))
  go_wp2_with fail
  refine (new_any u _).mono ?_
  rintro e w2 ⟨rfl, hw2⟩
  have hc2 : Cur w2 w1.heap.size u 0 := by rw [hw2]; exact Blk.new w1 48 #[.string u, .int .i64 0]
  have hb2 : Below w.heap.size w w2 := by rw [hw2]; exact hb1.alloc hb1.size _
  have hcb : w.heap.size ≤ w1.heap.size := hb1.size
  clear hw2
  generalize w1.heap.size = cb at *
  have HC2 := Lib.hid hc2
  have HB2 := Lib.hid hb2
  clear hc2 hb2 hb1 hb0 HCS HRD
  go_wp2_with fail
  refine (HSK.out _ _ HC2.out).mono ?_
  rintro e w3 ⟨rfl, m3, c3⟩
  have HC3 := Lib.hid (Blk.alloc c3 (flc 0 0))
  have HB3 := Lib.hid ((HB2.out.trans ((m3.mono (B' := w.heap.size) HB2.out.size (fun x hx => .inl hx)).below (Nat.le_refl _) (by simpa using hcb))).alloc (Nat.le_trans HB2.out.size m3.size) (flc 0 0))
  clear m3 c3 HC2 HB2 HSK
  go_wp2_with fail
  refine (HCL.out _ _ HC3.out).mono ?_
  rintro e w4 ⟨rfl, m4, c4⟩
  have HC4 := Lib.hid (Blk.alloc c4 (flc 0 0))
  have hb4 := (HB3.out.trans ((m4.mono (B' := w.heap.size) HB3.out.size (fun x hx => .inl hx)).below (Nat.le_refl _) (by simpa using hcb))).alloc (Nat.le_trans HB3.out.size m4.size) (flc 0 0)
  have HB4 := Lib.hid hb4
  have HF4 := Lib.hid (show Blk (w4.alloc (flc 0 0)) w4.heap.size 29 #[.int .i64 0, .int .i64 0] from Blk.new _ _ _)
  clear m4 c4 HC3 HB3 HCL hb4
  go_wp2_with fail
  refine (HRR.out _).mono ?_
  rintro e w5 ⟨rfl, hb5⟩
  have HC5 := Lib.hid (Blk.below HC4.out hb5 HC4.out.lt)
  have HF5 := Lib.hid (Blk.below HF4.out hb5 HF4.out.lt)
  have HB5 := Lib.hid (HB4.out.trans (hb5.mono HB4.out.size))
  clear hb5
  go_wp2_with fail
  refine (HRT.out _).mono ?_
  rintro e w6 ⟨rfl, hb6⟩
  have HC6 := Lib.hid (Blk.below HC5.out hb6 HC5.out.lt)
  have HF6 := Lib.hid (Blk.below HF5.out hb6 HF5.out.lt)
  have HB6 := Lib.hid (HB5.out.trans (hb6.mono HB5.out.size))
  clear hb6
  have k0 := HF6.out.cell 0
  have k1 := HF6.out.cell 1
  have hb9 := HB6.out
  go_wp2_with (first
    | (go_at_call 12; refine (at_any cb _ u _ HC6.out).mono ?_; rintro e w8 ⟨rfl, rfl⟩)
    | (go_at_call 13; with_reducible refine (HLV.out _ (by assumption)).mono ?_; rintro e w8 ⟨rfl, hb8⟩))
  go_ret
  exact ⟨rfl, by assumption⟩

end Go.Proofs.Ytikepdlbjfbgjaa
