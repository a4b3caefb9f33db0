/-
  What 'takes' answers, of whatever call that Value tells of. Conditions: what Value tells is what is wanted.
-/
import Derived.Test.YtndinfhgoebcoaaTakes
namespace Go.Proofs.Ytndinfhgoebcoaa
open Go.RowKit

set_option maxHeartbeats 1000000 in
theorem takes2_ok (p : Option Addr) (n : Int) (x : ByteArray) (ba : Int) (w : World) (r : List Nat) (R : World → Prop) (hs : x.size ≤ 9223372036854775807) (hr : ∀ y ∈ r, y < w.heap.size)
    (hR : ∀ W1 W2, Below w.heap.size W1 W2 → R W1 → R W2)
    (hv : ∀ W, Below w.heap.size w W → Calls Try.prog 32 #[.func (.func 33) #[call p n] #[]] W fun e w' => e = .returned (.tuple #[.int .u32 (be x.data.toList), flt 0 0]) ∧ Mv W.heap.size r W w' ∧ R w') :
    Calls Try.prog 12 #[call p n, .int .i64 2, .string x, flt ba 0] w fun e w' => e = .returned (.bool true) ∧ Mv w.heap.size r w w' ∧ R w' := by
  have hmf := make_func
  have n0 : w.heap.size ∉ r := fun hm => by have := hr _ hm; omega
  have n1 : w.heap.size + 1 ∉ r := fun hm => by have := hr _ hm; omega
  have n2 : w.heap.size + 1 + 1 ∉ r := fun hm => by have := hr _ hm; omega
  have HR := Lib.hid hR
  have HV := Lib.hid hv
  clear hR hv hr
  have hbw : Below w.heap.size w (((w.alloc (callc p n)).alloc (flc 0 0)).alloc (flc 0 0)) := (((Below.refl _ _).alloc (Nat.le_refl _) _).alloc (by simp) _).alloc (by simp; omega) _
  go_enter Try.func12, Try.ntmps12
  go_wp2_with fail
  refine (HV.out _ hbw).mono ?_
  rintro e w1 ⟨rfl, hm, hq⟩
  have hz := hm.size
  simp at hz
  have c1 : w1.cell? ⟨w.heap.size + 1, 0, none⟩ = some (.int .i64 0) := by rw [hm.cell (by simp) n1]; simp [go_sem]
  have c2 : w1.cell? ⟨w.heap.size + 1, 1, none⟩ = some (.int .i64 0) := by rw [hm.cell (by simp) n1]; simp [go_sem]
  have c3 : w1.cell? ⟨w.heap.size + 1 + 1, 0, none⟩ = some (.int .i64 0) := by rw [hm.cell (by simp) n2]; simp [go_sem]
  have c4 : w1.cell? ⟨w.heap.size + 1 + 1, 1, none⟩ = some (.int .i64 0) := by rw [hm.cell (by simp) n2]; simp [go_sem]
  have z3 : w1.frozen? ⟨w.heap.size + 1 + 1, 0, none⟩ = false := by rw [hm.frozen (by simp) n2]; simp [go_sem]
  have z4 : w1.frozen? ⟨w.heap.size + 1 + 1, 1, none⟩ = false := by rw [hm.frozen (by simp) n2]; simp [go_sem]
  have HM := Lib.hid ((Mv.of_below hbw r).trans (hm.mono (by simp; omega) fun y hy => .inl hy))
  have HQ := Lib.hid hq
  clear hbw hm hq n0 n1 n2
  go_wp2
  go_loop [12, 13] (fun m i => ∃ k : Nat, k ≤ x.size ∧ i = .int .i64 k ∧ m = .int .u32 (be (x.data.toList.take k))) (fun _ i => x.size - (intOf i).toNat)
  case atStart => exact ⟨0, by omega, rfl, rfl⟩
  case round =>
    obtain ⟨k, hk, rfl, rfl⟩ := hrel
    by_cases hlt : k < x.size
    · have hb := be_range (x.data.toList.take k)
      have hu : (x[k].toNat : Int) < 256 := by have := x[k].toNat_lt; omega
      have HS : Hid ((be (x.data.toList.take k) * 256 + (x[k].toNat : Int)) % 4294967296 = be (x.data.toList.take (k + 1))) := by
        rw [take_snoc x k hlt, be_snoc]; rfl
      go_wp2
      go_round
      case rel => exact ⟨k + 1, by omega, by go_num, by rw [← HS.out]; first | done | (congr 1; omega)⟩
      case measure => simp [intOf]; omega
    · obtain rfl : k = x.size := by omega
      have ht : x.data.toList.take x.size = x.data.toList := List.take_of_length_le (by simp)
      go_wp2
      go_ret
      have hb : Below w.heap.size w1 ((w1.setCell ⟨w.heap.size + 1 + 1, 0, none⟩ (.int .i64 0)).setCell ⟨w.heap.size + 1 + 1, 1, none⟩ (.int .i64 0)) := ((Below.refl _ _).setCell (by simp; omega) _).setCell (by simp; omega) _
      exact ⟨rfl, HM.out.trans (Mv.of_below hb r), HR.out _ _ hb HQ.out⟩

set_option maxHeartbeats 1000000 in
theorem takes2_bad (p : Option Addr) (n : Int) (x : ByteArray) (ba bc : Int) (hbc : (bc == 0) = false) (w : World) (r : List Nat) (R : World → Prop) (hs : x.size ≤ 9223372036854775807) (hr : ∀ y ∈ r, y < w.heap.size)
    (hR : ∀ W1 W2, Below w.heap.size W1 W2 → R W1 → R W2)
    (hv : ∀ W, Below w.heap.size w W → Calls Try.prog 32 #[.func (.func 33) #[call p n] #[]] W fun e w' => e = .returned (.tuple #[.int .u32 (be x.data.toList), flt ba bc]) ∧ Mv W.heap.size r W w' ∧ R w') :
    Calls Try.prog 12 #[call p n, .int .i64 2, .string x, flt ba bc] w fun e w' => e = .returned (.bool true) ∧ Mv w.heap.size r w w' ∧ R w' := by
  have hmf := make_func
  have n0 : w.heap.size ∉ r := fun hm => by have := hr _ hm; omega
  have n1 : w.heap.size + 1 ∉ r := fun hm => by have := hr _ hm; omega
  have n2 : w.heap.size + 1 + 1 ∉ r := fun hm => by have := hr _ hm; omega
  have HR := Lib.hid hR
  have HV := Lib.hid hv
  clear hR hv hr
  have hbw : Below w.heap.size w (((w.alloc (callc p n)).alloc (flc ba bc)).alloc (flc 0 0)) := (((Below.refl _ _).alloc (Nat.le_refl _) _).alloc (by simp) _).alloc (by simp; omega) _
  go_enter Try.func12, Try.ntmps12
  go_wp2_with fail
  refine (HV.out _ hbw).mono ?_
  rintro e w1 ⟨rfl, hm, hq⟩
  have hz := hm.size
  simp at hz
  have c1 : w1.cell? ⟨w.heap.size + 1, 0, none⟩ = some (.int .i64 ba) := by rw [hm.cell (by simp) n1]; simp [go_sem]
  have c2 : w1.cell? ⟨w.heap.size + 1, 1, none⟩ = some (.int .i64 bc) := by rw [hm.cell (by simp) n1]; simp [go_sem]
  have c3 : w1.cell? ⟨w.heap.size + 1 + 1, 0, none⟩ = some (.int .i64 0) := by rw [hm.cell (by simp) n2]; simp [go_sem]
  have c4 : w1.cell? ⟨w.heap.size + 1 + 1, 1, none⟩ = some (.int .i64 0) := by rw [hm.cell (by simp) n2]; simp [go_sem]
  have z3 : w1.frozen? ⟨w.heap.size + 1 + 1, 0, none⟩ = false := by rw [hm.frozen (by simp) n2]; simp [go_sem]
  have z4 : w1.frozen? ⟨w.heap.size + 1 + 1, 1, none⟩ = false := by rw [hm.frozen (by simp) n2]; simp [go_sem]
  have HM := Lib.hid ((Mv.of_below hbw r).trans (hm.mono (by simp; omega) fun y hy => .inl hy))
  have HQ := Lib.hid hq
  clear hbw hm hq n0 n1 n2
  go_wp2
  go_loop [12, 13] (fun m i => ∃ k : Nat, k ≤ x.size ∧ i = .int .i64 k ∧ m = .int .u32 (be (x.data.toList.take k))) (fun _ i => x.size - (intOf i).toNat)
  case atStart => exact ⟨0, by omega, rfl, rfl⟩
  case round =>
    obtain ⟨k, hk, rfl, rfl⟩ := hrel
    by_cases hlt : k < x.size
    · have hb := be_range (x.data.toList.take k)
      have hu : (x[k].toNat : Int) < 256 := by have := x[k].toNat_lt; omega
      have HS : Hid ((be (x.data.toList.take k) * 256 + (x[k].toNat : Int)) % 4294967296 = be (x.data.toList.take (k + 1))) := by
        rw [take_snoc x k hlt, be_snoc]; rfl
      go_wp2
      go_round
      case rel => exact ⟨k + 1, by omega, by go_num, by rw [← HS.out]; first | done | (congr 1; omega)⟩
      case measure => simp [intOf]; omega
    · obtain rfl : k = x.size := by omega
      have ht : x.data.toList.take x.size = x.data.toList := List.take_of_length_le (by simp)
      go_wp2
      go_ret
      have hb : Below w.heap.size w1 ((w1.setCell ⟨w.heap.size + 1 + 1, 0, none⟩ (.int .i64 ba)).setCell ⟨w.heap.size + 1 + 1, 1, none⟩ (.int .i64 bc)) := ((Below.refl _ _).setCell (by simp; omega) _).setCell (by simp; omega) _
      exact ⟨rfl, HM.out.trans (Mv.of_below hb r), HR.out _ _ hb HQ.out⟩
end Go.Proofs.Ytndinfhgoebcoaa
