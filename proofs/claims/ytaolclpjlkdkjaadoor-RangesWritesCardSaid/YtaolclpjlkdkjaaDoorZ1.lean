/-
  Plain facts on runs of bytes. No condition.
  Plain facts on single bytes, as layer 3 parts them. No condition.
  What package class's functions of one byte answer, and those of the document's own answer. No condition.
-/
import Derived.KernelRfl
import Derived.Laws.Externs
import Derived.Test.YtaolclpjlkdkjaaDoorRows
import Derived.WalkKit
import Derived.WalkSpells
import Derived.WalkLawsBesides
import Derived.LoopTactic
import Derived.Lib.Hide
namespace Go.Proofs.YtaolclpjlkdkjaaDoor

/-- The first place from i on at which p does not hold, or the end. -/
def scan (p : UInt8 → Bool) (s : ByteArray) (i : Nat) : Nat := i + ((s.data.toList.drop i).takeWhile p).length

theorem drop_cons (s : ByteArray) (i : Nat) (h : i < s.size) : s.data.toList.drop i = s[i] :: s.data.toList.drop (i + 1) := by
  rw [List.drop_eq_getElem_cons (by simpa using h)]; rfl
theorem scan_step {p : UInt8 → Bool} {s : ByteArray} {i : Nat} (h : i < s.size) (hp : p s[i] = true) : scan p s (i + 1) = scan p s i := by
  unfold scan
  rw [drop_cons s i h, List.takeWhile_cons, if_pos hp, List.length_cons]
  omega
theorem scan_stop {p : UInt8 → Bool} {s : ByteArray} {i : Nat} (h : i < s.size) (hp : p s[i] = false) : scan p s i = i := by
  unfold scan
  rw [drop_cons s i h, List.takeWhile_cons, if_neg (by simp [hp])]
  simp
theorem scan_end {p : UInt8 → Bool} {s : ByteArray} {i : Nat} (h : i = s.size) : scan p s i = i := by
  unfold scan
  rw [List.drop_of_length_le (by rw [h]; simp)]
  simp
theorem scan_ge (p : UInt8 → Bool) (s : ByteArray) (i : Nat) : i ≤ scan p s i := by unfold scan; omega
theorem scan_le (p : UInt8 → Bool) (s : ByteArray) (i : Nat) (h : i ≤ s.size) : scan p s i ≤ s.size := by
  unfold scan
  have h1 := (List.takeWhile_sublist (l := s.data.toList.drop i) p).length_le
  have h2 : s.data.toList.length = s.size := by simp
  rw [List.length_drop] at h1
  omega

theorem take_snoc (s : ByteArray) (k : Nat) (h : k < s.size) : s.data.toList.take (k + 1) = s.data.toList.take k ++ [s[k]] := by
  rw [List.take_succ_eq_append_getElem (by simpa using h)]; rfl

def lowerB (b : UInt8) : Bool := decide (97 ≤ b.toNat) && decide (b.toNat ≤ 122)

/-- Whether a text begins with another one. -/
def prefB (s p : ByteArray) : Bool := decide (p.size ≤ s.size) && ((s.extract 0 p.size).toList == p.toList)

end Go.Proofs.YtaolclpjlkdkjaaDoor
namespace Go.Proofs.YtaolclpjlkdkjaaDoor

/-- What holds of all 256 bytes, by trying them. -/
theorem bytes_all {p : UInt8 → Bool} (h : (List.range 256).all (fun n => p (UInt8.ofNat n)) = true) (b : UInt8) : p b = true := by
  rw [List.all_eq_true] at h
  have := h b.toNat (List.mem_range.2 b.toNat_lt)
  simpa using this

def lowB (b : UInt8) : UInt8 := if decide (65 ≤ b.toNat) && decide (b.toNat ≤ 90) then UInt8.ofNat (b.toNat + 32) else b
def digB (b : UInt8) : Bool := decide (48 ≤ b.toNat) && decide (b.toNat ≤ 57)
def letB (b : UInt8) : Bool := lowerB (lowB b)
def tabB (b : UInt8) : Bool := b.toNat == 9 || b.toNat == 32
end Go.Proofs.YtaolclpjlkdkjaaDoor
namespace Go.Proofs.YtaolclpjlkdkjaaDoor
open Go.RowKit

theorem dI (a : Nat) (b : UInt8) : decide (a ≤ b.toNat) = decide ((a : Int) ≤ (b.toNat : Int)) := by simp
theorem dJ (a : Nat) (b : UInt8) : decide (b.toNat ≤ a) = decide ((b.toNat : Int) ≤ (a : Int)) := by simp
theorem dE (a : Nat) (b : UInt8) : (b.toNat == a) = ((b.toNat : Int) == (a : Int)) := by
  rw [Bool.eq_iff_iff, beq_iff_eq, beq_iff_eq]
  omega

set_option maxHeartbeats 400000 in
theorem lower1_any (b : UInt8) (w : World) :
    Calls Tryd.prog 60 #[.int .u8 (b.toNat : Int)] w fun e w' => e = .returned (.int .u8 ((lowB b).toNat : Int)) ∧ w = w' := by
  have hb := b.toNat_lt
  by_cases h : 65 ≤ b.toNat ∧ b.toNat ≤ 90
  · have e : (lowB b).toNat = b.toNat + 32 := by
      unfold lowB
      rw [if_pos (by simpa using h), UInt8.toNat_ofNat']
      omega
    rw [e]
    have h1 : (65 : Int) ≤ (b.toNat : Int) := by omega
    have h2 : (b.toNat : Int) ≤ 90 := by omega
    clear e
    go_enter Tryd.func60, Tryd.ntmps60
    go_wp2
    go_ret
    refine ⟨?_, rfl⟩
    go_num
  · have e : lowB b = b := by
      unfold lowB
      rw [if_neg (by simpa using h)]
    rw [e]
    clear e
    by_cases h1 : (65 : Int) ≤ (b.toNat : Int)
    · have h2 : decide ((b.toNat : Int) ≤ 90) = false := by simp; omega
      go_enter Tryd.func60, Tryd.ntmps60
      go_wp2
      go_ret
      exact ⟨rfl, rfl⟩
    · have h2 : decide ((65 : Int) ≤ (b.toNat : Int)) = false := by simp; omega
      go_enter Tryd.func60, Tryd.ntmps60
      go_wp2
      go_ret
      exact ⟨rfl, rfl⟩

set_option maxHeartbeats 400000 in
theorem digit_any (b : UInt8) (w : World) :
    Calls Tryd.prog 33 #[.int .u8 (b.toNat : Int)] w fun e w' => e = .returned (.bool (digB b)) ∧ w = w' := by
  have e : digB b = (decide ((48 : Int) ≤ (b.toNat : Int)) && decide ((b.toNat : Int) ≤ 57)) := by unfold digB; rw [dI, dJ]; rfl
  rw [e]
  clear e
  cases h1 : decide ((48 : Int) ≤ (b.toNat : Int)) <;>
  · go_enter Tryd.func33, Tryd.ntmps33
    go_wp2
    go_ret
    exact ⟨rfl, rfl⟩

set_option maxHeartbeats 400000 in
theorem tab_any (b : UInt8) (w : World) :
    Calls Tryd.prog 46 #[.int .u8 (b.toNat : Int)] w fun e w' => e = .returned (.bool (tabB b)) ∧ w = w' := by
  have e : tabB b = ((b.toNat : Int) == 9 || (b.toNat : Int) == 32) := by unfold tabB; rw [dE, dE]; rfl
  rw [e]
  clear e
  cases h0 : ((b.toNat : Int) == 9) <;>
  · go_enter Tryd.func46, Tryd.ntmps46
    go_wp2
    go_ret
    exact ⟨rfl, rfl⟩

set_option maxHeartbeats 400000 in
theorem letter_any (b : UInt8) (w : World) :
    Calls Tryd.prog 48 #[.int .u8 (b.toNat : Int)] w fun e w' => e = .returned (.bool (letB b)) ∧ w = w' := by
  have e : letB b = (decide ((97 : Int) ≤ ((lowB b).toNat : Int)) && decide (((lowB b).toNat : Int) ≤ 122)) := by unfold letB lowerB; rw [dI, dJ]; rfl
  rw [e]
  clear e
  cases h0 : decide ((97 : Int) ≤ ((lowB b).toNat : Int)) <;>
  · go_enter Tryd.func48, Tryd.ntmps48
    go_wp2_with (go_at_call 60; refine (lower1_any b _).mono ?_; rintro e w' ⟨rfl, rfl⟩)
    go_ret
    exact ⟨rfl, rfl⟩

end Go.Proofs.YtaolclpjlkdkjaaDoor
