/-
  Plain facts on bytes that are no text. No condition.
  What package binary's Byte, First, Mark and Count answer, and the document's own. Condition: lengths as they can be.
  What Cut answers: the first n bytes. Condition: the text is no longer than a length can be.
-/
import Derived.Test.YtjaockmbnjflaaaGreatDoorZ1
import Derived.Test.YtjaockmbnjflaaaGreatDoorZ8
import Derived.Test.YtjaockmbnjflaaaGreatDoorZ3
import Derived.LoopTactic
import Derived.Test.YtjaockmbnjflaaaGreatDoorRows
import Derived.WalkKit
import Derived.WalkSpells
import Derived.WalkLawsBesides
namespace Go.Proofs.YtjaockmbnjflaaaGreatDoor

/-- Whether a byte is binary. -/
def binB (b : UInt8) : Bool := decide (b.toNat ≤ 8) || (decide (b.toNat = 11) || ((decide (14 ≤ b.toNat) && decide (b.toNat ≤ 26)) || (decide (28 ≤ b.toNat) && decide (b.toNat ≤ 31))))
/-- Where the first binary byte stands; how many bytes there are, if none is. -/
def binF (s : ByteArray) : Nat := scan (fun b => !binB b) s 0
end Go.Proofs.YtjaockmbnjflaaaGreatDoor
namespace Go.Proofs.YtjaockmbnjflaaaGreatDoor
open Go.RowKit

abbrev ctrS : ByteArray := ⟨#[9, 10, 12, 13, 27]⟩
theorem binB_prog (b : UInt8) : binB b = (decide ((b.toNat : Int) < 32) && decide (firstIdx ctrS b < 0)) := by
  have := bytes_all (p := fun b => binB b == (decide ((b.toNat : Int) < 32) && decide (firstIdx ctrS b < 0))) (by kernel_rfl) b
  simpa using this

set_option maxHeartbeats 400000 in
theorem bbyte_any (b : UInt8) (w : World) :
    Calls Tryz.prog 82 #[.int .u8 (b.toNat : Int)] w fun e w' => e = .returned (.bool (binB b)) ∧ w = w' := by
  have HX := Lib.hid (fun W => indexByte_any ctrS b W)
  rw [binB_prog]
  generalize firstIdx ctrS b = i at *
  cases h1 : decide ((b.toNat : Int) < 32) <;>
  · go_enter Tryz.func82, Tryz.ntmps82
    go_wp2_with (go_at_call 110; (with_reducible refine (HX.out _).mono ?_); rintro e w1 ⟨rfl, rfl⟩)
    go_ret
    exact ⟨rfl, rfl⟩

set_option maxHeartbeats 400000 in
theorem rbyte_any (b : UInt8) (w : World) :
    Calls Tryz.prog 56 #[.int .u8 (b.toNat : Int)] w fun e w' => e = .returned (.bool (binB b)) ∧ w = w' := by
  have e : binB b = (decide ((b.toNat : Int) ≤ 8) || ((b.toNat : Int) == 11) || (decide ((14 : Int) ≤ (b.toNat : Int)) && decide ((b.toNat : Int) ≤ 26)) || (decide ((28 : Int) ≤ (b.toNat : Int)) && decide ((b.toNat : Int) ≤ 31))) := by
    have := bytes_all (p := fun b => binB b == (decide ((b.toNat : Int) ≤ 8) || ((b.toNat : Int) == 11) || (decide ((14 : Int) ≤ (b.toNat : Int)) && decide ((b.toNat : Int) ≤ 26)) || (decide ((28 : Int) ≤ (b.toNat : Int)) && decide ((b.toNat : Int) ≤ 31)))) (by kernel_rfl) b
    simpa using this
  rw [e]
  clear e
  cases h0 : decide ((b.toNat : Int) ≤ 8) <;> cases h1 : ((b.toNat : Int) == 11) <;> cases h2 : decide ((14 : Int) ≤ (b.toNat : Int)) <;> cases h3 : decide ((b.toNat : Int) ≤ 26) <;> cases h4 : decide ((28 : Int) ≤ (b.toNat : Int)) <;>
  · go_enter Tryz.func56, Tryz.ntmps56
    go_wp2
    go_ret
    exact ⟨rfl, rfl⟩

/-- None of the first k bytes is binary. -/
def binK (s : ByteArray) (k : Nat) : Prop := scan (fun b => !binB b) s k = binF s
theorem binK_zero (s : ByteArray) : binK s 0 := rfl
theorem binK_no {s : ByteArray} {k : Nat} (h : binK s k) (hk : k < s.size) (hb : binB s[k] = false) : binK s (k + 1) := by
  unfold binK at *
  rw [← h]
  exact scan_step hk (by simp [hb])
theorem binK_yes {s : ByteArray} {k : Nat} (h : binK s k) (hk : k < s.size) (hb : binB s[k] = true) : binF s = k := by
  unfold binK at *
  rw [← h]
  exact scan_stop hk (by simp [hb])
theorem binK_end {s : ByteArray} (h : binK s s.size) : binF s = s.size := by
  unfold binK at *
  rw [← h]
  exact scan_end rfl

/-- Where the first binary byte stands; 0, if none is. -/
def fstN (s : ByteArray) : Nat := if binF s < s.size then binF s else 0

set_option maxHeartbeats 1000000 in
theorem bfirst_any (s : ByteArray) (w : World) (hs : s.size ≤ 9223372036854775807) :
    Calls Tryz.prog 54 #[.string s] w fun e w' => e = .returned (.tuple #[.int .i64 (fstN s : Nat), .bool (decide (binF s < s.size))]) ∧ w = w' := by
  have HY := Lib.hid (fun k (h : k < s.size) (hb : binB s[k] = true) (hk : binK s k) => show fstN s = k ∧ decide (binF s < s.size) = true from by
    have := binK_yes hk h hb
    unfold fstN
    rw [this, if_pos h]
    exact ⟨rfl, decide_eq_true h⟩)
  have HE := Lib.hid (fun (hk : binK s s.size) => show fstN s = 0 ∧ decide (binF s < s.size) = false from by
    have := binK_end hk
    unfold fstN
    rw [this, if_neg (Nat.lt_irrefl _)]
    exact ⟨rfl, decide_eq_false (Nat.lt_irrefl _)⟩)
  generalize fstN s = f at *
  generalize decide (binF s < s.size) = o at *
  go_enter Tryz.func54, Tryz.ntmps54
  go_wp2
  go_loop [4, 7] (fun _ i => ∃ k : Nat, k ≤ s.size ∧ i = .int .i64 k ∧ binK s k) (fun _ i => s.size - (intOf i).toNat)
  case atStart => exact ⟨0, by omega, rfl, binK_zero s⟩
  case round =>
    obtain ⟨k, hk, rfl, hb⟩ := hrel
    have HB := Lib.hid hb
    clear hb
    by_cases hlt : k < s.size
    · have HC := Lib.hid (fun W => bbyte_any s[k] W)
      have HN := Lib.hid (binK_no HB.out hlt)
      have HYY := Lib.hid (fun h => HY.out k hlt h HB.out)
      generalize hbb : binB s[k] = bb at *
      cases bb
      · go_wp2_with (go_at_call 82; (with_reducible refine (HC.out _).mono ?_); rintro e w1 ⟨rfl, rfl⟩)
        go_round
        case rel => exact ⟨k + 1, by omega, by go_num, HN.out trivial⟩
        case measure => simp [intOf]; omega
      · obtain ⟨rfl, rfl⟩ := HYY.out rfl
        go_wp2_with (go_at_call 82; (with_reducible refine (HC.out _).mono ?_); rintro e w1 ⟨rfl, rfl⟩)
        go_ret2
        exact ⟨rfl, rfl⟩
    · obtain rfl : k = s.size := by omega
      obtain ⟨rfl, rfl⟩ := HE.out HB.out
      go_wp2
      go_ret2
      exact ⟨rfl, rfl⟩

/-- Where the document says that the first one stands; below 0: there is none. -/
def fstI (s : ByteArray) : Int := if binF s < s.size then (binF s : Nat) else -1

set_option maxHeartbeats 1000000 in
theorem rfirst_any (s : ByteArray) (w : World) (hs : s.size ≤ 9223372036854775807) :
    Calls Tryz.prog 33 #[.string s] w fun e w' => e = .returned (.int .i64 (fstI s)) ∧ w = w' := by
  have HY := Lib.hid (fun k (h : k < s.size) (hb : binB s[k] = true) (hk : binK s k) => show fstI s = (k : Nat) from by
    have := binK_yes hk h hb
    unfold fstI
    rw [this, if_pos h])
  have HE := Lib.hid (fun (hk : binK s s.size) => show fstI s = -1 from by
    have := binK_end hk
    unfold fstI
    rw [this, if_neg (Nat.lt_irrefl _)])
  generalize fstI s = f at *
  go_enter Tryz.func33, Tryz.ntmps33
  go_wp2
  go_loop [3] (fun i => ∃ k : Nat, k ≤ s.size ∧ i = .int .i64 k ∧ binK s k) (fun i => s.size - (intOf i).toNat)
  case atStart => exact ⟨0, by omega, rfl, binK_zero s⟩
  case round =>
    obtain ⟨k, hk, rfl, hb⟩ := hrel
    have HB := Lib.hid hb
    clear hb
    by_cases hlt : k < s.size
    · have HC := Lib.hid (fun W => rbyte_any s[k] W)
      have HN := Lib.hid (binK_no HB.out hlt)
      have HYY := Lib.hid (fun h => HY.out k hlt h HB.out)
      generalize hbb : binB s[k] = bb at *
      cases bb
      · go_wp2_with (go_at_call 56; (with_reducible refine (HC.out _).mono ?_); rintro e w1 ⟨rfl, rfl⟩)
        go_round
        case rel => exact ⟨k + 1, by omega, by go_num, HN.out trivial⟩
        case measure => simp [intOf]; omega
      · obtain rfl := HYY.out rfl
        go_wp2_with (go_at_call 56; (with_reducible refine (HC.out _).mono ?_); rintro e w1 ⟨rfl, rfl⟩)
        go_ret
        exact ⟨rfl, rfl⟩
    · obtain rfl : k = s.size := by omega
      obtain rfl := HE.out HB.out
      go_wp2
      go_ret
      exact ⟨rfl, rfl⟩

end Go.Proofs.YtjaockmbnjflaaaGreatDoor
namespace Go.Proofs.YtjaockmbnjflaaaGreatDoor
open Go.RowKit

/-- The first n bytes. -/
def cutB (s : ByteArray) (n : Nat) : ByteArray := if n < s.size then s.extract 0 n else s
theorem cutB_size (s : ByteArray) (n : Nat) : (cutB s n).size ≤ n := by
  unfold cutB
  split
  · simp; omega
  · omega

set_option maxHeartbeats 400000 in
theorem cut_any (s : ByteArray) (n : Nat) (w : World) (_hs : s.size ≤ 9223372036854775807) :
    Calls Tryz.prog 7 #[.string s, .int .i64 n] w fun e w' => e = .returned (.string (cutB s n)) ∧ w = w' := by
  by_cases h : n < s.size
  · have hx : cutB s n = s.extract 0 n := by simp [cutB, h]
    have h1 : decide ((n : Int) < (s.size : Int)) = true := by simpa using h
    have h2 : decide (n < s.size) = true := by simpa using h
    rw [hx]
    clear hx
    go_enter Tryz.func7, Tryz.ntmps7
    go_wp2
    go_ret
    exact ⟨rfl, rfl⟩
  · have hx : cutB s n = s := by simp [cutB, h]
    have h1 : decide ((n : Int) < (s.size : Int)) = false := by simp; omega
    have h2 : decide (n < s.size) = false := by simpa using h
    rw [hx]
    clear hx
    go_enter Tryz.func7, Tryz.ntmps7
    go_wp2
    go_ret
    exact ⟨rfl, rfl⟩

end Go.Proofs.YtjaockmbnjflaaaGreatDoor
