/-
  Plain facts on runs of bytes. No condition.
  Plain facts on single bytes, as layer 3 parts them. No condition.
  What Has answers: whether a byte is among some. Condition: the text is as long as a length can be.
-/
import Derived.KernelRfl
import Derived.Laws.Externs
import Derived.Test.YteeheehoaklnbaaRows
import Derived.WalkKit
import Derived.WalkSpells
import Derived.WalkLawsBesides
import Derived.LoopTactic
import Derived.Lib.Hide
namespace Go.Proofs.Yteeheehoaklnbaa

/-- The first place from i on at which p does not hold, or the end. -/
def scan (p : UInt8 → Bool) (s : ByteArray) (i : Nat) : Nat := i + ((s.data.toList.drop i).takeWhile p).length

theorem drop_cons (s : ByteArray) (i : Nat) (h : i < s.size) : s.data.toList.drop i = s[i] :: s.data.toList.drop (i + 1) := by
  rw [List.drop_eq_getElem_cons (by simpa using h)]; rfl
theorem scan_step {p : UInt8 → Bool} {s : ByteArray} {i : Nat} (h : i < s.size) (hp : p s[i] = true) : scan p s (i + 1) = scan p s i := by
  unfold scan
  rw [drop_cons s i h, List.takeWhile_cons, if_pos hp, List.length_cons]
  omega
theorem scan_stop {p : UInt8 → Bool} {s : ByteArray} {i : Nat} (h : i < s.size) (hp : p s[i] = false) : scan p s i = i := by
  unfold scan
  rw [drop_cons s i h, List.takeWhile_cons, if_neg (by simp [hp])]
  simp
theorem scan_end {p : UInt8 → Bool} {s : ByteArray} {i : Nat} (h : i = s.size) : scan p s i = i := by
  unfold scan
  rw [List.drop_of_length_le (by rw [h]; simp)]
  simp
theorem scan_ge (p : UInt8 → Bool) (s : ByteArray) (i : Nat) : i ≤ scan p s i := by unfold scan; omega
theorem scan_le (p : UInt8 → Bool) (s : ByteArray) (i : Nat) (h : i ≤ s.size) : scan p s i ≤ s.size := by
  unfold scan
  have h1 := (List.takeWhile_sublist (l := s.data.toList.drop i) p).length_le
  have h2 : s.data.toList.length = s.size := by simp
  rw [List.length_drop] at h1
  omega

theorem take_snoc (s : ByteArray) (k : Nat) (h : k < s.size) : s.data.toList.take (k + 1) = s.data.toList.take k ++ [s[k]] := by
  rw [List.take_succ_eq_append_getElem (by simpa using h)]; rfl

/-- Whether a byte is among some. -/
def hasB (t : ByteArray) (b : UInt8) : Bool := t.data.toList.contains b
theorem hasB_at {t : ByteArray} {b : UInt8} {i : Nat} (h : i < t.size) (e : t[i] = b) : hasB t b = true := by
  unfold hasB
  rw [List.contains_iff_mem]
  subst e
  exact List.getElem_mem (l := t.data.toList) (by simpa using h)
theorem hasB_no {t : ByteArray} {b : UInt8} (h : ∀ i (hi : i < t.size), t[i] ≠ b) : hasB t b = false := by
  unfold hasB
  rw [Bool.eq_false_iff]
  intro hc
  rw [List.contains_iff_mem] at hc
  obtain ⟨i, hi, e⟩ := List.getElem_of_mem hc
  exact h i (by simpa using hi) e

/-- Whether a text begins with another one. -/
def prefB (s p : ByteArray) : Bool := decide (p.size ≤ s.size) && ((s.extract 0 p.size).toList == p.toList)

end Go.Proofs.Yteeheehoaklnbaa
namespace Go.Proofs.Yteeheehoaklnbaa

/-- What holds of all 256 bytes, by trying them. -/
theorem bytes_all {p : UInt8 → Bool} (h : (List.range 256).all (fun n => p (UInt8.ofNat n)) = true) (b : UInt8) : p b = true := by
  rw [List.all_eq_true] at h
  have := h b.toNat (List.mem_range.2 b.toNat_lt)
  simpa using this

def digB (b : UInt8) : Bool := decide (48 ≤ b.toNat) && decide (b.toNat ≤ 57)
def tabB (b : UInt8) : Bool := b.toNat == 9 || b.toNat == 32
def quoB (b : UInt8) : Bool := b.toNat == 9 || decide (32 ≤ b.toNat) && b.toNat != 127
theorem tabB_has (b : UInt8) : hasB ⟨#[9, 32]⟩ b = tabB b := by
  have := bytes_all (p := fun b => hasB ⟨#[9, 32]⟩ b == tabB b) (by kernel_rfl) b
  exact beq_iff_eq.1 this
end Go.Proofs.Yteeheehoaklnbaa
namespace Go.Proofs.Yteeheehoaklnbaa
open Go.RowKit

set_option maxHeartbeats 1000000 in
theorem has_any (t : ByteArray) (b : UInt8) (w : World) (hs : t.size ≤ 9223372036854775807) :
    Calls Try.prog 42 #[.string t, .int .u8 (b.toNat : Int)] w fun e w' => e = .returned (.bool (hasB t b)) ∧ w = w' := by
  go_enter Try.func42, Try.ntmps42
  go_wp2
  go_loop [5] (fun i => ∃ k : Nat, k ≤ t.size ∧ i = .int .i64 k ∧ ∀ j (hj : j < t.size), j < k → t[j] ≠ b) (fun i => t.size - (intOf i).toNat)
  case atStart => exact ⟨0, by omega, rfl, fun j _ h => absurd h (by omega)⟩
  case round =>
    obtain ⟨k, hk, rfl, hno⟩ := hrel
    have HN := Lib.hid hno
    clear hno
    by_cases hlt : k < t.size
    · by_cases he : t[k] = b
      · have HA : Hid (hasB t b = true) := hasB_at hlt he
        have d1 : ((t[k].toNat : Int) == (b.toNat : Int)) = true := by rw [he]; simp
        clear he
        go_wp2
        go_ret
        exact ⟨by rw [HA.out]; rfl, rfl⟩
      · have d1 : ((t[k].toNat : Int) == (b.toNat : Int)) = false := by
          simp only [beq_eq_false_iff_ne, ne_eq]
          intro h
          exact he (UInt8.toNat_inj.1 (by omega))
        have HE := Lib.hid he
        clear he
        go_wp2
        go_round
        case rel => exact ⟨k + 1, by omega, by go_num, fun j hj h => if h1 : j = k then by subst h1; exact HE.out else HN.out j hj (by omega)⟩
        case measure => simp [intOf]; omega
    · obtain rfl : k = t.size := by omega
      have HA : Hid (hasB t b = false) := hasB_no fun i hi => HN.out i hi hi
      go_wp2
      go_ret
      exact ⟨by rw [HA.out]; rfl, rfl⟩

end Go.Proofs.Yteeheehoaklnbaa
