/-
  What package jnum's next, nextDigit and ends answer. Condition: a place is one of ten.
-/
import Derived.Test.YthiclminkbnibaaDoorClass1
import Derived.Test.YthiclminkbnibaaDoorJm
import Derived.Lib.Hide
namespace Go.Proofs.YthiclminkbnibaaDoor
open Go.RowKit

theorem ten {p : Nat} (h : p ≤ 9) : p = 0 ∨ p = 1 ∨ p = 2 ∨ p = 3 ∨ p = 4 ∨ p = 5 ∨ p = 6 ∨ p = 7 ∨ p = 8 ∨ p = 9 := by omega

set_option maxHeartbeats 2000000 in
theorem nextDigit_any (p : Nat) (b : UInt8) (w : World) (hp : p ≤ 9) :
    Calls Tryd.prog 62 #[.int .i64 (p : Int), .int .u8 (b.toNat : Int)] w fun e w' => e = .returned (.int .i64 (nxtD p b : Nat)) ∧ w = w' := by
  obtain ⟨n, hn⟩ : ∃ n : Int, n = (p : Int) := ⟨_, rfl⟩
  obtain ⟨v, hv⟩ : ∃ v : Int, v = (nxtD p b : Nat) := ⟨_, rfl⟩
  rw [← hn, ← hv]
  by_cases h0 : b.toNat = 48
  · have f0 : ((b.toNat : Int) == 48) = true := by rw [h0]; rfl
    rcases ten hp with h | h | h | h | h | h | h | h | h | h <;> subst h <;> simp [nxtD, h0] at hv <;> simp at hn <;> subst hv <;> subst hn <;> clear h0 hp <;>
    · go_enter Tryd.func62, Tryd.ntmps62
      go_wp2
      go_ret
      exact ⟨rfl, rfl⟩
  · have f0 : ((b.toNat : Int) == 48) = false := by simp; omega
    rcases ten hp with h | h | h | h | h | h | h | h | h | h <;> subst h <;> simp [nxtD, h0] at hv <;> simp at hn <;> subst hv <;> subst hn <;> clear h0 hp <;>
    · go_enter Tryd.func62, Tryd.ntmps62
      go_wp2
      go_ret
      exact ⟨rfl, rfl⟩

theorem ends_any (p : Nat) (w : World) :
    Calls Tryd.prog 21 #[.int .i64 (p : Int)] w fun e w' => e = .returned (.bool (endB p)) ∧ w = w' := by
  have e : ∀ a : Nat, ((p : Int) == (a : Int)) = (p == a) := fun a => by
    rw [Bool.eq_iff_iff, beq_iff_eq, beq_iff_eq]
    omega
  have e3 := e 3
  have e4 := e 4
  have e6 := e 6
  have e9 := e 9
  clear e
  unfold endB
  cases h3 : p == 3 <;> rw [h3] at e3
  · cases h4 : p == 4 <;> rw [h4] at e4
    · cases h6 : p == 6 <;> rw [h6] at e6
      · cases h9 : p == 9 <;> rw [h9] at e9 <;> clear h3 h4 h6 h9
        all_goals
          go_enter Tryd.func21, Tryd.ntmps21
          go_wp2
          go_ret
          exact ⟨rfl, rfl⟩
      · clear h3 h4 h6 e9
        go_enter Tryd.func21, Tryd.ntmps21
        go_wp2
        go_ret
        exact ⟨rfl, rfl⟩
    · clear h3 h4 e6 e9
      go_enter Tryd.func21, Tryd.ntmps21
      go_wp2
      go_ret
      exact ⟨rfl, rfl⟩
  · clear h3 e4 e6 e9
    go_enter Tryd.func21, Tryd.ntmps21
    go_wp2
    go_ret
    exact ⟨rfl, rfl⟩

/-- What a byte is, for a place: one of six, or another one. -/
theorem six (b : UInt8) (h : digB b = false) : b.toNat = 46 ∨ b.toNat = 101 ∨ b.toNat = 69 ∨ b.toNat = 45 ∨ b.toNat = 43 ∨ (b.toNat ≠ 46 ∧ b.toNat ≠ 101 ∧ b.toNat ≠ 69 ∧ b.toNat ≠ 45 ∧ b.toNat ≠ 43) := by omega
theorem beq_lit {b : UInt8} {a : Nat} (c : Nat) (h : b.toNat = a) : ((b.toNat : Int) == (c : Int)) = (a == c) := by
  subst h
  rw [Bool.eq_iff_iff, beq_iff_eq, beq_iff_eq]
  omega

set_option maxHeartbeats 8000000 in
theorem next_any (p : Nat) (b : UInt8) (w : World) (hp : p ≤ 9) :
    Calls Tryd.prog 38 #[.int .i64 (p : Int), .int .u8 (b.toNat : Int)] w fun e w' => e = .returned (.int .i64 (nxt p b : Nat)) ∧ w = w' := by
  have HL := Lib.hid fun W => digit_any b W
  cases hd : digB b
  · rw [hd] at HL
    obtain ⟨n, hn⟩ : ∃ n : Int, n = (p : Int) := ⟨_, rfl⟩
    obtain ⟨v, hv⟩ : ∃ v : Int, v = (nxt p b : Nat) := ⟨_, rfl⟩
    rw [← hn, ← hv]
    unfold nxt at hv
    rw [if_neg (by rw [hd]; decide)] at hv
    have h6 := six b hd
    clear hd
    rcases h6 with hb | hb | hb | hb | hb | hb
    · have f46 : ((b.toNat : Int) == 46) = true := by rw [hb]; rfl
      have f101 : ((b.toNat : Int) == 101) = false := by rw [hb]; rfl
      have f69 : ((b.toNat : Int) == 69) = false := by rw [hb]; rfl
      have f45 : ((b.toNat : Int) == 45) = false := by rw [hb]; rfl
      have f43 : ((b.toNat : Int) == 43) = false := by rw [hb]; rfl
      rcases ten hp with h | h | h | h | h | h | h | h | h | h <;> subst h <;> simp [hb] at hv <;> simp at hn <;> subst hv <;> subst hn <;> clear hb hp <;>
      · go_enter Tryd.func38, Tryd.ntmps38
        go_wp2_with (go_at_call 61; refine (HL.out _).mono ?_; rintro e w' ⟨rfl, rfl⟩)
        go_ret
        exact ⟨rfl, rfl⟩
    · have f46 : ((b.toNat : Int) == 46) = false := by rw [hb]; rfl
      have f101 : ((b.toNat : Int) == 101) = true := by rw [hb]; rfl
      have f69 : ((b.toNat : Int) == 69) = false := by rw [hb]; rfl
      have f45 : ((b.toNat : Int) == 45) = false := by rw [hb]; rfl
      have f43 : ((b.toNat : Int) == 43) = false := by rw [hb]; rfl
      rcases ten hp with h | h | h | h | h | h | h | h | h | h <;> subst h <;> simp [hb] at hv <;> simp at hn <;> subst hv <;> subst hn <;> clear hb hp <;>
      · go_enter Tryd.func38, Tryd.ntmps38
        go_wp2_with (go_at_call 61; refine (HL.out _).mono ?_; rintro e w' ⟨rfl, rfl⟩)
        go_ret
        exact ⟨rfl, rfl⟩
    · have f46 : ((b.toNat : Int) == 46) = false := by rw [hb]; rfl
      have f101 : ((b.toNat : Int) == 101) = false := by rw [hb]; rfl
      have f69 : ((b.toNat : Int) == 69) = true := by rw [hb]; rfl
      have f45 : ((b.toNat : Int) == 45) = false := by rw [hb]; rfl
      have f43 : ((b.toNat : Int) == 43) = false := by rw [hb]; rfl
      rcases ten hp with h | h | h | h | h | h | h | h | h | h <;> subst h <;> simp [hb] at hv <;> simp at hn <;> subst hv <;> subst hn <;> clear hb hp <;>
      · go_enter Tryd.func38, Tryd.ntmps38
        go_wp2_with (go_at_call 61; refine (HL.out _).mono ?_; rintro e w' ⟨rfl, rfl⟩)
        go_ret
        exact ⟨rfl, rfl⟩
    · have f46 : ((b.toNat : Int) == 46) = false := by rw [hb]; rfl
      have f101 : ((b.toNat : Int) == 101) = false := by rw [hb]; rfl
      have f69 : ((b.toNat : Int) == 69) = false := by rw [hb]; rfl
      have f45 : ((b.toNat : Int) == 45) = true := by rw [hb]; rfl
      have f43 : ((b.toNat : Int) == 43) = false := by rw [hb]; rfl
      rcases ten hp with h | h | h | h | h | h | h | h | h | h <;> subst h <;> simp [hb] at hv <;> simp at hn <;> subst hv <;> subst hn <;> clear hb hp <;>
      · go_enter Tryd.func38, Tryd.ntmps38
        go_wp2_with (go_at_call 61; refine (HL.out _).mono ?_; rintro e w' ⟨rfl, rfl⟩)
        go_ret
        exact ⟨rfl, rfl⟩
    · have f46 : ((b.toNat : Int) == 46) = false := by rw [hb]; rfl
      have f101 : ((b.toNat : Int) == 101) = false := by rw [hb]; rfl
      have f69 : ((b.toNat : Int) == 69) = false := by rw [hb]; rfl
      have f45 : ((b.toNat : Int) == 45) = false := by rw [hb]; rfl
      have f43 : ((b.toNat : Int) == 43) = true := by rw [hb]; rfl
      rcases ten hp with h | h | h | h | h | h | h | h | h | h <;> subst h <;> simp [hb] at hv <;> simp at hn <;> subst hv <;> subst hn <;> clear hb hp <;>
      · go_enter Tryd.func38, Tryd.ntmps38
        go_wp2_with (go_at_call 61; refine (HL.out _).mono ?_; rintro e w' ⟨rfl, rfl⟩)
        go_ret
        exact ⟨rfl, rfl⟩
    · have f46 : ((b.toNat : Int) == 46) = false := by simp; omega
      have f101 : ((b.toNat : Int) == 101) = false := by simp; omega
      have f69 : ((b.toNat : Int) == 69) = false := by simp; omega
      have f45 : ((b.toNat : Int) == 45) = false := by simp; omega
      have f43 : ((b.toNat : Int) == 43) = false := by simp; omega
      rcases ten hp with h | h | h | h | h | h | h | h | h | h <;> subst h <;> simp [hb] at hv <;> simp at hn <;> subst hv <;> subst hn <;> clear hb hp <;>
      · go_enter Tryd.func38, Tryd.ntmps38
        go_wp2_with (go_at_call 61; refine (HL.out _).mono ?_; rintro e w' ⟨rfl, rfl⟩)
        go_ret
        exact ⟨rfl, rfl⟩
  · rw [hd] at HL
    have HN := Lib.hid fun W => nextDigit_any p b W hp
    have e : nxt p b = nxtD p b := by unfold nxt; rw [if_pos hd]
    rw [e]
    clear e hd
    generalize nxtD p b = v at *
    go_enter Tryd.func38, Tryd.ntmps38
    go_wp2_with (first
      | (go_at_call 61; refine (HL.out _).mono ?_; rintro e w' ⟨rfl, rfl⟩)
      | (go_at_call 62; refine (HN.out _).mono ?_; rintro e w' ⟨rfl, rfl⟩))
    go_ret
    exact ⟨rfl, rfl⟩

end Go.Proofs.YthiclminkbnibaaDoor
