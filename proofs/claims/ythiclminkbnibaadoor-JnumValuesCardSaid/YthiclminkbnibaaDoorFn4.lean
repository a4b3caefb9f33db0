/-
  The greater and the lesser one of two numbers, and a number brought between two others: package float's answers, and the document's own. Condition: bits below 2^64.
-/
import Derived.Test.YthiclminkbnibaaDoorFn3
namespace Go.Proofs.YthiclminkbnibaaDoor
open Go.RowKit

def maxN (x y : Nat) : Nat := if (nanB x || nanB y) = true then 9221120237041090561 else if placeB y < placeB x then x else y
def minN (x y : Nat) : Nat := if (nanB x || nanB y) = true then 9221120237041090561 else if placeB x < placeB y then x else y

theorem maxN_lt {x y : Nat} (hx : x < 18446744073709551616) (hy : y < 18446744073709551616) : maxN x y < 18446744073709551616 := by
  unfold maxN
  split
  · decide
  · split <;> assumption
theorem minN_lt {x y : Nat} (hx : x < 18446744073709551616) (hy : y < 18446744073709551616) : minN x y < 18446744073709551616 := by
  unfold minN
  split
  · decide
  · split <;> assumption

theorem norm_cut (isMax : Bool) (x y t : Nat) : (Question.nanMinMax .f64 isMax x y).cut t < 18446744073709551616 ∧ nanB ((Question.nanMinMax .f64 isMax x y).cut t) = true := by
  have e : (Question.nanMinMax .f64 isMax x y).cut t = (t % 2) * 9223372036854775808 + 9218868437227405312 + 1 + (t / 2) % 4503599627370495 := rfl
  rw [e]
  unfold nanB
  rw [decide_eq_true_eq]
  have h2 : t % 2 = 0 ∨ t % 2 = 1 := by omega
  have h := Nat.mod_lt (t / 2) (show 0 < 4503599627370495 by decide)
  clear e
  generalize t / 2 % 4503599627370495 = u at *
  rcases h2 with h2 | h2 <;> rw [h2] <;> omega

theorem decode_neg {x : Nat} (hx : x < 18446744073709551616) : (FloatKind.f64.decode x).neg = negB x := by
  show (Ieee.double.read x).neg = _
  rcases Nat.lt_trichotomy (x % 9223372036854775808) 9218868437227405312 with h | h | h
  · rw [read_num hx h]; rfl
  · rw [read_inf hx h]; rfl
  · rw [read_nan hx h]; rfl

section
variable {P : Program}
theorem run_max (ts : Array TypeId) (t : TypeId) (x y : Nat) (hx : x < 18446744073709551616) (hy : y < 18446744073709551616) (w : World) :
    ∃ r, r < 18446744073709551616 ∧ normB r = normB (maxN x y) ∧ ∃ n, (Builtin.max_ ts t #[.float .f64 x, .float .f64 y]).run P w = .ok (.float .f64 r) (w.drewN n) := by
  have ho := order_key hx hy
  unfold maxN
  cases h1 : nanB x <;> cases h2 : nanB y
  · rw [h1, h2] at ho
    simp only [Bool.or_false, Bool.false_eq_true, if_false] at ho
    simp only [Bool.or_false, Bool.false_eq_true, if_false]
    have hk := decode_neg hx
    by_cases k1 : key x < key y
    · have p := place_key hx hy h1 h2 k1
      rw [(compare_lt_iff _ _).2 k1] at ho
      rw [if_neg (by omega)]
      exact ⟨y, hy, rfl, 0, by simp [Builtin.max_, Builtin.max2, ho]; rfl⟩
    · by_cases k2 : key y < key x
      · have p := place_key hy hx h2 h1 k2
        rw [(compare_gt_iff _ _).2 k2] at ho
        rw [if_pos p]
        exact ⟨x, hx, rfl, 0, by simp [Builtin.max_, Builtin.max2, ho]; rfl⟩
      · have k3 : key x = key y := by omega
        rw [(compare_eq_iff _ _).2 k3] at ho
        refine ⟨if negB x = true then y else x, by split <;> assumption, ?_, 0, by simp [Builtin.max_, Builtin.max2, ho, hk]; rfl⟩
        by_cases k4 : placeB x = placeB y
        · have e := (place_same hx hy).1 k4
          rw [if_neg (show ¬ placeB y < placeB x by omega)]
          split
          · rfl
          · exact e
        · rw [place_keyed hx hy h1 h2 k3 k4]
          by_cases k5 : placeB x < placeB y
          · rw [decide_eq_true k5, if_neg (show ¬ placeB y < placeB x by omega)]; rfl
          · rw [decide_eq_false k5, if_pos (show placeB y < placeB x by omega)]; rfl
  all_goals
    rw [h1, h2] at ho
    simp only [Bool.or_false, Bool.or_true, Bool.true_or, if_true] at ho
    simp only [Bool.or_false, Bool.or_true, Bool.true_or, if_true]
    have hc := norm_cut true x y (w.tape w.drawn (Question.nanMinMax .f64 true x y))
    refine ⟨_, hc.1, ?_, 1, by simp [Builtin.max_, Builtin.max2, ho, Question.forced]; rfl⟩
    rw [normB_nan hc.2]
    kernel_rfl
theorem run_min (ts : Array TypeId) (t : TypeId) (x y : Nat) (hx : x < 18446744073709551616) (hy : y < 18446744073709551616) (w : World) :
    ∃ r, r < 18446744073709551616 ∧ normB r = normB (minN x y) ∧ ∃ n, (Builtin.min_ ts t #[.float .f64 x, .float .f64 y]).run P w = .ok (.float .f64 r) (w.drewN n) := by
  have ho := order_key hx hy
  unfold minN
  cases h1 : nanB x <;> cases h2 : nanB y
  · rw [h1, h2] at ho
    simp only [Bool.or_false, Bool.false_eq_true, if_false] at ho
    simp only [Bool.or_false, Bool.false_eq_true, if_false]
    have hk := decode_neg hx
    by_cases k1 : key x < key y
    · have p := place_key hx hy h1 h2 k1
      rw [(compare_lt_iff _ _).2 k1] at ho
      rw [if_pos p]
      exact ⟨x, hx, rfl, 0, by simp [Builtin.min_, Builtin.min2, ho]; rfl⟩
    · by_cases k2 : key y < key x
      · have p := place_key hy hx h2 h1 k2
        rw [(compare_gt_iff _ _).2 k2] at ho
        rw [if_neg (by omega)]
        exact ⟨y, hy, rfl, 0, by simp [Builtin.min_, Builtin.min2, ho]; rfl⟩
      · have k3 : key x = key y := by omega
        rw [(compare_eq_iff _ _).2 k3] at ho
        refine ⟨if negB x = true then x else y, by split <;> assumption, ?_, 0, by simp [Builtin.min_, Builtin.min2, ho, hk]; rfl⟩
        by_cases k4 : placeB x = placeB y
        · have e := (place_same hx hy).1 k4
          rw [if_neg (show ¬ placeB x < placeB y by omega)]
          split
          · exact e
          · rfl
        · rw [place_keyed hx hy h1 h2 k3 k4]
          by_cases k5 : placeB x < placeB y
          · rw [decide_eq_true k5, if_pos k5]; rfl
          · rw [decide_eq_false k5, if_neg k5]; rfl
  all_goals
    rw [h1, h2] at ho
    simp only [Bool.or_false, Bool.or_true, Bool.true_or, if_true] at ho
    simp only [Bool.or_false, Bool.or_true, Bool.true_or, if_true]
    have hc := norm_cut false x y (w.tape w.drawn (Question.nanMinMax .f64 false x y))
    refine ⟨_, hc.1, ?_, 1, by simp [Builtin.min_, Builtin.min2, ho, Question.forced]; rfl⟩
    rw [normB_nan hc.2]
    kernel_rfl
end

end Go.Proofs.YthiclminkbnibaaDoor
