/-
  Quotients, tens and sums: what package float answers, and the document's own. Condition: bits below 2^64.
-/
import Derived.Test.YthiclminkbnibaaDoorFn7
namespace Go.Proofs.YthiclminkbnibaaDoor
open Go.RowKit

/-- What an operation gives, the same bits of all that are no number. -/
def arithB (op : BinOp) (x y : Nat) : Nat := match floatBits op .f64 x y with
  | some r => normB r
  | none => 9221120237041090561

theorem norm_bits (x y t : Nat) : (Question.nanBits .f64 x y).cut t < 18446744073709551616 ∧ nanB ((Question.nanBits .f64 x y).cut t) = true := norm_cut true x y t
theorem floatBits_lt {op : BinOp} {x y r : Nat} (h : floatBits op .f64 x y = some r) : r < 18446744073709551616 := by
  have := floatBits_wf h
  simpa [Lit.wf] using this
theorem norm_norm (x : Nat) : normB (normB x) = normB x := by
  have n : nanB 9221120237041090561 = true := by kernel_rfl
  cases h : nanB x
  · rw [normB_num h]
    exact normB_num h
  · rw [normB_nan h]
    exact normB_nan n
theorem normB_lt {x : Nat} (h : x < 18446744073709551616) : normB x < 18446744073709551616 := by
  unfold normB
  split
  · decide
  · exact h
theorem arithB_lt (op : BinOp) (x y : Nat) : arithB op x y < 18446744073709551616 := by
  unfold arithB
  split
  · rename_i r h
    exact normB_lt (floatBits_lt h)
  · decide
theorem arithB_norm (op : BinOp) (x y : Nat) : normB (arithB op x y) = arithB op x y := by
  unfold arithB
  split
  · exact norm_norm _
  · kernel_rfl

theorem add_nan {x : Nat} (hx : x < 18446744073709551616) (h : nanB x = true) (y : Nat) : floatBits .add .f64 x y = none := by
  show ((Ieee.double.read x).sum (Ieee.double.read y)).map Ieee.double.write = none
  rw [read_nan hx (isnan h)]
  cases Ieee.double.read y <;> rfl
theorem add_same {s t : Nat} (hs : s < 18446744073709551616) (ht : t < 18446744073709551616) (h : normB s = normB t) (x : Nat) : arithB .add s x = arithB .add t x := by
  cases ht' : nanB t
  · rw [num_norm h ht']
  · have hs' := nan_norm h
    rw [ht'] at hs'
    unfold arithB
    rw [add_nan hs hs', add_nan ht ht']

theorem run_arith (op : BinOp) (hop : op = .add ∨ op = .mul ∨ op = .quo) (t : TypeId) (x y : Nat) (w : World) :
    ∃ r n, r < 18446744073709551616 ∧ normB r = arithB op x y ∧ (binOp op t (.float .f64 x) (.float .f64 y)).run Tryd.prog w = .ok (.float .f64 r) (w.drewN n) := by
  unfold arithB
  cases h : floatBits op .f64 x y with
  | some r => exact ⟨r, 0, floatBits_lt h, rfl, run_float_arith w op t .f64 x y r h⟩
  | none =>
    have hc := norm_bits x y (w.tape w.drawn (Question.nanBits .f64 x y))
    refine ⟨_, 1, hc.1, normB_nan hc.2, ?_⟩
    rcases hop with rfl | rfl | rfl <;> (unfold floatBits at h; simp [binOp, Op.floatArith, h, Question.forced]; rfl)

/-- A quotient of two whole numbers. -/
def quotB (a b : Int) : Nat := if b = 0 then (if a = 0 then 9221120237041090561 else infOf a) else arithB .quo (floatOfInt .f64 a) (floatOfInt .f64 b)

/-- The powers of ten. -/
def tensB : Nat → Nat
  | 0 => 4607182418800017408
  | k + 1 => (Ieee.double.mul (tensB k) 4621819117588971520).getD 0
theorem tens_all : (List.range 23).all (fun k => (k == 22 || Ieee.double.mul (tensB k) 4621819117588971520 == some (tensB (k + 1))) && decide (tensB k < 9218868437227405312)) = true := by kernel_rfl
theorem tens_mul {k : Nat} (h : k < 22) (w : World) : (binOp .mul 33 (.float .f64 (tensB k)) (.float .f64 4621819117588971520)).run Tryd.prog w = .ok (.float .f64 (tensB (k + 1))) w := by
  have := List.all_eq_true.1 tens_all k (List.mem_range.2 (by omega))
  rw [Bool.and_eq_true, Bool.or_eq_true, beq_iff_eq, beq_iff_eq] at this
  rcases this.1 with h1 | h1
  · omega
  · exact run_float_arith w .mul _ .f64 _ _ _ h1
theorem tens_lt {k : Nat} (h : k ≤ 22) : tensB k < 9218868437227405312 := by
  have := List.all_eq_true.1 tens_all k (List.mem_range.2 (by omega))
  rw [Bool.and_eq_true, decide_eq_true_eq] at this
  exact this.2

/-- A number brought between 0 and 22. -/
def upto22 (k : Int) : Nat := (if k < 22 then k else 22).toNat

set_option maxHeartbeats 1000000 in
theorem tens_any (k : Int) (w : World) :
    Calls Tryd.prog 56 #[.int .i64 k] w fun e w' => e = .returned (.float .f64 (tensB (upto22 k))) ∧ w = w' := by
  obtain ⟨m, hm⟩ : ∃ m : Int, m = if k < 22 then k else 22 := ⟨_, rfl⟩
  have hr : ∀ (ts : Array TypeId) (t : TypeId) (w : World), (Builtin.min_ ts t #[.int .i64 k, .int .i64 22]).run Tryd.prog w = .ok (.int .i64 m) w := fun ts t w => by
    rw [hm]
    by_cases h : k < 22
    · by_cases h2 : (22 : Int) < k
      · omega
      · simp [Builtin.min_, Builtin.min2, h, h2]
    · by_cases h2 : (22 : Int) < k
      · simp [Builtin.min_, Builtin.min2, h, h2]
      · simp [Builtin.min_, Builtin.min2, h, h2]; omega
  have hu : upto22 k = m.toNat := by unfold upto22; rw [← hm]
  have hmm : m ≤ 22 := by rw [hm]; split <;> omega
  rw [hu]
  clear hm hu
  go_enter Tryd.func56, Tryd.ntmps56
  go_wp2
  go_loop [6, 3] (fun i n => ∃ j : Nat, j ≤ m.toNat ∧ i = .int .i64 j ∧ n = .float .f64 (tensB j)) (fun i _ => m.toNat - (intOf i).toNat)
  case atStart => exact ⟨0, by omega, rfl, rfl⟩
  case round =>
    obtain ⟨j, hj, rfl, rfl⟩ := hrel
    by_cases hlt : (j : Int) < m
    · have ht := tens_mul (k := j) (by omega)
      go_wp2
      go_round
      case rel => exact ⟨j + 1, by omega, by go_num, rfl⟩
      case measure => simp [intOf]; omega
    · obtain rfl : j = m.toNat := by omega
      go_wp2
      go_ret
      exact ⟨rfl, rfl⟩

/-- The sum of the first k of some numbers, one behind the other. -/
def sumB (lp : Nat → Nat) : Nat → Nat
  | 0 => 0
  | k + 1 => arithB .add (sumB lp k) (lp k)
theorem sumB_lt (lp : Nat → Nat) : ∀ k, sumB lp k < 18446744073709551616
  | 0 => by show (0 : Nat) < 18446744073709551616; decide
  | k + 1 => arithB_lt _ _ _
theorem sumB_norm (lp : Nat → Nat) : ∀ k, normB (sumB lp k) = sumB lp k
  | 0 => by kernel_rfl
  | k + 1 => arithB_norm _ _ _
/-- One more number. -/
theorem sumB_step {lp : Nat → Nat} {k s r : Nat} (hs : s < 18446744073709551616) (h : normB s = sumB lp k) (hr : normB r = arithB .add s (lp k)) : normB r = sumB lp (k + 1) := by
  rw [hr]
  exact add_same hs (sumB_lt lp k) (h.trans (sumB_norm lp k).symm) (lp k)

/-- Numbers that lie in a block, one behind the other. -/
def FIn (w : World) (g : Nat) (lp : Nat → Nat) (k : Nat) : Prop := g < w.heap.size ∧ ∀ i, i < k → w.cell? ⟨g, i, none⟩ = some (.float .f64 (lp i))
theorem FIn.drewN {w : World} {g k : Nat} {lp : Nat → Nat} (h : FIn w g lp k) (n : Nat) : FIn (w.drewN n) g lp k := h

end Go.Proofs.YthiclminkbnibaaDoor
