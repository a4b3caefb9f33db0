/-
  Quotients, tens and sums: what package float answers, and the document's own. Condition: bits below 2^64.
-/
import Derived.Test.YtmjkolkmpnadpaaFn6
namespace Go.Proofs.Ytmjkolkmpnadpaa
open Go.RowKit

/-- What an operation gives, the same bits of all that are no number. -/
def arithB (op : BinOp) (x y : Nat) : Nat := match floatBits op .f64 x y with
  | some r => normB r
  | none => 9221120237041090561

theorem norm_bits (x y t : Nat) : (Question.nanBits .f64 x y).cut t < 18446744073709551616 ∧ nanB ((Question.nanBits .f64 x y).cut t) = true := norm_cut true x y t
theorem floatBits_lt {op : BinOp} {x y r : Nat} (h : floatBits op .f64 x y = some r) : r < 18446744073709551616 := by
  have := floatBits_wf h
  simpa [Lit.wf] using this
theorem norm_norm (x : Nat) : normB (normB x) = normB x := by
  have n : nanB 9221120237041090561 = true := by kernel_rfl
  cases h : nanB x
  · rw [normB_num h]
    exact normB_num h
  · rw [normB_nan h]
    exact normB_nan n
theorem normB_lt {x : Nat} (h : x < 18446744073709551616) : normB x < 18446744073709551616 := by
  unfold normB
  split
  · decide
  · exact h
theorem arithB_lt (op : BinOp) (x y : Nat) : arithB op x y < 18446744073709551616 := by
  unfold arithB
  split
  · rename_i r h
    exact normB_lt (floatBits_lt h)
  · decide
theorem arithB_norm (op : BinOp) (x y : Nat) : normB (arithB op x y) = arithB op x y := by
  unfold arithB
  split
  · exact norm_norm _
  · kernel_rfl

theorem add_nan {x : Nat} (hx : x < 18446744073709551616) (h : nanB x = true) (y : Nat) : floatBits .add .f64 x y = none := by
  show ((Ieee.double.read x).sum (Ieee.double.read y)).map Ieee.double.write = none
  rw [read_nan hx (isnan h)]
  cases Ieee.double.read y <;> rfl
theorem add_same {s t : Nat} (hs : s < 18446744073709551616) (ht : t < 18446744073709551616) (h : normB s = normB t) (x : Nat) : arithB .add s x = arithB .add t x := by
  cases ht' : nanB t
  · rw [num_norm h ht']
  · have hs' := nan_norm h
    rw [ht'] at hs'
    unfold arithB
    rw [add_nan hs hs', add_nan ht ht']

theorem run_arith (op : BinOp) (hop : op = .add ∨ op = .mul ∨ op = .quo) (t : TypeId) (x y : Nat) (w : World) :
    ∃ r n, r < 18446744073709551616 ∧ normB r = arithB op x y ∧ (binOp op t (.float .f64 x) (.float .f64 y)).run Try.prog w = .ok (.float .f64 r) (w.drewN n) := by
  unfold arithB
  cases h : floatBits op .f64 x y with
  | some r => exact ⟨r, 0, floatBits_lt h, rfl, run_float_arith w op t .f64 x y r h⟩
  | none =>
    have hc := norm_bits x y (w.tape w.drawn (Question.nanBits .f64 x y))
    refine ⟨_, 1, hc.1, normB_nan hc.2, ?_⟩
    rcases hop with rfl | rfl | rfl <;> (unfold floatBits at h; simp [binOp, Op.floatArith, h, Question.forced]; rfl)

end Go.Proofs.Ytmjkolkmpnadpaa

