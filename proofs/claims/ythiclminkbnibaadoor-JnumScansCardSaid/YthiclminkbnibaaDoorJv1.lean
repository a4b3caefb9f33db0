/-
  Plain facts on products and quotients of floats that are not below 0, on the sign of one, and on the number of a text's digits. No condition.
-/
import Derived.Test.YthiclminkbnibaaDoorFr
import Derived.Test.YthiclminkbnibaaDoorJb
namespace Go.Proofs.YthiclminkbnibaaDoor
open Go.RowKit

theorem nearest_any (f : Ieee.Format) (m : Nat) (p : Int) : f.nearest false m p ≤ f.infRung := by
  unfold Ieee.Format.nearest
  dsimp only
  split
  · exact Nat.zero_le _
  · exact Nat.min_le_right _ _
theorem nearest_le (m : Nat) (p : Int) : Ieee.double.nearest false m p ≤ 9218868437227405312 := f64_inf ▸ nearest_any Ieee.double m p
theorem word_any (f : Ieee.Format) : f.write (.infinity (false ^^ false)) = f.infRung := rfl
theorem word_inf : Ieee.double.write (.infinity (false ^^ false)) ≤ 9218868437227405312 := by
  rw [word_any, f64_inf]
  omega
theorem ofInt_le {n : Int} (h : 0 ≤ n) : floatOfInt .f64 n ≤ 9218868437227405312 := by
  show Ieee.double.nearest (decide (n < 0)) n.natAbs 0 ≤ _
  rw [decide_eq_false (by omega)]
  exact nearest_le _ _
theorem neg_pos {x : Nat} (h : x ≤ 9218868437227405312) : negB x = false := by
  unfold negB
  rw [decide_eq_false]
  omega
theorem mul_pos {x t : Nat} (hx : x ≤ 9218868437227405312) (ht : 0 < t) (ht2 : t < 9218868437227405312) : ∃ r, r ≤ 9218868437227405312 ∧ floatBits .mul .f64 x t = some r := by
  show ∃ r, _ ∧ ((Ieee.double.read x).product (Ieee.double.read t)).map Ieee.double.write = some r
  have e2 : t % 9223372036854775808 = t := by omega
  rw [read_num (b := t) (by omega) (by omega), e2, neg_pos (x := t) (by omega)]
  have hm : mant t ≠ 0 := fun h => by rw [mant_zero] at h; omega
  by_cases e : x = 9218868437227405312
  · subst e
    rw [read_inf (by decide) (by decide)]
    simp only [Ieee.Datum.product, if_neg hm, Option.map_some]
    exact ⟨_, word_inf, rfl⟩
  · rw [read_num (b := x) (by omega) (by omega), neg_pos hx]
    exact ⟨_, nearest_le _ _, rfl⟩
theorem div_pos {x t : Nat} (hx : x ≤ 9218868437227405312) (ht : 0 < t) (ht2 : t < 9218868437227405312) : ∃ r, r ≤ 9218868437227405312 ∧ floatBits .quo .f64 x t = some r := by
  show ∃ r, _ ∧ ((Ieee.double.read x).quotient (Ieee.double.fractionBits + 2) (Ieee.double.read t)).map Ieee.double.write = some r
  have e2 : t % 9223372036854775808 = t := by omega
  rw [read_num (b := t) (by omega) (by omega), e2, neg_pos (x := t) (by omega)]
  have hm : mant t ≠ 0 := fun h => by rw [mant_zero] at h; omega
  by_cases e : x = 9218868437227405312
  · subst e
    rw [read_inf (by decide) (by decide)]
    exact ⟨_, word_inf, rfl⟩
  · rw [read_num (b := x) (by omega) (by omega), neg_pos hx]
    simp only [Ieee.Datum.quotient, if_neg hm, Option.map_some]
    exact ⟨_, nearest_le _ _, rfl⟩
theorem tens_pos_all : (List.range 23).all (fun k => decide (0 < tensB k)) = true := by kernel_rfl
theorem tens_pos {k : Nat} (h : k ≤ 22) : 0 < tensB k := of_decide_eq_true (List.all_eq_true.1 tens_pos_all k (List.mem_range.2 (by omega)))

/-- Digits' number times a power of ten, or divided by one. -/
def tmsB (n : Nat) (k : Nat) : Nat := (floatBits .mul .f64 (floatOfInt .f64 n) (tensB k)).getD 0
def dvdB (n : Nat) (k : Nat) : Nat := (floatBits .quo .f64 (floatOfInt .f64 n) (tensB k)).getD 0
theorem tms_run (n : Nat) {k : Nat} (h : k ≤ 22) : tmsB n k ≤ 9218868437227405312 ∧ ∀ (t : TypeId) (w : World), (binOp .mul t (.float .f64 (floatOfInt .f64 (n : Int))) (.float .f64 (tensB k))).run Tryd.prog w = .ok (.float .f64 (tmsB n k)) w := by
  obtain ⟨r, h1, h2⟩ := mul_pos (ofInt_le (n := (n : Int)) (by omega)) (tens_pos h) (tens_lt h)
  have e : tmsB n k = r := by unfold tmsB; rw [h2]; rfl
  rw [e]
  exact ⟨h1, fun t w => run_float_arith w .mul t .f64 _ _ _ h2⟩
theorem dvd_run (n : Nat) {k : Nat} (h : k ≤ 22) : dvdB n k ≤ 9218868437227405312 ∧ ∀ (t : TypeId) (w : World), (binOp .quo t (.float .f64 (floatOfInt .f64 (n : Int))) (.float .f64 (tensB k))).run Tryd.prog w = .ok (.float .f64 (dvdB n k)) w := by
  obtain ⟨r, h1, h2⟩ := div_pos (ofInt_le (n := (n : Int)) (by omega)) (tens_pos h) (tens_lt h)
  have e : dvdB n k = r := by unfold dvdB; rw [h2]; rfl
  rw [e]
  exact ⟨h1, fun t w => run_float_arith w .quo t .f64 _ _ _ h2⟩

theorem AllD.append {a b : List UInt8} (h : AllD a) (k : AllD b) : AllD (a ++ b) := fun x hx => (List.mem_append.1 hx).elim (h x) (k x)
theorem AllD.dropW {a : List UInt8} (p : UInt8 → Bool) (h : AllD a) : AllD (a.dropWhile p) := fun x hx => h x ((List.dropWhile_sublist p).subset hx)
theorem AllD.rev {a : List UInt8} (h : AllD a) : AllD a.reverse := fun x hx => h x (List.mem_reverse.1 hx)
theorem dL_digits {l : List UInt8} (h : NumT l) : AllD (dL l) := by
  unfold dL Lib.trimRightB gL Lib.trimLeftB
  exact (((h.u.append h.b).dropW _).rev.dropW _).rev
theorem numK_lt {ds : List UInt8} (h : AllD ds) : ∀ k, k ≤ ds.length → numK (bs ds) k < 10 ^ k
  | 0, _ => by show 0 < 1; omega
  | k + 1, hk => by
    have ih := numK_lt h k (by omega)
    have hz := bs_size ds
    have e : (bs ds).data.toList.getD k 0 = ds[k] := by rw [bs_list, List.getD_eq_getElem?_getD, List.getElem?_eq_getElem (by omega)]; rfl
    have hd := digB_range (h ds[k] (List.getElem_mem _))
    show 10 * numK (bs ds) k + (((bs ds).data.toList.getD k 0).toNat - 48) < 10 ^ (k + 1)
    rw [e, Nat.pow_succ]
    omega
theorem numK_small {ds : List UInt8} (h : AllD ds) (hk : ds.length ≤ 15) : numK (bs ds) ds.length < 1000000000000000 := by
  have h1 := numK_lt h ds.length (Nat.le_refl _)
  have h2 : 10 ^ ds.length ≤ 10 ^ 15 := Nat.pow_le_pow_right (by omega) hk
  omega
theorem parV_digits {ds : List UInt8} (h : AllD ds) (h0 : ds ≠ []) (hk : ds.length ≤ 15) : parV (bs ds) = .tuple #[.int .i64 (numK (bs ds) ds.length : Nat), .int .i64 0] := by
  have hz := bs_size ds
  have hl := List.length_pos_iff.2 h0
  rw [← hz]
  refine parV_ok (by omega) (allB_yes fun j hj => ?_) ?_
  · have e := Lib.data_getElem? (bs ds) j hj
    rw [bs_list] at e
    exact h _ (List.mem_of_getElem? e)
  · have := numK_small h hk
    rw [hz]
    omega

/-- The magnitude of digits and a power, if there is one. -/
def magB (d : List UInt8) (x : Int) : Nat × Bool :=
  if d = [] ∨ (d.length : Int) + x < -330 then (0, true)
  else if 310 < (d.length : Int) + x then (9218868437227405312, true)
  else if 15 < d.length ∨ x < -22 ∨ 22 < x then (0, false)
  else if x < 0 then (dvdB (numK (bs d) d.length) (-x).toNat, true)
  else (tmsB (numK (bs d) d.length) x.toNat, true)
theorem magB_le (d : List UInt8) (x : Int) : (magB d x).1 ≤ 9218868437227405312 := by
  unfold magB
  split
  · show (0 : Nat) ≤ _; omega
  · split
    · show 9218868437227405312 ≤ _; omega
    · split
      · show (0 : Nat) ≤ _; omega
      · split
        · exact (dvd_run _ (by omega)).1
        · exact (tms_run _ (by omega)).1

/-- What a text's Value is, and its code. -/
def valB (s : ByteArray) : Nat :=
  if isB s = true ∧ (magB (dL s.data.toList) (expL s.data.toList)).2 = true then (if negL s.data.toList = true then (magB (dL s.data.toList) (expL s.data.toList)).1 + 9223372036854775808 else (magB (dL s.data.toList) (expL s.data.toList)).1) else 0
def errB (s : ByteArray) : Int := if isB s = true then (if (magB (dL s.data.toList) (expL s.data.toList)).2 = true then 0 else 9) else 2
theorem valB_lt (s : ByteArray) : valB s < 18446744073709551616 := by
  unfold valB
  have := magB_le (dL s.data.toList) (expL s.data.toList)
  split
  · split <;> omega
  · omega
theorem val_no {s : ByteArray} (h : isB s = false) : valB s = 0 ∧ errB s = 2 := by
  unfold valB errB
  rw [if_neg (by rw [h]; simp), if_neg (by rw [h]; decide)]
  exact ⟨rfl, rfl⟩
theorem val_range {s : ByteArray} (h : isB s = true) (k : (magB (dL s.data.toList) (expL s.data.toList)).2 = false) : valB s = 0 ∧ errB s = 9 := by
  unfold valB errB
  rw [if_neg (by rw [k]; simp), if_pos h, if_neg (by rw [k]; decide)]
  exact ⟨rfl, rfl⟩
theorem val_some {s : ByteArray} (h : isB s = true) (k : (magB (dL s.data.toList) (expL s.data.toList)).2 = true) :
    valB s = (if negL s.data.toList = true then (magB (dL s.data.toList) (expL s.data.toList)).1 + 9223372036854775808 else (magB (dL s.data.toList) (expL s.data.toList)).1) ∧ errB s = 0 := by
  unfold valB errB
  rw [if_pos ⟨h, k⟩, if_pos h, if_pos k]
  exact ⟨rfl, rfl⟩
theorem expL_bd (l : List UInt8) : -9999 ≤ expL l ∧ expL l ≤ 9999 := by
  unfold expL cla9
  split
  · omega
  · split
    · omega
    · split <;> omega

end Go.Proofs.YthiclminkbnibaaDoor
