/-
  Plain facts on numbers' texts: the place that each byte leads to, and where a text may end. No condition.
-/
import Derived.Test.YthiclminkbnibaaDoorByte
import Derived.Test.YthiclminkbnibaaDoorScan
namespace Go.Proofs.YthiclminkbnibaaDoor

/-- The place that a digit leads to. -/
def nxtD (p : Nat) (b : UInt8) : Nat :=
  if p = 1 ∨ p = 2 then (if b.toNat = 48 then 3 else 4) else if p = 4 then 4 else if p = 5 ∨ p = 6 then 6 else if p = 7 ∨ p = 8 ∨ p = 9 then 9 else 0
/-- The place that a byte leads to. -/
def nxt (p : Nat) (b : UInt8) : Nat :=
  if digB b = true then nxtD p b
  else if b.toNat = 46 ∧ (p = 3 ∨ p = 4) then 5
  else if (b.toNat = 101 ∨ b.toNat = 69) ∧ (p = 3 ∨ p = 4 ∨ p = 6) then 7
  else if b.toNat = 45 ∧ p = 1 then 2
  else if (b.toNat = 43 ∨ b.toNat = 45) ∧ p = 7 then 8
  else 0
/-- Whether a text may end at a place. -/
def endB (p : Nat) : Bool := p == 3 || p == 4 || p == 6 || p == 9
/-- The place behind the first k bytes. -/
def plc (s : ByteArray) : Nat → Nat
  | 0 => 1
  | k + 1 => nxt (plc s k) (s.data.toList.getD k 0)

theorem nxtD_le (p : Nat) (b : UInt8) : nxtD p b ≤ 9 := by
  unfold nxtD
  repeat' split
  all_goals omega
theorem nxt_le (p : Nat) (b : UInt8) : nxt p b ≤ 9 := by
  unfold nxt
  have := nxtD_le p b
  split
  · exact this
  · split
    · omega
    · split
      · omega
      · split
        · omega
        · split <;> omega
theorem plc_le (s : ByteArray) : ∀ k, plc s k ≤ 9
  | 0 => by show 1 ≤ 9; omega
  | k + 1 => nxt_le _ _
theorem getD_at {s : ByteArray} {k : Nat} (h : k < s.size) : s.data.toList.getD k 0 = s[k] := by
  rw [List.getD_eq_getElem?_getD, List.getElem?_eq_getElem (by simpa using h)]
  rfl
theorem plc_succ {s : ByteArray} {k : Nat} (h : k < s.size) : plc s (k + 1) = nxt (plc s k) s[k] := by
  show nxt _ (s.data.toList.getD k 0) = _
  rw [getD_at h]
theorem nxt_broken (b : UInt8) : nxt 0 b = 0 := by
  unfold nxt nxtD
  simp
theorem plc_broken {s : ByteArray} {k : Nat} (h : plc s k = 0) : ∀ j, k ≤ j → plc s j = 0 := fun j hj => by
  induction j with
  | zero =>
    obtain rfl : k = 0 := by omega
    exact h
  | succ j ih =>
    by_cases e : k = j + 1
    · rw [← e]; exact h
    · show nxt (plc s j) _ = 0
      rw [ih (by omega)]
      exact nxt_broken _

/-- What has come when k rounds are over. -/
def stp (s : ByteArray) (k : Nat) : List (Nat × Nat) := (List.range k).map fun i => (i, plc s i)
theorem stp_zero (s : ByteArray) : stp s 0 = [] := rfl
theorem stp_succ (s : ByteArray) (k : Nat) : stp s (k + 1) = stp s k ++ [(k, plc s k)] := by
  unfold stp
  rw [List.range_succ, List.map_append]
  rfl
theorem stp_len (s : ByteArray) (k : Nat) : (stp s k).length = k := by unfold stp; simp

/-- The last of those at which a text may end. -/
def lngL (l : List (Nat × Nat)) : Nat := l.foldl (fun a x => if endB x.2 = true then x.1 else a) 0
theorem lngL_snoc (l : List (Nat × Nat)) (x : Nat × Nat) : lngL (l ++ [x]) = if endB x.2 = true then x.1 else lngL l := by
  unfold lngL
  rw [List.foldl_append]
  rfl
/-- The last place. -/
def lstL (l : List (Nat × Nat)) : Nat := l.foldl (fun _ x => x.2) 0
theorem lstL_snoc (l : List (Nat × Nat)) (x : Nat × Nat) : lstL (l ++ [x]) = x.2 := by
  unfold lstL
  rw [List.foldl_append]
  rfl

/-- How many of the first k bytes are the longest number's text. -/
def lng (s : ByteArray) : Nat → Nat
  | 0 => 0
  | k + 1 => if endB (plc s (k + 1)) = true then k + 1 else lng s k
theorem lng_le (s : ByteArray) : ∀ k, lng s k ≤ k
  | 0 => Nat.le_refl _
  | k + 1 => by
    unfold lng
    have := lng_le s k
    split <;> omega
theorem lngL_stp (s : ByteArray) : ∀ k, lngL (stp s (k + 1)) = lng s k
  | 0 => by
    rw [stp_succ, lngL_snoc]
    rfl
  | k + 1 => by
    rw [stp_succ, lngL_snoc]
    unfold lng
    rw [lngL_stp s k]
theorem endB_zero : endB 0 = false := rfl
theorem lng_stays {s : ByteArray} {k : Nat} (h : plc s k = 0) : ∀ j, k ≤ j → lng s j = lng s k := fun j hj => by
  induction j with
  | zero =>
    obtain rfl : k = 0 := by omega
    rfl
  | succ j ih =>
    by_cases e : k = j + 1
    · rw [← e]
    · rw [← ih (by omega)]
      conv => lhs; unfold lng
      rw [plc_broken h (j + 1) hj, if_neg (by decide)]
theorem lng_ends (s : ByteArray) : ∀ k, lng s k = 0 ∨ endB (plc s (lng s k)) = true
  | 0 => .inl rfl
  | k + 1 => by
    unfold lng
    split
    · rename_i h; exact .inr h
    · exact lng_ends s k

/-- What State tells. -/
def staB (p : Nat) : Int := if p = 0 then 0 else if endB p = true then 2 else 1
/-- Whether a text is a number's. -/
def isB (s : ByteArray) : Bool := endB (plc s s.size)

/-- When all has come. -/
def AllCome (s : ByteArray) (xs : List (Nat × Nat)) : Prop := ∃ k, k ≤ s.size ∧ xs = stp s (k + 1) ∧ (k = s.size ∨ plc s k = 0)
theorem AllCome.lng {s : ByteArray} {xs : List (Nat × Nat)} (h : AllCome s xs) : lngL xs = lng s s.size := by
  obtain ⟨k, hk, rfl, rfl | hp⟩ := h
  · exact lngL_stp _ _
  · rw [lngL_stp, lng_stays hp _ hk]
theorem AllCome.lst {s : ByteArray} {xs : List (Nat × Nat)} (h : AllCome s xs) : lstL xs = plc s s.size := by
  obtain ⟨k, hk, rfl, rfl | hp⟩ := h
  · rw [stp_succ, lstL_snoc]
  · rw [stp_succ, lstL_snoc, hp, plc_broken hp _ hk]

end Go.Proofs.YthiclminkbnibaaDoor
