/-
  Plain facts on the parts of a number's text: one byte behind the other. No condition.
-/
import Derived.Test.YthiclminkbnibaaDoorJa
namespace Go.Proofs.YthiclminkbnibaaDoor

theorem dropW_head {p : UInt8 → Bool} : ∀ {l : List UInt8} {c : UInt8} {t : List UInt8}, l.dropWhile p = c :: t → p c = false
  | [], _, _, h => by cases h
  | b :: l, c, t, h => by
    cases hb : p b
    · rw [List.dropWhile_cons_of_neg (by simp [hb])] at h
      obtain ⟨rfl, _⟩ := List.cons.inj h
      exact hb
    · rw [List.dropWhile_cons_of_pos hb] at h
      exact dropW_head h

def dw (l : List UInt8) : List UInt8 := Lib.trimLeftB l 48
theorem dw_snoc (D : List UInt8) (b : UInt8) : dw (D ++ [b]) = if dw D = [] ∧ b = 48 then [] else dw D ++ [b] := by
  unfold dw Lib.trimLeftB
  rw [List.dropWhile_append]
  by_cases h : D.dropWhile (· == 48) = []
  · rw [h]
    by_cases e : b = 48
    · simp [e]
    · simp [e]
  · have h' : (D.dropWhile (· == 48)).isEmpty = false := by simpa using h
    rw [h']
    simp [h]

/-- One byte of the digits and the point. -/
def stp9 (x : Bool × Int × List UInt8) (b : UInt8) : Bool × Int × List UInt8 :=
  if dotB b = true then (true, x.2.1, x.2.2) else (x.1, if x.1 = true then x.2.1 - 1 else x.2.1, if x.2.2 = [] ∧ b = 48 then [] else x.2.2 ++ [b])
theorem stp9_dot {x : Bool × Int × List UInt8} {b : UInt8} (h : dotB b = true) : stp9 x b = (true, x.2.1, x.2.2) := if_pos h
theorem dig_dot {b : UInt8} (h : digB b = true) : dotB b = false := by
  have := notDot_dig h
  unfold notDot at this
  simpa using this
theorem fold_run : ∀ (u : List UInt8) (pt : Bool) (e : Int) (D : List UInt8), AllD u → u.foldl stp9 (pt, e, dw D) = (pt, (if pt = true then e - u.length else e), dw (D ++ u))
  | [], pt, e, D, _ => by simp
  | b :: u, pt, e, D, h => by
    have hb := dig_dot (h b (List.mem_cons_self ..))
    rw [List.foldl_cons]
    have e1 : stp9 (pt, e, dw D) b = (pt, (if pt = true then e - 1 else e), dw (D ++ [b])) := by
      unfold stp9
      rw [hb, dw_snoc]
      rfl
    rw [e1, fold_run u pt _ (D ++ [b]) fun x hx => h x (List.mem_cons_of_mem _ hx), List.append_assoc]
    cases pt
    · rfl
    · simp
      omega

/-- Where what is ahead of the e comes to. -/
theorem fold_all {l : List UInt8} (h : NumT l) : ∃ pt, (aL l).foldl stp9 (false, 0, []) = (pt, -((bL (aL l)).length : Int), gL l) := by
  have hu := h.u
  have hb := h.b
  unfold gL
  generalize aL l = a at *
  have hs := List.takeWhile_append_dropWhile (p := notDot) (l := a)
  cases hd : a.dropWhile notDot with
  | nil =>
    have eb : bL a = [] := by unfold bL; rw [hd]; rfl
    have eu : uL a = a := by unfold uL; rw [hd, List.append_nil] at hs; exact hs
    rw [eb]
    refine ⟨false, ?_⟩
    have := fold_run (uL a) false 0 [] hu
    rw [eu] at this ⊢
    rw [show (a.foldl stp9 (false, 0, []) = _) from this]
    simp [dw]
  | cons c t =>
    have eb : bL a = t := by unfold bL; rw [hd]; rfl
    have hc : dotB c = true := by
      have := dropW_head hd
      unfold notDot at this
      simpa using this
    have ea : a = uL a ++ c :: t := by unfold uL; rw [← hd]; exact hs.symm
    rw [eb] at hb ⊢
    refine ⟨true, ?_⟩
    conv => lhs; rw [ea]
    rw [List.foldl_append, List.foldl_cons]
    have h1 := fold_run (uL a) false 0 [] hu
    rw [show ((uL a).foldl stp9 (false, 0, []) = _) from h1, stp9_dot hc]
    have h2 := fold_run t true 0 ([] ++ uL a) hb
    rw [show (t.foldl stp9 (true, (if false = true then (0 : Int) - (uL a).length else 0), dw ([] ++ uL a)) = _) from h2]
    simp [dw]

theorem trimR_nil : Lib.trimRightB [] 48 = [] := rfl
theorem trimR_nought (D : List UInt8) : Lib.trimRightB (D ++ [48]) 48 = Lib.trimRightB D 48 := by
  unfold Lib.trimRightB
  rw [List.reverse_append]
  rfl
theorem trimR_other (D : List UInt8) {b : UInt8} (h : b ≠ 48) : Lib.trimRightB (D ++ [b]) 48 = D ++ [b] := by
  unfold Lib.trimRightB
  rw [List.reverse_append]
  show (List.dropWhile _ (b :: D.reverse)).reverse = _
  rw [List.dropWhile_cons_of_neg (by simpa using h)]
  simp

theorem dropW_len (p : UInt8 → Bool) (l : List UInt8) : (l.dropWhile p).length ≤ l.length := (List.dropWhile_sublist p).length_le
theorem takeW_len (p : UInt8 → Bool) (l : List UInt8) : (l.takeWhile p).length ≤ l.length := (List.takeWhile_sublist p).length_le
theorem mL_len (l : List UInt8) : (mL l).length ≤ l.length := Lib.trimPrefix_le l [45]
theorem aL_len (l : List UInt8) : (aL l).length ≤ l.length := Nat.le_trans (takeW_len _ _) (mL_len l)
theorem wL_len (l : List UInt8) : (wL l).length ≤ l.length := Nat.le_trans (dropW_len _ _) (mL_len l)
theorem zL_len (l : List UInt8) : (zL l).length ≤ l.length := by
  have := wL_len l
  unfold zL
  rw [List.length_drop]
  omega
theorem uL_len (a : List UInt8) : (uL a).length ≤ a.length := takeW_len _ _
theorem bL_len (a : List UInt8) : (bL a).length ≤ a.length := by
  have := dropW_len notDot a
  unfold bL
  rw [List.length_drop]
  omega
theorem ub_len (a : List UInt8) : (uL a).length + (bL a).length ≤ a.length := by
  have h1 := congrArg List.length (List.takeWhile_append_dropWhile (p := notDot) (l := a))
  rw [List.length_append] at h1
  unfold uL bL
  rw [List.length_drop]
  omega
theorem gL_len (l : List UInt8) : (gL l).length ≤ (uL (aL l)).length + (bL (aL l)).length := by
  unfold gL Lib.trimLeftB
  have := dropW_len (· == 48) (uL (aL l) ++ bL (aL l))
  rw [List.length_append] at this
  exact this
theorem dL_len (l : List UInt8) : (dL l).length ≤ (gL l).length := by
  unfold dL Lib.trimRightB
  have := dropW_len (· == 48) (gL l).reverse
  rw [List.length_reverse] at this ⊢
  exact this

/-- The number of a power's digits, not more than a bound. -/
def pwN (m : Nat) (ds : List UInt8) : Nat := if numK (bs ds) ds.length ≤ m then numK (bs ds) ds.length else m
theorem pwN_le (m : Nat) (ds : List UInt8) : pwN m ds ≤ m := by unfold pwN; split <;> omega
/-- The power of a text's end. -/
def pwZ (m : Nat) (z : List UInt8) : Int := if negL z = true then -(pwN m (mL z) : Int) else (pwN m (Lib.trimPrefix z [43]) : Int)
/-- The power of ten, not brought between its bounds. -/
def rawX (m : Nat) (l : List UInt8) : Int := pwZ m (zL l) - (bL (aL l)).length + (gL l).length - (dL l).length
def cla9 (x : Int) : Int := if x < -9999 then -9999 else if 9999 < x then 9999 else x
/-- The power of ten that a text says. -/
def expL (l : List UInt8) : Int := if dL l = [] then 0 else cla9 (rawX 9007199254740991 l)

theorem pwZ_same (z : List UInt8) : pwZ 9007199254740991 z = pwZ 1099511627776 z ∨ 1099511627776 ≤ pwZ 9007199254740991 z ∧ pwZ 1099511627776 z = 1099511627776 ∨ pwZ 9007199254740991 z ≤ -1099511627776 ∧ pwZ 1099511627776 z = -1099511627776 := by
  have key : ∀ ds, pwN 9007199254740991 ds = pwN 1099511627776 ds ∨ 1099511627776 ≤ pwN 9007199254740991 ds ∧ pwN 1099511627776 ds = 1099511627776 := fun ds => by
    unfold pwN
    by_cases h1 : numK (bs ds) ds.length ≤ 1099511627776
    · rw [if_pos h1, if_pos (by omega)]; exact .inl rfl
    · rw [if_neg h1]
      by_cases h2 : numK (bs ds) ds.length ≤ 9007199254740991
      · rw [if_pos h2]; exact .inr ⟨by omega, rfl⟩
      · rw [if_neg h2]; exact .inr ⟨by omega, rfl⟩
  unfold pwZ
  by_cases h : negL z = true
  · rw [if_pos h, if_pos h]
    rcases key (mL z) with k | ⟨k1, k2⟩
    · exact .inl (by rw [k])
    · exact .inr (.inr ⟨by omega, by omega⟩)
  · rw [if_neg h, if_neg h]
    rcases key (Lib.trimPrefix z [43]) with k | ⟨k1, k2⟩
    · exact .inl (by rw [k])
    · exact .inr (.inl ⟨by omega, by omega⟩)
/-- Whichever bound, the power is the same once it is brought between its own. -/
theorem raw_same {l : List UInt8} (h : l.length ≤ 1000000) : cla9 (rawX 1099511627776 l) = cla9 (rawX 9007199254740991 l) := by
  have h1 := gL_len l
  have h2 := dL_len l
  have h3 := ub_len (aL l)
  have h4 := aL_len l
  unfold rawX cla9
  rcases pwZ_same (zL l) with k | ⟨k1, k2⟩ | ⟨k1, k2⟩
  · rw [k]
  · rw [k2]
    repeat' split
    all_goals omega
  · rw [k2]
    repeat' split
    all_goals omega

end Go.Proofs.YthiclminkbnibaaDoor
