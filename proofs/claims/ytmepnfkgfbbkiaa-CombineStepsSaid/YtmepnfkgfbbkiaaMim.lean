/-
  Plain facts on types, as layer 10 has them: parameters, which are good, what a text says, and what it is written as. No condition.
-/
import Derived.Test.YtmepnfkgfbbkiaaQuo
import Derived.Test.YtmepnfkgfbbkiaaSer
namespace Go.Proofs.Ytmepnfkgfbbkiaa

/-- A parameter's two texts. -/
structure Prm where
  n : ByteArray
  v : ByteArray

abbrev eqS (a b : ByteArray) : Bool := a.toList == b.toList
theorem eqS_eq {a b : ByteArray} (h : eqS a b = true) : a = b := by
  have e : a.toList = b.toList := beq_iff_eq.1 h
  rw [Lib.toList_data, Lib.toList_data] at e
  exact ByteArray.ext (Array.toList_inj.1 e)
theorem eqS_self (a : ByteArray) : eqS a a = true := beq_self_eq_true _

/-- Whether a text is a token without great letters; whether a parameter may be one of a good type; whether a name is there. -/
def nameB (s : ByteArray) : Bool := !needB s && eqS (lowS s) s
def prmB (p : Prm) : Bool := nameB p.n && allB quoB p.v
def seenB (ps : List Prm) (x : ByteArray) : Bool := ps.any fun p => eqS p.n x
theorem seenB_snoc (ps : List Prm) (p : Prm) (x : ByteArray) : seenB (ps ++ [p]) x = (seenB ps x || eqS p.n x) := by simp [seenB]
def putL (ps : List Prm) (p : Prm) : List Prm := if prmB p && !seenB ps p.n then ps ++ [p] else ps
def putO (ps : List Prm) : Option Prm → List Prm
  | none => ps
  | some p => putL ps p

/-- Whether all of the rest may stand behind what stands ahead of them. -/
def goodL : List Prm → List Prm → Bool
  | _, [] => true
  | b, p :: r => prmB p && !seenB b p.n && goodL (b ++ [p]) r
theorem goodL_append (b xs ys : List Prm) : goodL b (xs ++ ys) = (goodL b xs && goodL (b ++ xs) ys) := by
  induction xs generalizing b with
  | nil => simp [goodL]
  | cons p r ih =>
    simp only [List.cons_append, goodL]
    rw [ih]
    simp [Bool.and_assoc]
theorem goodL_step {ps : List Prm} {k : Nat} (h : k < ps.length) : goodL (ps.take k) (ps.drop k) = (prmB ps[k] && !seenB (ps.take k) ps[k].n && goodL (ps.take (k + 1)) (ps.drop (k + 1))) := by
  rw [List.drop_eq_getElem_cons h, goodL, List.take_succ_eq_append_getElem h]
theorem goodL_all (ps : List Prm) : goodL (ps.take ps.length) (ps.drop ps.length) = true := by
  rw [List.drop_of_length_le (Nat.le_refl _)]; rfl
theorem goodL_putL (ps : List Prm) (p : Prm) (h : goodL [] ps = true) : goodL [] (putL ps p) = true := by
  unfold putL
  split
  · rename_i h2
    rw [goodL_append, h]
    simp only [goodL, List.nil_append, Bool.and_true, Bool.true_and]
    exact h2
  · exact h
theorem goodL_putO (ps : List Prm) (p : Option Prm) (h : goodL [] ps = true) : goodL [] (putO ps p) = true := by
  cases p with
  | none => exact h
  | some p => exact goodL_putL ps p h
def goodM (t u : ByteArray) (ps : List Prm) : Bool := nameB t && nameB u && goodL [] ps

/-- Whether two lists of parameters are one; two types likewise. -/
def sameL : List Prm → List Prm → Bool
  | [], [] => true
  | p :: r, q :: s => eqS p.n q.n && eqS p.v q.v && sameL r s
  | _, _ => false
theorem sameL_self : ∀ ps, sameL ps ps = true
  | [] => rfl
  | p :: r => by rw [sameL, eqS_self, eqS_self, sameL_self r]; rfl
theorem sameL_eq : ∀ (ps qs : List Prm), sameL ps qs = true → ps = qs
  | [], [], _ => rfl
  | [], _ :: _, h => by simp [sameL] at h
  | _ :: _, [], h => by simp [sameL] at h
  | p :: r, q :: s, h => by
    rw [sameL, Bool.and_eq_true, Bool.and_eq_true] at h
    have h1 := eqS_eq h.1.1
    have h2 := eqS_eq h.1.2
    have h3 := sameL_eq r s h.2
    cases p; cases q
    simp only at h1 h2
    rw [h1, h2, h3]
theorem sameL_len {ps qs : List Prm} (h : ps.length ≠ qs.length) : sameL ps qs = false := by
  cases e : sameL ps qs
  · rfl
  · exact absurd (congrArg List.length (sameL_eq _ _ e)) h
theorem sameL_step {ps qs : List Prm} {k : Nat} (h : k < ps.length) (h' : k < qs.length) : sameL (ps.drop k) (qs.drop k) = (eqS ps[k].n qs[k].n && eqS ps[k].v qs[k].v && sameL (ps.drop (k + 1)) (qs.drop (k + 1))) := by
  rw [List.drop_eq_getElem_cons h, List.drop_eq_getElem_cons h', sameL]
theorem sameL_end {ps qs : List Prm} (h : ps.length = qs.length) : sameL (ps.drop ps.length) (qs.drop ps.length) = true := by
  rw [List.drop_of_length_le (Nat.le_refl _), List.drop_of_length_le (by omega)]; rfl
def sameM (t u : ByteArray) (ps : List Prm) (t' u' : ByteArray) (qs : List Prm) : Bool := eqS t t' && eqS u u' && sameL ps qs
theorem sameM_self (t u : ByteArray) (ps : List Prm) : sameM t u ps t u ps = true := by
  unfold sameM; rw [eqS_self, eqS_self, sameL_self]; rfl

/-- What a parameter is written as; a type's text. -/
def wrS (v : ByteArray) : ByteArray := if needB v then serS v else v
def serP (p : Prm) : List UInt8 := 59 :: p.n.data.toList ++ 61 :: (wrS p.v).data.toList
def serPs (ps : List Prm) : List UInt8 := ps.flatMap serP
theorem serPs_append (a b : List Prm) : serPs (a ++ b) = serPs a ++ serPs b := by simp [serPs]
theorem serPs_step {ps : List Prm} {k : Nat} (h : k < ps.length) : serPs (ps.take (k + 1)) = serPs (ps.take k) ++ serP ps[k] := by
  rw [List.take_succ_eq_append_getElem h, serPs_append]
  simp [serPs]
def essL (t u : ByteArray) : List UInt8 := t.data.toList ++ 47 :: u.data.toList
def textL (t u : ByteArray) (ps : List Prm) : List UInt8 := essL t u ++ serPs ps
def serM (t u : ByteArray) (ps : List Prm) : ByteArray := if goodM t u ps then ⟨(textL t u ps).toArray⟩ else ⟨#[]⟩
theorem wrS_size (v : ByteArray) : (wrS v).size ≤ 2 * v.size + 2 := by
  unfold wrS
  split
  · exact serS_le v
  · omega
theorem serP_len (p : Prm) : (serP p).length = p.n.size + (wrS p.v).size + 2 := by
  simp [serP]
  omega

/-- The bytes at which something stops. -/
abbrev stp (t : ByteArray) (b : UInt8) : Bool := !hasB t b
abbrev sSl : ByteArray := ⟨#[47]⟩
abbrev sSe : ByteArray := ⟨#[59]⟩
abbrev sSq : ByteArray := ⟨#[59, 61]⟩
theorem sSl_has (b : UInt8) : hasB sSl b = (b.toNat == 47) := beq_iff_eq.1 (bytes_all (p := fun b => hasB sSl b == (b.toNat == 47)) (by kernel_rfl) b)
theorem sSe_has (b : UInt8) : hasB sSe b = (b.toNat == 59) := beq_iff_eq.1 (bytes_all (p := fun b => hasB sSe b == (b.toNat == 59)) (by kernel_rfl) b)
theorem sSq_has (b : UInt8) : hasB sSq b = (b.toNat == 59 || b.toNat == 61) := beq_iff_eq.1 (bytes_all (p := fun b => hasB sSq b == (b.toNat == 59 || b.toNat == 61)) (by kernel_rfl) b)

/-- Where the name ends that stands behind the ; at k, and the name; whether an = stands there. -/
def nmFr (s : ByteArray) (k : Nat) : Nat := scan whiB s (k + 1)
def nmTo (s : ByteArray) (k : Nat) : Nat := scan (stp sSq) s (nmFr s k)
def nmOf (s : ByteArray) (k : Nat) : ByteArray := lowS (s.extract (nmFr s k) (nmTo s k))
def isAt (s : ByteArray) (j c : Nat) : Bool := decide (j < s.size) && s[j]!.toNat == c
theorem isAt_yes {s : ByteArray} {j c : Nat} (h : j < s.size) : isAt s j c = (s[j].toNat == c) := by
  unfold isAt
  rw [decide_eq_true h, Bool.true_and, getElem!_pos s j h]
theorem isAt_no {s : ByteArray} {j c : Nat} (h : s.size ≤ j) : isAt s j c = false := by
  unfold isAt
  rw [decide_eq_false (by omega)]; rfl
/-- The value that stands at j, if there is one, and where it ends. -/
def valRaw (s : ByteArray) (j : Nat) : ByteArray := cutP whiB (s.extract j (scan (stp sSe) s j))
def valOf (s : ByteArray) (j : Nat) : Option ByteArray :=
  if isAt s j 34 then some ⟨(quoS s (j + 1)).1.toArray⟩ else if (valRaw s j).toList == [] then none else some (valRaw s j)
def valTo (s : ByteArray) (j : Nat) : Nat := if isAt s j 34 then scan (stp sSe) s (j + 1 + (quoS s (j + 1)).2) else scan (stp sSe) s j
def stepP (s : ByteArray) (k : Nat) : Option Prm := if isAt s (nmTo s k) 61 then (valOf s (nmTo s k + 1)).map fun v => ⟨nmOf s k, v⟩ else none
def stepE (s : ByteArray) (k : Nat) : Nat := if isAt s (nmTo s k) 61 then valTo s (nmTo s k + 1) else nmTo s k

theorem nmFr_ge (s : ByteArray) (k : Nat) : k + 1 ≤ nmFr s k := scan_ge _ _ _
theorem nmFr_le {s : ByteArray} {k : Nat} (h : k < s.size) : nmFr s k ≤ s.size := scan_le _ _ _ h
theorem nmTo_ge (s : ByteArray) (k : Nat) : nmFr s k ≤ nmTo s k := scan_ge _ _ _
theorem nmTo_le {s : ByteArray} {k : Nat} (h : k < s.size) : nmTo s k ≤ s.size := scan_le _ _ _ (nmFr_le h)
theorem nmTo_at {s : ByteArray} {k : Nat} (h : k < s.size) (h2 : nmTo s k < s.size) : s[nmTo s k].toNat = 59 ∨ s[nmTo s k].toNat = 61 := by
  have := scan_at (p := stp sSq) (nmFr_le h) h2
  have h3 : (!hasB sSq s[nmTo s k]) = false := this
  rw [sSq_has] at h3
  simp at h3
  exact Decidable.or_iff_not_imp_left.2 h3
theorem valTo_bounds {s : ByteArray} {j : Nat} (h : j ≤ s.size) : j ≤ valTo s j ∧ valTo s j ≤ s.size := by
  unfold valTo
  split
  · rename_i h2
    have hj : j < s.size := by
      unfold isAt at h2
      rw [Bool.and_eq_true] at h2
      exact of_decide_eq_true h2.1
    have hq := quoS_le (s := s) (k := j + 1) (by omega)
    have h3 := scan_ge (stp sSe) s (j + 1 + (quoS s (j + 1)).2)
    have h4 := scan_le (stp sSe) s (j + 1 + (quoS s (j + 1)).2) hq
    omega
  · exact ⟨scan_ge _ _ _, scan_le _ _ _ h⟩
theorem scan_semi {s : ByteArray} {j : Nat} (h : j ≤ s.size) (h2 : scan (stp sSe) s j < s.size) : s[scan (stp sSe) s j].toNat = 59 := by
  have := scan_at (p := stp sSe) h h2
  have h3 : (!hasB sSe s[scan (stp sSe) s j]) = false := this
  rw [sSe_has] at h3
  simpa using h3
theorem valTo_at {s : ByteArray} {j : Nat} (h : j ≤ s.size) (h2 : valTo s j < s.size) : s[valTo s j].toNat = 59 := by
  by_cases h3 : isAt s j 34 = true
  · have hj : j < s.size := by
      unfold isAt at h3
      rw [Bool.and_eq_true] at h3
      exact of_decide_eq_true h3.1
    have e : valTo s j = scan (stp sSe) s (j + 1 + (quoS s (j + 1)).2) := by unfold valTo; rw [if_pos h3]
    simp only [e] at h2 ⊢
    exact scan_semi (quoS_le (by omega)) h2
  · have e : valTo s j = scan (stp sSe) s j := by unfold valTo; rw [if_neg h3]
    simp only [e] at h2 ⊢
    exact scan_semi h h2
theorem isAt_lt {s : ByteArray} {j c : Nat} (h : isAt s j c = true) : j < s.size := by
  unfold isAt at h
  rw [Bool.and_eq_true] at h
  exact of_decide_eq_true h.1
theorem stepE_bounds {s : ByteArray} {k : Nat} (h : k < s.size) : k < stepE s k ∧ stepE s k ≤ s.size := by
  have h1 := nmFr_ge s k
  have h2 := nmTo_ge s k
  have h3 := nmTo_le h
  unfold stepE
  split
  · rename_i h4
    have h5 := isAt_lt h4
    have := valTo_bounds (s := s) (j := nmTo s k + 1) (by omega)
    omega
  · omega
theorem stepE_at {s : ByteArray} {k : Nat} (h : k < s.size) (h2 : stepE s k < s.size) : s[stepE s k].toNat = 59 := by
  by_cases h4 : isAt s (nmTo s k) 61 = true
  · have h5 := isAt_lt h4
    have e : stepE s k = valTo s (nmTo s k + 1) := by unfold stepE; rw [if_pos h4]
    simp only [e] at h2 ⊢
    exact valTo_at (by omega) h2
  · have e : stepE s k = nmTo s k := by unfold stepE; rw [if_neg h4]
    simp only [e] at h2 ⊢
    rcases nmTo_at h h2 with h5 | h5
    · exact h5
    · rw [isAt_yes h2, h5] at h4
      exact absurd rfl h4

/-- All good parameters from k on, behind those that are there. -/
def parF (s : ByteArray) : Nat → Nat → List Prm → List Prm
  | 0, _, acc => acc
  | f + 1, k, acc => if k < s.size then parF s f (stepE s k) (putO acc (stepP s k)) else acc
theorem parF_more (s : ByteArray) : ∀ (f k : Nat) (acc : List Prm), s.size - k ≤ f → parF s (f + 1) k acc = parF s f k acc
  | 0, k, acc, h => by simp only [parF]; rw [if_neg (by omega)]
  | f + 1, k, acc, h => by
    have e : ∀ g, parF s (g + 1) k acc = if k < s.size then parF s g (stepE s k) (putO acc (stepP s k)) else acc := fun g => by rw [parF]
    rw [e (f + 1), e f]
    by_cases h1 : k < s.size
    · rw [if_pos h1, if_pos h1, parF_more s f _ _ (by have := (stepE_bounds h1).1; omega)]
    · rw [if_neg h1, if_neg h1]
def parS (s : ByteArray) (k : Nat) (acc : List Prm) : List Prm := parF s s.size k acc
theorem parS_step {s : ByteArray} {k : Nat} (acc : List Prm) (h : k < s.size) : parS s k acc = parS s (stepE s k) (putO acc (stepP s k)) := by
  unfold parS
  rw [← parF_more s s.size k acc (by omega), parF, if_pos h]
theorem parS_end {s : ByteArray} {k : Nat} (acc : List Prm) (h : s.size ≤ k) : parS s k acc = acc := by
  unfold parS
  cases e : s.size with
  | zero => rfl
  | succ n => rw [parF, if_neg (by omega)]
theorem parF_good (s : ByteArray) : ∀ (f k : Nat) (acc : List Prm), goodL [] acc = true → goodL [] (parF s f k acc) = true
  | 0, _, _, h => h
  | f + 1, k, acc, h => by
    rw [parF]
    split
    · exact parF_good s f _ _ (goodL_putO _ _ h)
    · exact h

/-- What a text says: the type, if it says one. -/
def tyTo (t : ByteArray) : Nat := scan (stp sSl) t 0
def tyOf (t : ByteArray) : ByteArray := t.extract 0 (tyTo t)
def suTo (t : ByteArray) : Nat := scan (stp sSe) t (tyTo t + 1)
def suOf (t : ByteArray) : ByteArray := cutP whiB (t.extract (tyTo t + 1) (suTo t))
def saysB (t : ByteArray) : Bool := decide (tyTo t < t.size) && !needB (tyOf t) && !needB (suOf t)
def prOf (t : ByteArray) : List Prm := parS t (suTo t) []
theorem tyTo_le (t : ByteArray) : tyTo t ≤ t.size := scan_le _ _ _ (Nat.zero_le _)
theorem tyTo_at {t : ByteArray} (h : tyTo t < t.size) : t[tyTo t].toNat = 47 := by
  have := scan_at (p := stp sSl) (s := t) (i := 0) (Nat.zero_le _) h
  have h3 : (!hasB sSl t[tyTo t]) = false := this
  rw [sSl_has] at h3
  simpa using h3
theorem suTo_ge (t : ByteArray) : tyTo t + 1 ≤ suTo t := scan_ge _ _ _
theorem suTo_le {t : ByteArray} (h : tyTo t < t.size) : suTo t ≤ t.size := scan_le _ _ _ h
theorem suTo_at {t : ByteArray} (h : tyTo t < t.size) (h2 : suTo t < t.size) : t[suTo t].toNat = 59 := scan_semi h h2

end Go.Proofs.Ytmepnfkgfbbkiaa
