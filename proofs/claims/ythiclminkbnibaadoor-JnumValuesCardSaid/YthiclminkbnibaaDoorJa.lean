/-
  Plain facts on the parts of a number's text, as lists of bytes. No condition.
-/
import Derived.Test.YthiclminkbnibaaDoorJk
import Derived.Lib.TrimByte
import Derived.Lib.IndexLaws
import Derived.Lib.IndexBytes
namespace Go.Proofs.YthiclminkbnibaaDoor

def bs (l : List UInt8) : ByteArray := ⟨l.toArray⟩
theorem bs_list (l : List UInt8) : (bs l).data.toList = l := by simp [bs]
theorem bs_size (l : List UInt8) : (bs l).size = l.length := by rw [Lib.size_eq, bs_list]
theorem bs_of (s : ByteArray) : bs s.data.toList = s := by cases s; simp [bs]
theorem bs_ext {s t : ByteArray} (h : s.data.toList = t.data.toList) : s = t := by rw [← bs_of s, ← bs_of t, h]

/-- The place behind a list of bytes. -/
def goL (p : Nat) (l : List UInt8) : Nat := l.foldl nxt p
theorem goL_cons (p : Nat) (b : UInt8) (t : List UInt8) : goL p (b :: t) = goL (nxt p b) t := rfl
theorem goL_zero : ∀ l, goL 0 l = 0
  | [] => rfl
  | b :: t => by rw [goL_cons, nxt_broken, goL_zero t]
theorem plc_go (s : ByteArray) : ∀ k, k ≤ s.size → plc s k = goL 1 (s.data.toList.take k)
  | 0, _ => rfl
  | k + 1, h => by
    rw [plc_succ (by omega), plc_go s k (by omega), take_snoc s k (by omega)]
    unfold goL
    rw [List.foldl_append]
    rfl
theorem isB_go (s : ByteArray) : isB s = endB (goL 1 s.data.toList) := by
  unfold isB
  rw [plc_go s s.size (Nat.le_refl _), List.take_of_length_le (by rw [← Lib.size_eq]; exact Nat.le_refl _)]

theorem go_ne {p : Nat} {b : UInt8} {t : List UInt8} (h : endB (goL p (b :: t)) = true) : nxt p b ≠ 0 := fun e => by
  rw [goL_cons, e, goL_zero] at h
  cases h
theorem nxt_ne {p : Nat} {b : UInt8} (h : nxt p b ≠ 0) :
    digB b = true ∧ nxt p b = nxtD p b ∨ digB b = false ∧ b.toNat = 46 ∧ (p = 3 ∨ p = 4) ∧ nxt p b = 5 ∨ digB b = false ∧ (b.toNat = 101 ∨ b.toNat = 69) ∧ (p = 3 ∨ p = 4 ∨ p = 6) ∧ nxt p b = 7 ∨
      digB b = false ∧ b.toNat = 45 ∧ p = 1 ∧ nxt p b = 2 ∨ digB b = false ∧ (b.toNat = 43 ∨ b.toNat = 45) ∧ p = 7 ∧ nxt p b = 8 := by
  unfold nxt at h ⊢
  split
  · rename_i h1; exact .inl ⟨h1, rfl⟩
  · rename_i h1
    have hd : digB b = false := by simpa using h1
    rw [if_neg h1] at h
    split
    · rename_i h2; exact .inr (.inl ⟨hd, h2.1, h2.2, rfl⟩)
    · rename_i h2
      rw [if_neg h2] at h
      split
      · rename_i h3; exact .inr (.inr (.inl ⟨hd, h3.1, h3.2, rfl⟩))
      · rename_i h3
        rw [if_neg h3] at h
        split
        · rename_i h4; exact .inr (.inr (.inr (.inl ⟨hd, h4.1, h4.2, rfl⟩)))
        · rename_i h4
          rw [if_neg h4] at h
          split
          · rename_i h5; exact .inr (.inr (.inr (.inr ⟨hd, h5.1, h5.2, rfl⟩)))
          · rename_i h5
            rw [if_neg h5] at h
            exact absurd rfl h
theorem nxtD_ne {p : Nat} {b : UInt8} (h : nxtD p b ≠ 0) :
    (p = 1 ∨ p = 2) ∧ (nxtD p b = 3 ∨ nxtD p b = 4) ∨ p = 4 ∧ nxtD p b = 4 ∨ (p = 5 ∨ p = 6) ∧ nxtD p b = 6 ∨ (p = 7 ∨ p = 8 ∨ p = 9) ∧ nxtD p b = 9 := by
  unfold nxtD at h ⊢
  split
  · rename_i h1
    left
    refine ⟨h1, ?_⟩
    split <;> simp
  · rename_i h1
    rw [if_neg h1] at h
    split
    · rename_i h2; exact .inr (.inl ⟨h2, rfl⟩)
    · rename_i h2
      rw [if_neg h2] at h
      split
      · rename_i h3; exact .inr (.inr (.inl ⟨h3, rfl⟩))
      · rename_i h3
        rw [if_neg h3] at h
        split
        · rename_i h4; exact .inr (.inr (.inr ⟨h4, rfl⟩))
        · rename_i h4
          rw [if_neg h4] at h
          exact absurd rfl h
theorem dig_not {b : UInt8} (h : digB b = true) : b.toNat ≠ 46 ∧ b.toNat ≠ 101 ∧ b.toNat ≠ 69 ∧ b.toNat ≠ 45 ∧ b.toNat ≠ 43 := by
  have := digB_range h
  omega

def notE (b : UInt8) : Bool := !expB b
def notDot (b : UInt8) : Bool := !dotB b
theorem notE_dig {b : UInt8} (h : digB b = true) : notE b = true := by
  have := dig_not h
  unfold notE expB
  simp
  omega
theorem notDot_dig {b : UInt8} (h : digB b = true) : notDot b = true := by
  have := dig_not h
  unfold notDot dotB
  simp
  omega
theorem notE_yes {b : UInt8} (h : notE b = true) : b.toNat ≠ 101 ∧ b.toNat ≠ 69 := by
  unfold notE expB at h
  simp at h
  exact h
theorem notE_no {b : UInt8} (h : notE b = false) : b.toNat = 101 ∨ b.toNat = 69 := by
  unfold notE expB at h
  simp at h
  omega

/-- All digits. -/
def AllD (l : List UInt8) : Prop := ∀ b ∈ l, digB b = true
theorem AllD.nil : AllD [] := fun _ h => by cases h
theorem AllD.cons {b : UInt8} {t : List UInt8} (h : digB b = true) (k : AllD t) : AllD (b :: t) := fun x hx => by
  rcases List.mem_cons.1 hx with e | e
  · rw [e]; exact h
  · exact k x e

theorem behind_point : ∀ (l : List UInt8) {p : Nat}, (p = 5 ∨ p = 6) → endB (goL p l) = true → AllD (l.takeWhile notE)
  | [], _, _, _ => AllD.nil
  | b :: t, p, hp, h => by
    rw [List.takeWhile_cons]
    split
    · rename_i hb
      obtain ⟨n1, n2⟩ := notE_yes hb
      rcases nxt_ne (go_ne h) with ⟨hd, e⟩ | ⟨_, e, q, _⟩ | ⟨_, e, _⟩ | ⟨_, _, q, _⟩ | ⟨_, _, q, _⟩
      · refine AllD.cons hd (behind_point t (p := 6) (.inr rfl) ?_)
        have h6 : nxtD p b = 6 := by unfold nxtD; rcases hp with rfl | rfl <;> rfl
        rw [goL_cons, e, h6] at h
        exact h
      · omega
      · omega
      · omega
      · omega
    · exact AllD.nil

def uL (a : List UInt8) : List UInt8 := a.takeWhile notDot
def bL (a : List UInt8) : List UInt8 := (a.dropWhile notDot).drop 1

theorem ahead_e : ∀ (l : List UInt8) {p : Nat}, (p = 2 ∨ p = 3 ∨ p = 4) → endB (goL p l) = true → AllD (uL (l.takeWhile notE)) ∧ AllD (bL (l.takeWhile notE))
  | [], _, _, _ => ⟨AllD.nil, AllD.nil⟩
  | b :: t, p, hp, h => by
    rw [List.takeWhile_cons]
    split
    · rename_i hb
      obtain ⟨n1, n2⟩ := notE_yes hb
      rcases nxt_ne (go_ne h) with ⟨hd, e⟩ | ⟨_, e, q, e5⟩ | ⟨_, e, _⟩ | ⟨_, _, q, _⟩ | ⟨_, _, q, _⟩
      · have hn := go_ne h
        rw [e] at hn
        have hq : nxtD p b = 2 ∨ nxtD p b = 3 ∨ nxtD p b = 4 := by
          rcases nxtD_ne hn with ⟨_, q⟩ | ⟨_, q⟩ | ⟨q, _⟩ | ⟨q, _⟩ <;> omega
        rw [goL_cons, e] at h
        obtain ⟨k1, k2⟩ := ahead_e t hq h
        unfold uL bL at *
        rw [List.takeWhile_cons_of_pos (notDot_dig hd), List.dropWhile_cons_of_pos (notDot_dig hd)]
        exact ⟨AllD.cons hd k1, k2⟩
      · rw [goL_cons, e5] at h
        have hd : notDot b = false := by unfold notDot dotB; simp [e]
        have := behind_point t (.inl rfl) h
        unfold uL bL
        rw [List.takeWhile_cons_of_neg (by simp [hd]), List.dropWhile_cons_of_neg (by simp [hd])]
        exact ⟨AllD.nil, this⟩
      · omega
      · omega
      · omega
    · exact ⟨AllD.nil, AllD.nil⟩

theorem from_e : ∀ (l : List UInt8) {p : Nat}, (p = 2 ∨ p = 3 ∨ p = 4 ∨ p = 5 ∨ p = 6) → endB (goL p l) = true → l.dropWhile notE = [] ∨ ∃ e t, l.dropWhile notE = e :: t ∧ endB (goL 7 t) = true
  | [], _, _, _ => .inl rfl
  | b :: t, p, hp, h => by
    cases hb : notE b
    · rw [List.dropWhile_cons_of_neg (by simp [hb])]
      have := notE_no hb
      rcases nxt_ne (go_ne h) with ⟨hd, e⟩ | ⟨_, e, q, e5⟩ | ⟨_, e, _, e7⟩ | ⟨_, _, q, _⟩ | ⟨_, _, q, _⟩
      · have := dig_not hd; omega
      · omega
      · rw [goL_cons, e7] at h
        exact .inr ⟨b, t, rfl, h⟩
      · omega
      · omega
    · rw [List.dropWhile_cons_of_pos hb]
      obtain ⟨n1, n2⟩ := notE_yes hb
      have hn := go_ne h
      rcases nxt_ne hn with ⟨hd, e⟩ | ⟨_, e, q, e5⟩ | ⟨_, e, _⟩ | ⟨_, _, q, _⟩ | ⟨_, _, q, _⟩
      · rw [e] at hn
        rw [goL_cons, e] at h
        exact from_e t (by rcases nxtD_ne hn with ⟨_, q⟩ | ⟨_, q⟩ | ⟨_, q⟩ | ⟨q, _⟩ <;> omega) h
      · rw [goL_cons, e5] at h
        exact from_e t (.inr (.inr (.inr (.inl rfl)))) h
      · omega
      · omega
      · omega

theorem all_nine : ∀ (l : List UInt8), endB (goL 9 l) = true → AllD l
  | [], _ => AllD.nil
  | b :: t, h => by
    rcases nxt_ne (go_ne h) with ⟨hd, e⟩ | ⟨_, e, q, _⟩ | ⟨_, e, q, _⟩ | ⟨_, _, q, _⟩ | ⟨_, _, q, _⟩
    · rw [goL_cons, e] at h
      exact AllD.cons hd (all_nine t h)
    · omega
    · omega
    · omega
    · omega
theorem from_eight (l : List UInt8) (h : endB (goL 8 l) = true) : l ≠ [] ∧ AllD l := by
  cases l with
  | nil => cases h
  | cons b t =>
    refine ⟨by simp, ?_⟩
    rcases nxt_ne (go_ne h) with ⟨hd, e⟩ | ⟨_, e, q, _⟩ | ⟨_, e, q, _⟩ | ⟨_, _, q, _⟩ | ⟨_, _, q, _⟩
    · rw [goL_cons, e] at h
      exact AllD.cons hd (all_nine t h)
    · omega
    · omega
    · omega
    · omega
/-- What stands behind an e: a sign, or none, and digits. -/
theorem from_seven (l : List UInt8) (h : endB (goL 7 l) = true) : ∃ sg ds, l = sg ++ ds ∧ (sg = [] ∨ sg = [43] ∨ sg = [45]) ∧ ds ≠ [] ∧ AllD ds := by
  cases l with
  | nil => cases h
  | cons b t =>
    rcases nxt_ne (go_ne h) with ⟨hd, e⟩ | ⟨_, e, q, _⟩ | ⟨_, e, q, _⟩ | ⟨_, _, q, _⟩ | ⟨_, e, _, e8⟩
    · rw [goL_cons, e] at h
      exact ⟨[], b :: t, rfl, .inl rfl, by simp, AllD.cons hd (all_nine t h)⟩
    · omega
    · omega
    · omega
    · rw [goL_cons, e8] at h
      obtain ⟨k1, k2⟩ := from_eight t h
      refine ⟨[b], t, rfl, ?_, k1, k2⟩
      rcases e with e | e
      · exact .inr (.inl (by rw [show b = 43 from UInt8.toNat_inj.1 e]))
      · exact .inr (.inr (by rw [show b = 45 from UInt8.toNat_inj.1 e]))

theorem all_ascii : ∀ (l : List UInt8) {p : Nat}, endB (goL p l) = true → ∀ b ∈ l, b.toNat < 128
  | [], _, _ => fun _ h => by cases h
  | b :: t, p, h => fun x hx => by
    rcases List.mem_cons.1 hx with e | e
    · rw [e]
      rcases nxt_ne (go_ne h) with ⟨hd, _⟩ | ⟨_, e, _⟩ | ⟨_, e, _⟩ | ⟨_, e, _⟩ | ⟨_, e, _⟩
      · have := digB_range hd; omega
      · omega
      · omega
      · omega
      · omega
    · exact all_ascii t h x e

/-- Without the sign. -/
def mL (l : List UInt8) : List UInt8 := Lib.trimPrefix l [45]
def negL (l : List UInt8) : Bool := Lib.hasPrefix l [45]
theorem neg_cons (b : UInt8) (t : List UInt8) : negL (b :: t) = (b == 45) := by unfold negL Lib.hasPrefix; simp [List.isPrefixOf]; exact Bool.beq_comm
theorem mL_yes (t : List UInt8) : mL (45 :: t) = t := by unfold mL Lib.trimPrefix; rw [show Lib.hasPrefix (45 :: t) [45] = true from neg_cons 45 t]; rfl
theorem mL_no {b : UInt8} (t : List UInt8) (h : b ≠ 45) : mL (b :: t) = b :: t := by
  unfold mL Lib.trimPrefix
  rw [show Lib.hasPrefix (b :: t) [45] = false from (neg_cons b t).trans (by simpa using h)]
  rfl
theorem go_sign (l : List UInt8) (h : endB (goL 1 l) = true) : endB (goL 2 (mL l)) = true := by
  cases l with
  | nil => cases h
  | cons b t =>
    by_cases e : b = 45
    · subst e
      rw [mL_yes]
      exact h
    · rw [mL_no t e]
      rw [goL_cons] at h ⊢
      have : nxt 1 b = nxt 2 b := by
        have e45 : b.toNat ≠ 45 := fun h => e (UInt8.toNat_inj.1 h)
        unfold nxt nxtD
        simp [e45]
      rw [← this]
      exact h

def aL (l : List UInt8) : List UInt8 := (mL l).takeWhile notE
def wL (l : List UInt8) : List UInt8 := (mL l).dropWhile notE
def zL (l : List UInt8) : List UInt8 := (wL l).drop 1
def gL (l : List UInt8) : List UInt8 := Lib.trimLeftB (uL (aL l) ++ bL (aL l)) 48
def dL (l : List UInt8) : List UInt8 := Lib.trimRightB (gL l) 48

/-- What is so of a number's text. -/
structure NumT (l : List UInt8) : Prop where
  u : AllD (uL (aL l))
  b : AllD (bL (aL l))
  e : wL l = [] ∨ ∃ e sg ds, wL l = e :: (sg ++ ds) ∧ (sg = [] ∨ sg = [43] ∨ sg = [45]) ∧ ds ≠ [] ∧ AllD ds
  ascii : ∀ b ∈ l, b.toNat < 128
  some : l ≠ []
theorem numT_of {s : ByteArray} (h : isB s = true) : NumT s.data.toList := by
  rw [isB_go] at h
  have h2 := go_sign _ h
  obtain ⟨k1, k2⟩ := ahead_e (mL s.data.toList) (.inl rfl) h2
  refine ⟨k1, k2, ?_, all_ascii _ h, fun e => by rw [e] at h; cases h⟩
  rcases from_e (mL s.data.toList) (.inl rfl) h2 with k | ⟨e, t, k, h7⟩
  · exact .inl k
  · obtain ⟨sg, ds, rfl, q⟩ := from_seven t h7
    exact .inr ⟨e, sg, ds, k, q⟩

end Go.Proofs.YthiclminkbnibaaDoor
