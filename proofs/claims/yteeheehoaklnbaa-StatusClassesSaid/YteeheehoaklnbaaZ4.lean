/-
  Plain facts on texts, as layer 3 turns them: small letters, what is cut at the ends. No condition.
  Plain facts on layer 24's texts: where a run of bytes ends, the unit, what is asked for (askO). No condition.
  Plain facts on layer 25: which status is good (stgQ), what a status line says (linO: the four parts, or where it is thrown). No condition.
-/
import Derived.Test.YteeheehoaklnbaaZ1
import Derived.Lib.Strings
import Derived.Test.YteeheehoaklnbaaZ3
import Derived.Lib.Hide
namespace Go.Proofs.Yteeheehoaklnbaa

theorem toList_size (a : ByteArray) : a.toList.length = a.size := by
  rw [Lib.toList_data]
  exact (Lib.size_eq a).symm
/-- How many of the first k bytes are left where those that are so are taken from their back. -/
def backN (p : UInt8 → Bool) (s : ByteArray) : Nat → Nat
  | 0 => 0
  | k + 1 => if p s[k]! then backN p s k else k + 1
def cutP (p : UInt8 → Bool) (s : ByteArray) : ByteArray := s.extract 0 (backN p s s.size)
theorem backN_step {p : UInt8 → Bool} {s : ByteArray} {k : Nat} (h : k < s.size) (hp : p s[k] = true) : backN p s (k + 1) = backN p s k := by
  simp only [backN]
  rw [getElem!_pos s k h, if_pos hp]
theorem backN_stop {p : UInt8 → Bool} {s : ByteArray} {k : Nat} (h : k < s.size) (hp : p s[k] = false) : backN p s (k + 1) = k + 1 := by
  simp only [backN]
  rw [getElem!_pos s k h, if_neg (by simp [hp])]
theorem backN_le (p : UInt8 → Bool) (s : ByteArray) : ∀ k, backN p s k ≤ k
  | 0 => Nat.le_refl _
  | k + 1 => by
    have := backN_le p s k
    simp only [backN]
    split <;> omega
theorem backN_at (p : UInt8 → Bool) (s : ByteArray) : ∀ k, backN p s k = 0 ∨ p s[backN p s k - 1]! = false
  | 0 => .inl rfl
  | k + 1 => by
    have := backN_at p s k
    simp only [backN]
    split
    · exact this
    · rename_i h
      right
      simpa using h
theorem extract_at {s : ByteArray} {a b i : Nat} (h : i < (s.extract a b).size) : (s.extract a b)[i]! = s[a + i]! := by
  have h2 : a + i < s.size := by simp at h; omega
  rw [getElem!_pos _ i h, getElem!_pos s _ h2]
  exact ByteArray.getElem_extract h
theorem extract_all (s : ByteArray) : s.extract 0 s.size = s := by simp
theorem extract_head {s : ByteArray} {m n : Nat} (h : n ≤ m) : (s.extract 0 m).extract 0 n = s.extract 0 n := by
  rw [ByteArray.extract_extract]
  congr 1
  omega
theorem cutP_size (p : UInt8 → Bool) (s : ByteArray) : (cutP p s).size = backN p s s.size := by
  have := backN_le p s s.size
  unfold cutP
  simp
  omega
theorem cutP_at {p : UInt8 → Bool} {t : ByteArray} {i : Nat} (h : i < (cutP p t).size) : (cutP p t)[i]! = t[i]! := by
  have e : (cutP p t)[i]! = t[0 + i]! := extract_at (a := 0) (b := backN p t t.size) h
  rw [e, Nat.zero_add]
theorem cutP_cutP (p : UInt8 → Bool) (s : ByteArray) : cutP p (cutP p s) = cutP p s := by
  have hs := cutP_size p s
  have hl := backN_le p s s.size
  have key : backN p (cutP p s) (cutP p s).size = (cutP p s).size := by
    rcases backN_at p s s.size with h | h
    · rw [hs, h]; rfl
    · by_cases h0 : backN p s s.size = 0
      · rw [hs, h0]; rfl
      · obtain ⟨m, hm⟩ : ∃ m, backN p s s.size = m + 1 := ⟨backN p s s.size - 1, by omega⟩
        rw [hs, hm]
        rw [hm] at h
        have hm1 : m < (cutP p s).size := by omega
        apply backN_stop hm1
        rw [← getElem!_pos (cutP p s) m hm1]
        rw [cutP_at hm1]
        simpa using h
  rw [cutP, key, extract_all]

theorem scan_at {p : UInt8 → Bool} {s : ByteArray} {i : Nat} (hi : i ≤ s.size) (h : scan p s i < s.size) : p s[scan p s i] = false := by
  induction hn : s.size - i generalizing i with
  | zero =>
    have : i = s.size := by omega
    have := scan_ge p s i
    omega
  | succ n ih =>
    have hi2 : i < s.size := by omega
    cases hp : p s[i] with
    | true =>
      have e := scan_step hi2 hp
      have h' : scan p s (i + 1) < s.size := by omega
      have := ih (by omega) h' (by omega)
      simp only [e] at this
      exact this
    | false =>
      have e := scan_stop hi2 hp
      simp only [e]
      exact hp

end Go.Proofs.Yteeheehoaklnbaa
namespace Go.Proofs.Yteeheehoaklnbaa

theorem scan_uniq {p : UInt8 → Bool} {s : ByteArray} : ∀ (n i j : Nat), j = i + n → j ≤ s.size → (∀ k, i ≤ k → k < j → (hk : k < s.size) → p s[k] = true) → (∀ h : j < s.size, p s[j] = false) → scan p s i = j
  | 0, i, j, e, hj, _, h2 => by
    obtain rfl : j = i := by omega
    by_cases h : j < s.size
    · exact scan_stop h (h2 h)
    · exact scan_end (by omega)
  | n + 1, i, j, e, hj, h1, h2 => by
    have hi : i < s.size := by omega
    rw [← scan_step hi (h1 i (Nat.le_refl _) (by omega) hi)]
    exact scan_uniq n (i + 1) j (by omega) hj (fun k h3 h4 => h1 k (by omega) h4) h2
theorem scan_within {p : UInt8 → Bool} {s : ByteArray} {i k : Nat} (h0 : i ≤ k) (h1 : k < scan p s i) (hk : k < s.size) : p s[k] = true :=
  scan_all (k - i) i k (by omega) h1 hk
theorem ext_at {s : ByteArray} {a b i : Nat} (hb : b ≤ s.size) (h : a + i < b) : (s.extract a b)[i]'(by simp; omega) = s[a + i]'(by omega) := ByteArray.getElem_extract (by simp; omega)
/-- A run within a piece, whose next byte is none of the run. -/
theorem scan_piece {p : UInt8 → Bool} {s : ByteArray} {a b i : Nat} (hb : b ≤ s.size) (hi : a + i ≤ b) (hn : ∀ h : b < s.size, p s[b] = false) : scan p s (a + i) = a + scan p (s.extract a b) i := by
  have hz : (s.extract a b).size = b - a := by simp; omega
  have h1 := scan_ge p (s.extract a b) i
  have h2 := scan_le p (s.extract a b) i (by omega)
  refine scan_uniq (scan p (s.extract a b) i - i) (a + i) _ (by omega) (by omega) (fun k h3 h4 hk => ?_) fun h => ?_
  · have := scan_within (p := p) (s := s.extract a b) (i := i) (k := k - a) (by omega) (by omega) (by omega)
    rw [ext_at hb (by omega)] at this
    have e : a + (k - a) = k := by omega
    simp only [e] at this
    exact this
  · by_cases e : a + scan p (s.extract a b) i = b
    · have : ∀ (j : Nat) (hj : j < s.size), j = b → p s[j] = false := fun j hj e => by subst e; exact hn hj
      exact this _ h e
    · have := scan_at (p := p) (s := s.extract a b) (i := i) (by omega) (by omega)
      rw [ext_at hb (by omega)] at this
      exact this
theorem scan_suf (p : UInt8 → Bool) (s : ByteArray) {k i : Nat} (hk : k + i ≤ s.size) : scan p s (k + i) = k + scan p (s.extract k s.size) i :=
  scan_piece (Nat.le_refl _) hk fun h => absurd h (Nat.lt_irrefl _)
theorem scan_suf0 (p : UInt8 → Bool) (s : ByteArray) {k : Nat} (hk : k ≤ s.size) : scan p s k = k + scan p (s.extract k s.size) 0 := scan_suf p s (i := 0) hk
theorem sufx_suf (s : ByteArray) {k i : Nat} (_hk : k + i ≤ s.size) : (s.extract k s.size).extract i (s.extract k s.size).size = s.extract (k + i) s.size := by
  have hz : (s.extract k s.size).size = s.size - k := by simp
  rw [hz, ByteArray.extract_extract]
  congr 1
  omega
theorem sufx_head (s : ByteArray) {k i : Nat} (hk : k + i ≤ s.size) : (s.extract k s.size).extract 0 i = s.extract k (k + i) := by
  rw [ByteArray.extract_extract]
  congr 1
  omega

/-- Whether a sign stands at a place. -/
def atB (s : ByteArray) (k : Nat) (c : UInt8) : Bool := decide (k < s.size) && s[k]! == c
theorem atB_in {s : ByteArray} {k : Nat} {c : UInt8} (h : atB s k c = true) : k < s.size := by
  unfold atB at h
  simp only [Bool.and_eq_true, decide_eq_true_eq] at h
  exact h.1
theorem atB_at {s : ByteArray} {k : Nat} {c : UInt8} (h : k < s.size) : atB s k c = (s[k] == c) := by
  unfold atB
  rw [getElem!_pos s k h, decide_eq_true h, Bool.true_and]
theorem atB_out {s : ByteArray} {k : Nat} {c : UInt8} (h : s.size ≤ k) : atB s k c = false := by
  unfold atB
  rw [decide_eq_false (by omega), Bool.false_and]
theorem pref_one {s : ByteArray} {k : Nat} (c : UInt8) (hk : k ≤ s.size) : prefB (s.extract k s.size) ⟨#[c]⟩ = atB s k c := by
  have hz : (s.extract k s.size).size = s.size - k := by simp
  have h1 : (⟨#[c]⟩ : ByteArray).size = 1 := rfl
  by_cases h : k < s.size
  · rw [atB_at h]
    unfold prefB
    rw [h1, hz, decide_eq_true (by omega), Bool.true_and, sufx_head s (i := 1) (by omega)]
    have e : s.extract k (k + 1) = ⟨#[s[k]]⟩ := by
      apply ByteArray.ext
      apply Array.ext
      · simp; omega
      · intro i h3 h4
        have h5 : i < (s.extract k (k + 1)).size := by simpa using h3
        obtain rfl : i = 0 := by simp at h5; omega
        have := ext_at (s := s) (a := k) (b := k + 1) (i := 0) (by omega) (by omega)
        exact this
    rw [e, Lib.toList_data, Lib.toList_data]
    show ([s[k]] == [c]) = (s[k] == c)
    simp
  · rw [atB_out (by omega)]
    unfold prefB
    rw [h1, hz, decide_eq_false (by omega), Bool.false_and]

end Go.Proofs.Yteeheehoaklnbaa
namespace Go.Proofs.Yteeheehoaklnbaa

abbrev htpS : ByteArray := ⟨#[72, 84, 84, 80, 47]⟩
def blaB (b : UInt8) : Bool := b.toNat == 32
def clsZ (n : Int) : Int := if n < 100 ∨ 999 < n then 0 else n / 100
def verB (n : Int) : Bool := decide (0 ≤ n) && decide (n ≤ 9)
def bgtB (r : ByteArray) : Bool := !(r.toList == []) && tabB r[0]!
def reaB (r : ByteArray) : Bool := allB quoB r && !bgtB r && (cutP tabB r).toList == r.toList
/-- Which status is good. -/
def stgQ (a b c : Int) (r : ByteArray) : Bool := verB a && verB b && clsZ c != 0 && reaB r

theorem clsZ_range (n : Int) : 0 ≤ clsZ n ∧ clsZ n ≤ 9 := by
  unfold clsZ
  split <;> omega
theorem clsZ_pos (n : Int) : clsZ n ≠ 0 ↔ 100 ≤ n ∧ n ≤ 999 := by
  unfold clsZ
  split <;> omega
theorem verB_range {n : Int} : verB n = true ↔ 0 ≤ n ∧ n ≤ 9 := by
  unfold verB
  simp

theorem cut_back {p : UInt8 → Bool} {r : ByteArray} {m : Nat} (hm : r.size = m + 1) : ((cutP p r).toList == r.toList) = !p (r[m]'(by omega)) := by
  have hs := cutP_size p r
  rw [hm] at hs
  cases hp : p (r[m]'(by omega))
  · rw [backN_stop (by omega) hp] at hs
    have e : cutP p r = r := by
      unfold cutP
      rw [hm, backN_stop (by omega) hp, ← hm, extract_all]
    rw [e]
    exact beq_self_eq_true _
  · rw [backN_step (by omega) hp] at hs
    have hl := backN_le p r m
    show _ = false
    rw [beq_eq_false_iff_ne]
    intro h
    have := congrArg List.length h
    rw [toList_size, toList_size] at this
    omega
theorem cut_back0 {p : UInt8 → Bool} {r : ByteArray} (hm : r.size = 0) : ((cutP p r).toList == r.toList) = true := by
  have hb : backN p r r.size = r.size := by rw [hm]; rfl
  have e : cutP p r = r := by
    unfold cutP
    rw [hb]
    exact extract_all r
  rw [e]
  exact beq_self_eq_true _

theorem cut_end {p : UInt8 → Bool} (s : ByteArray) {m : Nat} (hm : (cutP p s).size = m + 1) : p ((cutP p s)[m]'(by omega)) = false := by
  have h := cut_back (p := p) hm
  rw [cutP_cutP, beq_self_eq_true] at h
  simpa using h.symm

/-- The places of a status line. -/
def laC (t : ByteArray) : Nat := scan blaB t 8
def laD (t : ByteArray) : Nat := scan digB t (laC t)
def laE (t : ByteArray) : Nat := scan tabB t (laD t)
def lnA (t : ByteArray) : Int := (numK (t.extract 5 6) 1 : Nat)
def lnB (t : ByteArray) : Int := (numK (t.extract 7 8) 1 : Nat)
def lnC (t : ByteArray) : Int := (numK (t.extract (laC t) (laC t + 3)) 3 : Nat)
def lnR (t : ByteArray) : ByteArray := t.extract (laE t) t.size

/-- What a status line says, or where it is thrown. -/
def linO (t : ByteArray) : Except Nat (Int × Int × Int × ByteArray) :=
  if prefB t htpS = false then .error 0
  else if scan digB t 5 ≠ 6 then .error (scan digB t 5)
  else if atB t 6 46 = false then .error 6
  else if scan digB t 7 ≠ 8 then .error (scan digB t 7)
  else if laC t = 8 then .error 8
  else if laD t ≠ laC t + 3 then .error (laD t)
  else if laD t ≠ t.size ∧ atB t (laD t) 32 = false then .error (laD t)
  else if stgQ (lnA t) (lnB t) (lnC t) (lnR t) = false then .error t.size
  else .ok (lnA t, lnB t, lnC t, lnR t)

theorem lin_1 {t : ByteArray} (h1 : prefB t htpS = false) : linO t = .error 0 := if_pos h1
theorem lin_2 {t : ByteArray} (h1 : prefB t htpS = true) (h2 : scan digB t 5 ≠ 6) : linO t = .error (scan digB t 5) := by
  unfold linO
  rw [if_neg (by rw [h1]; decide), if_pos h2]
theorem lin_3 {t : ByteArray} (h1 : prefB t htpS = true) (h2 : scan digB t 5 = 6) (h3 : atB t 6 46 = false) : linO t = .error 6 := by
  unfold linO
  rw [if_neg (by rw [h1]; decide), if_neg (by omega), if_pos h3]
theorem lin_4 {t : ByteArray} (h1 : prefB t htpS = true) (h2 : scan digB t 5 = 6) (h3 : atB t 6 46 = true) (h4 : scan digB t 7 ≠ 8) : linO t = .error (scan digB t 7) := by
  unfold linO
  rw [if_neg (by rw [h1]; decide), if_neg (by omega), if_neg (by rw [h3]; decide), if_pos h4]
theorem lin_5 {t : ByteArray} (h1 : prefB t htpS = true) (h2 : scan digB t 5 = 6) (h3 : atB t 6 46 = true) (h4 : scan digB t 7 = 8) (h5 : laC t = 8) : linO t = .error 8 := by
  unfold linO
  rw [if_neg (by rw [h1]; decide), if_neg (by omega), if_neg (by rw [h3]; decide), if_neg (by omega), if_pos h5]
theorem lin_6 {t : ByteArray} (h1 : prefB t htpS = true) (h2 : scan digB t 5 = 6) (h3 : atB t 6 46 = true) (h4 : scan digB t 7 = 8) (h5 : laC t ≠ 8) (h6 : laD t ≠ laC t + 3) : linO t = .error (laD t) := by
  unfold linO
  rw [if_neg (by rw [h1]; decide), if_neg (by omega), if_neg (by rw [h3]; decide), if_neg (by omega), if_neg h5, if_pos h6]
theorem lin_7 {t : ByteArray} (h1 : prefB t htpS = true) (h2 : scan digB t 5 = 6) (h3 : atB t 6 46 = true) (h4 : scan digB t 7 = 8) (h5 : laC t ≠ 8) (h6 : laD t = laC t + 3) (h7 : laD t ≠ t.size) (h8 : atB t (laD t) 32 = false) : linO t = .error (laD t) := by
  unfold linO
  rw [if_neg (by rw [h1]; decide), if_neg (by omega), if_neg (by rw [h3]; decide), if_neg (by omega), if_neg h5, if_neg (by omega), if_pos ⟨h7, h8⟩]
theorem lin_8 {t : ByteArray} (h1 : prefB t htpS = true) (h2 : scan digB t 5 = 6) (h3 : atB t 6 46 = true) (h4 : scan digB t 7 = 8) (h5 : laC t ≠ 8) (h6 : laD t = laC t + 3) (h7 : laD t = t.size ∨ atB t (laD t) 32 = true) : linO t = if stgQ (lnA t) (lnB t) (lnC t) (lnR t) = false then .error t.size else .ok (lnA t, lnB t, lnC t, lnR t) := by
  unfold linO
  have h8 : ¬(laD t ≠ t.size ∧ atB t (laD t) 32 = false) := by
    rintro ⟨h8, h9⟩
    rcases h7 with h7 | h7
    · exact h8 h7
    · rw [h7] at h9; cases h9
  rw [if_neg (by rw [h1]; decide), if_neg (by omega), if_neg (by rw [h3]; decide), if_neg (by omega), if_neg h5, if_neg (by omega), if_neg h8]

theorem lin_yes {t : ByteArray} {v : Int × Int × Int × ByteArray} (h : linO t = .ok v) : v = (lnA t, lnB t, lnC t, lnR t) ∧ prefB t htpS = true ∧ scan digB t 5 = 6 ∧ atB t 6 46 = true ∧ scan digB t 7 = 8 ∧ laC t ≠ 8 ∧ laD t = laC t + 3 ∧ (laD t = t.size ∨ atB t (laD t) 32 = true) ∧ stgQ (lnA t) (lnB t) (lnC t) (lnR t) = true := by
  cases h1 : prefB t htpS
  · rw [lin_1 h1] at h; cases h
  by_cases h2 : scan digB t 5 = 6
  rotate_left
  · rw [lin_2 h1 h2] at h; cases h
  cases h3 : atB t 6 46
  · rw [lin_3 h1 h2 h3] at h; cases h
  by_cases h4 : scan digB t 7 = 8
  rotate_left
  · rw [lin_4 h1 h2 h3 h4] at h; cases h
  by_cases h5 : laC t = 8
  · rw [lin_5 h1 h2 h3 h4 h5] at h; cases h
  by_cases h6 : laD t = laC t + 3
  rotate_left
  · rw [lin_6 h1 h2 h3 h4 h5 h6] at h; cases h
  have h7 : laD t = t.size ∨ atB t (laD t) 32 = true := by
    by_cases h7 : laD t = t.size
    · exact .inl h7
    · cases h8 : atB t (laD t) 32
      · rw [lin_7 h1 h2 h3 h4 h5 h6 h7 h8] at h; cases h
      · exact .inr rfl
  rw [lin_8 h1 h2 h3 h4 h5 h6 h7] at h
  cases h8 : stgQ (lnA t) (lnB t) (lnC t) (lnR t)
  · rw [if_pos h8] at h; cases h
  · rw [if_neg (by rw [h8]; decide)] at h
    cases h
    exact ⟨rfl, rfl, h2, rfl, h4, h5, h6, h7, rfl⟩

theorem numK_lt {x : ByteArray} (h : ∀ j (hj : j < x.size), digB x[j] = true) : ∀ k, k ≤ x.size → numK x k < 10 ^ k
  | 0, _ => by rw [numK_zero]; decide
  | k + 1, hk => by
    have h1 := numK_lt h k (by omega)
    have h2 := digB_range (h k (by omega))
    rw [numK_succ (by omega), Nat.pow_succ]
    omega
theorem num1_ext {t : ByteArray} {k : Nat} (h : k < t.size) : numK (t.extract k (k + 1)) 1 = t[k].toNat - 48 := by
  have hz : (t.extract k (k + 1)).size = 1 := by simp; omega
  rw [numK_succ (by omega), numK_zero, ext_at (by omega) (by omega)]
  simp
theorem num3_ext {t : ByteArray} {k : Nat} (h : k + 2 < t.size) : numK (t.extract k (k + 3)) 3 = 100 * (t[k].toNat - 48) + 10 * (t[k + 1].toNat - 48) + (t[k + 2].toNat - 48) := by
  have hz : (t.extract k (k + 3)).size = 3 := by simp; omega
  rw [numK_succ (by omega), numK_succ (by omega), numK_succ (by omega), numK_zero, ext_at (by omega) (by omega), ext_at (by omega) (by omega), ext_at (by omega) (by omega)]
  simp only [Nat.add_zero]
  omega

theorem scan_two {p : UInt8 → Bool} {t : ByteArray} {k : Nat} (h : k < t.size) (h1 : p t[k] = true) (h2 : ∀ hk : k + 1 < t.size, p t[k + 1] = false) : scan p t k = k + 1 :=
  scan_uniq 1 k (k + 1) rfl (by omega) (fun j h3 h4 hj => by
    obtain rfl : j = k := by omega
    exact h1) h2

/-- What the document asks of a status line. -/
structure LinD (t : ByteArray) : Prop where
  pre : prefB t htpS = true
  size : 12 ≤ t.size
  d5 : digB t[5]! = true
  d6 : t[6]! = 46
  d7 : digB t[7]! = true
  d8 : t[8]! = 32
  run : 3 ≤ runD (t.extract (laC t) t.size)
  first : t[laC t]! ≠ 48
  gap : laC t + 3 = t.size ∨ t[laC t + 3]! = 32
  quo : allB quoB (t.extract (scan tabB t (laC t + 3)) t.size) = true

theorem lin_doc {t : ByteArray} {v : Int × Int × Int × ByteArray} (h : linO t = .ok v) : LinD t := by
  obtain ⟨_, h1, h2, h3, h4, h5, h6, h7, h8⟩ := lin_yes h
  have hp : 5 ≤ t.size := by
    unfold prefB at h1
    simp only [Bool.and_eq_true, decide_eq_true_eq] at h1
    exact h1.1
  have g6 := atB_in h3
  have g7 : 7 < t.size := by
    by_cases hn : t.size = 7
    · rw [scan_end hn.symm] at h4; omega
    · omega
  have g8 : 8 < t.size := by
    by_cases hn : t.size = 8
    · unfold laC at h5; rw [scan_end hn.symm] at h5; omega
    · omega
  have b8 : blaB t[8] = true := by
    cases hb : blaB t[8]
    · unfold laC at h5; rw [scan_stop g8 hb] at h5; omega
    · rfl
  have c1 : 8 ≤ laC t := scan_ge _ _ _
  have c2 : laC t ≤ t.size := scan_le _ _ _ (by omega)
  have c3 : laD t ≤ t.size := scan_le _ _ _ c2
  have q5 : digB t[5] = true := scan_within (p := digB) (i := 5) (Nat.le_refl _) (by omega) (by omega)
  have q7 : digB t[7] = true := scan_within (p := digB) (i := 7) (Nat.le_refl _) (by omega) (by omega)
  have e6 : t[6] = 46 := by rw [atB_at g6] at h3; simpa using h3
  have e8 : t[8] = 32 := by
    have := bytes_all (p := fun b => !blaB b || b == 32) (by kernel_rfl) t[8]
    rw [b8] at this
    simpa using this
  have hD : laD t = laC t + runD (t.extract (laC t) t.size) := scan_suf0 digB t c2
  have hC : laC t + 2 < t.size := by omega
  have hR : laE t = scan tabB t (laC t + 3) := by unfold laE; rw [h6]
  unfold stgQ at h8
  simp only [Bool.and_eq_true, bne_iff_ne] at h8
  refine ⟨h1, by omega, by rw [getElem!_pos t 5 (by omega)]; exact q5, by rw [getElem!_pos t 6 (by omega)]; exact e6, by rw [getElem!_pos t 7 (by omega)]; exact q7, by rw [getElem!_pos t 8 (by omega)]; exact e8, by omega, ?_, ?_, ?_⟩
  · rw [getElem!_pos t (laC t) (by omega)]
    intro hf
    have h9 := (clsZ_pos _).1 h8.1.2
    unfold lnC at h9
    rw [num3_ext hC, hf] at h9
    have q1 := digB_range (scan_within (p := digB) (i := laC t) (s := t) (k := laC t + 1) (by omega) (by show _ < laD t; omega) (by omega))
    have q2 := digB_range (scan_within (p := digB) (i := laC t) (s := t) (k := laC t + 2) (by omega) (by show _ < laD t; omega) (by omega))
    have z : (48 : UInt8).toNat = 48 := rfl
    omega
  · rw [h6] at h7
    rcases h7 with h7 | h7
    · exact .inl h7
    · have := atB_in h7
      rw [atB_at this] at h7
      rw [getElem!_pos t (laC t + 3) this]
      exact .inr (by simpa using h7)
  · have := h8.2
    unfold reaB lnR at this
    rw [hR] at this
    simp only [Bool.and_eq_true] at this
    exact this.1.1

theorem lin_of_doc {s t : ByteArray} (ht : t = cutP tabB s) (h : LinD t) : linO t = .ok ((t[5]!.toNat : Int) - 48, (t[7]!.toNat : Int) - 48, 100 * ((t[laC t]!.toNat : Int) - 48) + 10 * ((t[laC t + 1]!.toNat : Int) - 48) + ((t[laC t + 2]!.toNat : Int) - 48), t.extract (scan tabB t (laC t + 3)) t.size) := by
  obtain ⟨h1, hz, h5, h6, h7, h8, hr, hf, hg, hq⟩ := h
  rw [getElem!_pos t 5 (by omega)] at h5 ⊢
  rw [getElem!_pos t 6 (by omega)] at h6
  rw [getElem!_pos t 7 (by omega)] at h7 ⊢
  rw [getElem!_pos t 8 (by omega)] at h8
  have c1 : 8 ≤ laC t := scan_ge _ _ _
  have c2 : laC t ≤ t.size := scan_le _ _ _ (by omega)
  have hD : laD t = laC t + runD (t.extract (laC t) t.size) := scan_suf0 digB t c2
  have c3 : laD t ≤ t.size := scan_le _ _ _ c2
  have c5 : laC t ≠ 8 := by
    have : blaB t[8] = true := by rw [h8]; rfl
    have e : scan blaB t 9 = scan blaB t 8 := scan_step (p := blaB) (s := t) (by omega) this
    have g := scan_ge blaB t 9
    show scan blaB t 8 ≠ 8
    omega
  have q0 := digB_range (scan_within (p := digB) (i := laC t) (s := t) (k := laC t) (by omega) (by show _ < laD t; omega) (by omega))
  have q1 := digB_range (scan_within (p := digB) (i := laC t) (s := t) (k := laC t + 1) (by omega) (by show _ < laD t; omega) (by omega))
  have q2 := digB_range (scan_within (p := digB) (i := laC t) (s := t) (k := laC t + 2) (by omega) (by show _ < laD t; omega) (by omega))
  rw [getElem!_pos t (laC t) (by omega)] at hf ⊢
  rw [getElem!_pos t (laC t + 1) (by omega), getElem!_pos t (laC t + 2) (by omega)]
  have r5 := digB_range h5
  have r7 := digB_range h7
  have s5 : scan digB t 5 = 6 := scan_two (by omega) h5 fun hk => by show digB t[6] = false; rw [h6]; decide
  have s6 : atB t 6 46 = true := by rw [atB_at (by omega), h6]; rfl
  have s7 : scan digB t 7 = 8 := scan_two (by omega) h7 fun hk => by show digB t[8] = false; rw [h8]; decide
  have gap : laC t + 3 = t.size ∨ atB t (laC t + 3) 32 = true := by
    rcases hg with hg | hg
    · exact .inl hg
    · by_cases hn : laC t + 3 = t.size
      · exact .inl hn
      · rw [getElem!_pos t _ (by omega)] at hg
        rw [atB_at (by omega), hg]
        exact .inr rfl
  have sD : laD t = laC t + 3 := by
    by_cases hn : laC t + 3 = t.size
    · omega
    · rcases gap with g | g
      · omega
      · have g1 := atB_in g
        rw [atB_at g1, beq_iff_eq] at g
        by_cases hm : laD t = laC t + 3
        · exact hm
        · have := scan_within (p := digB) (i := laC t) (s := t) (k := laC t + 3) (by omega) (by show _ < laD t; omega) g1
          rw [g] at this
          cases this
  have hE : laE t = scan tabB t (laC t + 3) := by unfold laE; rw [sD]
  have hA : lnA t = (t[5].toNat : Int) - 48 := by unfold lnA; rw [num1_ext (by omega)]; omega
  have hB : lnB t = (t[7].toNat : Int) - 48 := by unfold lnB; rw [num1_ext (by omega)]; omega
  have hC : lnC t = 100 * ((t[laC t].toNat : Int) - 48) + 10 * ((t[laC t + 1].toNat : Int) - 48) + ((t[laC t + 2].toNat : Int) - 48) := by unfold lnC; rw [num3_ext (by omega)]; omega
  have hR : lnR t = t.extract (scan tabB t (laC t + 3)) t.size := by unfold lnR; rw [hE]
  have hgood : stgQ (lnA t) (lnB t) (lnC t) (lnR t) = true := by
    have v1 : verB (lnA t) = true := verB_range.2 (by omega)
    have v2 : verB (lnB t) = true := verB_range.2 (by omega)
    have f48 : t[laC t].toNat ≠ 48 := fun e => hf (UInt8.toNat_inj.1 (by rw [e]; rfl))
    have v3 : (clsZ (lnC t) != 0) = true := bne_iff_ne.2 ((clsZ_pos _).2 (by omega))
    have v4 : reaB (lnR t) = true := by
      rw [hR]
      unfold reaB
      rw [hq, Bool.true_and, Bool.and_eq_true]
      generalize hk : scan tabB t (laC t + 3) = k
      have k1 : k ≤ t.size := by rw [← hk]; exact scan_le _ _ _ (by omega)
      have hz2 : (t.extract k t.size).size = t.size - k := by simp
      constructor
      · unfold bgtB
        by_cases hn : k = t.size
        · have : (t.extract k t.size).toList = [] := List.length_eq_zero_iff.1 (by rw [toList_size]; omega)
          rw [this]
          rfl
        · have h3 := scan_at (p := tabB) (s := t) (i := laC t + 3) (by omega) (by omega)
          simp only [hk] at h3
          rw [getElem!_pos _ 0 (by omega), ext_at (by omega) (by omega)]
          simp only [Nat.add_zero]
          rw [h3, Bool.and_false]
          rfl
      · by_cases hn : k = t.size
        · exact cut_back0 (by omega)
        · obtain ⟨m, hm⟩ : ∃ m, t.size = m + 1 := ⟨t.size - 1, by omega⟩
          have hl : tabB (t[m]'(by omega)) = false := by subst ht; exact cut_end s hm
          have hm2 : (t.extract k t.size).size = (m - k) + 1 := by omega
          rw [cut_back hm2, ext_at (by omega) (by omega)]
          have e : k + (m - k) = m := by omega
          simp only [e]
          rw [hl]
          rfl
    unfold stgQ
    rw [v1, v2, v3, v4]
    rfl
  rw [lin_8 h1 s5 s6 s7 c5 sD (by rw [sD]; exact gap), if_neg (by rw [hgood]; decide), hA, hB, hC, hR]

end Go.Proofs.Yteeheehoaklnbaa
