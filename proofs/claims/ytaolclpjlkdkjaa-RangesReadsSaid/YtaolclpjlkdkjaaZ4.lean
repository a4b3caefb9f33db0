/-
  Plain facts on texts, as layer 3 turns them: small letters, what is cut at the ends. No condition.
  Plain facts on layer 24's texts: where a run of bytes ends, the unit, what is asked for (askO). No condition.
  What package cursor's New, At, Left, End, Peek, Take, Next, Rest, Back and U32 do, over a cursor of its own block, and over none. Conditions: the place lies in the text, and the text is no longer than a length can be.
-/
import Derived.Test.YtaolclpjlkdkjaaZ1
import Derived.Lib.Strings
import Derived.Test.YtaolclpjlkdkjaaZ3
import Derived.Lib.Hide
import Derived.Test.YtaolclpjlkdkjaaZ2
import Derived.RegionTactic
import Derived.BigRegion
import Derived.Deep.QuietTactic
import Derived.BigQuiet
import Derived.Outline
import Derived.Deep.RegionHeld3
import Derived.StillTailTactics
import Derived.IntWalk
namespace Go.Proofs.Ytaolclpjlkdkjaa

/-- Small letters in place of great ones. -/
def lowS (s : ByteArray) : ByteArray := ⟨s.data.map lowB⟩
theorem lowS_size (s : ByteArray) : (lowS s).size = s.size := by
  show (s.data.map lowB).size = s.data.size
  simp
theorem lowS_at (s : ByteArray) (i : Nat) (h : i < s.size) : (lowS s)[i]'(by rw [lowS_size]; exact h) = lowB s[i] := by
  exact Array.getElem_map (f := lowB) (xs := s.data) (i := i) (hi := by simpa using h)

/-- Whether two texts are one, in small letters. -/
def sameB (a b : ByteArray) : Bool := (lowS a).toList == (lowS b).toList
theorem toList_size (a : ByteArray) : a.toList.length = a.size := by
  rw [Lib.toList_data]
  exact (Lib.size_eq a).symm
theorem sameB_size {a b : ByteArray} (h : a.size ≠ b.size) : sameB a b = false := by
  unfold sameB
  rw [beq_eq_false_iff_ne]
  intro e
  have := congrArg List.length e
  rw [toList_size, toList_size, lowS_size, lowS_size] at this
  exact h this
theorem sameB_not {a b : ByteArray} {i : Nat} (ha : i < a.size) (hb : i < b.size) (h : lowB a[i] ≠ lowB b[i]) : sameB a b = false := by
  unfold sameB
  rw [beq_eq_false_iff_ne]
  intro e
  rw [Lib.toList_data, Lib.toList_data] at e
  have e2 : lowS a = lowS b := by
    have := Array.toList_inj.1 e
    generalize lowS a = x at *
    generalize lowS b = y at *
    cases x; cases y
    simp at this
    rw [this]
  apply h
  rw [← lowS_at a i ha, ← lowS_at b i hb]
  simp [e2]
theorem sameB_all {a b : ByteArray} (hs : a.size = b.size) (h : ∀ i (ha : i < a.size) (hb : i < b.size), lowB a[i] = lowB b[i]) : sameB a b = true := by
  unfold sameB
  rw [beq_iff_eq]
  have : lowS a = lowS b := by
    unfold lowS
    congr 1
    apply Array.ext
    · simpa using hs
    · intro i h1 h2
      simp only [Array.size_map] at h1 h2
      rw [Array.getElem_map, Array.getElem_map]
      exact h i h1 h2
  rw [this]

/-- How many of the first k bytes are left where those that are so are taken from their back. -/
def backN (p : UInt8 → Bool) (s : ByteArray) : Nat → Nat
  | 0 => 0
  | k + 1 => if p s[k]! then backN p s k else k + 1
def cutP (p : UInt8 → Bool) (s : ByteArray) : ByteArray := s.extract 0 (backN p s s.size)
theorem backN_step {p : UInt8 → Bool} {s : ByteArray} {k : Nat} (h : k < s.size) (hp : p s[k] = true) : backN p s (k + 1) = backN p s k := by
  simp only [backN]
  rw [getElem!_pos s k h, if_pos hp]
theorem backN_stop {p : UInt8 → Bool} {s : ByteArray} {k : Nat} (h : k < s.size) (hp : p s[k] = false) : backN p s (k + 1) = k + 1 := by
  simp only [backN]
  rw [getElem!_pos s k h, if_neg (by simp [hp])]
theorem backN_le (p : UInt8 → Bool) (s : ByteArray) : ∀ k, backN p s k ≤ k
  | 0 => Nat.le_refl _
  | k + 1 => by
    have := backN_le p s k
    simp only [backN]
    split <;> omega
theorem backN_at (p : UInt8 → Bool) (s : ByteArray) : ∀ k, backN p s k = 0 ∨ p s[backN p s k - 1]! = false
  | 0 => .inl rfl
  | k + 1 => by
    have := backN_at p s k
    simp only [backN]
    split
    · exact this
    · rename_i h
      right
      simpa using h
theorem extract_at {s : ByteArray} {a b i : Nat} (h : i < (s.extract a b).size) : (s.extract a b)[i]! = s[a + i]! := by
  have h2 : a + i < s.size := by simp at h; omega
  rw [getElem!_pos _ i h, getElem!_pos s _ h2]
  exact ByteArray.getElem_extract h
theorem extract_all (s : ByteArray) : s.extract 0 s.size = s := by simp
theorem extract_head {s : ByteArray} {m n : Nat} (h : n ≤ m) : (s.extract 0 m).extract 0 n = s.extract 0 n := by
  rw [ByteArray.extract_extract]
  congr 1
  omega
theorem cutP_size (p : UInt8 → Bool) (s : ByteArray) : (cutP p s).size = backN p s s.size := by
  have := backN_le p s s.size
  unfold cutP
  simp
  omega
theorem scan_at {p : UInt8 → Bool} {s : ByteArray} {i : Nat} (hi : i ≤ s.size) (h : scan p s i < s.size) : p s[scan p s i] = false := by
  induction hn : s.size - i generalizing i with
  | zero =>
    have : i = s.size := by omega
    have := scan_ge p s i
    omega
  | succ n ih =>
    have hi2 : i < s.size := by omega
    cases hp : p s[i] with
    | true =>
      have e := scan_step hi2 hp
      have h' : scan p s (i + 1) < s.size := by omega
      have := ih (by omega) h' (by omega)
      simp only [e] at this
      exact this
    | false =>
      have e := scan_stop hi2 hp
      simp only [e]
      exact hp

end Go.Proofs.Ytaolclpjlkdkjaa
namespace Go.Proofs.Ytaolclpjlkdkjaa

theorem scan_uniq {p : UInt8 → Bool} {s : ByteArray} : ∀ (n i j : Nat), j = i + n → j ≤ s.size → (∀ k, i ≤ k → k < j → (hk : k < s.size) → p s[k] = true) → (∀ h : j < s.size, p s[j] = false) → scan p s i = j
  | 0, i, j, e, hj, _, h2 => by
    obtain rfl : j = i := by omega
    by_cases h : j < s.size
    · exact scan_stop h (h2 h)
    · exact scan_end (by omega)
  | n + 1, i, j, e, hj, h1, h2 => by
    have hi : i < s.size := by omega
    rw [← scan_step hi (h1 i (Nat.le_refl _) (by omega) hi)]
    exact scan_uniq n (i + 1) j (by omega) hj (fun k h3 h4 => h1 k (by omega) h4) h2
theorem scan_within {p : UInt8 → Bool} {s : ByteArray} {i k : Nat} (h0 : i ≤ k) (h1 : k < scan p s i) (hk : k < s.size) : p s[k] = true :=
  scan_all (k - i) i k (by omega) h1 hk
theorem ext_at {s : ByteArray} {a b i : Nat} (hb : b ≤ s.size) (h : a + i < b) : (s.extract a b)[i]'(by simp; omega) = s[a + i]'(by omega) := ByteArray.getElem_extract (by simp; omega)
/-- A run within a piece, whose next byte is none of the run. -/
theorem scan_piece {p : UInt8 → Bool} {s : ByteArray} {a b i : Nat} (hb : b ≤ s.size) (hi : a + i ≤ b) (hn : ∀ h : b < s.size, p s[b] = false) : scan p s (a + i) = a + scan p (s.extract a b) i := by
  have hz : (s.extract a b).size = b - a := by simp; omega
  have h1 := scan_ge p (s.extract a b) i
  have h2 := scan_le p (s.extract a b) i (by omega)
  refine scan_uniq (scan p (s.extract a b) i - i) (a + i) _ (by omega) (by omega) (fun k h3 h4 hk => ?_) fun h => ?_
  · have := scan_within (p := p) (s := s.extract a b) (i := i) (k := k - a) (by omega) (by omega) (by omega)
    rw [ext_at hb (by omega)] at this
    have e : a + (k - a) = k := by omega
    simp only [e] at this
    exact this
  · by_cases e : a + scan p (s.extract a b) i = b
    · have : ∀ (j : Nat) (hj : j < s.size), j = b → p s[j] = false := fun j hj e => by subst e; exact hn hj
      exact this _ h e
    · have := scan_at (p := p) (s := s.extract a b) (i := i) (by omega) (by omega)
      rw [ext_at hb (by omega)] at this
      exact this
theorem scan_suf (p : UInt8 → Bool) (s : ByteArray) {k i : Nat} (hk : k + i ≤ s.size) : scan p s (k + i) = k + scan p (s.extract k s.size) i :=
  scan_piece (Nat.le_refl _) hk fun h => absurd h (Nat.lt_irrefl _)
theorem scan_suf0 (p : UInt8 → Bool) (s : ByteArray) {k : Nat} (hk : k ≤ s.size) : scan p s k = k + scan p (s.extract k s.size) 0 := scan_suf p s (i := 0) hk
theorem sufx_suf (s : ByteArray) {k i : Nat} (_hk : k + i ≤ s.size) : (s.extract k s.size).extract i (s.extract k s.size).size = s.extract (k + i) s.size := by
  have hz : (s.extract k s.size).size = s.size - k := by simp
  rw [hz, ByteArray.extract_extract]
  congr 1
  omega
theorem sufx_head (s : ByteArray) {k i : Nat} (hk : k + i ≤ s.size) : (s.extract k s.size).extract 0 i = s.extract k (k + i) := by
  rw [ByteArray.extract_extract]
  congr 1
  omega

/-- Whether a sign stands at a place. -/
def atB (s : ByteArray) (k : Nat) (c : UInt8) : Bool := decide (k < s.size) && s[k]! == c
theorem atB_in {s : ByteArray} {k : Nat} {c : UInt8} (h : atB s k c = true) : k < s.size := by
  unfold atB at h
  simp only [Bool.and_eq_true, decide_eq_true_eq] at h
  exact h.1
theorem atB_at {s : ByteArray} {k : Nat} {c : UInt8} (h : k < s.size) : atB s k c = (s[k] == c) := by
  unfold atB
  rw [getElem!_pos s k h, decide_eq_true h, Bool.true_and]
theorem atB_out {s : ByteArray} {k : Nat} {c : UInt8} (h : s.size ≤ k) : atB s k c = false := by
  unfold atB
  rw [decide_eq_false (by omega), Bool.false_and]
theorem pref_one {s : ByteArray} {k : Nat} (c : UInt8) (hk : k ≤ s.size) : prefB (s.extract k s.size) ⟨#[c]⟩ = atB s k c := by
  have hz : (s.extract k s.size).size = s.size - k := by simp
  have h1 : (⟨#[c]⟩ : ByteArray).size = 1 := rfl
  by_cases h : k < s.size
  · rw [atB_at h]
    unfold prefB
    rw [h1, hz, decide_eq_true (by omega), Bool.true_and, sufx_head s (i := 1) (by omega)]
    have e : s.extract k (k + 1) = ⟨#[s[k]]⟩ := by
      apply ByteArray.ext
      apply Array.ext
      · simp; omega
      · intro i h3 h4
        have h5 : i < (s.extract k (k + 1)).size := by simpa using h3
        obtain rfl : i = 0 := by simp at h5; omega
        have := ext_at (s := s) (a := k) (b := k + 1) (i := 0) (by omega) (by omega)
        exact this
    rw [e, Lib.toList_data, Lib.toList_data]
    show ([s[k]] == [c]) = (s[k] == c)
    simp
  · rw [atB_out (by omega)]
    unfold prefB
    rw [h1, hz, decide_eq_false (by omega), Bool.false_and]

/-- The unit. -/
abbrev bytS : ByteArray := ⟨#[98, 121, 116, 101, 115]⟩
/-- Whether the letters that come next are the unit. -/
def isUnit (s : ByteArray) (k : Nat) : Bool := sameB (s.extract k (scan letB s k)) bytS
/-- The same, as the document says it. -/
def unitD (s : ByteArray) (k : Nat) : Bool := decide (k + 5 ≤ s.size) && ((lowS (s.extract k (k + 5))).toList == bytS.toList) && (decide (s.size ≤ k + 5) || !letB s[k + 5]!)
theorem bytS_low : lowS bytS = bytS := by kernel_rfl
theorem sameB_byt (x : ByteArray) : sameB x bytS = ((lowS x).toList == bytS.toList) := by
  unfold sameB
  rw [bytS_low]
theorem letB_lowB (b : UInt8) : letB (lowB b) = letB b := by
  have := bytes_all (p := fun b => letB (lowB b) == letB b) (by kernel_rfl) b
  exact eq_of_beq this
theorem low_byt_letters {x : ByteArray} (h : ((lowS x).toList == bytS.toList) = true) : x.size = 5 ∧ ∀ i (hi : i < x.size), letB x[i] = true := by
  have e := eq_of_beq h
  have hz : x.size = 5 := by
    have := congrArg List.length e
    rw [toList_size, lowS_size] at this
    exact this.trans (toList_size bytS)
  have e2 : lowS x = bytS := by
    rw [Lib.toList_data, Lib.toList_data] at e
    have := Array.toList_inj.1 e
    generalize lowS x = y at *
    cases y
    simp at this
    rw [this]
  refine ⟨hz, fun i hi => ?_⟩
  rw [← letB_lowB, ← lowS_at x i hi]
  have hall : ∀ j (hj : j < bytS.size), letB bytS[j] = true := by decide
  have h2 : ∀ (y : ByteArray) (hy : i < y.size), y = bytS → letB y[i] = true := fun y hy e => by subst e; exact hall i hy
  exact h2 _ _ e2
theorem isUnit_eq {s : ByteArray} {k : Nat} (hk : k ≤ s.size) : isUnit s k = unitD s k := by
  have g1 := scan_ge letB s k
  have g2 := scan_le letB s k hk
  rw [Bool.eq_iff_iff]
  unfold isUnit unitD
  rw [sameB_byt]
  constructor
  · intro h
    have hz := (low_byt_letters h).1
    have hz2 : (s.extract k (scan letB s k)).size = scan letB s k - k := by simp; omega
    have e : scan letB s k = k + 5 := by omega
    rw [e] at h
    rw [h, decide_eq_true (by omega), Bool.and_true, Bool.true_and, Bool.or_eq_true]
    by_cases h5 : s.size ≤ k + 5
    · exact .inl (decide_eq_true h5)
    · right
      have := scan_at (p := letB) hk (by omega)
      rw [getElem!_pos s (k + 5) (by omega)]
      have h6 : ∀ (j : Nat) (hj : j < s.size), j = k + 5 → letB s[j] = false → (!letB (s[k + 5]'(by omega))) = true := fun j hj e h => by subst e; rw [h]; rfl
      exact h6 _ (by omega) e this
  · intro h
    simp only [Bool.and_eq_true, decide_eq_true_eq, Bool.or_eq_true] at h
    obtain ⟨⟨h5, hl⟩, hn⟩ := h
    have hlet := (low_byt_letters hl).2
    have e : scan letB s k = k + 5 := by
      refine scan_uniq 5 k _ rfl h5 (fun j h3 h4 hj => ?_) fun hj => ?_
      · have := hlet (j - k) (by simp; omega)
        rw [ext_at (by omega) (by omega)] at this
        have e : k + (j - k) = j := by omega
        simp only [e] at this
        exact this
      · rcases hn with hn | hn
        · omega
        · rw [getElem!_pos s (k + 5) hj] at hn
          simpa using hn
    rw [e]
    exact hl
theorem unit_five {s : ByteArray} {k : Nat} (_hk : k ≤ s.size) (h : isUnit s k = true) : scan letB s k = k + 5 ∧ k + 5 ≤ s.size := by
  have g1 := scan_ge letB s k
  have g2 := scan_le letB s k _hk
  unfold isUnit at h
  rw [sameB_byt] at h
  have hz := (low_byt_letters h).1
  have hz2 : (s.extract k (scan letB s k)).size = scan letB s k - k := by simp; omega
  omega

theorem isUnit_suf {s : ByteArray} {k : Nat} (hk : k ≤ s.size) : isUnit s k = isUnit (s.extract k s.size) 0 := by
  have g2 := scan_le letB s k hk
  have g1 := scan_ge letB s k
  have e := scan_suf0 letB s hk
  unfold isUnit
  rw [e, sufx_head s (by omega)]

/-- The number whose digits a text is; -1 of none; none of one that is too great. -/
def numP (x : ByteArray) : Option Int := if x.size = 0 then some (-1) else if numK x x.size ≤ 9007199254740991 then some ((numK x x.size : Nat) : Int) else none
theorem numP_empty {x : ByteArray} (h : x.size = 0) : numP x = some (-1) := by unfold numP; rw [if_pos h]
theorem numP_ok {x : ByteArray} (h0 : x.size ≠ 0) (h : numK x x.size ≤ 9007199254740991) : numP x = some ((numK x x.size : Nat) : Int) := by unfold numP; rw [if_neg h0, if_pos h]
theorem numP_great {x : ByteArray} (h0 : x.size ≠ 0) (h : ¬numK x x.size ≤ 9007199254740991) : numP x = none := by unfold numP; rw [if_neg h0, if_neg h]
theorem numP_in {x : ByteArray} {n : Int} (h : numP x = some n) : -1 ≤ n ∧ n ≤ 9007199254740991 := by
  unfold numP at h
  split at h
  · cases h; omega
  · split at h
    · cases h; omega
    · cases h
theorem run_digits {s : ByteArray} {k : Nat} (hk : k ≤ s.size) : allB digB (s.extract k (scan digB s k)) = true := allB_yes fun j hj => by
  have g1 := scan_ge digB s k
  have g2 := scan_le digB s k hk
  have hz : (s.extract k (scan digB s k)).size = scan digB s k - k := by simp; omega
  rw [ext_at g2 (by omega)]
  exact scan_within (i := k) (by omega) (by omega) (by omega)
theorem run_size {p : UInt8 → Bool} {s : ByteArray} {k : Nat} (hk : k ≤ s.size) : (s.extract k (scan p s k)).size = scan p s k - k := by
  have g2 := scan_le p s k hk
  simp
  omega

/-- Where the unit begins, where a sign is looked for behind it, and so on. -/
def aA (s : ByteArray) : Nat := scan tabB s 0
def aU (s : ByteArray) : Nat := scan letB s (aA s)
def aB (s : ByteArray) : Nat := scan tabB s (aU s)
def aC (s : ByteArray) : Nat := scan tabB s (aB s + 1)
def aD (s : ByteArray) : Nat := scan digB s (aC s)
def aE (s : ByteArray) : Nat := scan tabB s (aD s)
def aF (s : ByteArray) : Nat := scan tabB s (aE s + 1)
def aG (s : ByteArray) : Nat := scan digB s (aF s)
def aH (s : ByteArray) : Nat := scan tabB s (aG s)
theorem aA_le (s : ByteArray) : aA s ≤ s.size := scan_le _ _ _ (Nat.zero_le _)
theorem aU_le (s : ByteArray) : aU s ≤ s.size := scan_le _ _ _ (aA_le s)
theorem aB_le (s : ByteArray) : aB s ≤ s.size := scan_le _ _ _ (aU_le s)

/-- What two texts of digits ask for. -/
def askN (x y : Option Int) (at_ : Nat) : Except (Nat × Int) (Int × Int) :=
  match x, y with
  | some a, some b => if b = -1 ∨ a ≤ b then .ok (a, b) else .error (at_, 9)
  | _, _ => .error (0, 9)
/-- What a text asks for, or where it is thrown, and with what code. -/
def askO (s : ByteArray) : Except (Nat × Int) (Int × Int) :=
  if isUnit s (aA s) = false then .error (aU s, 2)
  else if atB s (aB s) 61 = false then .error (aB s, 2)
  else if atB s (aE s) 45 = false then .error (aE s, 2)
  else if aC s = aD s ∧ aF s = aG s then .error (aG s, 2)
  else if aH s ≠ s.size then .error (aH s, 2)
  else askN (numP (s.extract (aC s) (aD s))) (numP (s.extract (aF s) (aG s))) (aH s)
theorem askO_unit {s : ByteArray} (h1 : isUnit s (aA s) = false) : askO s = .error (aU s, 2) := by unfold askO; rw [if_pos h1]
theorem askO_eq {s : ByteArray} (h1 : isUnit s (aA s) = true) (h2 : atB s (aB s) 61 = false) : askO s = .error (aB s, 2) := by
  unfold askO; rw [if_neg (by rw [h1]; decide), if_pos h2]
theorem askO_minus {s : ByteArray} (h1 : isUnit s (aA s) = true) (h2 : atB s (aB s) 61 = true) (h3 : atB s (aE s) 45 = false) : askO s = .error (aE s, 2) := by
  unfold askO; rw [if_neg (by rw [h1]; decide), if_neg (by rw [h2]; decide), if_pos h3]
theorem askO_none {s : ByteArray} (h1 : isUnit s (aA s) = true) (h2 : atB s (aB s) 61 = true) (h3 : atB s (aE s) 45 = true) (h4 : aC s = aD s ∧ aF s = aG s) : askO s = .error (aG s, 2) := by
  unfold askO; rw [if_neg (by rw [h1]; decide), if_neg (by rw [h2]; decide), if_neg (by rw [h3]; decide), if_pos h4]
theorem askO_more {s : ByteArray} (h1 : isUnit s (aA s) = true) (h2 : atB s (aB s) 61 = true) (h3 : atB s (aE s) 45 = true) (h4 : ¬(aC s = aD s ∧ aF s = aG s)) (h5 : aH s ≠ s.size) : askO s = .error (aH s, 2) := by
  unfold askO; rw [if_neg (by rw [h1]; decide), if_neg (by rw [h2]; decide), if_neg (by rw [h3]; decide), if_neg h4, if_pos h5]
theorem askO_all {s : ByteArray} (h1 : isUnit s (aA s) = true) (h2 : atB s (aB s) 61 = true) (h3 : atB s (aE s) 45 = true) (h4 : ¬(aC s = aD s ∧ aF s = aG s)) (h5 : aH s = s.size) :
    askO s = askN (numP (s.extract (aC s) (aD s))) (numP (s.extract (aF s) (aG s))) (aH s) := by
  unfold askO; rw [if_neg (by rw [h1]; decide), if_neg (by rw [h2]; decide), if_neg (by rw [h3]; decide), if_neg h4, if_neg (by simpa using h5)]

end Go.Proofs.Ytaolclpjlkdkjaa
namespace Go.Proofs.Ytaolclpjlkdkjaa
open Go.RowKit

/-- A cursor: its text, and how many bytes are gone by. -/
abbrev Cur (w : World) (cb : Nat) (s : ByteArray) (k : Nat) : Prop := Blk w cb 89 #[.string s, .int .i64 k]
abbrev cptr (cb : Nat) : Value := .pointer (some ⟨cb, 0, none⟩)

theorem Cur.c0 {w : World} {cb k : Nat} {s : ByteArray} (h : Cur w cb s k) : w.cell? ⟨cb, 0, none⟩ = some (.string s) := h.cell 0
theorem Cur.c1 {w : World} {cb k : Nat} {s : ByteArray} (h : Cur w cb s k) : w.cell? ⟨cb, 1, none⟩ = some (.int .i64 k) := h.cell 1
theorem Cur.set {w : World} {cb k : Nat} {s : ByteArray} (h : Cur w cb s k) (j : Nat) : Cur (w.setCell ⟨cb, 1, none⟩ (.int .i64 j)) cb s j := h.set_ 1 _

set_option maxHeartbeats 400000 in
theorem new_any (s : ByteArray) (w : World) :
    Calls Try.prog 37 #[.string s] w fun e w' => e = .returned (cptr w.heap.size) ∧ w' = w.alloc (.cells #[.string s, .int .i64 0] 89) := by
  go_enter Try.func37, Try.ntmps37
  go_wp2
  go_ret
  exact ⟨rfl, rfl⟩

set_option maxHeartbeats 400000 in
theorem at_any (cb k : Nat) (s : ByteArray) (w : World) (h : Cur w cb s k) :
    Calls Try.prog 48 #[cptr cb] w fun e w' => e = .returned (.int .i64 k) ∧ w = w' := by
  have c1 := h.c1
  clear h
  go_enter Try.func48, Try.ntmps48
  go_wp2
  go_ret
  exact ⟨rfl, rfl⟩

set_option maxHeartbeats 400000 in
theorem left_any (cb k : Nat) (s : ByteArray) (w : World) (h : Cur w cb s k) (hk : k ≤ s.size) (hs : s.size ≤ 9223372036854775807) :
    Calls Try.prog 81 #[cptr cb] w fun e w' => e = .returned (.int .i64 ((s.size : Int) - (k : Int))) ∧ ∃ n, w' = w.drewN n := by
  have c0 := h.c0
  have c1 := h.c1
  clear h
  go_enter Try.func81, Try.ntmps81
  go_wp2
  go_quiet (fail)
  go_wp2
  go_ret
  exact ⟨rfl, _, rfl⟩

set_option maxHeartbeats 400000 in
theorem end_any (cb k : Nat) (s : ByteArray) (w : World) (h : Cur w cb s k) (hk : k ≤ s.size) (hs : s.size ≤ 9223372036854775807) :
    Calls Try.prog 69 #[cptr cb] w fun e w' => e = .returned (.bool (decide (k = s.size))) ∧ ∃ n, w' = w.drewN n := by
  by_cases hd : k = s.size
  · have hd' : decide (k = s.size) = true := by simp [hd]
    have he : (((s.size : Int) - (k : Int)) == 0) = true := by simp; omega
    rw [hd']
    clear hd hd'
    go_enter Try.func69, Try.ntmps69
    go_wp2_with (go_at_call 81; refine (left_any cb k s _ h hk hs).mono ?_; rintro e w1 ⟨rfl, n, rfl⟩)
    go_ret
    exact ⟨rfl, _, rfl⟩
  · have hd' : decide (k = s.size) = false := by simp [hd]
    have he : (((s.size : Int) - (k : Int)) == 0) = false := by simp; omega
    rw [hd']
    clear hd hd'
    go_enter Try.func69, Try.ntmps69
    go_wp2_with (go_at_call 81; refine (left_any cb k s _ h hk hs).mono ?_; rintro e w1 ⟨rfl, n, rfl⟩)
    go_ret
    exact ⟨rfl, _, rfl⟩

set_option maxHeartbeats 400000 in
theorem passTo_any (cb k j : Nat) (s : ByteArray) (w : World) (h : Cur w cb s k) (hk : k ≤ j) (hj : j ≤ s.size) (_hs : s.size ≤ 9223372036854775807) :
    Calls Try.prog 68 #[cptr cb, .int .i64 j] w fun e w' => e = .returned (.string (s.extract k j)) ∧ w' = w.setCell ⟨cb, 1, none⟩ (.int .i64 j) := by
  have c0 := h.c0
  have c1 := h.c1
  have z1 := h.frozen 1
  clear h
  go_enter Try.func68, Try.ntmps68
  go_wp2
  go_ret
  exact ⟨rfl, rfl⟩

/-- Some draws further. -/
def Drawn (w w' : World) : Prop := ∃ m, w' = w.drewN m
theorem Drawn.refl (w : World) : Drawn w w := ⟨0, rfl⟩
theorem Drawn.one (w : World) : Drawn w w.drew := ⟨1, rfl⟩
theorem Drawn.below {w w' : World} (h : Drawn w w') : Below w.heap.size w w' := by
  obtain ⟨m, rfl⟩ := h; exact Below.drewN' (Below.refl _ _) m

end Go.Proofs.Ytaolclpjlkdkjaa
