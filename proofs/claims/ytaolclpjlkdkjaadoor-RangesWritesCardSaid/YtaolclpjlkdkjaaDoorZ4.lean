/-
  Plain facts on layer 24's texts: where a run of bytes ends, the unit, what is asked for (askO). No condition.
  Plain facts on types, as layer 10 has them: parameters, which are good, what a text says, and what it is written as. No condition.
  What Lower, Same and Begins answer, and the document's own Lower. Condition: the text is as long as a length can be.
-/
import Derived.Test.YtaolclpjlkdkjaaDoorZ3
import Derived.Lib.Hide
import Derived.Test.YtaolclpjlkdkjaaDoorZ2
import Derived.Test.YtaolclpjlkdkjaaDoorRows
import Derived.WalkKit
import Derived.WalkSpells
import Derived.WalkLawsBesides
import Derived.Laws.Externs
import Derived.Lib.FrozenHead2
import Derived.LoopTactic
import Derived.Test.YtaolclpjlkdkjaaDoorZ1
import Derived.BigQuiet
import Derived.OneCell
import Derived.OwnWalk
import Derived.Laws.IdiomStrings
import Derived.Laws.OwnMore
import Derived.Laws.BytesArg
namespace Go.Proofs.YtaolclpjlkdkjaaDoor

theorem scan_uniq {p : UInt8 → Bool} {s : ByteArray} : ∀ (n i j : Nat), j = i + n → j ≤ s.size → (∀ k, i ≤ k → k < j → (hk : k < s.size) → p s[k] = true) → (∀ h : j < s.size, p s[j] = false) → scan p s i = j
  | 0, i, j, e, hj, _, h2 => by
    obtain rfl : j = i := by omega
    by_cases h : j < s.size
    · exact scan_stop h (h2 h)
    · exact scan_end (by omega)
  | n + 1, i, j, e, hj, h1, h2 => by
    have hi : i < s.size := by omega
    rw [← scan_step hi (h1 i (Nat.le_refl _) (by omega) hi)]
    exact scan_uniq n (i + 1) j (by omega) hj (fun k h3 h4 => h1 k (by omega) h4) h2
theorem scan_within {p : UInt8 → Bool} {s : ByteArray} {i k : Nat} (h0 : i ≤ k) (h1 : k < scan p s i) (hk : k < s.size) : p s[k] = true :=
  scan_all (k - i) i k (by omega) h1 hk
theorem ext_at {s : ByteArray} {a b i : Nat} (hb : b ≤ s.size) (h : a + i < b) : (s.extract a b)[i]'(by simp; omega) = s[a + i]'(by omega) := ByteArray.getElem_extract (by simp; omega)
/-- A run within a piece, whose next byte is none of the run. -/
theorem scan_piece {p : UInt8 → Bool} {s : ByteArray} {a b i : Nat} (hb : b ≤ s.size) (hi : a + i ≤ b) (hn : ∀ h : b < s.size, p s[b] = false) : scan p s (a + i) = a + scan p (s.extract a b) i := by
  have hz : (s.extract a b).size = b - a := by simp; omega
  have h1 := scan_ge p (s.extract a b) i
  have h2 := scan_le p (s.extract a b) i (by omega)
  refine scan_uniq (scan p (s.extract a b) i - i) (a + i) _ (by omega) (by omega) (fun k h3 h4 hk => ?_) fun h => ?_
  · have := scan_within (p := p) (s := s.extract a b) (i := i) (k := k - a) (by omega) (by omega) (by omega)
    rw [ext_at hb (by omega)] at this
    have e : a + (k - a) = k := by omega
    simp only [e] at this
    exact this
  · by_cases e : a + scan p (s.extract a b) i = b
    · have : ∀ (j : Nat) (hj : j < s.size), j = b → p s[j] = false := fun j hj e => by subst e; exact hn hj
      exact this _ h e
    · have := scan_at (p := p) (s := s.extract a b) (i := i) (by omega) (by omega)
      rw [ext_at hb (by omega)] at this
      exact this
theorem scan_suf (p : UInt8 → Bool) (s : ByteArray) {k i : Nat} (hk : k + i ≤ s.size) : scan p s (k + i) = k + scan p (s.extract k s.size) i :=
  scan_piece (Nat.le_refl _) hk fun h => absurd h (Nat.lt_irrefl _)
theorem scan_suf0 (p : UInt8 → Bool) (s : ByteArray) {k : Nat} (hk : k ≤ s.size) : scan p s k = k + scan p (s.extract k s.size) 0 := scan_suf p s (i := 0) hk
theorem sufx_suf (s : ByteArray) {k i : Nat} (_hk : k + i ≤ s.size) : (s.extract k s.size).extract i (s.extract k s.size).size = s.extract (k + i) s.size := by
  have hz : (s.extract k s.size).size = s.size - k := by simp
  rw [hz, ByteArray.extract_extract]
  congr 1
  omega
theorem sufx_head (s : ByteArray) {k i : Nat} (hk : k + i ≤ s.size) : (s.extract k s.size).extract 0 i = s.extract k (k + i) := by
  rw [ByteArray.extract_extract]
  congr 1
  omega

/-- Whether a sign stands at a place. -/
def atB (s : ByteArray) (k : Nat) (c : UInt8) : Bool := decide (k < s.size) && s[k]! == c
theorem atB_in {s : ByteArray} {k : Nat} {c : UInt8} (h : atB s k c = true) : k < s.size := by
  unfold atB at h
  simp only [Bool.and_eq_true, decide_eq_true_eq] at h
  exact h.1
theorem atB_at {s : ByteArray} {k : Nat} {c : UInt8} (h : k < s.size) : atB s k c = (s[k] == c) := by
  unfold atB
  rw [getElem!_pos s k h, decide_eq_true h, Bool.true_and]
theorem atB_out {s : ByteArray} {k : Nat} {c : UInt8} (h : s.size ≤ k) : atB s k c = false := by
  unfold atB
  rw [decide_eq_false (by omega), Bool.false_and]
theorem pref_one {s : ByteArray} {k : Nat} (c : UInt8) (hk : k ≤ s.size) : prefB (s.extract k s.size) ⟨#[c]⟩ = atB s k c := by
  have hz : (s.extract k s.size).size = s.size - k := by simp
  have h1 : (⟨#[c]⟩ : ByteArray).size = 1 := rfl
  by_cases h : k < s.size
  · rw [atB_at h]
    unfold prefB
    rw [h1, hz, decide_eq_true (by omega), Bool.true_and, sufx_head s (i := 1) (by omega)]
    have e : s.extract k (k + 1) = ⟨#[s[k]]⟩ := by
      apply ByteArray.ext
      apply Array.ext
      · simp; omega
      · intro i h3 h4
        have h5 : i < (s.extract k (k + 1)).size := by simpa using h3
        obtain rfl : i = 0 := by simp at h5; omega
        have := ext_at (s := s) (a := k) (b := k + 1) (i := 0) (by omega) (by omega)
        exact this
    rw [e, Lib.toList_data, Lib.toList_data]
    show ([s[k]] == [c]) = (s[k] == c)
    simp
  · rw [atB_out (by omega)]
    unfold prefB
    rw [h1, hz, decide_eq_false (by omega), Bool.false_and]

/-- The unit. -/
abbrev bytS : ByteArray := ⟨#[98, 121, 116, 101, 115]⟩
/-- Whether the letters that come next are the unit. -/
def isUnit (s : ByteArray) (k : Nat) : Bool := sameB (s.extract k (scan letB s k)) bytS
/-- The same, as the document says it. -/
def unitD (s : ByteArray) (k : Nat) : Bool := decide (k + 5 ≤ s.size) && ((lowS (s.extract k (k + 5))).toList == bytS.toList) && (decide (s.size ≤ k + 5) || !letB s[k + 5]!)
theorem bytS_low : lowS bytS = bytS := by kernel_rfl
theorem sameB_byt (x : ByteArray) : sameB x bytS = ((lowS x).toList == bytS.toList) := by
  unfold sameB
  rw [bytS_low]
theorem letB_lowB (b : UInt8) : letB (lowB b) = letB b := by
  have := bytes_all (p := fun b => letB (lowB b) == letB b) (by kernel_rfl) b
  exact eq_of_beq this
theorem low_byt_letters {x : ByteArray} (h : ((lowS x).toList == bytS.toList) = true) : x.size = 5 ∧ ∀ i (hi : i < x.size), letB x[i] = true := by
  have e := eq_of_beq h
  have hz : x.size = 5 := by
    have := congrArg List.length e
    rw [toList_size, lowS_size] at this
    exact this.trans (toList_size bytS)
  have e2 : lowS x = bytS := by
    rw [Lib.toList_data, Lib.toList_data] at e
    have := Array.toList_inj.1 e
    generalize lowS x = y at *
    cases y
    simp at this
    rw [this]
  refine ⟨hz, fun i hi => ?_⟩
  rw [← letB_lowB, ← lowS_at x i hi]
  have hall : ∀ j (hj : j < bytS.size), letB bytS[j] = true := by decide
  have h2 : ∀ (y : ByteArray) (hy : i < y.size), y = bytS → letB y[i] = true := fun y hy e => by subst e; exact hall i hy
  exact h2 _ _ e2
theorem isUnit_eq {s : ByteArray} {k : Nat} (hk : k ≤ s.size) : isUnit s k = unitD s k := by
  have g1 := scan_ge letB s k
  have g2 := scan_le letB s k hk
  rw [Bool.eq_iff_iff]
  unfold isUnit unitD
  rw [sameB_byt]
  constructor
  · intro h
    have hz := (low_byt_letters h).1
    have hz2 : (s.extract k (scan letB s k)).size = scan letB s k - k := by simp; omega
    have e : scan letB s k = k + 5 := by omega
    rw [e] at h
    rw [h, decide_eq_true (by omega), Bool.and_true, Bool.true_and, Bool.or_eq_true]
    by_cases h5 : s.size ≤ k + 5
    · exact .inl (decide_eq_true h5)
    · right
      have := scan_at (p := letB) hk (by omega)
      rw [getElem!_pos s (k + 5) (by omega)]
      have h6 : ∀ (j : Nat) (hj : j < s.size), j = k + 5 → letB s[j] = false → (!letB (s[k + 5]'(by omega))) = true := fun j hj e h => by subst e; rw [h]; rfl
      exact h6 _ (by omega) e this
  · intro h
    simp only [Bool.and_eq_true, decide_eq_true_eq, Bool.or_eq_true] at h
    obtain ⟨⟨h5, hl⟩, hn⟩ := h
    have hlet := (low_byt_letters hl).2
    have e : scan letB s k = k + 5 := by
      refine scan_uniq 5 k _ rfl h5 (fun j h3 h4 hj => ?_) fun hj => ?_
      · have := hlet (j - k) (by simp; omega)
        rw [ext_at (by omega) (by omega)] at this
        have e : k + (j - k) = j := by omega
        simp only [e] at this
        exact this
      · rcases hn with hn | hn
        · omega
        · rw [getElem!_pos s (k + 5) hj] at hn
          simpa using hn
    rw [e]
    exact hl
theorem unit_five {s : ByteArray} {k : Nat} (_hk : k ≤ s.size) (h : isUnit s k = true) : scan letB s k = k + 5 ∧ k + 5 ≤ s.size := by
  have g1 := scan_ge letB s k
  have g2 := scan_le letB s k _hk
  unfold isUnit at h
  rw [sameB_byt] at h
  have hz := (low_byt_letters h).1
  have hz2 : (s.extract k (scan letB s k)).size = scan letB s k - k := by simp; omega
  omega

theorem isUnit_suf {s : ByteArray} {k : Nat} (hk : k ≤ s.size) : isUnit s k = isUnit (s.extract k s.size) 0 := by
  have g2 := scan_le letB s k hk
  have g1 := scan_ge letB s k
  have e := scan_suf0 letB s hk
  unfold isUnit
  rw [e, sufx_head s (by omega)]

/-- The number whose digits a text is; -1 of none; none of one that is too great. -/
def numP (x : ByteArray) : Option Int := if x.size = 0 then some (-1) else if numK x x.size ≤ 9007199254740991 then some ((numK x x.size : Nat) : Int) else none
theorem numP_empty {x : ByteArray} (h : x.size = 0) : numP x = some (-1) := by unfold numP; rw [if_pos h]
theorem numP_ok {x : ByteArray} (h0 : x.size ≠ 0) (h : numK x x.size ≤ 9007199254740991) : numP x = some ((numK x x.size : Nat) : Int) := by unfold numP; rw [if_neg h0, if_pos h]
theorem numP_great {x : ByteArray} (h0 : x.size ≠ 0) (h : ¬numK x x.size ≤ 9007199254740991) : numP x = none := by unfold numP; rw [if_neg h0, if_neg h]
theorem numP_in {x : ByteArray} {n : Int} (h : numP x = some n) : -1 ≤ n ∧ n ≤ 9007199254740991 := by
  unfold numP at h
  split at h
  · cases h; omega
  · split at h
    · cases h; omega
    · cases h
theorem run_digits {s : ByteArray} {k : Nat} (hk : k ≤ s.size) : allB digB (s.extract k (scan digB s k)) = true := allB_yes fun j hj => by
  have g1 := scan_ge digB s k
  have g2 := scan_le digB s k hk
  have hz : (s.extract k (scan digB s k)).size = scan digB s k - k := by simp; omega
  rw [ext_at g2 (by omega)]
  exact scan_within (i := k) (by omega) (by omega) (by omega)
theorem run_size {p : UInt8 → Bool} {s : ByteArray} {k : Nat} (hk : k ≤ s.size) : (s.extract k (scan p s k)).size = scan p s k - k := by
  have g2 := scan_le p s k hk
  simp
  omega

/-- Where the unit begins, where a sign is looked for behind it, and so on. -/
def aA (s : ByteArray) : Nat := scan tabB s 0
def aU (s : ByteArray) : Nat := scan letB s (aA s)
def aB (s : ByteArray) : Nat := scan tabB s (aU s)
def aC (s : ByteArray) : Nat := scan tabB s (aB s + 1)
def aD (s : ByteArray) : Nat := scan digB s (aC s)
def aE (s : ByteArray) : Nat := scan tabB s (aD s)
def aF (s : ByteArray) : Nat := scan tabB s (aE s + 1)
def aG (s : ByteArray) : Nat := scan digB s (aF s)
def aH (s : ByteArray) : Nat := scan tabB s (aG s)
theorem aA_le (s : ByteArray) : aA s ≤ s.size := scan_le _ _ _ (Nat.zero_le _)
theorem aU_le (s : ByteArray) : aU s ≤ s.size := scan_le _ _ _ (aA_le s)
theorem aB_le (s : ByteArray) : aB s ≤ s.size := scan_le _ _ _ (aU_le s)

/-- What two texts of digits ask for. -/
def askN (x y : Option Int) (at_ : Nat) : Except (Nat × Int) (Int × Int) :=
  match x, y with
  | some a, some b => if b = -1 ∨ a ≤ b then .ok (a, b) else .error (at_, 9)
  | _, _ => .error (0, 9)
/-- What a text asks for, or where it is thrown, and with what code. -/
def askO (s : ByteArray) : Except (Nat × Int) (Int × Int) :=
  if isUnit s (aA s) = false then .error (aU s, 2)
  else if atB s (aB s) 61 = false then .error (aB s, 2)
  else if atB s (aE s) 45 = false then .error (aE s, 2)
  else if aC s = aD s ∧ aF s = aG s then .error (aG s, 2)
  else if aH s ≠ s.size then .error (aH s, 2)
  else askN (numP (s.extract (aC s) (aD s))) (numP (s.extract (aF s) (aG s))) (aH s)
theorem askO_unit {s : ByteArray} (h1 : isUnit s (aA s) = false) : askO s = .error (aU s, 2) := by unfold askO; rw [if_pos h1]
theorem askO_eq {s : ByteArray} (h1 : isUnit s (aA s) = true) (h2 : atB s (aB s) 61 = false) : askO s = .error (aB s, 2) := by
  unfold askO; rw [if_neg (by rw [h1]; decide), if_pos h2]
theorem askO_minus {s : ByteArray} (h1 : isUnit s (aA s) = true) (h2 : atB s (aB s) 61 = true) (h3 : atB s (aE s) 45 = false) : askO s = .error (aE s, 2) := by
  unfold askO; rw [if_neg (by rw [h1]; decide), if_neg (by rw [h2]; decide), if_pos h3]
theorem askO_none {s : ByteArray} (h1 : isUnit s (aA s) = true) (h2 : atB s (aB s) 61 = true) (h3 : atB s (aE s) 45 = true) (h4 : aC s = aD s ∧ aF s = aG s) : askO s = .error (aG s, 2) := by
  unfold askO; rw [if_neg (by rw [h1]; decide), if_neg (by rw [h2]; decide), if_neg (by rw [h3]; decide), if_pos h4]
theorem askO_more {s : ByteArray} (h1 : isUnit s (aA s) = true) (h2 : atB s (aB s) 61 = true) (h3 : atB s (aE s) 45 = true) (h4 : ¬(aC s = aD s ∧ aF s = aG s)) (h5 : aH s ≠ s.size) : askO s = .error (aH s, 2) := by
  unfold askO; rw [if_neg (by rw [h1]; decide), if_neg (by rw [h2]; decide), if_neg (by rw [h3]; decide), if_neg h4, if_pos h5]
theorem askO_all {s : ByteArray} (h1 : isUnit s (aA s) = true) (h2 : atB s (aB s) 61 = true) (h3 : atB s (aE s) 45 = true) (h4 : ¬(aC s = aD s ∧ aF s = aG s)) (h5 : aH s = s.size) :
    askO s = askN (numP (s.extract (aC s) (aD s))) (numP (s.extract (aF s) (aG s))) (aH s) := by
  unfold askO; rw [if_neg (by rw [h1]; decide), if_neg (by rw [h2]; decide), if_neg (by rw [h3]; decide), if_neg h4, if_neg (by simpa using h5)]

end Go.Proofs.YtaolclpjlkdkjaaDoor
namespace Go.Proofs.YtaolclpjlkdkjaaDoor

abbrev eqS (a b : ByteArray) : Bool := a.toList == b.toList
theorem eqS_eq {a b : ByteArray} (h : eqS a b = true) : a = b := by
  have e : a.toList = b.toList := beq_iff_eq.1 h
  rw [Lib.toList_data, Lib.toList_data] at e
  exact ByteArray.ext (Array.toList_inj.1 e)
theorem eqS_self (a : ByteArray) : eqS a a = true := beq_self_eq_true _

end Go.Proofs.YtaolclpjlkdkjaaDoor
namespace Go.Proofs.YtaolclpjlkdkjaaDoor
open Go.RowKit

/-- Block g is known whole, its frozen range too. -/
def Blm (w : World) (g : Nat) (t : TypeId) (cs : Array Value) (fr : Nat × Nat) : Prop := w.heap[g]? = some (.cells cs t fr)
section
variable {w w' : World} {g : Nat} {t : TypeId} {cs : Array Value} {fr : Nat × Nat}
theorem Blm.lt (h : Blm w g t cs fr) : g < w.heap.size := by
  rcases Nat.lt_or_ge g w.heap.size with hlt | hge
  · exact hlt
  · unfold Blm at h; rw [Array.getElem?_eq_none hge] at h; cases h
theorem Blm.cell (h : Blm w g t cs fr) (i : Nat) : w.cell? ⟨g, i, none⟩ = cs[i]? := by
  unfold Blm at h; simp [World.cell?, h]
theorem Blm.frozen (h : Blm w g t cs fr) (i : Nat) (hi : i < fr.1) : w.frozen? ⟨g, i, none⟩ = false := by
  unfold Blm at h
  simp [World.frozen?, h]
  omega
theorem Blm.new (w : World) (t : TypeId) (cs : Array Value) (fr : Nat × Nat) : Blm (w.alloc (.cells cs t fr)) w.heap.size t cs fr := by
  unfold Blm
  show (w.heap.push _)[w.heap.size]? = _
  simp
theorem Blm.set_ (h : Blm w g t cs fr) (i : Nat) (u : Value) : Blm (w.setCell ⟨g, i, none⟩ u) g t (cs.setIfInBounds i u) fr := by
  unfold Blm at h ⊢
  simp [World.setCell, Array.getElem?_modify, h]
end

/-- The cells of a text of which the first k bytes are made small. -/
def Small (s : ByteArray) (k : Nat) (C : Array Value) : Prop := ∀ j (h : j < s.size), C[j]? = some (.int .u8 ((if j < k then lowB s[j] else s[j]).toNat : Int))
theorem Small.zero (s : ByteArray) (cap : Nat) : Small s 0 (bytesRow s cap) := fun j h => by
  rw [bytesRow_at s cap j h, if_neg (by omega)]
  rfl
theorem Small.lt {s : ByteArray} {k j : Nat} {C : Array Value} (h : Small s k C) (hj : j < s.size) : j < C.size := (Array.getElem?_eq_some_iff.1 (h j hj)).1
theorem Small.succ {s : ByteArray} {k : Nat} {C : Array Value} (h : Small s k C) (hk : k < s.size) : Small s (k + 1) (C.setIfInBounds k (.int .u8 ((lowB s[k]).toNat : Int))) := fun j hj => by
  have hlt := h.lt hj
  by_cases e : k = j
  · subst e
    rw [Array.getElem?_setIfInBounds_self_of_lt hlt, if_pos (by omega)]
  · rw [Array.getElem?_setIfInBounds_ne e, h j hj]
    by_cases h1 : j < k
    · rw [if_pos h1, if_pos (by omega)]
    · rw [if_neg h1, if_neg (by omega)]
theorem Small.back {s : ByteArray} {C : Array Value} (h : Small s s.size C) {W : World} {g : Nat} {fr : Nat × Nat} (hg : Blm W g 5 C fr) (cap : Nat) :
    (convert 92 9 (.slice (some ⟨g, 0, none⟩) s.size cap)).run Tryd.prog W = .ok (.string (lowS s)) W := by
  have := run_convert_bytes_back (P := Tryd.prog) W 92 9 5 ⟨g, 0, none⟩ cap (lowS s).data.toList Tryd.underlying92 Tryd.underlying5 Tryd.underlying9 (fun j hj => by
    have hj' : j < s.size := by
      have h2 : (lowS s).data.toList.length = (lowS s).size := by simp
      rw [lowS_size] at h2
      omega
    have e : (⟨g, 0, none⟩ : Addr).add j = ⟨g, j, none⟩ := by cases j <;> simp [Addr.add]
    rw [e, hg.cell, h j hj', if_pos hj']
    congr 3
    exact congrArg UInt8.toNat (lowS_at s j hj').symm)
  have h2 : (lowS s).data.toList.length = s.size := by
    have h3 : (lowS s).data.toList.length = (lowS s).size := by simp
    rw [h3, lowS_size]
  rw [h2] at this
  simpa using this

theorem drew_more {w w' : World} (h : ∃ n, w' = w.drewN n) (m : Nat) : ∃ n, w'.drewN m = w.drewN n := by
  obtain ⟨n, rfl⟩ := h
  exact ⟨n + m, World.drewN_drewN _ _ _⟩

set_option maxHeartbeats 1600000 in
theorem same_any (a b : ByteArray) (w : World) (ha : a.size ≤ 9223372036854775807) (_hb : b.size ≤ 9223372036854775807) :
    Calls Tryd.prog 47 #[.string a, .string b] w fun e w' => e = .returned (.bool (sameB a b)) ∧ ∃ n, w' = w.drewN n := by
  by_cases hsz : a.size = b.size
  · have g0 : ((a.size : Int) != (b.size : Int)) = false := by simp [hsz]
    have HS := Lib.hid hsz
    clear hsz
    go_enter Tryd.func47, Tryd.ntmps47
    go_wp2
    go_loopw [13] (fun i wr => ∃ k : Nat, k ≤ a.size ∧ i = .int .i64 k ∧ (∀ j (h1 : j < a.size) (h2 : j < b.size), j < k → lowB a[j] = lowB b[j]) ∧ ∃ n, wr = w.drewN n) (fun i _ => a.size - (intOf i).toNat)
    case atStart => exact ⟨0, Nat.zero_le _, rfl, fun j _ _ h => absurd h (by omega), 0, rfl⟩
    case round =>
      obtain ⟨k, hk, rfl, hno, hw⟩ := hrel
      have HW := Lib.hid hw
      clear hw
      have HN := Lib.hid hno
      clear hno
      by_cases hlt : k < a.size
      · have hlt2 : k < b.size := by have := HS.out; omega
        by_cases he : lowB a[k] = lowB b[k]
        · have d1 : (((lowB a[k]).toNat : Int) != ((lowB b[k]).toNat : Int)) = false := by rw [he]; simp
          have HE := Lib.hid he
          clear he
          go_wp2
          go_quiet ((go_at_call 60; exact Calls.quiet_of_same ((lower1_any _ _).mono fun _ _ h => ⟨h.1, h.2.symm⟩)))
          go_wp2
          go_roundw
          case rel => exact ⟨k + 1, by omega, by go_num, fun j h1 h2 h => if e : j = k then by subst e; exact HE.out else HN.out j h1 h2 (by omega), drew_more HW.out _⟩
          case measure => simp [intOf]; omega
        · have d1 : (((lowB a[k]).toNat : Int) != ((lowB b[k]).toNat : Int)) = true := by
            rw [bne_iff_ne]
            intro h
            exact he (UInt8.toNat_inj.1 (by omega))
          have HE := Lib.hid (sameB_not hlt hlt2 he)
          clear he
          go_wp2
          go_quiet ((go_at_call 60; exact Calls.quiet_of_same ((lower1_any _ _).mono fun _ _ h => ⟨h.1, h.2.symm⟩)))
          go_wp2
          go_ret
          exact ⟨by rw [HE.out]; rfl, drew_more HW.out _⟩
      · obtain rfl : k = a.size := by omega
        have HE := Lib.hid (sameB_all HS.out fun j h1 h2 => HN.out j h1 h2 h1)
        go_wp2
        go_ret
        exact ⟨by rw [HE.out]; rfl, HW.out⟩
  · have g0 : ((a.size : Int) != (b.size : Int)) = true := by
      rw [bne_iff_ne]
      omega
    have HE := Lib.hid (sameB_size hsz)
    clear hsz
    go_enter Tryd.func47, Tryd.ntmps47
    go_wp2
    go_ret
    exact ⟨by rw [HE.out]; rfl, 0, rfl⟩

end Go.Proofs.YtaolclpjlkdkjaaDoor
