/-
  Plain facts on a number's decimal digits: they are digits, their number is the number, and no nought stands ahead of another. No condition.
  Plain facts on layer 24's texts: what is written is read again. No condition.
  Plain facts on layer 26: which place is good (goodU), how a place is written (texU), what a text says (urlO: a place, or a code). No condition.
-/
import Derived.Test.YtagbndkfbnlpoaaGreatDoorZ4
import Derived.Lib.ItoaNum
import Derived.Test.YtagbndkfbnlpoaaGreatDoorZ3
import Derived.Test.YtagbndkfbnlpoaaGreatDoorZ7
import Derived.RegionTactic
import Derived.BigRegion
import Derived.Deep.QuietTactic
import Derived.BigQuiet
import Derived.Deep.RegionHeld2
import Derived.IntWalk
import Derived.Lib.Hide
import Derived.Test.YtagbndkfbnlpoaaGreatDoorZ2
import Derived.Test.YtagbndkfbnlpoaaGreatDoorZ5
import Derived.Test.YtagbndkfbnlpoaaGreatDoorZ6
namespace Go.Proofs.YtagbndkfbnlpoaaGreatDoor

theorem digit_toNat {u : Nat} (h : u < 10) : (UInt8.ofNat (48 + u)).toNat = 48 + u := by
  rw [UInt8.toNat_ofNat']
  omega
theorem digit_isB {u : Nat} (h : u < 10) : digB (UInt8.ofNat (48 + u)) = true := by
  unfold digB
  rw [digit_toNat h]
  simp
  omega
theorem decDigits_all : ∀ (n u : Nat), u ≤ n → ∀ b ∈ Lib.decDigits u, digB b = true
  | n, u, hn, b, hb => by
    by_cases h : u < 10
    · rw [Lib.decDigits, dif_pos h] at hb
      rw [List.mem_singleton.1 hb]
      exact digit_isB h
    · rw [Lib.decDigits, dif_neg h] at hb
      rcases List.mem_append.1 hb with h1 | h1
      · cases n with
        | zero => omega
        | succ n => exact decDigits_all n (u / 10) (by omega) b h1
      · rw [List.mem_singleton.1 h1]
        exact digit_isB (by omega)

/-- The number whose digits a list is. -/
def numL (l : List UInt8) : Nat := l.foldl (fun a b => 10 * a + (b.toNat - 48)) 0
theorem numL_snoc (l : List UInt8) (b : UInt8) : numL (l ++ [b]) = 10 * numL l + (b.toNat - 48) := by
  unfold numL
  rw [List.foldl_append]
  rfl
theorem numL_digits : ∀ (n u : Nat), u ≤ n → numL (Lib.decDigits u) = u
  | n, u, hn => by
    by_cases h : u < 10
    · rw [Lib.decDigits, dif_pos h]
      show 10 * 0 + ((UInt8.ofNat (48 + u)).toNat - 48) = u
      rw [digit_toNat h]
      omega
    · rw [Lib.decDigits, dif_neg h, numL_snoc, digit_toNat (by omega)]
      cases n with
      | zero => omega
      | succ n => rw [numL_digits n (u / 10) (by omega)]; omega
theorem numK_list (s : ByteArray) : ∀ k, k ≤ s.size → numK s k = numL (s.data.toList.take k)
  | 0, _ => by simp [numK, numL]
  | k + 1, h => by
    rw [numK_succ (by omega), numK_list s k (by omega), take_snoc s k (by omega), numL_snoc]
theorem decDigits_len : ∀ (n u : Nat), u ≤ n → 1 ≤ (Lib.decDigits u).length
  | n, u, hn => by
    by_cases h : u < 10
    · rw [Lib.decDigits, dif_pos h]
      simp
    · rw [Lib.decDigits, dif_neg h]
      simp
/-- A number's digits, as a text. -/
def digS (u : Nat) : ByteArray := ⟨(Lib.decDigits u).toArray⟩
theorem digS_list (u : Nat) : (digS u).data.toList = Lib.decDigits u := by simp [digS]
theorem digS_size (u : Nat) : (digS u).size = (Lib.decDigits u).length := by
  show (Lib.decDigits u).toArray.size = _
  simp
theorem digS_all (u : Nat) : allB digB (digS u) = true := allB_yes fun j hj => by
  have h : (digS u)[j] ∈ (digS u).data.toList := List.getElem_mem (l := (digS u).data.toList) (by simpa using hj)
  rw [digS_list] at h
  exact decDigits_all u u (Nat.le_refl _) _ h
theorem digS_num (u : Nat) : numK (digS u) (digS u).size = u := by
  rw [numK_list _ _ (Nat.le_refl _), List.take_of_length_le (by simp), digS_list]
  exact numL_digits u u (Nat.le_refl _)
theorem itoa_pos (u : Nat) : (⟨(Lib.itoa (u : Int)).toArray⟩ : ByteArray) = digS u := by
  unfold Lib.itoa digS
  rw [if_neg (by omega)]
  simp
theorem digS_le {u : Nat} (h : u < 18446744073709551616) : (digS u).size ≤ 20 := by
  rw [digS_size]
  have key : ∀ (k u : Nat), u < 10 ^ (k + 1) → (Lib.decDigits u).length ≤ k + 1 := fun k => by
    induction k with
    | zero => intro u hu; rw [Lib.decDigits, dif_pos (by simpa using hu)]; simp
    | succ k ih =>
      intro u hu
      by_cases h1 : u < 10
      · rw [Lib.decDigits, dif_pos h1]; simp
      · rw [Lib.decDigits, dif_neg h1]
        have := ih (u / 10) (by rw [Nat.div_lt_iff_lt_mul (by omega)]; rw [Nat.pow_succ] at hu; exact hu)
        simp only [List.length_append, List.length_cons, List.length_nil]
        omega
  exact key 19 u (by omega)

end Go.Proofs.YtagbndkfbnlpoaaGreatDoor
namespace Go.Proofs.YtagbndkfbnlpoaaGreatDoor

theorem scan_of {p : UInt8 → Bool} {s : ByteArray} {l1 l2 l3 : List UInt8} (hl : s.data.toList = l1 ++ (l2 ++ l3)) (h2 : ∀ b ∈ l2, p b = true) (h3 : ∀ b q, l3 = b :: q → p b = false) : scan p s l1.length = l1.length + l2.length := by
  unfold scan
  rw [hl, List.drop_left]
  congr 2
  have h4 : l3.takeWhile p = [] := by
    cases l3 with
    | nil => rfl
    | cons b q => rw [List.takeWhile_cons, if_neg (by rw [h3 b q rfl]; decide)]
  rw [List.takeWhile_append_of_pos h2, h4, List.append_nil]
theorem atB_of {s : ByteArray} {l1 l3 : List UInt8} {b : UInt8} (hl : s.data.toList = l1 ++ b :: l3) : atB s l1.length b = true := by
  have hz : s.size = l1.length + (l3.length + 1) := by
    have := congrArg List.length hl
    simp at this
    exact this
  have h : l1.length < s.size := by omega
  rw [atB_at h, beq_iff_eq]
  have e : s[l1.length] = s.data.toList[l1.length]'(by simpa using h) := rfl
  rw [e]
  have : ∀ (l : List UInt8) (hh : l1.length < l.length), l = l1 ++ b :: l3 → l[l1.length] = b := fun l hh e => by subst e; simp
  exact this _ _ hl
theorem atB_no {s : ByteArray} {l1 l3 : List UInt8} {b c : UInt8} (hl : s.data.toList = l1 ++ b :: l3) (hne : b ≠ c) : atB s l1.length c = false := by
  have hz : s.size = l1.length + (l3.length + 1) := by
    have := congrArg List.length hl
    simp at this
    exact this
  have h : l1.length < s.size := by omega
  have h2 := atB_of hl
  rw [atB_at h, beq_iff_eq] at h2
  rw [atB_at h, h2, beq_eq_false_iff_ne]
  exact hne
theorem ext_of {s : ByteArray} {l1 l2 l3 : List UInt8} (hl : s.data.toList = l1 ++ (l2 ++ l3)) : s.extract l1.length (l1.length + l2.length) = ⟨l2.toArray⟩ := by
  apply ByteArray.ext
  apply Array.toList_inj.1
  rw [ByteArray.data_extract, Array.toList_extract, hl]
  simp [List.extract]
theorem size_of {s : ByteArray} {l : List UInt8} (hl : s.data.toList = l) : s.size = l.length := by
  have := congrArg List.length hl
  simpa using this
theorem app_list (a b : ByteArray) : (a ++ b).data.toList = a.data.toList ++ b.data.toList := by simp

/-- A number's digits, nothing of one that is not said; its digits as a list. -/
def worS (n : Int) : ByteArray := if n < 0 then ⟨#[]⟩ else digS n.toNat
def worL (n : Int) : List UInt8 := if n < 0 then [] else Lib.decDigits n.toNat
theorem worS_list (n : Int) : (worS n).data.toList = worL n := by
  unfold worS worL
  split
  · rfl
  · exact digS_list _
theorem worL_dig (n : Int) : ∀ b ∈ worL n, digB b = true := fun b hb => by
  unfold worL at hb
  split at hb
  · cases hb
  · exact decDigits_all _ _ (Nat.le_refl _) b hb
theorem worL_none {n : Int} : (worL n).length = 0 ↔ n < 0 := by
  unfold worL
  split
  · rename_i h; simp [h]
  · rename_i h
    have := decDigits_len n.toNat n.toNat (Nat.le_refl _)
    omega
theorem worS_of (n : Int) : (⟨(worL n).toArray⟩ : ByteArray) = worS n := by
  apply ByteArray.ext
  apply Array.toList_inj.1
  show (worL n).toArray.toList = (worS n).data.toList
  rw [worS_list]
theorem one_head {c : UInt8} {q : List UInt8} {p : UInt8 → Bool} (hc : p c = false) : ∀ b q', c :: q = b :: q' → p b = false := fun b q' e => by cases e; exact hc
theorem none_mem {p : UInt8 → Bool} : ∀ b ∈ ([] : List UInt8), p b = true := fun b h => by cases h
theorem nil_head {p : UInt8 → Bool} : ∀ b q', ([] : List UInt8) = b :: q' → p b = false := fun b q' e => by cases e

end Go.Proofs.YtagbndkfbnlpoaaGreatDoor
namespace Go.Proofs.YtagbndkfbnlpoaaGreatDoor

/-- A place. -/
structure Plc where
  sc : ByteArray
  ho : ByteArray
  po : Int
  pa : ByteArray
  qu : ByteArray
/-- A scheme's own port; 0: it is none. -/
def ownP (s : ByteArray) : Int := if s.toList == [104, 116, 116, 112] || s.toList == [119, 115] then 80 else if s.toList == [104, 116, 116, 112, 115] || s.toList == [119, 115, 115] then 443 else 0
def hosB (s : ByteArray) (i : Nat) : Bool := lowerB s[i]! || digB s[i]! || s[i]! == 45 || (s[i]! == 46 && decide (0 < i) && s[i - 1]! != 46)
def namB (s : ByteArray) : Bool := decide (0 < s.size) && decide (s.size < 254) && (List.range s.size).all (hosB s)
/-- No byte of some. -/
def nonB (l : Array UInt8) (b : UInt8) : Bool := !hasB ⟨l⟩ b
def pthB (s : ByteArray) : Bool := !(s.toList == []) && (dotS s).toList == s.toList && (pqS s).toList == s.toList && allB (nonB #[63, 35]) s
def qryB (s : ByteArray) : Bool := (s.toList == []) || (s[0]! == 63 && (pqS s).toList == s.toList && allB (nonB #[35]) s)
def goodU (u : Plc) : Bool := ownP u.sc != 0 && namB u.ho && decide (0 ≤ u.po) && decide (u.po ≤ 65535) && u.po != ownP u.sc && pthB u.pa && qryB u.qu
def portU (u : Plc) : Int := if ownP u.sc ≠ 0 ∧ u.po ≠ 0 then u.po else ownP u.sc
def prtS (n : Int) : ByteArray := if 0 < n then ⟨#[58]⟩ ++ worS n else ⟨#[]⟩
def texU (u : Plc) : ByteArray := ((((u.sc ++ ⟨#[58, 47, 47]⟩) ++ u.ho) ++ prtS u.po) ++ u.pa) ++ u.qu

/-- Bytes that are let go at both ends. -/
def ledB (b : UInt8) : Bool := decide (b.toNat < 33)
def prtO (pt : ByteArray) (u : Plc) : Except Int Plc :=
  if pt.size = 0 then .ok u
  else if parE pt ≠ 0 then .error (parE pt)
  else if parN pt = 0 ∨ 65535 < parN pt then .error 9
  else .ok { u with po := if parN pt = ownP u.sc then 0 else parN pt }
def pthO (sc ho pt d : ByteArray) : Except Int Plc :=
  let k := scan (nonB #[63]) d 0
  let u : Plc := ⟨sc, ho, 0, if k = 0 then ⟨#[47]⟩ else dotS (pqS (d.extract 0 k)), pqS (d.extract k d.size)⟩
  if goodU u = false then .error 2 else prtO pt u
def hosO (sc b : ByteArray) : Except Int Plc :=
  let k := scan (nonB #[58, 47, 63]) b 0
  let c := b.extract k b.size
  if atB c 0 58 = true then
    let j := scan (nonB #[47, 63]) c 0
    pthO sc (lowS (b.extract 0 k)) (c.extract 1 j) (c.extract j c.size)
  else pthO sc (lowS (b.extract 0 k)) ⟨#[]⟩ c
def schO (a : ByteArray) : Except Int Plc :=
  let k := scan (nonB #[58]) a 0
  if prefB (a.extract k a.size) ⟨#[58, 47, 47]⟩ = false then .error 2 else hosO (lowS (a.extract 0 k)) (a.extract (k + 3) a.size)
/-- The place that a text says, or the code. -/
def urlO (s : ByteArray) : Except Int Plc :=
  let t := trimP ledB s
  if 8192 < t.size then .error 6 else schO (t.extract 0 (scan (nonB #[35]) t 0))

theorem toList_eq {s : ByteArray} {l : List UInt8} (h : (s.toList == l) = true) : s.data.toList = l := by
  rw [Lib.toList_data, beq_iff_eq] at h
  exact h
theorem scan_all_of {p : UInt8 → Bool} {s : ByteArray} {l : List UInt8} (hl : s.data.toList = l) (h : ∀ b ∈ l, p b = true) : scan p s 0 = s.size := by
  have e : scan p s 0 = 0 + l.length := scan_of (p := p) (l1 := []) (l2 := l) (l3 := []) (s := s) (by rw [hl]; simp) h nil_head
  rw [e, size_of hl, Nat.zero_add]
theorem scan_head {p : UInt8 → Bool} {s : ByteArray} {l2 l3 : List UInt8} (hl : s.data.toList = l2 ++ l3) (h2 : ∀ b ∈ l2, p b = true) (h3 : ∀ b q, l3 = b :: q → p b = false) : scan p s 0 = l2.length := by
  have e : scan p s 0 = 0 + l2.length := scan_of (p := p) (l1 := []) (l2 := l2) (l3 := l3) (s := s) (by rw [hl]; simp) h2 h3
  rw [e, Nat.zero_add]
theorem ext_head {s : ByteArray} {l2 l3 : List UInt8} (hl : s.data.toList = l2 ++ l3) : s.extract 0 l2.length = ⟨l2.toArray⟩ := by
  have e : s.extract 0 (0 + l2.length) = ⟨l2.toArray⟩ := ext_of (l1 := []) (l2 := l2) (l3 := l3) (s := s) (by rw [hl]; simp)
  rw [Nat.zero_add] at e
  exact e
theorem ext_back {s : ByteArray} {l1 l2 : List UInt8} (hl : s.data.toList = l1 ++ l2) : s.extract l1.length s.size = ⟨l2.toArray⟩ := by
  have := ext_of (l1 := l1) (l2 := l2) (l3 := []) (s := s) (by rw [hl]; simp)
  rw [size_of hl, List.length_append]
  exact this
theorem arr_of {s : ByteArray} {l : List UInt8} (h : s.data.toList = l) : (⟨l.toArray⟩ : ByteArray) = s := by
  apply ByteArray.ext
  apply Array.toList_inj.1
  rw [h]
theorem low_stays {s : ByteArray} (h : ∀ b ∈ s.data.toList, lowB b = b) : lowS s = s := by
  unfold lowS
  apply ByteArray.ext
  apply Array.toList_inj.1
  show (s.data.map lowB).toList = _
  rw [Array.toList_map]
  exact (List.map_congr_left h).trans (List.map_id _)
theorem trim_self {p : UInt8 → Bool} {s : ByteArray} (h : ∀ b ∈ s.data.toList, p b = false) : trimP p s = s := by
  have h0 : scan p s 0 = 0 := by
    by_cases hz : s.size = 0
    · exact scan_end hz.symm
    · exact scan_stop (by omega) (h _ (by exact List.getElem_mem (l := s.data.toList) (by simp; omega)))
  unfold trimP
  rw [h0, extract_all]
  by_cases hz : s.size = 0
  · exact eqS_eq (cut_back0 hz)
  · obtain ⟨m, hm⟩ : ∃ m, s.size = m + 1 := ⟨s.size - 1, by omega⟩
    refine eqS_eq ?_
    show ((cutP p s).toList == s.toList) = true
    rw [cut_back hm, h _ (by exact List.getElem_mem (l := s.data.toList) (by simp; omega))]
    rfl

/-- What is known of a scheme. -/
theorem own_four {s : ByteArray} (h : ownP s ≠ 0) : s = ⟨#[104, 116, 116, 112]⟩ ∨ s = ⟨#[119, 115]⟩ ∨ s = ⟨#[104, 116, 116, 112, 115]⟩ ∨ s = ⟨#[119, 115, 115]⟩ := by
  unfold ownP at h
  have key : ∀ {l : List UInt8}, (s.toList == l) = true → s = ⟨l.toArray⟩ := fun e => (arr_of (toList_eq e)).symm
  cases h1 : s.toList == [104, 116, 116, 112]
  · cases h2 : s.toList == [119, 115]
    · cases h3 : s.toList == [104, 116, 116, 112, 115]
      · cases h4 : s.toList == [119, 115, 115]
        · rw [h1, h2, h3, h4] at h
          exact absurd rfl h
        · exact .inr (.inr (.inr (key h4)))
      · exact .inr (.inr (.inl (key h3)))
    · exact .inr (.inl (key h2))
  · exact .inl (key h1)
theorem own_scheme {s : ByteArray} (h : ownP s ≠ 0) : lowS s = s ∧ (∀ b ∈ s.data.toList, lowerB b = true) ∧ s.data.toList ≠ [] := by
  rcases own_four h with rfl | rfl | rfl | rfl
  all_goals exact ⟨low_stays (by decide), by decide, by decide⟩
/-- What is known of a host's bytes. -/
def hoyB (b : UInt8) : Bool := lowerB b || digB b || b == 45 || b == 46
theorem nam_bytes {s : ByteArray} (h : namB s = true) : ∀ b ∈ s.data.toList, hoyB b = true := fun b hb => by
  unfold namB at h
  simp only [Bool.and_eq_true, List.all_eq_true, List.mem_range] at h
  obtain ⟨i, hi, e⟩ := List.getElem_of_mem hb
  have hi2 : i < s.size := by simpa using hi
  have h1 := h.2 i hi2
  unfold hosB at h1
  rw [getElem!_pos s i hi2] at h1
  have e2 : s[i] = b := e
  rw [e2] at h1
  unfold hoyB
  cases h2 : lowerB b
  · cases h3 : digB b
    · cases h4 : b == 45
      · rw [h2, h3, h4] at h1
        simp only [Bool.false_or, Bool.and_eq_true] at h1
        rw [h1.1.1]
        rfl
      · rfl
    · rfl
  · rfl

end Go.Proofs.YtagbndkfbnlpoaaGreatDoor
