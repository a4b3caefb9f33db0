/-
  Plain facts on a number's decimal digits: they are digits, their number is the number, and no nought stands ahead of another. No condition.
  Plain facts on layer 24's texts: what is written is read again. No condition.
  What the document's in, Good, Len and Fits of layer 24 answer. No condition.
-/
import Derived.Test.YtaolclpjlkdkjaaDoorZ3
import Derived.Lib.ItoaNum
import Derived.Test.YtaolclpjlkdkjaaDoorZ6
namespace Go.Proofs.YtaolclpjlkdkjaaDoor

theorem digit_toNat {u : Nat} (h : u < 10) : (UInt8.ofNat (48 + u)).toNat = 48 + u := by
  rw [UInt8.toNat_ofNat']
  omega
theorem digit_isB {u : Nat} (h : u < 10) : digB (UInt8.ofNat (48 + u)) = true := by
  unfold digB
  rw [digit_toNat h]
  simp
  omega
theorem decDigits_all : ∀ (n u : Nat), u ≤ n → ∀ b ∈ Lib.decDigits u, digB b = true
  | n, u, hn, b, hb => by
    by_cases h : u < 10
    · rw [Lib.decDigits, dif_pos h] at hb
      rw [List.mem_singleton.1 hb]
      exact digit_isB h
    · rw [Lib.decDigits, dif_neg h] at hb
      rcases List.mem_append.1 hb with h1 | h1
      · cases n with
        | zero => omega
        | succ n => exact decDigits_all n (u / 10) (by omega) b h1
      · rw [List.mem_singleton.1 h1]
        exact digit_isB (by omega)

/-- The number whose digits a list is. -/
def numL (l : List UInt8) : Nat := l.foldl (fun a b => 10 * a + (b.toNat - 48)) 0
theorem numL_snoc (l : List UInt8) (b : UInt8) : numL (l ++ [b]) = 10 * numL l + (b.toNat - 48) := by
  unfold numL
  rw [List.foldl_append]
  rfl
theorem numL_digits : ∀ (n u : Nat), u ≤ n → numL (Lib.decDigits u) = u
  | n, u, hn => by
    by_cases h : u < 10
    · rw [Lib.decDigits, dif_pos h]
      show 10 * 0 + ((UInt8.ofNat (48 + u)).toNat - 48) = u
      rw [digit_toNat h]
      omega
    · rw [Lib.decDigits, dif_neg h, numL_snoc, digit_toNat (by omega)]
      cases n with
      | zero => omega
      | succ n => rw [numL_digits n (u / 10) (by omega)]; omega
theorem numK_list (s : ByteArray) : ∀ k, k ≤ s.size → numK s k = numL (s.data.toList.take k)
  | 0, _ => by simp [numK, numL]
  | k + 1, h => by
    rw [numK_succ (by omega), numK_list s k (by omega), take_snoc s k (by omega), numL_snoc]
theorem decDigits_len : ∀ (n u : Nat), u ≤ n → 1 ≤ (Lib.decDigits u).length
  | n, u, hn => by
    by_cases h : u < 10
    · rw [Lib.decDigits, dif_pos h]
      simp
    · rw [Lib.decDigits, dif_neg h]
      simp
/-- A number's digits, as a text. -/
def digS (u : Nat) : ByteArray := ⟨(Lib.decDigits u).toArray⟩
theorem digS_list (u : Nat) : (digS u).data.toList = Lib.decDigits u := by simp [digS]
theorem digS_size (u : Nat) : (digS u).size = (Lib.decDigits u).length := by
  show (Lib.decDigits u).toArray.size = _
  simp
theorem digS_all (u : Nat) : allB digB (digS u) = true := allB_yes fun j hj => by
  have h : (digS u)[j] ∈ (digS u).data.toList := List.getElem_mem (l := (digS u).data.toList) (by simpa using hj)
  rw [digS_list] at h
  exact decDigits_all u u (Nat.le_refl _) _ h
theorem digS_num (u : Nat) : numK (digS u) (digS u).size = u := by
  rw [numK_list _ _ (Nat.le_refl _), List.take_of_length_le (by simp), digS_list]
  exact numL_digits u u (Nat.le_refl _)
theorem itoa_pos (u : Nat) : (⟨(Lib.itoa (u : Int)).toArray⟩ : ByteArray) = digS u := by
  unfold Lib.itoa digS
  rw [if_neg (by omega)]
  simp
theorem digS_le {u : Nat} (h : u < 18446744073709551616) : (digS u).size ≤ 20 := by
  rw [digS_size]
  have key : ∀ (k u : Nat), u < 10 ^ (k + 1) → (Lib.decDigits u).length ≤ k + 1 := fun k => by
    induction k with
    | zero => intro u hu; rw [Lib.decDigits, dif_pos (by simpa using hu)]; simp
    | succ k ih =>
      intro u hu
      by_cases h1 : u < 10
      · rw [Lib.decDigits, dif_pos h1]; simp
      · rw [Lib.decDigits, dif_neg h1]
        have := ih (u / 10) (by rw [Nat.div_lt_iff_lt_mul (by omega)]; rw [Nat.pow_succ] at hu; exact hu)
        simp only [List.length_append, List.length_cons, List.length_nil]
        omega
  exact key 19 u (by omega)

end Go.Proofs.YtaolclpjlkdkjaaDoor
namespace Go.Proofs.YtaolclpjlkdkjaaDoor

theorem scan_of {p : UInt8 → Bool} {s : ByteArray} {l1 l2 l3 : List UInt8} (hl : s.data.toList = l1 ++ (l2 ++ l3)) (h2 : ∀ b ∈ l2, p b = true) (h3 : ∀ b q, l3 = b :: q → p b = false) : scan p s l1.length = l1.length + l2.length := by
  unfold scan
  rw [hl, List.drop_left]
  congr 2
  have h4 : l3.takeWhile p = [] := by
    cases l3 with
    | nil => rfl
    | cons b q => rw [List.takeWhile_cons, if_neg (by rw [h3 b q rfl]; decide)]
  rw [List.takeWhile_append_of_pos h2, h4, List.append_nil]
theorem atB_of {s : ByteArray} {l1 l3 : List UInt8} {b : UInt8} (hl : s.data.toList = l1 ++ b :: l3) : atB s l1.length b = true := by
  have hz : s.size = l1.length + (l3.length + 1) := by
    have := congrArg List.length hl
    simp at this
    exact this
  have h : l1.length < s.size := by omega
  rw [atB_at h, beq_iff_eq]
  have e : s[l1.length] = s.data.toList[l1.length]'(by simpa using h) := rfl
  rw [e]
  have : ∀ (l : List UInt8) (hh : l1.length < l.length), l = l1 ++ b :: l3 → l[l1.length] = b := fun l hh e => by subst e; simp
  exact this _ _ hl
theorem atB_no {s : ByteArray} {l1 l3 : List UInt8} {b c : UInt8} (hl : s.data.toList = l1 ++ b :: l3) (hne : b ≠ c) : atB s l1.length c = false := by
  have hz : s.size = l1.length + (l3.length + 1) := by
    have := congrArg List.length hl
    simp at this
    exact this
  have h : l1.length < s.size := by omega
  have h2 := atB_of hl
  rw [atB_at h, beq_iff_eq] at h2
  rw [atB_at h, h2, beq_eq_false_iff_ne]
  exact hne
theorem ext_of {s : ByteArray} {l1 l2 l3 : List UInt8} (hl : s.data.toList = l1 ++ (l2 ++ l3)) : s.extract l1.length (l1.length + l2.length) = ⟨l2.toArray⟩ := by
  apply ByteArray.ext
  apply Array.toList_inj.1
  rw [ByteArray.data_extract, Array.toList_extract, hl]
  simp [List.extract]
theorem size_of {s : ByteArray} {l : List UInt8} (hl : s.data.toList = l) : s.size = l.length := by
  have := congrArg List.length hl
  simpa using this
theorem app_list (a b : ByteArray) : (a ++ b).data.toList = a.data.toList ++ b.data.toList := by simp

/-- A number's digits, nothing of one that is not said; its digits as a list. -/
def worS (n : Int) : ByteArray := if n < 0 then ⟨#[]⟩ else digS n.toNat
def worL (n : Int) : List UInt8 := if n < 0 then [] else Lib.decDigits n.toNat
theorem worS_list (n : Int) : (worS n).data.toList = worL n := by
  unfold worS worL
  split
  · rfl
  · exact digS_list _
theorem worL_dig (n : Int) : ∀ b ∈ worL n, digB b = true := fun b hb => by
  unfold worL at hb
  split at hb
  · cases hb
  · exact decDigits_all _ _ (Nat.le_refl _) b hb
theorem worL_none {n : Int} : (worL n).length = 0 ↔ n < 0 := by
  unfold worL
  split
  · rename_i h; simp [h]
  · rename_i h
    have := decDigits_len n.toNat n.toNat (Nat.le_refl _)
    omega
theorem worS_of (n : Int) : (⟨(worL n).toArray⟩ : ByteArray) = worS n := by
  apply ByteArray.ext
  apply Array.toList_inj.1
  show (worL n).toArray.toList = (worS n).data.toList
  rw [worS_list]
theorem numP_wor {n : Int} (h : -1 ≤ n) (h2 : n ≤ 9007199254740991) : numP (worS n) = some n := by
  unfold worS
  split
  · rename_i h3
    have e : n = -1 := by omega
    subst e
    rfl
  · rename_i h3
    have hs := digS_size n.toNat
    have hl := decDigits_len n.toNat n.toNat (Nat.le_refl _)
    have hk := digS_num n.toNat
    rw [numP_ok (by omega) (by rw [hk]; omega), hk]
    congr 1
    omega
theorem dig_tab {b : UInt8} (h : digB b = true) : tabB b = false := by
  have := bytes_all (p := fun b => !digB b || !tabB b) (by kernel_rfl) b
  rw [h] at this
  simpa using this
theorem dig_star {b : UInt8} (h : digB b = true) : b ≠ 42 := fun e => by subst e; cases h
theorem app_tab {l : List UInt8} {c : UInt8} {q : List UInt8} (hl : ∀ b ∈ l, digB b = true) (hc : tabB c = false) : ∀ b q', l ++ c :: q = b :: q' → tabB b = false := fun b q' e => by
  cases l with
  | nil => cases e; exact hc
  | cons x l =>
    obtain ⟨rfl, _⟩ := List.cons.inj e
    exact dig_tab (hl _ (List.mem_cons_self ..))
theorem all_tab {l : List UInt8} (hl : ∀ b ∈ l, digB b = true) : ∀ b q', l = b :: q' → tabB b = false := fun b q' e => by
  subst e; exact dig_tab (hl b (List.mem_cons_self ..))
theorem one_head {c : UInt8} {q : List UInt8} {p : UInt8 → Bool} (hc : p c = false) : ∀ b q', c :: q = b :: q' → p b = false := fun b q' e => by cases e; exact hc
theorem none_mem {p : UInt8 → Bool} : ∀ b ∈ ([] : List UInt8), p b = true := fun b h => by cases h
theorem nil_head {p : UInt8 → Bool} : ∀ b q', ([] : List UInt8) = b :: q' → p b = false := fun b q' e => by cases e

abbrev uniL : List UInt8 := [98, 121, 116, 101, 115]
/-- The unit first, and a sign that is no letter. -/
theorem unit_of {s : ByteArray} {c : UInt8} {l : List UInt8} (hl : s.data.toList = uniL ++ c :: l) (hc : letB c = false) : aA s = 0 ∧ aU s = 5 ∧ isUnit s (aA s) = true := by
  have h0 : aA s = 0 := scan_of (l1 := []) (l2 := []) (l3 := uniL ++ c :: l) hl none_mem (one_head (by decide))
  have h1 : scan letB s 0 = 5 := scan_of (l1 := []) (l2 := uniL) (l3 := c :: l) hl (by decide) (one_head hc)
  refine ⟨h0, by show scan letB s (aA s) = 5; rw [h0, h1], ?_⟩
  unfold isUnit
  rw [h0, h1]
  have e : s.extract 0 5 = bytS := ext_of (l1 := []) (l2 := uniL) (l3 := c :: l) hl
  rw [e]
  exact (show sameB bytS bytS = true from by kernel_rfl)

/-- What is asked for, as it is written. -/
theorem ask_of {s : ByteArray} {a b : Int} (hl : s.data.toList = uniL ++ 61 :: (worL a ++ 45 :: worL b)) (ha : -1 ≤ a) (ha2 : a ≤ 9007199254740991) (hb : -1 ≤ b) (hb2 : b ≤ 9007199254740991) (hn : ¬(a = -1 ∧ b = -1)) (ho : b = -1 ∨ a ≤ b) : askO s = .ok (a, b) := by
  have da := worL_dig a
  have db := worL_dig b
  have na := worL_none (n := a)
  have nb := worL_none (n := b)
  obtain ⟨e0, e1, hu⟩ := unit_of hl (by decide)
  have eB : aB s = 5 := by
    show scan tabB s (aU s) = 5
    rw [e1]
    exact scan_of (l1 := uniL) (l2 := []) (l3 := 61 :: (worL a ++ 45 :: worL b)) hl none_mem (one_head (by decide))
  have a61 : atB s (aB s) 61 = true := by rw [eB]; exact atB_of (l1 := uniL) hl
  have hl6 : s.data.toList = (uniL ++ [61]) ++ (worL a ++ 45 :: worL b) := by rw [hl]; simp
  have eC : aC s = 6 := by
    show scan tabB s (aB s + 1) = 6
    rw [eB]
    exact scan_of (l1 := uniL ++ [61]) (l2 := []) hl6 none_mem (app_tab da (by decide))
  have eD : aD s = 6 + (worL a).length := by
    show scan digB s (aC s) = _
    rw [eC]
    exact scan_of (l1 := uniL ++ [61]) hl6 da (one_head (by decide))
  have hl7 : s.data.toList = (uniL ++ [61] ++ worL a) ++ (45 :: worL b) := by rw [hl]; simp
  have z7 : (uniL ++ [61] ++ worL a).length = 6 + (worL a).length := by simp; omega
  have eE : aE s = 6 + (worL a).length := by
    show scan tabB s (aD s) = _
    rw [eD]
    have := scan_of (p := tabB) (l1 := uniL ++ [61] ++ worL a) (l2 := []) (l3 := 45 :: worL b) hl7 none_mem (one_head (by decide))
    rw [z7] at this
    exact this
  have a45 : atB s (aE s) 45 = true := by
    have := atB_of (l1 := uniL ++ [61] ++ worL a) hl7
    rw [z7] at this
    rw [eE]
    exact this
  have hl8 : s.data.toList = (uniL ++ [61] ++ worL a ++ [45]) ++ (worL b ++ []) := by rw [hl]; simp
  have z8 : (uniL ++ [61] ++ worL a ++ [45]).length = 6 + (worL a).length + 1 := by simp; omega
  have eF : aF s = 6 + (worL a).length + 1 := by
    show scan tabB s (aE s + 1) = _
    rw [eE]
    have := scan_of (p := tabB) (l1 := uniL ++ [61] ++ worL a ++ [45]) (l2 := []) (l3 := worL b ++ []) hl8 none_mem (by rw [List.append_nil]; exact all_tab db)
    rw [z8] at this
    exact this
  have eG : aG s = 6 + (worL a).length + 1 + (worL b).length := by
    show scan digB s (aF s) = _
    rw [eF]
    have := scan_of (p := digB) (l1 := uniL ++ [61] ++ worL a ++ [45]) (l2 := worL b) (l3 := []) hl8 db nil_head
    rw [z8] at this
    exact this
  have hz : s.size = 6 + (worL a).length + 1 + (worL b).length := by rw [size_of hl]; simp; omega
  have eH : aH s = s.size := by
    show scan tabB s (aG s) = _
    rw [eG, ← hz]
    exact scan_end rfl
  have x1 : s.extract (aC s) (aD s) = worS a := by
    rw [eC, eD, ← worS_of]
    have := ext_of (l1 := uniL ++ [61]) (l2 := worL a) hl6
    have z6 : (uniL ++ [61] : List UInt8).length = 6 := rfl
    rw [z6] at this
    exact this
  have x2 : s.extract (aF s) (aG s) = worS b := by
    have := ext_of (l1 := uniL ++ [61] ++ worL a ++ [45]) (l2 := worL b) (l3 := []) hl8
    rw [z8] at this
    rw [eF, eG, ← worS_of]
    exact this
  rw [askO_all hu a61 a45 (by omega) eH, x1, x2, numP_wor ha ha2, numP_wor hb hb2]
  exact if_pos ho

/-- What is said that comes, as it is written: a star. -/
theorem cont_star {s : ByteArray} {c : Int} (hl : s.data.toList = uniL ++ 32 :: 42 :: 47 :: worL c) (hc : 0 ≤ c) (hc2 : c ≤ 9007199254740991) : contO s = .ok (-1, -1, c) := by
  have dc := worL_dig c
  have nc := worL_none (n := c)
  obtain ⟨e0, e1, hu⟩ := unit_of hl (by decide)
  have eB : aB s = 6 := by
    show scan tabB s (aU s) = 6
    rw [e1]
    exact scan_of (l1 := uniL) (l2 := [32]) (l3 := 42 :: 47 :: worL c) hl (by decide) (one_head (by decide))
  have a42 : atB s 6 42 = true := atB_of (l1 := uniL ++ [32]) (l3 := 47 :: worL c) (by rw [hl]; simp)
  have a47 : atB s 7 47 = true := atB_of (l1 := uniL ++ [32, 42]) (l3 := worL c) (by rw [hl]; simp)
  have hl8 : s.data.toList = (uniL ++ [32, 42, 47]) ++ (worL c ++ []) := by rw [hl]; simp
  have e8 : scan digB s (7 + 1) = 7 + 1 + (worL c).length := scan_of (l1 := uniL ++ [32, 42, 47]) (l2 := worL c) (l3 := []) hl8 dc nil_head
  have hz : s.size = 7 + 1 + (worL c).length := by rw [size_of hl]; simp; omega
  have x8 : s.extract (7 + 1) (7 + 1 + (worL c).length) = worS c := by
    rw [← worS_of]
    have := ext_of (l1 := uniL ++ [32, 42, 47]) (l2 := worL c) (l3 := []) hl8
    have z6 : (uniL ++ [32, 42, 47] : List UInt8).length = 7 + 1 := rfl
    rw [z6] at this
    exact this
  rw [contO_more hu (by rw [eB, e1]; decide), eB, contM_star a42, contS_size a47 (fun h => by cases h.1) (by rw [e8]; omega), e8, x8, contE_all (by rw [← hz]; exact scan_end rfl), numP_wor (by omega) hc2]
  refine if_pos ?_
  have i1 : inB c = true := by unfold inB; rw [decide_eq_true (by omega), decide_eq_true hc2]; rfl
  have h1 : (c == -1) = false := by rw [beq_eq_false_iff_ne]; omega
  unfold goodQ
  rw [i1, h1]
  rfl
/-- What is said that comes, as it is written: bytes. -/
theorem cont_bytes {s : ByteArray} {a b c : Int} (hl : s.data.toList = uniL ++ 32 :: (worL a ++ 45 :: (worL b ++ 47 :: (if c = -1 then [42] else worL c)))) (hg : goodQ a b c = true) (ha : a ≠ -1) : contO s = .ok (a, b, c) := by
  obtain ⟨⟨a1, a2⟩, ⟨b1, b2⟩, c1, c2⟩ := goodQ_in hg
  obtain ⟨g1, g2⟩ := goodQ_bytes hg ha
  have da := worL_dig a
  have db := worL_dig b
  have dc := worL_dig c
  have na := worL_none (n := a)
  have nb := worL_none (n := b)
  have nc := worL_none (n := c)
  obtain ⟨e0, e1, hu⟩ := unit_of hl (by decide)
  generalize hM : (if c = -1 then [42] else worL c) = M at hl
  have hl6 : s.data.toList = (uniL ++ [32]) ++ (worL a ++ 45 :: (worL b ++ 47 :: M)) := by rw [hl]; simp
  have eB : aB s = 6 := by
    show scan tabB s (aU s) = 6
    rw [e1]
    exact scan_of (l1 := uniL) (l2 := [32]) (l3 := worL a ++ 45 :: (worL b ++ 47 :: M)) hl (by decide) (app_tab da (by decide))
  have a42 : atB s 6 42 = false := by
    cases hw : worL a with
    | nil => rw [hw] at na; simp at na; omega
    | cons x l =>
      rw [hw] at hl6 da
      exact atB_no (l1 := uniL ++ [32]) hl6 (dig_star (da x (List.mem_cons_self ..)))
  have eD : scan digB s 6 = 6 + (worL a).length := scan_of (l1 := uniL ++ [32]) hl6 da (one_head (by decide))
  have hl7 : s.data.toList = (uniL ++ [32] ++ worL a) ++ 45 :: (worL b ++ 47 :: M) := by rw [hl]; simp
  have z7 : (uniL ++ [32] ++ worL a).length = 6 + (worL a).length := by simp; omega
  have a45 : atB s (6 + (worL a).length) 45 = true := by
    have := atB_of (l1 := uniL ++ [32] ++ worL a) hl7
    rw [z7] at this
    exact this
  have hl8 : s.data.toList = (uniL ++ [32] ++ worL a ++ [45]) ++ (worL b ++ 47 :: M) := by rw [hl]; simp
  have z8 : (uniL ++ [32] ++ worL a ++ [45]).length = 6 + (worL a).length + 1 := by simp; omega
  have eK : scan digB s (6 + (worL a).length + 1) = 6 + (worL a).length + 1 + (worL b).length := by
    have := scan_of (p := digB) (l1 := uniL ++ [32] ++ worL a ++ [45]) hl8 db (one_head (by decide))
    rw [z8] at this
    exact this
  have hl9 : s.data.toList = (uniL ++ [32] ++ worL a ++ [45] ++ worL b) ++ 47 :: M := by rw [hl]; simp
  have z9 : (uniL ++ [32] ++ worL a ++ [45] ++ worL b).length = 6 + (worL a).length + 1 + (worL b).length := by simp; omega
  have x1 : s.extract 6 (6 + (worL a).length) = worS a := by
    rw [← worS_of]
    have := ext_of (l1 := uniL ++ [32]) (l2 := worL a) hl6
    have z6 : (uniL ++ [32] : List UInt8).length = 6 := rfl
    rw [z6] at this
    exact this
  have x2 : s.extract (6 + (worL a).length + 1) (6 + (worL a).length + 1 + (worL b).length) = worS b := by
    have := ext_of (l1 := uniL ++ [32] ++ worL a ++ [45]) (l2 := worL b) hl8
    rw [z8] at this
    rw [← worS_of]
    exact this
  generalize hk : 6 + (worL a).length + 1 + (worL b).length = k at *
  have a47 : atB s k 47 = true := by
    have := atB_of (l1 := uniL ++ [32] ++ worL a ++ [45] ++ worL b) hl9
    rw [z9] at this
    exact this
  have hl10 : s.data.toList = (uniL ++ [32] ++ worL a ++ [45] ++ worL b ++ [47]) ++ (M ++ []) := by rw [hl]; simp
  have z10 : (uniL ++ [32] ++ worL a ++ [45] ++ worL b ++ [47]).length = k + 1 := by simp; simp at z9; omega
  have hz : s.size = k + 1 + M.length := by rw [size_of hl10, List.append_nil, List.length_append, z10]
  have e1' : contO s = contS s k false (worS a) (worS b) := by
    rw [contO_more hu (by rw [eB, e1]; decide), eB, contM_all a42 (by rw [eD]; omega) (by rw [eD]; exact a45) (by rw [eD, eK]; omega), eD, eK, x1, x2]
  rw [e1']
  by_cases hc : c = -1
  · subst hc
    have hM' : M = [42] := by rw [← hM, if_pos rfl]
    subst hM'
    have s42 : atB s (k + 1) 42 = true := by
      have := atB_of (l1 := uniL ++ [32] ++ worL a ++ [45] ++ worL b ++ [47]) (l3 := []) hl10
      rw [z10] at this
      exact this
    rw [contS_star a47 s42, contE_all (scan_end (by rw [hz]; rfl) |>.trans (by rw [hz]; rfl)), numP_wor a1 a2, numP_wor b1 b2]
    exact if_pos hg
  · have hM' : M = worL c := by rw [← hM, if_neg hc]
    subst hM'
    have s42 : atB s (k + 1) 42 = false := by
      cases hw : worL c with
      | nil => rw [hw] at nc; simp at nc; omega
      | cons x l =>
        rw [hw] at hl10 dc
        have := atB_no (l1 := uniL ++ [32] ++ worL a ++ [45] ++ worL b ++ [47]) (l3 := l ++ []) (c := 42) hl10 (dig_star (dc x (List.mem_cons_self ..)))
        rw [z10] at this
        exact this
    have e8 : scan digB s (k + 1) = k + 1 + (worL c).length := by
      have := scan_of (p := digB) (l1 := uniL ++ [32] ++ worL a ++ [45] ++ worL b ++ [47]) (l2 := worL c) (l3 := []) hl10 dc nil_head
      rw [z10] at this
      exact this
    have x3 : s.extract (k + 1) (k + 1 + (worL c).length) = worS c := by
      have := ext_of (l1 := uniL ++ [32] ++ worL a ++ [45] ++ worL b ++ [47]) (l2 := worL c) (l3 := []) hl10
      rw [z10] at this
      rw [← worS_of]
      exact this
    rw [contS_size a47 (fun h => by rw [s42] at h; cases h.2) (by rw [e8]; omega), e8, x3, contE_all (by rw [← hz]; exact scan_end rfl), numP_wor a1 a2, numP_wor b1 b2, numP_wor c1 c2]
    exact if_pos hg

end Go.Proofs.YtaolclpjlkdkjaaDoor
namespace Go.Proofs.YtaolclpjlkdkjaaDoor
open Go.RowKit

set_option maxHeartbeats 400000 in
theorem rin_any (n : Int) (w : World) : Calls Tryd.prog 16 #[.int .i64 n] w fun e w' => e = .returned (.bool (inB n)) ∧ w = w' := by
  unfold inB
  cases h : decide (-1 ≤ n)
  all_goals
    go_enter Tryd.func16, Tryd.ntmps16
    go_wp2
    go_ret
    exact ⟨rfl, rfl⟩

theorem goodQ_doc {a b c : Int} (ha : inB a = true) (hb : inB b = true) (hc : inB c = true) : goodQ a b c = cond (decide (a < 0) || decide (b < 0)) ((a == b) && decide (0 ≤ c)) (decide (a ≤ b) && (decide (c < 0) || decide (b < c))) := by
  have a1 := inB_yes ha
  have b1 := inB_yes hb
  have c1 := inB_yes hc
  unfold goodQ
  rw [ha, hb, hc, Bool.true_and, Bool.true_and, Bool.true_and]
  by_cases h1 : a = -1
  · subst h1
    rw [Bool.eq_iff_iff]
    simp
    omega
  · have e : (a == -1) = false := beq_false_of_ne h1
    have e2 : decide (a < 0) = false := decide_eq_false (by omega)
    rw [e, e2, Bool.false_or, cond_false]
    by_cases h2 : b < 0
    · rw [decide_eq_true h2, cond_true, decide_eq_false (show ¬ a ≤ b by omega), beq_false_of_ne (show a ≠ b by omega)]
      rfl
    · rw [decide_eq_false h2, cond_false, Bool.eq_iff_iff]
      simp
      omega

set_option maxRecDepth 100000 in
set_option maxHeartbeats 2000000 in
theorem rgood24_any (a b c : Int) (w : World) : Calls Tryd.prog 9 #[partV a b c] w fun e w' => e = .returned (.bool (goodQ a b c)) ∧ Below w.heap.size w w' := by
  have HA := Lib.hid (fun W => rin_any a W)
  have HB1 := Lib.hid (fun W => rin_any b W)
  have HC1 := Lib.hid (fun W => rin_any c W)
  have HB := Lib.hid ((Below.refl w.heap.size w).alloc (Nat.le_refl _) (partC a b c))
  have HK := Lib.hid (one_part w a b c)
  cases h1 : inB a
  · rw [h1] at HA
    have hg := Lib.hid (show goodQ a b c = false from by unfold goodQ; rw [h1]; rfl)
    rw [hg.out]
    clear hg
    go_enter Tryd.func9, Tryd.ntmps9
    go_wp2_with (first
      | (go_at_call 16; (with_reducible refine (HA.out _).mono ?_); rintro e w1 ⟨rfl, rfl⟩)
      | (go_at_call 16; (with_reducible refine (HB1.out _).mono ?_); rintro e w1 ⟨rfl, rfl⟩)
      | (go_at_call 16; (with_reducible refine (HC1.out _).mono ?_); rintro e w1 ⟨rfl, rfl⟩))
    go_ret
    exact ⟨rfl, HB.out⟩
  cases h2 : inB b
  · rw [h1] at HA
    rw [h2] at HB1
    have hg := Lib.hid (show goodQ a b c = false from by unfold goodQ; rw [h1, h2]; rfl)
    rw [hg.out]
    clear hg
    go_enter Tryd.func9, Tryd.ntmps9
    go_wp2_with (first
      | (go_at_call 16; (with_reducible refine (HA.out _).mono ?_); rintro e w1 ⟨rfl, rfl⟩)
      | (go_at_call 16; (with_reducible refine (HB1.out _).mono ?_); rintro e w1 ⟨rfl, rfl⟩)
      | (go_at_call 16; (with_reducible refine (HC1.out _).mono ?_); rintro e w1 ⟨rfl, rfl⟩))
    go_ret
    exact ⟨rfl, HB.out⟩
  cases h3 : inB c
  · rw [h1] at HA
    rw [h2] at HB1
    rw [h3] at HC1
    have hg := Lib.hid (show goodQ a b c = false from by unfold goodQ; rw [h1, h2, h3]; rfl)
    rw [hg.out]
    clear hg
    go_enter Tryd.func9, Tryd.ntmps9
    go_wp2_with (first
      | (go_at_call 16; (with_reducible refine (HA.out _).mono ?_); rintro e w1 ⟨rfl, rfl⟩)
      | (go_at_call 16; (with_reducible refine (HB1.out _).mono ?_); rintro e w1 ⟨rfl, rfl⟩)
      | (go_at_call 16; (with_reducible refine (HC1.out _).mono ?_); rintro e w1 ⟨rfl, rfl⟩))
    go_ret
    exact ⟨rfl, HB.out⟩
  have hd := Lib.hid (goodQ_doc h1 h2 h3)
  rw [h1] at HA
  rw [h2] at HB1
  rw [h3] at HC1
  cases h4 : decide (a < 0)
  · cases h5 : decide (b < 0)
    · cases h6 : decide (a ≤ b)
      · have hg := Lib.hid (show goodQ a b c = false from by rw [hd.out, h4, h5, h6]; rfl)
        rw [hg.out]
        clear hg
        go_enter Tryd.func9, Tryd.ntmps9
        go_wp2_with (first
      | (go_at_call 16; (with_reducible refine (HA.out _).mono ?_); rintro e w1 ⟨rfl, rfl⟩)
      | (go_at_call 16; (with_reducible refine (HB1.out _).mono ?_); rintro e w1 ⟨rfl, rfl⟩)
      | (go_at_call 16; (with_reducible refine (HC1.out _).mono ?_); rintro e w1 ⟨rfl, rfl⟩))
        go_ret
        exact ⟨rfl, HB.out⟩
      cases h7 : decide (c < 0)
      · have hg := Lib.hid (show goodQ a b c = decide (b < c) from by rw [hd.out, h4, h5, h6, h7]; rfl)
        rw [hg.out]
        clear hg
        go_enter Tryd.func9, Tryd.ntmps9
        go_wp2_with (first
      | (go_at_call 16; (with_reducible refine (HA.out _).mono ?_); rintro e w1 ⟨rfl, rfl⟩)
      | (go_at_call 16; (with_reducible refine (HB1.out _).mono ?_); rintro e w1 ⟨rfl, rfl⟩)
      | (go_at_call 16; (with_reducible refine (HC1.out _).mono ?_); rintro e w1 ⟨rfl, rfl⟩))
        go_ret
        exact ⟨rfl, HB.out⟩
      · have hg := Lib.hid (show goodQ a b c = true from by rw [hd.out, h4, h5, h6, h7]; rfl)
        rw [hg.out]
        clear hg
        go_enter Tryd.func9, Tryd.ntmps9
        go_wp2_with (first
      | (go_at_call 16; (with_reducible refine (HA.out _).mono ?_); rintro e w1 ⟨rfl, rfl⟩)
      | (go_at_call 16; (with_reducible refine (HB1.out _).mono ?_); rintro e w1 ⟨rfl, rfl⟩)
      | (go_at_call 16; (with_reducible refine (HC1.out _).mono ?_); rintro e w1 ⟨rfl, rfl⟩))
        go_ret
        exact ⟨rfl, HB.out⟩
    · cases h6 : (a == b)
      · have hg := Lib.hid (show goodQ a b c = false from by rw [hd.out, h4, h5, h6]; rfl)
        rw [hg.out]
        clear hg
        go_enter Tryd.func9, Tryd.ntmps9
        go_wp2_with (first
      | (go_at_call 16; (with_reducible refine (HA.out _).mono ?_); rintro e w1 ⟨rfl, rfl⟩)
      | (go_at_call 16; (with_reducible refine (HB1.out _).mono ?_); rintro e w1 ⟨rfl, rfl⟩)
      | (go_at_call 16; (with_reducible refine (HC1.out _).mono ?_); rintro e w1 ⟨rfl, rfl⟩))
        go_ret
        exact ⟨rfl, HB.out⟩
      · have hg := Lib.hid (show goodQ a b c = decide (0 ≤ c) from by rw [hd.out, h4, h5, h6]; rfl)
        rw [hg.out]
        clear hg
        go_enter Tryd.func9, Tryd.ntmps9
        go_wp2_with (first
      | (go_at_call 16; (with_reducible refine (HA.out _).mono ?_); rintro e w1 ⟨rfl, rfl⟩)
      | (go_at_call 16; (with_reducible refine (HB1.out _).mono ?_); rintro e w1 ⟨rfl, rfl⟩)
      | (go_at_call 16; (with_reducible refine (HC1.out _).mono ?_); rintro e w1 ⟨rfl, rfl⟩))
        go_ret
        exact ⟨rfl, HB.out⟩
  · cases h6 : (a == b)
    · have hg := Lib.hid (show goodQ a b c = false from by rw [hd.out, h4, h6]; rfl)
      rw [hg.out]
      clear hg
      go_enter Tryd.func9, Tryd.ntmps9
      go_wp2_with (first
      | (go_at_call 16; (with_reducible refine (HA.out _).mono ?_); rintro e w1 ⟨rfl, rfl⟩)
      | (go_at_call 16; (with_reducible refine (HB1.out _).mono ?_); rintro e w1 ⟨rfl, rfl⟩)
      | (go_at_call 16; (with_reducible refine (HC1.out _).mono ?_); rintro e w1 ⟨rfl, rfl⟩))
      go_ret
      exact ⟨rfl, HB.out⟩
    · have hg := Lib.hid (show goodQ a b c = decide (0 ≤ c) from by rw [hd.out, h4, h6]; rfl)
      rw [hg.out]
      clear hg
      go_enter Tryd.func9, Tryd.ntmps9
      go_wp2_with (first
      | (go_at_call 16; (with_reducible refine (HA.out _).mono ?_); rintro e w1 ⟨rfl, rfl⟩)
      | (go_at_call 16; (with_reducible refine (HB1.out _).mono ?_); rintro e w1 ⟨rfl, rfl⟩)
      | (go_at_call 16; (with_reducible refine (HC1.out _).mono ?_); rintro e w1 ⟨rfl, rfl⟩))
      go_ret
      exact ⟨rfl, HB.out⟩

end Go.Proofs.YtaolclpjlkdkjaaDoor
