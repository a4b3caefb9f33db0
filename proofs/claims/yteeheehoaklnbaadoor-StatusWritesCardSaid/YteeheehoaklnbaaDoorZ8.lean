/-
  Plain facts on layer 24's texts: what is written is read again. No condition.
  Plain facts on layer 25's texts: what is written is read again. No condition.
  What package status' functions on one number answer, and the document's; isBlank; what a reason is. Condition: a text is no longer than a length can be.
-/
import Derived.Test.YteeheehoaklnbaaDoorZ4
import Derived.Test.YteeheehoaklnbaaDoorZ2
import Derived.Test.YteeheehoaklnbaaDoorZ7
import Derived.RegionTactic
import Derived.BigRegion
import Derived.Deep.QuietTactic
import Derived.BigQuiet
import Derived.Deep.RegionHeld2
import Derived.IntWalk
import Derived.Lib.Hide
import Derived.Test.YteeheehoaklnbaaDoorZ5
namespace Go.Proofs.YteeheehoaklnbaaDoor

theorem scan_of {p : UInt8 → Bool} {s : ByteArray} {l1 l2 l3 : List UInt8} (hl : s.data.toList = l1 ++ (l2 ++ l3)) (h2 : ∀ b ∈ l2, p b = true) (h3 : ∀ b q, l3 = b :: q → p b = false) : scan p s l1.length = l1.length + l2.length := by
  unfold scan
  rw [hl, List.drop_left]
  congr 2
  have h4 : l3.takeWhile p = [] := by
    cases l3 with
    | nil => rfl
    | cons b q => rw [List.takeWhile_cons, if_neg (by rw [h3 b q rfl]; decide)]
  rw [List.takeWhile_append_of_pos h2, h4, List.append_nil]
theorem atB_of {s : ByteArray} {l1 l3 : List UInt8} {b : UInt8} (hl : s.data.toList = l1 ++ b :: l3) : atB s l1.length b = true := by
  have hz : s.size = l1.length + (l3.length + 1) := by
    have := congrArg List.length hl
    simp at this
    exact this
  have h : l1.length < s.size := by omega
  rw [atB_at h, beq_iff_eq]
  have e : s[l1.length] = s.data.toList[l1.length]'(by simpa using h) := rfl
  rw [e]
  have : ∀ (l : List UInt8) (hh : l1.length < l.length), l = l1 ++ b :: l3 → l[l1.length] = b := fun l hh e => by subst e; simp
  exact this _ _ hl
theorem atB_no {s : ByteArray} {l1 l3 : List UInt8} {b c : UInt8} (hl : s.data.toList = l1 ++ b :: l3) (hne : b ≠ c) : atB s l1.length c = false := by
  have hz : s.size = l1.length + (l3.length + 1) := by
    have := congrArg List.length hl
    simp at this
    exact this
  have h : l1.length < s.size := by omega
  have h2 := atB_of hl
  rw [atB_at h, beq_iff_eq] at h2
  rw [atB_at h, h2, beq_eq_false_iff_ne]
  exact hne
theorem ext_of {s : ByteArray} {l1 l2 l3 : List UInt8} (hl : s.data.toList = l1 ++ (l2 ++ l3)) : s.extract l1.length (l1.length + l2.length) = ⟨l2.toArray⟩ := by
  apply ByteArray.ext
  apply Array.toList_inj.1
  rw [ByteArray.data_extract, Array.toList_extract, hl]
  simp [List.extract]
theorem size_of {s : ByteArray} {l : List UInt8} (hl : s.data.toList = l) : s.size = l.length := by
  have := congrArg List.length hl
  simpa using this
theorem app_list (a b : ByteArray) : (a ++ b).data.toList = a.data.toList ++ b.data.toList := by simp

/-- A number's digits, nothing of one that is not said; its digits as a list. -/
def worS (n : Int) : ByteArray := if n < 0 then ⟨#[]⟩ else digS n.toNat
def worL (n : Int) : List UInt8 := if n < 0 then [] else Lib.decDigits n.toNat
theorem worS_list (n : Int) : (worS n).data.toList = worL n := by
  unfold worS worL
  split
  · rfl
  · exact digS_list _
theorem worL_dig (n : Int) : ∀ b ∈ worL n, digB b = true := fun b hb => by
  unfold worL at hb
  split at hb
  · cases hb
  · exact decDigits_all _ _ (Nat.le_refl _) b hb
theorem worL_none {n : Int} : (worL n).length = 0 ↔ n < 0 := by
  unfold worL
  split
  · rename_i h; simp [h]
  · rename_i h
    have := decDigits_len n.toNat n.toNat (Nat.le_refl _)
    omega
theorem worS_of (n : Int) : (⟨(worL n).toArray⟩ : ByteArray) = worS n := by
  apply ByteArray.ext
  apply Array.toList_inj.1
  show (worL n).toArray.toList = (worS n).data.toList
  rw [worS_list]
theorem one_head {c : UInt8} {q : List UInt8} {p : UInt8 → Bool} (hc : p c = false) : ∀ b q', c :: q = b :: q' → p b = false := fun b q' e => by cases e; exact hc
theorem none_mem {p : UInt8 → Bool} : ∀ b ∈ ([] : List UInt8), p b = true := fun b h => by cases h
theorem nil_head {p : UInt8 → Bool} : ∀ b q', ([] : List UInt8) = b :: q' → p b = false := fun b q' e => by cases e

end Go.Proofs.YteeheehoaklnbaaDoor
namespace Go.Proofs.YteeheehoaklnbaaDoor

abbrev htpL : List UInt8 := [72, 84, 84, 80, 47]
theorem worL_one {n : Int} (h : 0 ≤ n ∧ n ≤ 9) : (worL n).length = 1 := by
  unfold worL
  rw [if_neg (by omega), Lib.decDigits, dif_pos (by omega)]
  rfl
theorem worL_three {n : Int} (h : 100 ≤ n ∧ n ≤ 999) : (worL n).length = 3 := by
  unfold worL
  rw [if_neg (by omega), Lib.decDigits, dif_neg (by omega), Lib.decDigits, dif_neg (by omega), Lib.decDigits, dif_pos (by omega)]
  rfl
theorem numK_wor {n : Int} {k : Nat} (h : 0 ≤ n) (hk : (worL n).length = k) : ((numK (worS n) k : Nat) : Int) = n := by
  have hl : (worS n).size = k := by rw [size_of (worS_list n), hk]
  have hw : worS n = digS n.toNat := by unfold worS; rw [if_neg (by omega)]
  have := digS_num n.toNat
  rw [← hw, hl] at this
  rw [this]
  omega
theorem dig_bla {b : UInt8} (h : digB b = true) : blaB b = false := by
  have := bytes_all (p := fun b => !digB b || !blaB b) (by kernel_rfl) b
  rw [h] at this
  simpa using this
theorem dig_tab25 {b : UInt8} (h : digB b = true) : tabB b = false := by
  have := bytes_all (p := fun b => !digB b || !tabB b) (by kernel_rfl) b
  rw [h] at this
  simpa using this

/-- What stands behind the code. -/
def resS (r : ByteArray) : ByteArray := if r.size = 0 then ⟨#[]⟩ else ⟨#[32]⟩ ++ r
def texG (a b c : Int) (r : ByteArray) : ByteArray := (((((htpS ++ worS a) ++ ⟨#[46]⟩) ++ worS b) ++ ⟨#[32]⟩) ++ worS c) ++ resS r
theorem texG_list (a b c : Int) (r : ByteArray) : (texG a b c r).data.toList = htpL ++ (worL a ++ (46 :: (worL b ++ (32 :: (worL c ++ (resS r).data.toList))))) := by
  simp only [texG, app_list, worS_list]
  simp
theorem rea_first {r : ByteArray} (h : reaB r = true) : ∀ b q, r.data.toList = b :: q → tabB b = false := fun b q e => by
  unfold reaB at h
  simp only [Bool.and_eq_true, Bool.not_eq_true'] at h
  have hb := h.1.2
  unfold bgtB at hb
  have hz : r.size = q.length + 1 := by rw [size_of e]; rfl
  have h1 : (r.toList == []) = false := by
    rw [beq_eq_false_iff_ne]
    intro h2
    have h3 : r.size = 0 := by rw [← toList_size, h2]; rfl
    omega
  rw [h1, getElem!_pos r 0 (by omega)] at hb
  have e0 : r[0] = b := by
    have e1 : r[0] = r.data.toList[0]'(by rw [e]; simp) := rfl
    rw [e1]
    have : ∀ (l : List UInt8) (hh : 0 < l.length), l = b :: q → l[0] = b := fun l hh e => by subst e; rfl
    exact this _ _ e
  rw [e0] at hb
  simpa using hb

theorem last_of {p : UInt8 → Bool} {t : ByteArray} {l : List UInt8} {b : UInt8} (hl : t.data.toList = l ++ [b]) (hb : p b = false) : cutP p t = t := by
  have hz : t.size = l.length + 1 := by rw [size_of hl]; simp
  have h := cut_back (p := p) hz
  have hlt : l.length < t.size := by omega
  have e1 : t[l.length] = b := by
    have e2 : t[l.length] = t.data.toList[l.length]'(by rw [hl]; simp) := rfl
    rw [e2]
    have : ∀ (m : List UInt8) (hh : l.length < m.length), m = l ++ [b] → m[l.length] = b := fun m hh e => by subst e; simp
    exact this _ _ hl
  rw [e1, hb] at h
  exact eqS_eq h

theorem resS_none {r : ByteArray} (h : r.size = 0) : resS r = ⟨#[]⟩ := if_pos h
theorem resS_some {r : ByteArray} (h : r.size ≠ 0) : (resS r).data.toList = 32 :: r.data.toList := by
  unfold resS
  rw [if_neg h, app_list]
  rfl
theorem data_nil {r : ByteArray} (h : r.size = 0) : r = ⟨#[]⟩ := by
  apply ByteArray.ext
  apply Array.toList_inj.1
  have : r.data.toList.length = 0 := by simpa using h
  rw [List.length_eq_zero_iff.1 this]

/-- A good status, as it is written, is read as it was. -/
theorem tex_line {a b c : Int} {r : ByteArray} (hg : stgQ a b c r = true) : linO (cutP tabB (texG a b c r)) = .ok (a, b, c, r) := by
  have hg0 := hg
  unfold stgQ at hg
  simp only [Bool.and_eq_true, bne_iff_ne] at hg
  obtain ⟨⟨⟨va, vb⟩, vc⟩, vr⟩ := hg
  have ga := verB_range.1 va
  have gb := verB_range.1 vb
  have gc := (clsZ_pos c).1 vc
  have la := worL_one ga
  have lb := worL_one gb
  have lc := worL_three gc
  have da := worL_dig a
  have db := worL_dig b
  have dc := worL_dig c
  have hl := texG_list a b c r
  have hcut : cutP tabB (texG a b c r) = texG a b c r := by
    by_cases h0 : r.size = 0
    · obtain ⟨m, x, hx⟩ : ∃ m x, worL c = m ++ [x] := ⟨(worL c).dropLast, (worL c).getLast (by intro h; rw [h] at lc; cases lc), (List.dropLast_concat_getLast _).symm⟩
      refine last_of (l := htpL ++ (worL a ++ (46 :: (worL b ++ (32 :: m))))) (b := x) ?_ (dig_tab25 (dc x (by rw [hx]; simp)))
      rw [hl, resS_none h0, hx]
      simp
    · have hr := vr
      unfold reaB at hr
      simp only [Bool.and_eq_true] at hr
      have hc := hr.2
      obtain ⟨m, hm⟩ : ∃ m, r.size = m + 1 := ⟨r.size - 1, by omega⟩
      rw [cut_back hm] at hc
      have hne : r.data.toList ≠ [] := by
        intro h
        have h2 : r.size = 0 := size_of h
        omega
      obtain ⟨l, x, hx⟩ : ∃ l x, r.data.toList = l ++ [x] := ⟨r.data.toList.dropLast, r.data.toList.getLast hne, (List.dropLast_concat_getLast _).symm⟩
      have hlm : l.length = m := by
        have := size_of hx
        simp at this
        omega
      have hxm : r[m] = x := by
        have e2 : r[m] = r.data.toList[m]'(by simpa using (show m < r.size by omega)) := rfl
        rw [e2]
        have : ∀ (n : List UInt8) (hh : m < n.length), n = l ++ [x] → n[m] = x := fun n hh e => by subst e; subst hlm; simp
        exact this _ _ hx
      rw [hxm] at hc
      refine last_of (l := htpL ++ (worL a ++ (46 :: (worL b ++ (32 :: (worL c ++ (32 :: l))))))) (b := x) ?_ (by simpa using hc)
      rw [hl, resS_some h0, hx]
      simp
  rw [hcut]
  generalize htG : texG a b c r = t at *
  have hfirst := rea_first vr
  generalize hR : (resS r).data.toList = R at *
  have hz : t.size = 12 + R.length := by rw [size_of hl]; simp; omega
  have h1 : prefB t htpS = true := by
    unfold prefB
    have e : t.extract 0 5 = htpS := ext_of (l1 := []) (l2 := htpL) hl
    rw [show htpS.size = 5 from rfl, e, decide_eq_true (by omega), Bool.true_and]
    exact beq_self_eq_true _
  have h2 : scan digB t 5 = 6 := by
    have := scan_of (p := digB) (l1 := htpL) hl da (one_head (by decide))
    rw [la] at this
    exact this
  have hl6 : t.data.toList = (htpL ++ worL a) ++ (46 :: (worL b ++ (32 :: (worL c ++ R)))) := by rw [hl]; simp
  have z6 : (htpL ++ worL a).length = 6 := by simp; omega
  have h3 : atB t 6 46 = true := by
    have := atB_of (l1 := htpL ++ worL a) hl6
    rw [z6] at this
    exact this
  have hl7 : t.data.toList = (htpL ++ worL a ++ [46]) ++ (worL b ++ (32 :: (worL c ++ R))) := by rw [hl]; simp
  have z7 : (htpL ++ worL a ++ [46]).length = 7 := by simp; omega
  have h4 : scan digB t 7 = 8 := by
    have := scan_of (p := digB) (l1 := htpL ++ worL a ++ [46]) hl7 db (one_head (by decide))
    rw [z7, lb] at this
    exact this
  have hl8 : t.data.toList = (htpL ++ worL a ++ [46] ++ worL b) ++ ([32] ++ (worL c ++ R)) := by rw [hl]; simp
  have z8 : (htpL ++ worL a ++ [46] ++ worL b).length = 8 := by simp; omega
  have h5 : laC t = 9 := by
    have := scan_of (p := blaB) (l1 := htpL ++ worL a ++ [46] ++ worL b) (l2 := [32]) hl8 (by decide) (fun x q e => by
      cases hw : worL c with
      | nil => rw [hw] at lc; cases lc
      | cons y l =>
        rw [hw] at e dc
        obtain ⟨rfl, _⟩ := List.cons.inj e
        exact dig_bla (dc _ (List.mem_cons_self ..)))
    rw [z8] at this
    exact this
  have hl9 : t.data.toList = (htpL ++ worL a ++ [46] ++ worL b ++ [32]) ++ (worL c ++ R) := by rw [hl]; simp
  have z9 : (htpL ++ worL a ++ [46] ++ worL b ++ [32]).length = 9 := by simp; omega
  have hRh : ∀ x q, R = x :: q → digB x = false := fun x q e => by
    by_cases h0 : r.size = 0
    · rw [resS_none h0] at hR
      rw [← hR] at e
      cases e
    · rw [resS_some h0] at hR
      rw [← hR] at e
      obtain ⟨rfl, _⟩ := List.cons.inj e
      decide
  have h6 : laD t = 12 := by
    have := scan_of (p := digB) (l1 := htpL ++ worL a ++ [46] ++ worL b ++ [32]) hl9 dc hRh
    rw [z9, lc] at this
    unfold laD
    rw [h5]
    exact this
  have hl12 : t.data.toList = (htpL ++ worL a ++ [46] ++ worL b ++ [32] ++ worL c) ++ R := by rw [hl]; simp
  have z12 : (htpL ++ worL a ++ [46] ++ worL b ++ [32] ++ worL c).length = 12 := by simp; omega
  have h7 : laD t = t.size ∨ atB t (laD t) 32 = true := by
    by_cases h0 : r.size = 0
    · rw [resS_none h0] at hR
      left
      rw [h6, hz, ← hR]
      rfl
    · rw [resS_some h0] at hR
      right
      rw [← hR] at hl12
      have := atB_of (l1 := htpL ++ worL a ++ [46] ++ worL b ++ [32] ++ worL c) hl12
      rw [z12] at this
      rw [h6]
      exact this
  have hA : lnA t = a := by
    have e : t.extract 5 6 = worS a := by
      rw [← worS_of]
      have := ext_of (l1 := htpL) (l2 := worL a) hl
      rw [la] at this
      exact this
    unfold lnA
    rw [e]
    exact numK_wor ga.1 la
  have hB : lnB t = b := by
    have e : t.extract 7 8 = worS b := by
      rw [← worS_of]
      have := ext_of (l1 := htpL ++ worL a ++ [46]) (l2 := worL b) hl7
      rw [z7, lb] at this
      exact this
    unfold lnB
    rw [e]
    exact numK_wor gb.1 lb
  have hC : lnC t = c := by
    have e : t.extract 9 12 = worS c := by
      rw [← worS_of]
      have := ext_of (l1 := htpL ++ worL a ++ [46] ++ worL b ++ [32]) (l2 := worL c) hl9
      rw [z9, lc] at this
      exact this
    unfold lnC
    rw [h5, e]
    exact numK_wor (by omega) lc
  have hRr : lnR t = r := by
    by_cases h0 : r.size = 0
    · rw [resS_none h0] at hR
      have hE : laE t = t.size := by
        unfold laE
        rw [h6]
        have e12 : 12 = t.size := by rw [hz, ← hR]; rfl
        rw [← e12]
        exact scan_end e12
      unfold lnR
      rw [hE, data_nil h0]
      apply ByteArray.ext
      simp
    · rw [resS_some h0] at hR
      have hlr : t.data.toList = (htpL ++ worL a ++ [46] ++ worL b ++ [32] ++ worL c) ++ ([32] ++ r.data.toList) := by rw [hl12, ← hR]; rfl
      have hE : laE t = 13 := by
        have := scan_of (p := tabB) (l1 := htpL ++ worL a ++ [46] ++ worL b ++ [32] ++ worL c) (l2 := [32]) hlr (by decide) hfirst
        rw [z12] at this
        unfold laE
        rw [h6]
        exact this
      have hl13 : t.data.toList = (htpL ++ worL a ++ [46] ++ worL b ++ [32] ++ worL c ++ [32]) ++ (r.data.toList ++ []) := by rw [hlr]; simp
      have z13 : (htpL ++ worL a ++ [46] ++ worL b ++ [32] ++ worL c ++ [32]).length = 13 := by simp; omega
      have hzr : t.size = 13 + r.data.toList.length := by rw [hz, ← hR]; simp; omega
      have := ext_of (l1 := htpL ++ worL a ++ [46] ++ worL b ++ [32] ++ worL c ++ [32]) (l2 := r.data.toList) hl13
      rw [z13, ← hzr] at this
      unfold lnR
      rw [hE, this]
  rw [lin_8 h1 h2 h3 h4 (by omega) (by omega) h7, hA, hB, hC, hRr, if_neg (by rw [hg0]; decide)]

theorem texG_size {a b c : Int} {r : ByteArray} (hg : stgQ a b c r = true) : (texG a b c r).size ≤ 13 + r.size := by
  unfold stgQ at hg
  simp only [Bool.and_eq_true, bne_iff_ne] at hg
  obtain ⟨⟨⟨va, vb⟩, vc⟩, _⟩ := hg
  have la := worL_one (verB_range.1 va)
  have lb := worL_one (verB_range.1 vb)
  have lc := worL_three ((clsZ_pos c).1 vc)
  rw [size_of (texG_list a b c r)]
  have : (resS r).data.toList.length ≤ 1 + r.size := by
    by_cases h0 : r.size = 0
    · rw [resS_none h0]; exact Nat.zero_le _
    · rw [resS_some h0]; simp; omega
  simp
  simp at this
  omega

end Go.Proofs.YteeheehoaklnbaaDoor
namespace Go.Proofs.YteeheehoaklnbaaDoor
open Go.RowKit

abbrev stV (a b c : Int) (r : ByteArray) : Value := .agg #[.int .i64 a, .int .i64 b, .int .i64 c, .string r]
abbrev stC (a b c : Int) (r : ByteArray) : Obj := .cells #[.int .i64 a, .int .i64 b, .int .i64 c, .string r] 23

set_option maxHeartbeats 400000 in
theorem class25_any (n : Int) (w : World) : Calls Tryd.prog 13 #[.int .i64 n] w fun e w' => e = .returned (.int .i64 (clsZ n)) ∧ w = w' := by
  obtain ⟨r, hr⟩ : ∃ r, r = clsZ n := ⟨_, rfl⟩
  rw [← hr]
  unfold clsZ at hr
  by_cases h : n < 100 ∨ 999 < n
  · rw [if_pos h] at hr
    subst hr
    rcases h with h | h
    · have h1 : decide (n < 100) = true := decide_eq_true h
      clear h
      go_enter Tryd.func13, Tryd.ntmps13
      go_wp2
      go_ret
      exact ⟨rfl, rfl⟩
    · have h1 : decide (n < 100) = false := decide_eq_false (by omega)
      have h2 : decide (999 < n) = true := decide_eq_true h
      clear h
      go_enter Tryd.func13, Tryd.ntmps13
      go_wp2
      go_ret
      exact ⟨rfl, rfl⟩
  · rw [if_neg h] at hr
    have h1 : decide (n < 100) = false := decide_eq_false (by omega)
    have h2 : decide (999 < n) = false := decide_eq_false (by omega)
    have gd : n.tdiv 100 = r := by rw [hr]; exact Int.tdiv_eq_ediv_of_nonneg (by omega)
    have g1 : 0 ≤ r := by omega
    have g2 : r ≤ 9 := by omega
    clear h hr
    go_enter Tryd.func13, Tryd.ntmps13
    go_wp2
    go_ret
    exact ⟨rfl, rfl⟩

set_option maxHeartbeats 400000 in
theorem rclass25_any (n : Int) (w : World) : Calls Tryd.prog 16 #[.int .i64 n] w fun e w' => e = .returned (.int .i64 (clsZ n)) ∧ w = w' := by
  obtain ⟨r, hr⟩ : ∃ r, r = clsZ n := ⟨_, rfl⟩
  rw [← hr]
  unfold clsZ at hr
  by_cases h : n < 100 ∨ 999 < n
  · rw [if_pos h] at hr
    subst hr
    rcases h with h | h
    · have h1 : decide (99 < n) = false := decide_eq_false (by omega)
      clear h
      go_enter Tryd.func16, Tryd.ntmps16
      go_wp2
      go_ret
      exact ⟨rfl, rfl⟩
    · have h1 : decide (99 < n) = true := decide_eq_true (by omega)
      have h2 : decide (n < 1000) = false := decide_eq_false (by omega)
      clear h
      go_enter Tryd.func16, Tryd.ntmps16
      go_wp2
      go_ret
      exact ⟨rfl, rfl⟩
  · rw [if_neg h] at hr
    have h1 : decide (99 < n) = true := decide_eq_true (by omega)
    have h2 : decide (n < 1000) = true := decide_eq_true (by omega)
    have gd : n.tdiv 100 = r := by rw [hr]; exact Int.tdiv_eq_ediv_of_nonneg (by omega)
    have g1 : 0 ≤ r := by omega
    have g2 : r ≤ 9 := by omega
    clear h hr
    go_enter Tryd.func16, Tryd.ntmps16
    go_wp2
    go_ret
    exact ⟨rfl, rfl⟩

set_option maxHeartbeats 400000 in
theorem partial25_any (n : Int) (w : World) : Calls Tryd.prog 18 #[.int .i64 n] w fun e w' => e = .returned (.bool (n == 206)) ∧ w = w' := by
  go_enter Tryd.func18, Tryd.ntmps18
  go_wp2
  go_ret
  exact ⟨rfl, rfl⟩

/-- Whether a number is one of five. -/
def ofB (l : List Int) (n : Int) : Bool := l.any fun k => k == n
abbrev nulL : List Int := [101, 103, 204, 205, 304]
abbrev redL : List Int := [301, 302, 303, 307, 308]

def worW (n : Int) : ByteArray := if clsZ n = 1 then ⟨#[105, 110, 102, 111, 114, 109, 97, 116, 105, 111, 110, 97, 108]⟩ else if clsZ n = 2 then ⟨#[111, 107]⟩ else if clsZ n = 3 then ⟨#[114, 101, 100, 105, 114, 101, 99, 116]⟩ else if clsZ n = 4 then ⟨#[99, 108, 105, 101, 110, 116]⟩ else if clsZ n = 5 then ⟨#[115, 101, 114, 118, 101, 114]⟩ else ⟨#[111, 116, 104, 101, 114]⟩
theorem cls_ten (n : Int) : clsZ n = 0 ∨ clsZ n = 1 ∨ clsZ n = 2 ∨ clsZ n = 3 ∨ clsZ n = 4 ∨ clsZ n = 5 ∨ clsZ n = 6 ∨ clsZ n = 7 ∨ clsZ n = 8 ∨ clsZ n = 9 := by
  have := clsZ_range n
  omega

set_option maxHeartbeats 400000 in
theorem isBlank_any (b : UInt8) (w : World) : Calls Tryd.prog 36 #[.int .u8 (b.toNat : Int)] w fun e w' => e = .returned (.bool (blaB b)) ∧ w = w' := by
  have e : blaB b = ((b.toNat : Int) == 32) := by
    unfold blaB
    rw [Bool.eq_iff_iff, beq_iff_eq, beq_iff_eq]
    omega
  rw [e]
  clear e
  go_enter Tryd.func36, Tryd.ntmps36
  go_wp2
  go_ret
  exact ⟨rfl, rfl⟩

set_option maxHeartbeats 400000 in
theorem version_any (n : Int) (w : World) : Calls Tryd.prog 12 #[.int .i64 n] w fun e w' => e = .returned (.bool (verB n)) ∧ w = w' := by
  unfold verB
  cases h : decide (0 ≤ n) <;>
  · go_enter Tryd.func12, Tryd.ntmps12
    go_wp2
    go_ret
    exact ⟨rfl, rfl⟩

set_option maxHeartbeats 400000 in
theorem beginsTab_any (r : ByteArray) (w : World) (_hs : r.size ≤ 9223372036854775807) : Calls Tryd.prog 28 #[.string r] w fun e w' => e = .returned (.bool (bgtB r)) ∧ w = w' := by
  unfold bgtB
  cases h : (r.toList == [])
  · have hz : 0 < r.size := by
      rcases Nat.eq_zero_or_pos r.size with h0 | h0
      · have : r.toList = [] := List.length_eq_zero_iff.1 (by rw [toList_size]; exact h0)
        rw [this] at h
        cases h
      · exact h0
    rw [getElem!_pos r 0 hz]
    have HT := Lib.hid (tab_any r[0] w)
    go_enter Tryd.func28, Tryd.ntmps28
    go_wp2_with (go_at_call 38; (with_reducible refine HT.out.mono ?_); rintro e w1 ⟨rfl, rfl⟩)
    go_ret
    exact ⟨rfl, rfl⟩
  · go_enter Tryd.func28, Tryd.ntmps28
    go_wp2
    go_ret
    exact ⟨rfl, rfl⟩

end Go.Proofs.YteeheehoaklnbaaDoor
