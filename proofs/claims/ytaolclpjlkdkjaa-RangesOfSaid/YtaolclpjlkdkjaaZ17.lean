/-
  What the document's Content of layer 24 answers: the walks' letters by positions. Condition: the text is no longer than 2^47 - 4096.
  What package ranges' Parse answers. Condition: the text is no longer than a length can be.
  What Cut answers: the first n bytes. Condition: the text is no longer than a length can be.
-/
import Derived.Test.YtaolclpjlkdkjaaZ14
import Derived.Test.YtaolclpjlkdkjaaZ15
import Derived.Test.YtaolclpjlkdkjaaZ16
import Derived.Test.YtaolclpjlkdkjaaZ10
import Derived.Test.YtaolclpjlkdkjaaRows
import Derived.WalkKit
import Derived.WalkSpells
import Derived.WalkLawsBesides
namespace Go.Proofs.Ytaolclpjlkdkjaa
open Go.RowKit

theorem numW_IB (o : Option Int) : numW o = .tuple #[.int .i64 (numI o), .bool (numB o)] := by cases o <;> rfl
theorem num24_dig (x : ByteArray) (hd : allB digB x = true) (hs : x.size ≤ 9223372036854775807) (W : World) :
    Calls Try.prog 25 #[.string x] W fun e w' => e = .returned (.tuple #[.int .i64 (numI (numP x)), .bool (numB (numP x))]) ∧ W = w' := by
  rw [← numW_IB, ← numT_W]
  exact num24_any x W hd hs
set_option maxHeartbeats 400000 in
theorem num24_form (x : ByteArray) (h0 : x.size ≠ 0) (hd : allB digB x = false) (hs : x.size ≤ 9223372036854775807) (W : World) :
    Calls Try.prog 25 #[.string x] W fun e w' => e = .returned (.tuple #[.int .i64 0, .bool false]) ∧ W = w' := by
  have HP := Lib.hid (fun W => refParse_any x W hs)
  rw [parV_form hd] at HP
  have hx := size_bool24 x
  rw [decide_eq_false h0] at hx
  clear hs h0 hd
  go_enter Try.func25, Try.ntmps25
  go_wp2_with (go_at_call 52; (with_reducible refine (HP.out _).mono ?_); rintro e w1 ⟨rfl, rfl⟩)
  go_ret2
  exact ⟨rfl, rfl⟩
theorem num24_gen (x : ByteArray) (hs : x.size ≤ 9223372036854775807) :
    ∃ c bc, (∀ W, Calls Try.prog 25 #[.string x] W fun e w' => e = .returned (.tuple #[.int .i64 c, .bool bc]) ∧ W = w') ∧ (allB digB x = true → c = numI (numP x) ∧ bc = numB (numP x)) := by
  cases hd : allB digB x
  · have h0 : x.size ≠ 0 := fun h0 => by
      have : allB digB x = true := allB_yes fun j hj => absurd hj (by omega)
      rw [hd] at this
      cases this
    exact ⟨0, false, fun W => num24_form x h0 hd hs W, fun h => by cases h⟩
  · exact ⟨_, _, fun W => num24_dig x hd hs W, fun _ => ⟨rfl, rfl⟩⟩
theorem all_run {r : ByteArray} (h : runD r = r.size) : allB digB r = true := by
  have := run_digits (s := r) (k := 0) (Nat.zero_le _)
  have e : scan digB r 0 = r.size := h
  rw [e, extract_all] at this
  exact this
/-- Whether a text begins with a blank. -/
def tabT (x : ByteArray) : Bool := if h : 0 < x.size then tabB x[0] else false
theorem tabT_at {x : ByteArray} (h : 0 < x.size) : tabT x = tabB x[0] := dif_pos h
theorem tabT_suf {s : ByteArray} {k : Nat} (hk : k ≤ s.size) : (tabT (s.extract k s.size) = true ↔ scan tabB s k ≠ k) := by
  have hz : (s.extract k s.size).size = s.size - k := by simp
  by_cases h : k < s.size
  · rw [tabT_at (show 0 < (s.extract k s.size).size by omega), ext_at (Nat.le_refl _) (by omega)]
    have e0 : k + 0 = k := rfl
    simp only [e0]
    cases hp : tabB s[k]
    · rw [scan_stop h hp]
      exact ⟨fun h => (Bool.noConfusion h), fun h => absurd rfl h⟩
    · have := scan_ge tabB s (k + 1)
      rw [scan_step h hp] at this
      exact ⟨fun _ => by omega, fun _ => rfl⟩
  · rw [scan_end (by omega)]
    unfold tabT
    rw [dif_neg (by omega)]
    exact ⟨fun h => (Bool.noConfusion h), fun h => absurd rfl h⟩

theorem numP_mt : numP ⟨#[]⟩ = some (-1) := rfl
theorem fst_size (x : ByteArray) {k : Nat} (h : k ≤ x.size) : (x.extract 0 k).size = k := by simp; omega
theorem star_of {r : ByteArray} (h : (r.toList == [42]) = true) : r.size = 1 ∧ atB r 0 42 = true ∧ runD r = 0 := by
  have e := eq_of_beq h
  have hz : r.size = 1 := by
    have := congrArg List.length e
    rw [toList_size] at this
    exact this
  have e2 : r = ⟨#[42]⟩ := by
    rw [Lib.toList_data] at e
    cases r with
    | mk d =>
      have : d = #[42] := by
        apply Array.toList_inj.1
        exact e
      rw [this]
  subst e2
  exact ⟨rfl, by kernel_rfl, by kernel_rfl⟩
theorem star_not {r : ByteArray} (h : (r.toList == [42]) = false) (h2 : atB r 0 42 = true) : 2 ≤ r.size ∧ runD r = 0 := by
  have h0 := atB_in h2
  rw [atB_at h0] at h2
  have e := eq_of_beq h2
  refine ⟨?_, ?_⟩
  · rcases Nat.lt_or_ge 1 r.size with h1 | h1
    · exact h1
    · exfalso
      have hz : r.size = 1 := by omega
      have e2 : r.toList = [42] := by
        rw [Lib.toList_data]
        have hl : r.data.toList.length = 1 := by simpa using hz
        match hd : r.data.toList, hl with
        | [a], _ =>
          have := drop_cons r 0 h0
          rw [hd] at this
          simp at this
          rw [this, e]
      rw [e2] at h
      simp at h
  · show scan digB r 0 = 0
    refine scan_stop h0 ?_
    rw [e]
    decide

/-- A star first: by places in the text. -/
theorem contM_A {t u r : ByteArray} (hS : TIn t 0 t) (qT : atB t 0 42 = true) (hu : u = t.extract 1 t.size) (hr : r = u.extract 1 u.size) :
    (atB u 0 47 = false → contV (contM t 0) = partE 0 0 0 2) ∧
    (atB u 0 47 = true → r.size = 0 ∨ (runD r : Int) ≠ r.size → contV (contM t 0) = partE 0 0 0 2) ∧
    (atB u 0 47 = true → r.size ≠ 0 → (runD r : Int) = r.size → ∃ n, contM t 0 = contN (numP ⟨#[]⟩) (numP ⟨#[]⟩) (numP r) n) := by
  have l1 : 1 ≤ t.size := atB_in qT
  have e0 : atB u 0 47 = atB t 1 47 := by rw [hu, atB_suf l1]
  rw [contM_star qT, e0]
  have key : atB t 1 47 = true → r = t.extract 2 t.size ∧ r.size = t.size - 2 ∧ 2 ≤ t.size ∧ runD r ≤ r.size ∧ scan digB t (1 + 1) = 2 + runD r := fun h => by
    have l2 : 2 ≤ t.size := atB_in h
    have e := sufx_suf t (k := 1) (i := 1) l2
    rw [← hu, ← hr] at e
    have e3 : r = t.extract 2 t.size := e
    have l3 : runD r ≤ r.size := scan_le _ _ _ (Nat.zero_le _)
    refine ⟨e3, by rw [e3]; simp, l2, l3, ?_⟩
    rw [e3]
    exact (runD_suf (s := t) (k := 2) l2).symm
  refine ⟨fun h => ?_, fun h h5 => ?_, fun h h5 h6 => ?_⟩
  · exact contV_no (contS_no h)
  · obtain ⟨e3, hz, l2, l3, hd⟩ := key h
    rw [show (0 + 1 : Nat) = 1 from rfl, contS_eq hd]
    unfold contSd
    rw [h, if_neg (show ¬(true = false) from Bool.noConfusion), if_neg (show ¬(true = false ∧ atB t (1 + 1) 42 = true) from fun hh => Bool.noConfusion hh.1)]
    by_cases hd2 : 2 + runD r = 1 + 1
    · rw [if_pos hd2]
      rfl
    · rw [if_neg hd2, contE_no fun hh => ?_]
      · rfl
      · have := (hS.end_ (i := 2 + runD r) (by omega)).1 (by rw [Nat.zero_add]; exact hh)
        omega
  · obtain ⟨e3, hz, l2, l3, hd⟩ := key h
    have hn : 2 + runD r = t.size := by omega
    rw [show (0 + 1 : Nat) = 1 from rfl, contS_eq hd]
    unfold contSd
    rw [h, if_neg (show ¬(true = false) from Bool.noConfusion), if_neg (show ¬(true = false ∧ atB t (1 + 1) 42 = true) from fun hh => Bool.noConfusion hh.1), if_neg (by omega)]
    rw [contE_all (by have := (hS.end_ (i := 2 + runD r) (by omega)).2 hn; rw [Nat.zero_add] at this; exact this), hn, ← e3]
    exact ⟨_, rfl⟩

/-- No star first: by places in the text. -/
theorem contM_B {t v xf xt u r : ByteArray} {k1 k2 : Nat} (hS : TIn t 0 t) (qT : atB t 0 42 = false) (hk1 : k1 = runD t) (hv : v = t.extract k1 t.size) (hk2 : k2 = runD (v.extract 1 v.size)) (hxf : xf = t.extract 0 k1) (hxt : xt = v.extract 1 (k2 + 1)) (hu : u = v.extract (k2 + 1) v.size) (hr : r = u.extract 1 u.size) :
    (k1 = 0 ∨ atB v 0 45 = false ∨ k2 = 0 → contV (contM t 0) = partE 0 0 0 2) ∧
    (k1 ≠ 0 → atB v 0 45 = true → k2 ≠ 0 → atB u 0 47 = false → contV (contM t 0) = partE 0 0 0 2) ∧
    (k1 ≠ 0 → atB v 0 45 = true → k2 ≠ 0 → atB u 0 47 = true → (r.toList == [42]) = false → r.size = 0 ∨ (runD r : Int) ≠ r.size → contV (contM t 0) = partE 0 0 0 2) ∧
    (k1 ≠ 0 → atB v 0 45 = true → k2 ≠ 0 → atB u 0 47 = true → (r.toList == [42]) = false → r.size ≠ 0 → (runD r : Int) = r.size → ∃ n, contM t 0 = contN (numP xf) (numP xt) (numP r) n) ∧
    (k1 ≠ 0 → atB v 0 45 = true → k2 ≠ 0 → atB u 0 47 = true → (r.toList == [42]) = true → ∃ n, contM t 0 = contN (numP xf) (numP xt) (numP ⟨#[]⟩) n) := by
  have l1 : k1 ≤ t.size := by rw [hk1]; exact scan_le _ _ _ (Nat.zero_le _)
  have e0 : atB v 0 45 = atB t k1 45 := by rw [hv, atB_suf l1]
  have d1 : scan digB t 0 = k1 := hk1.symm
  have key : atB t k1 45 = true → k1 + 1 ≤ t.size ∧ k1 + 1 + k2 ≤ t.size ∧ scan digB t (k1 + 1) = k1 + 1 + k2 ∧ xt = t.extract (k1 + 1) (k1 + 1 + k2) ∧ u = t.extract (k1 + 1 + k2) t.size := fun h => by
    have l2 : k1 + 1 ≤ t.size := atB_in h
    have hvz : v.size = t.size - k1 := by rw [hv]; simp
    have e := sufx_suf t (k := k1) (i := 1) l2
    rw [← hv] at e
    have hk2' : k1 + 1 + k2 = scan digB t (k1 + 1) := by rw [hk2, e]; exact runD_suf l2
    have l3 : k1 + 1 + k2 ≤ t.size := by rw [hk2']; exact scan_le _ _ _ l2
    refine ⟨l2, l3, hk2'.symm, ?_, ?_⟩
    · rw [hxt, hv, ByteArray.extract_extract]
      congr 1
      omega
    · have e2 := sufx_suf t (k := k1) (i := k2 + 1) (by omega)
      rw [← hv, ← hu] at e2
      rw [e2]
      congr 1
      omega
  have key2 : atB t k1 45 = true → atB u 0 47 = atB t (k1 + 1 + k2) 47 := fun h => by
    obtain ⟨_, l3, _, _, eu⟩ := key h
    rw [eu, atB_suf l3]
  have key3 : atB t k1 45 = true → atB u 0 47 = true → r = t.extract (k1 + 1 + k2 + 1) t.size ∧ r.size = t.size - (k1 + 1 + k2 + 1) ∧ k1 + 1 + k2 + 1 ≤ t.size ∧ runD r ≤ r.size ∧ scan digB t (k1 + 1 + k2 + 1) = k1 + 1 + k2 + 1 + runD r ∧ atB r 0 42 = atB t (k1 + 1 + k2 + 1) 42 := fun h h2 => by
    obtain ⟨_, l3, _, _, eu⟩ := key h
    rw [key2 h] at h2
    have l4 : k1 + 1 + k2 + 1 ≤ t.size := atB_in h2
    have e3 : r = t.extract (k1 + 1 + k2 + 1) t.size := by rw [hr, eu, sufx_suf t (k := k1 + 1 + k2) (i := 1) l4]
    refine ⟨e3, by rw [e3]; simp, l4, scan_le _ _ _ (Nat.zero_le _), ?_, ?_⟩
    · rw [e3]
      exact (runD_suf l4).symm
    · rw [e3, atB_suf l4]
  have main : k1 ≠ 0 → atB t k1 45 = true → k2 ≠ 0 → contM t 0 = contS t (k1 + 1 + k2) false xf xt := fun h h2 h3 => by
    obtain ⟨_, _, d2, ext, _⟩ := key h2
    rw [contM_eq d1 d2]
    unfold contMd
    rw [qT, h2, if_neg (show ¬(false = true) from Bool.noConfusion), if_neg h, if_neg (show ¬(true = false) from Bool.noConfusion), if_neg (by omega), hxf, ext]
  rw [e0]
  refine ⟨fun h => ?_, fun h h2 h3 h4 => ?_, fun h h2 h3 h4 h5 h6 => ?_, fun h h2 h3 h4 h5 h6 h7 => ?_, fun h h2 h3 h4 h5 => ?_⟩
  · rw [contM_eq d1 rfl]
    unfold contMd
    rw [qT, if_neg (show ¬(false = true) from Bool.noConfusion)]
    by_cases h0 : k1 = 0
    · rw [if_pos h0]
      rfl
    · rw [if_neg h0]
      cases h2 : atB t k1 45
      · rw [if_pos rfl]
        rfl
      · rw [h2] at h
        have hk : k2 = 0 := by
          rcases h with h | h | h
          · exact absurd h h0
          · cases h
          · exact h
        obtain ⟨_, _, d2, _, _⟩ := key h2
        rw [if_neg (show ¬(true = false) from Bool.noConfusion), if_pos (by rw [d2, hk])]
        rfl
  · rw [main h h2 h3, contS_no (by rw [← key2 h2]; exact h4)]
    rfl
  · obtain ⟨er, hz, l4, l5, d3, e42⟩ := key3 h2 h4
    rw [key2 h2] at h4
    rw [main h h2 h3, contS_eq d3]
    unfold contSd
    rw [h4, if_neg (show ¬(true = false) from Bool.noConfusion), ← e42]
    cases h42 : atB r 0 42
    · rw [if_neg (show ¬(false = false ∧ false = true) from fun hh => Bool.noConfusion hh.2)]
      by_cases hd2 : k1 + 1 + k2 + 1 + runD r = k1 + 1 + k2 + 1
      · rw [if_pos hd2]
        rfl
      · rw [if_neg hd2, contE_no fun hh => ?_]
        · rfl
        · have := (hS.end_ (i := k1 + 1 + k2 + 1 + runD r) (by omega)).1 (by rw [Nat.zero_add]; exact hh)
          omega
    · obtain ⟨hs2, _⟩ := star_not h5 h42
      rw [if_pos ⟨rfl, rfl⟩, contE_no fun hh => ?_]
      · rfl
      · have := (hS.end_ (i := k1 + 1 + k2 + 2) (by omega)).1 (by rw [Nat.zero_add]; exact hh)
        omega
  · obtain ⟨er, hz, l4, l5, d3, e42⟩ := key3 h2 h4
    rw [key2 h2] at h4
    have hn : k1 + 1 + k2 + 1 + runD r = t.size := by omega
    have h42 : atB r 0 42 = false := by
      cases hh : atB r 0 42
      · rfl
      · have := (star_not h5 hh).2
        omega
    rw [main h h2 h3, contS_eq d3]
    unfold contSd
    rw [h4, if_neg (show ¬(true = false) from Bool.noConfusion), ← e42, h42, if_neg (show ¬(false = false ∧ false = true) from fun hh => Bool.noConfusion hh.2), if_neg (by omega)]
    rw [contE_all (by have := (hS.end_ (i := k1 + 1 + k2 + 1 + runD r) (by omega)).2 hn; rw [Nat.zero_add] at this; exact this), hn, ← er]
    exact ⟨_, rfl⟩
  · obtain ⟨er, hz, l4, l5, d3, e42⟩ := key3 h2 h4
    rw [key2 h2] at h4
    obtain ⟨z1, z2, _⟩ := star_of h5
    have hn : k1 + 1 + k2 + 2 = t.size := by omega
    rw [main h h2 h3, contS_star h4 (by rw [← e42]; exact z2), contE_all (by have := (hS.end_ (i := k1 + 1 + k2 + 2) (by omega)).2 hn; rw [Nat.zero_add] at this; exact this)]
    exact ⟨_, rfl⟩

set_option maxHeartbeats 1000000 in
theorem rcontent24_any (s : ByteArray) (w : World) (hs : s.size ≤ 140737488351232) :
    Calls Try.prog 10 #[.string s] w fun r w' => r = contV (contO s) ∧ Below w.heap.size w w' := by
  have hs' : s.size ≤ 9223372036854775807 := by omega
  obtain ⟨x1, hx1, hu0, hX1⟩ : ∃ x1, x1.size ≤ s.size ∧ unitT (s.extract (scan tabB s 0) s.size) = .tuple #[.string x1, .bool (isUnit s (aA s))] ∧ (isUnit s (aA s) = true → x1 = s.extract (aU s) s.size) := by
    cases h : isUnit s (aA s)
    · exact ⟨⟨#[]⟩, Nat.zero_le _, unitT_no h, fun h => by cases h⟩
    · exact ⟨s.extract (aU s) s.size, rest24_size _ _, unitT_yes h, fun _ => rfl⟩
  have lu := aU_le s
  have lb := aB_le s
  obtain ⟨x2, h2⟩ : ∃ x2, x2 = cutF x1 := ⟨_, rfl⟩
  obtain ⟨t, ht⟩ : ∃ t, t = cutP tabB x2 := ⟨_, rfl⟩
  have s2 : x2.size ≤ x1.size := by rw [h2]; exact cutF_size x1
  have s3 : t.size ≤ x2.size := by rw [ht, cutP_size]; exact backN_le _ _ _
  have HT : isUnit s (aA s) = true → TIn s (aB s) t := fun h => by
    have e : x2 = s.extract (aB s) s.size := by rw [h2, hX1 h, cutF_suf lu]; rfl
    rw [ht, e]
    exact TIn.of lb
  have ZT : isUnit s (aA s) = true → (tabT x1 = true ↔ aB s ≠ aU s) := fun h => by rw [hX1 h]; exact tabT_suf lu
  have OM : isUnit s (aA s) = true → tabT x1 = true → contV (contO s) = contV (contM t 0) := fun h h2 => by
    rw [contO_more h ((ZT h).1 h2)]
    exact (HT h).contM
  have A1 : isUnit s (aA s) = false → contV (contO s) = partE 0 0 0 2 := fun h => contV_no (contO_unit h)
  have A2 : isUnit s (aA s) = true → x1.size = 0 ∨ tabT x1 = false → contV (contO s) = partE 0 0 0 2 := fun h h2 => by
    have h3 : tabT x1 = false := by
      rcases h2 with h2 | h2
      · unfold tabT; rw [dif_neg (by omega)]
      · exact h2
    refine contV_no (contO_blank h ?_)
    by_cases e : aB s = aU s
    · exact e
    · have := (ZT h).2 e
      rw [h3] at this
      cases this
  have HU0 : ∀ W, Calls Try.prog 22 #[.string s] W fun e w' => e = .returned (.tuple #[.string x1, .bool (isUnit s (aA s))]) ∧ Below W.heap.size W w' := fun W => by have := unit24_any s W hs; rw [hu0] at this; exact this
  have HTB0 : ∀ (h : 0 < x1.size) W, Calls Try.prog 28 #[.int .u8 (x1[0].toNat : Int)] W fun e w' => e = .returned (.bool (tabT x1)) ∧ W = w' := fun h W => by rw [tabT_at h]; exact refTab_any x1[0] W
  have HCU := Lib.hid (fun W => show Calls Try.prog 23 #[.string x1] W fun e w' => e = .returned (.string x2) ∧ W = w' from by rw [h2]; exact cut24_any x1 W (by omega))
  have HEN := Lib.hid (fun W => show Calls Try.prog 29 #[.string x2] W fun e w' => e = .returned (.string t) ∧ W = w' from by rw [ht]; exact refEnds_any x2 W (by omega))
  generalize isUnit s (aA s) = z1 at *
  generalize tabT x1 = zt at *
  have OT : z1 = true → zt = true → TIn t 0 t ∧ contV (contO s) = contV (contM t 0) := fun h h2 => ⟨(HT h).self, OM h h2⟩
  generalize contV (contO s) = A at *
  clear HT ZT OM hu0 hX1 lu lb
  cases qT : atB t 0 42
  · obtain ⟨k1, hk1⟩ : ∃ k1, k1 = runD t := ⟨_, rfl⟩
    obtain ⟨v, hv⟩ : ∃ v, v = t.extract k1 t.size := ⟨_, rfl⟩
    obtain ⟨k2, hk2⟩ : ∃ k2, k2 = runD (v.extract 1 v.size) := ⟨_, rfl⟩
    obtain ⟨xf, hxf⟩ : ∃ xf, xf = t.extract 0 k1 := ⟨_, rfl⟩
    obtain ⟨xt, hxt⟩ : ∃ xt, xt = v.extract 1 (k2 + 1) := ⟨_, rfl⟩
    obtain ⟨u, hu⟩ : ∃ u, u = v.extract (k2 + 1) v.size := ⟨_, rfl⟩
    obtain ⟨r, hr⟩ : ∃ r, r = u.extract 1 u.size := ⟨_, rfl⟩
    have key := fun hS => contM_B (t := t) hS qT hk1 hv hk2 hxf hxt hu hr
    have lk1 : k1 ≤ t.size := by rw [hk1]; exact scan_le _ _ _ (Nat.zero_le _)
    have lv : v.size ≤ t.size := by rw [hv]; exact rest24_size _ _
    have lu : u.size ≤ v.size := by rw [hu]; exact rest24_size _ _
    have lr : r.size ≤ u.size := by rw [hr]; exact rest24_size _ _
    have lw : (v.extract 1 v.size).size = v.size - 1 := by simp
    have lk2 : k2 ≤ (v.extract 1 v.size).size := by rw [hk2]; exact scan_le _ _ _ (Nat.zero_le _)
    have lk2' : 0 < v.size → k2 + 1 ≤ v.size := fun h => by omega
    have zf : xf.size = k1 := by rw [hxf]; exact fst_size _ lk1
    have ext : xt = (v.extract 1 v.size).extract 0 k2 := by
      rw [hxt]
      by_cases h0 : v.size = 0
      · have h1 : ∀ y z : ByteArray, y.size = 0 → z.size = 0 → y = z := fun y z hy hz => by
          apply ByteArray.ext
          apply Array.ext
          · exact hy.trans hz.symm
          · intro i hi
            exact absurd hi (by show ¬i < y.size; omega)
        exact h1 _ _ (by simp; omega) (by simp; omega)
      · rw [ByteArray.extract_extract]
        congr 1
        omega
    have zt' : xt.size = k2 := by rw [ext]; exact fst_size _ lk2
    have df : allB digB xf = true := by rw [hxf, hk1]; exact run_digits (Nat.zero_le _)
    have dt : allB digB xt = true := by rw [ext, hk2]; exact run_digits (Nat.zero_le _)
    obtain ⟨c, bc, hn3, hc⟩ := num24_gen r (by omega)
    have HR1 := Lib.hid (fun W => show Calls Try.prog 24 #[.string t] W fun e w' => e = .returned (.int .i64 k1) ∧ W = w' from by rw [hk1]; exact refRun_any t W (by omega))
    have HR2 := Lib.hid (fun W => show Calls Try.prog 24 #[.string (v.extract 1 v.size)] W fun e w' => e = .returned (.int .i64 k2) ∧ W = w' from by rw [hk2]; exact refRun_any _ W (by omega))
    have HN1 := Lib.hid (num24_dig xf df (by omega))
    have HN2 := Lib.hid (num24_dig xt dt (by omega))
    have HR3 := Lib.hid (fun W => refRun_any r W (by omega))
    cases hs2 : (r.toList == [42])
    · refine rcontB_walk s x1 x2 t v xf xt u r z1 zt _ _ bc (goodQ (numI (numP xf)) (numI (numP xt)) c) k1 k2 (runD r) _ _ c A w HU0 HTB0 HCU HEN lk1 qT (Lib.hid hv) (Lib.hid hxf) lk2' (Lib.hid hxt) (Lib.hid hu) (Lib.hid hr) HR1 HR2 HN1 HN2
        (size_bool24 t) (by rw [size_bool24, zf]) (size_bool24 v) (by rw [size_bool24, zt']) HR3 (Lib.hid hn3) (fun W => rgood24_any _ _ _ W) (by omega) (by omega) (by omega) (by omega) (by omega) (size_bool24 x1) (size_bool24 u) (size_bool24 r) hs2 A1 A2
        (fun h1 h2 h3 => (OT h1 h2).2.trans ((key (OT h1 h2).1).1 h3))
        (fun h1 h2 h3 h4 h5 h6 => (OT h1 h2).2.trans ((key (OT h1 h2).1).2.1 h3 h4 h5 h6))
        (fun h1 h2 h3 h4 h5 h6 h7 => (OT h1 h2).2.trans ((key (OT h1 h2).1).2.2.1 h3 h4 h5 h6 hs2 h7))
        (fun h1 h2 h3 h4 h5 h6 h7 h8 h9 => ?_) (fun h1 h2 h3 h4 h5 h6 h7 h8 b1 b2 b3 b4 => ?_)
      · obtain ⟨n, hn⟩ := (key (OT h1 h2).1).2.2.2.1 h3 h4 h5 h6 hs2 h7 h8
        obtain ⟨rfl, rfl⟩ := hc (all_run (by omega))
        rw [(OT h1 h2).2, hn]
        obtain ⟨a, ha⟩ := contN_bad (n := n) h9
        exact contV_no ha
      · obtain ⟨n, hn⟩ := (key (OT h1 h2).1).2.2.2.1 h3 h4 h5 h6 hs2 h7 h8
        obtain ⟨rfl, rfl⟩ := hc (all_run (by omega))
        rw [(OT h1 h2).2, hn]
        exact contV_ok (contN_good b1 b2 b3 b4)
    · refine rcontC_walk s x1 x2 t v xf xt u r z1 zt _ _ (numB (numP ⟨#[]⟩)) (goodQ (numI (numP xf)) (numI (numP xt)) (numI (numP ⟨#[]⟩))) k1 k2 (runD r) _ _ (numI (numP ⟨#[]⟩)) A w HU0 HTB0 HCU HEN lk1 qT (Lib.hid hv) (Lib.hid hxf) lk2' (Lib.hid hxt) (Lib.hid hu) (Lib.hid hr) HR1 HR2 HN1 HN2
        (size_bool24 t) (by rw [size_bool24, zf]) (size_bool24 v) (by rw [size_bool24, zt']) HR3 (Lib.hid (num24_dig ⟨#[]⟩ (by kernel_rfl) (by decide))) (fun W => rgood24_any _ _ _ W) (by omega) (by omega) (by omega) (by omega) (by omega) (size_bool24 x1) (size_bool24 u) (size_bool24 r) hs2 A1 A2
        (fun h1 h2 h3 => (OT h1 h2).2.trans ((key (OT h1 h2).1).1 h3))
        (fun h1 h2 h3 h4 h5 h6 => (OT h1 h2).2.trans ((key (OT h1 h2).1).2.1 h3 h4 h5 h6))
        (fun h1 h2 h3 h4 h5 h6 h9 => ?_) (fun h1 h2 h3 h4 h5 h6 b1 b2 b3 b4 => ?_)
      · obtain ⟨n, hn⟩ := (key (OT h1 h2).1).2.2.2.2 h3 h4 h5 h6 hs2
        rw [(OT h1 h2).2, hn]
        obtain ⟨a, ha⟩ := contN_bad (n := n) h9
        exact contV_no ha
      · obtain ⟨n, hn⟩ := (key (OT h1 h2).1).2.2.2.2 h3 h4 h5 h6 hs2
        rw [(OT h1 h2).2, hn]
        exact contV_ok (contN_good b1 b2 b3 b4)
  · obtain ⟨u, hu⟩ : ∃ u, u = t.extract 1 t.size := ⟨_, rfl⟩
    obtain ⟨r, hr⟩ : ∃ r, r = u.extract 1 u.size := ⟨_, rfl⟩
    have key := fun hS => contM_A (t := t) hS qT hu hr
    have lu : u.size ≤ t.size := by rw [hu]; exact rest24_size _ _
    have lr : r.size ≤ u.size := by rw [hr]; exact rest24_size _ _
    have ht0 : 0 < t.size := atB_in qT
    obtain ⟨c, bc, hn3, hc⟩ := num24_gen r (by omega)
    have HR3 := Lib.hid (fun W => refRun_any r W (by omega))
    have ET : (t.toList == []) = false := by rw [size_bool24]; exact decide_eq_false (by omega)
    cases hs2 : (r.toList == [42])
    · refine rcontA_walk s x1 x2 t u r z1 zt (numB (numP ⟨#[]⟩)) bc (goodQ (numI (numP ⟨#[]⟩)) (numI (numP ⟨#[]⟩)) c) (runD r) (numI (numP ⟨#[]⟩)) c A w HU0 HTB0 HCU HEN ht0 qT (Lib.hid hu) (Lib.hid hr) (Lib.hid trivial) (Lib.hid trivial)
        (Lib.hid (num24_dig ⟨#[]⟩ (by kernel_rfl) (by decide))) (Lib.hid trivial) HR3 (Lib.hid hn3) (fun W => rgood24_any _ _ _ W) (by omega) (by omega) (by omega) (by omega) (size_bool24 x1) ET (size_bool24 u) (size_bool24 r) hs2 A1 A2
        (fun h1 h2 h3 => (OT h1 h2).2.trans ((key (OT h1 h2).1).1 h3))
        (fun h1 h2 h3 h4 => (OT h1 h2).2.trans ((key (OT h1 h2).1).2.1 h3 h4))
        (fun h1 h2 h3 h7 h8 h9 => ?_) (fun h1 h2 h3 h7 h8 b1 b3 b4 => ?_)
      · obtain ⟨n, hn⟩ := (key (OT h1 h2).1).2.2 h3 h7 h8
        obtain ⟨rfl, rfl⟩ := hc (all_run (by omega))
        rw [(OT h1 h2).2, hn]
        obtain ⟨a, ha⟩ := contN_bad (x := numP ⟨#[]⟩) (y := numP ⟨#[]⟩) (z := numP r) (n := n) (.inr h9)
        exact contV_no ha
      · obtain ⟨n, hn⟩ := (key (OT h1 h2).1).2.2 h3 h7 h8
        obtain ⟨rfl, rfl⟩ := hc (all_run (by omega))
        rw [(OT h1 h2).2, hn]
        exact contV_ok (contN_good b1 b1 b3 b4)
    · obtain ⟨z1', _, z3⟩ := star_of hs2
      have hne : (runD r : Int) ≠ r.size := by omega
      exact rcontD_walk s x1 x2 t u r z1 zt (numB (numP ⟨#[]⟩)) bc (goodQ (numI (numP ⟨#[]⟩)) (numI (numP ⟨#[]⟩)) c) (runD r) (numI (numP ⟨#[]⟩)) c A w HU0 HTB0 HCU HEN ht0 qT (Lib.hid hu) (Lib.hid hr) (Lib.hid trivial) (Lib.hid trivial)
        (Lib.hid (num24_dig ⟨#[]⟩ (by kernel_rfl) (by decide))) (Lib.hid trivial) HR3 (Lib.hid hn3) (fun W => rgood24_any _ _ _ W) (by omega) (by omega) (by omega) (by omega) (size_bool24 x1) ET (size_bool24 u) (size_bool24 r) hs2 hne A1 A2
        (fun h1 h2 h3 => (OT h1 h2).2.trans ((key (OT h1 h2).1).1 h3))
        (fun h1 h2 h3 h4 => (OT h1 h2).2.trans ((key (OT h1 h2).1).2.1 h3 h4))
        (fun _ _ _ _ h8 _ => absurd h8 hne) (fun _ _ _ _ h8 _ _ _ => absurd h8 hne)

end Go.Proofs.Ytaolclpjlkdkjaa
namespace Go.Proofs.Ytaolclpjlkdkjaa
open Go.RowKit

abbrev fnAsked : Value := .func (.func 21) #[] #[]

set_option maxRecDepth 100000 in
set_option maxHeartbeats 4000000 in
theorem askc_any (pf ps : Addr) (s : ByteArray) (w : World) (hf : w.cell? pf = some fnAsked) (hp : w.cell? ps = some (.string s)) (hs : s.size ≤ 9223372036854775807) :
    Calls Try.prog 36 #[.pointer (some pf), .pointer (some ps)] w fun r w' => RngEnd (askO s) r ∧ Below w.heap.size w w' := by
  have lf := World.block_lt_of_cell? w _ hf
  have lp := World.block_lt_of_cell? w _ hp
  obtain ⟨w0, hw0⟩ : ∃ w0, w0 = w.alloc (rngC 0 0) := ⟨_, rfl⟩
  have HB := Lib.hid (show Below w.heap.size w w0 from by rw [hw0]; exact (Below.refl _ _).alloc (Nat.le_refl _) _)
  have HZ := Lib.hid (show Blk w0 w.heap.size 24 #[.int .i64 0, .int .i64 0] from by rw [hw0]; exact Blk.new w _ _)
  have HF := Lib.hid (fun W (hW : Below w.heap.size w W) => (hW.cell lf).trans hf)
  have HP := Lib.hid (fun W (hW : Below w.heap.size w W) => (hW.cell lp).trans hp)
  have HS := Lib.hid (fun W (hW : Below w.heap.size w W) => And.intro (HF.out W hW) (HP.out W hW))
  have c0 := HF.out _ HB.out
  have c1 := HP.out _ HB.out
  have HA := Lib.hid (fun cb W (hW : Cur W cb s 0) => asked_any cb s W hW hs)
  clear hf hp lf lp
  go_enter Try.func36, Try.ntmps36
  go_wp2_with fail
  rw [← hw0]
  clear hw0
  go_region_held2 (fun w' => w'.cell? pf = some fnAsked ∧ w'.cell? ps = some (.string s))
    (first | with_reducible exact HS.out _ HB.out | with_reducible exact HS.out _ HB.out.drew | with_reducible exact HS.out _ HB1.out | with_reducible exact HS.out _ HB2.out | with_reducible exact HS.out _ ((HB2.out.setCell (by exact Nat.le_refl _) _).setCell (by exact Nat.le_refl _) _) | go_keep)
    (first
      | (go_at_call 37; (with_reducible refine (new_any _ _).mono ?_); rintro r w1 ⟨rfl, hw1⟩
         have HB1 := Lib.hid (show Below w.heap.size w w1 from by rw [hw1]; exact HB.out.drew.alloc (by simpa using HB.out.size) _)
         have HC1 := Lib.hid (show Cur w1 w0.heap.size s 0 from by rw [hw1]; exact Blk.new w0.drew _ _)
         have HZ1 := Lib.hid (show Blk w1 w.heap.size 24 #[.int .i64 0, .int .i64 0] from by rw [hw1]; exact HZ.out.drew.alloc _)
         clear hw1)
      | (go_at_call 21; (refine (HA.out _ _ HC1.out).mono ?_); rintro r w2 ⟨hq, m1⟩; rcases Or.symm hq with ⟨a, c, ho, rfl⟩ | ⟨x, y, ho, rfl⟩
         focus (exact ⟨rfl, Or.inr ⟨a, c, ho, rfl⟩, HB1.out.trans (m1.below (by have := HB1.out.size; omega) (by simp; exact HB.out.size))⟩)
         have HB2 := Lib.hid (HB1.out.trans (m1.below (B' := w.heap.size) (by have := HB1.out.size; omega) (by simp; exact HB.out.size)))
         have HZ2 := Lib.hid (HZ1.out.mv m1 HZ1.out.lt (by have := HZ.out.lt; simp; omega))
         have z0 := HZ2.out.cell 0
         have z1 := HZ2.out.cell 1
         have f0 := HZ2.out.frozen 0
         have f1 := HZ2.out.frozen 1
         clear m1))
  all_goals
    go_wp2
    have hk := (HZ2.out.set_ 0 (.int .i64 x)).set_ 1 (.int .i64 y)
    have j0 : _ = some (.int .i64 x : Value) := hk.cell 0
    have j1 : _ = some (.int .i64 y : Value) := hk.cell 1
    refine bodyPost_ret (v := rngV x y) (by simp [results, Try.results36, go_sem, j0, j1]) rfl ⟨Or.inl ⟨x, y, ho, rfl⟩, (HB2.out.setCell (by exact Nat.le_refl _) _).setCell (by exact Nat.le_refl _) _⟩

theorem enter_askc (a b : Value) (w : World) : (callFunc 36 (#[] ++ #[a, b])).run Try.prog w = .ok (.enter 36 (#[] ++ #[a, b])) w := by simp [go_sem]

theorem askval_any (pf ps : Addr) (s : ByteArray) (w : World) (hf : w.cell? pf = some fnAsked) (hp : w.cell? ps = some (.string s)) (hs : s.size ≤ 9223372036854775807) :
    ∃ x y a c, askV (askO s) = .returned (.tuple #[rngV x y, .int .i64 c]) ∧ Calls Try.prog 35 #[.func (.func 36) #[] #[.pointer (some pf), .pointer (some ps)]] w fun r w' => r = .returned (.tuple #[rngV x y, flt a c]) ∧ Below w.heap.size w w' := by
  have lf := World.block_lt_of_cell? w _ hf
  have lp := World.block_lt_of_cell? w _ hp
  have H := fun W (hW : Below w.heap.size w W) => askc_any pf ps s W ((hW.cell lf).trans hf) ((hW.cell lp).trans hp) hs
  cases ho : askO s with
  | ok v =>
    obtain ⟨x, y⟩ := v
    refine ⟨x, y, 0, 0, rfl, (valuebRange_returns 36 #[] #[.pointer (some pf), .pointer (some ps)] x y w [] (fun _ => True) (by simp) (fun _ _ _ _ => trivial) (enter_askc _ _) fun W hW => (H W hW).mono fun r w' ⟨h, b⟩ => ?_).mono fun r w' ⟨h1, h2, _⟩ => ⟨h1, h2.below (Nat.le_refl _) (by simp)⟩⟩
    rw [ho] at h
    rcases h with ⟨x', y', h, rfl⟩ | ⟨a, c, h, rfl⟩
    · cases h
      exact ⟨rfl, Mv.of_below b _, trivial⟩
    · cases h
  | error v =>
    obtain ⟨a, c⟩ := v
    refine ⟨0, 0, a, c, rfl, (valuebRange_throws 36 #[] #[.pointer (some pf), .pointer (some ps)] a c w [] (fun _ => True) (by simp) (fun _ _ _ _ => trivial) (enter_askc _ _) fun W hW => (H W hW).mono fun r w' ⟨h, b⟩ => ?_).mono fun r w' ⟨h1, h2, _⟩ => ⟨h1, h2.below (Nat.le_refl _) (by simp)⟩⟩
    rw [ho] at h
    rcases h with ⟨x', y', h, rfl⟩ | ⟨a', c', h, rfl⟩
    · cases h
    · cases h
      exact ⟨rfl, Mv.of_below b _, trivial⟩

set_option maxRecDepth 100000 in
set_option maxHeartbeats 4000000 in
theorem askread_any (s : ByteArray) (w : World) (hs : s.size ≤ 9223372036854775807) :
    Calls Try.prog 20 #[.string s, fnAsked] w fun r w' => r = askV (askO s) ∧ Below w.heap.size w w' := by
  obtain ⟨w0, hw0⟩ : ∃ w0, w0 = ((w.alloc (.cells #[.string s] 9)).alloc (.cells #[fnAsked] 44)).alloc (rngC 0 0) := ⟨_, rfl⟩
  have HB := Lib.hid (show Below w.heap.size w w0 from by rw [hw0]; exact (((Below.refl _ _).alloc (Nat.le_refl _) _).alloc (by simp) _).alloc (by simp; omega) _)
  have c0 : w0.cell? ⟨w.heap.size, 0, none⟩ = some (.string s) := by rw [hw0]; exact (((Blk.new w 9 #[.string s]).alloc _).alloc _).cell 0
  have c1 : w0.cell? ⟨w.heap.size + 1, 0, none⟩ = some fnAsked := by
    have := ((Blk.new (w.alloc (.cells #[.string s] 9)) 44 #[fnAsked]).alloc (rngC 0 0)).cell 0
    rw [hw0]
    simpa using this
  have HZ := Lib.hid (show Blk w0 (w.heap.size + 1 + 1) 24 #[.int .i64 0, .int .i64 0] from by
    have := Blk.new ((w.alloc (.cells #[.string s] 9)).alloc (.cells #[fnAsked] 44)) 24 #[.int .i64 0, .int .i64 0]
    rw [hw0]
    simpa using this)
  have hmf := make_func
  obtain ⟨x, y, a, c, ho, hv⟩ := askval_any ⟨w.heap.size + 1, 0, none⟩ ⟨w.heap.size, 0, none⟩ s w0 c1 c0 hs
  have HV := Lib.hid hv
  have HO := Lib.hid ho
  rw [HO.out]
  clear hv ho c0 c1 HO
  go_enter Try.func20, Try.ntmps20
  go_wp2_with fail
  rw [← hw0]
  clear hw0
  refine HV.out.mono ?_
  rintro r w1 ⟨rfl, b1⟩
  have HB1 := Lib.hid (HB.out.trans (b1.mono HB.out.size))
  have HZ1 := Lib.hid (HZ.out.below b1 HZ.out.lt)
  clear b1 HV HZ HB
  obtain ⟨w2, hw2⟩ : ∃ w2, w2 = (w1.alloc (rngC x y)).alloc (flc a c) := ⟨_, rfl⟩
  have HB2 := Lib.hid (show Below w.heap.size w w2 from by rw [hw2]; exact (HB1.out.alloc HB1.out.size _).alloc (by simp; have := HB1.out.size; omega) _)
  have HZ2 := Lib.hid (show Blk w2 (w.heap.size + 1 + 1) 24 #[.int .i64 0, .int .i64 0] from by rw [hw2]; exact (HZ1.out.alloc _).alloc _)
  have HV2 := Lib.hid (show Blk w2 w1.heap.size 24 #[.int .i64 x, .int .i64 y] from by rw [hw2]; exact (Blk.new w1 _ _).alloc _)
  have HF2 := Lib.hid (show Blk w2 (w1.heap.size + 1) 65 #[.int .i64 a, .int .i64 c] from by
    have := Blk.new (w1.alloc (rngC x y)) 65 #[.int .i64 a, .int .i64 c]
    rw [hw2]
    simpa using this)
  have hlt := HZ1.out.lt
  have dd : ((w2.setCell ⟨w.heap.size + 1 + 1, 0, none⟩ (.int .i64 x)).setCell ⟨w.heap.size + 1 + 1, 1, none⟩ (.int .i64 y)).cell? ⟨w1.heap.size + 1, 1, none⟩ = some (.int .i64 c) := ((HF2.out.far (by simp; omega) _).far (by simp; omega) _).cell 1
  clear HB1 HZ1 hlt
  go_wp2_with fail
  rw [← hw2]
  clear hw2
  have e0 : w2.cell? ⟨w.heap.size + 1 + 1, 0, none⟩ = some (.int .i64 0) := HZ2.out.cell 0
  have e1 : w2.cell? ⟨w.heap.size + 1 + 1, 1, none⟩ = some (.int .i64 0) := HZ2.out.cell 1
  have f0 := HZ2.out.frozen 0
  have f1 := HZ2.out.frozen 1
  have d0 : w2.cell? ⟨w1.heap.size, 0, none⟩ = some (.int .i64 x) := HV2.out.cell 0
  have d1 : w2.cell? ⟨w1.heap.size, 1, none⟩ = some (.int .i64 y) := HV2.out.cell 1
  have d2 : w2.cell? ⟨w1.heap.size + 1, 0, none⟩ = some (.int .i64 a) := HF2.out.cell 0
  have d3 : w2.cell? ⟨w1.heap.size + 1, 1, none⟩ = some (.int .i64 c) := HF2.out.cell 1
  have hn : w1.heap.size + 1 < w2.heap.size := HF2.out.lt
  clear HF2 HV2
  generalize w1.heap.size = m1 at *
  go_region
  all_goals go_wp2
  have hk := (HZ2.out.set_ 0 (.int .i64 x)).set_ 1 (.int .i64 y)
  have j0 : _ = some (.int .i64 x : Value) := hk.cell 0
  have j1 : _ = some (.int .i64 y : Value) := hk.cell 1
  refine bodyPost_ret (v := .tuple #[rngV x y, .int .i64 c]) (by simp [results, Try.results20, go_sem, j0, j1]) rfl ⟨rfl, ?_⟩
  exact Below.drewN' ((HB2.out.setCell (by simp; omega) _).setCell (by simp; omega) _) 1

set_option maxHeartbeats 1000000 in
theorem parse24_any (s : ByteArray) (w : World) (hs : s.size ≤ 9223372036854775807) :
    Calls Try.prog 7 #[.string s] w fun r w' => r = askV (askO s) ∧ Below w.heap.size w w' := by
  obtain ⟨w0, hw0⟩ : ∃ w0, w0 = w.alloc (rngC 0 0) := ⟨_, rfl⟩
  have HB := Lib.hid (show Below w.heap.size w w0 from by rw [hw0]; exact (Below.refl _ _).alloc (Nat.le_refl _) _)
  have HZ := Lib.hid (show Blk w0 w.heap.size 24 #[.int .i64 0, .int .i64 0] from by rw [hw0]; exact Blk.new w _ _)
  have HA := Lib.hid (askread_any s w0 hs)
  obtain ⟨x, y, c, hv⟩ : ∃ x y c, askV (askO s) = .returned (.tuple #[rngV x y, .int .i64 c]) := by
    cases askO s with
    | ok v => exact ⟨_, _, _, rfl⟩
    | error v => exact ⟨_, _, _, rfl⟩
  rw [hv] at HA ⊢
  clear hv
  go_enter Try.func7, Try.ntmps7
  go_wp2_with fail
  rw [← hw0]
  clear hw0
  refine HA.out.mono ?_
  rintro r w1 ⟨rfl, b1⟩
  have HB1 := Lib.hid (HB.out.trans (b1.mono HB.out.size))
  have HZ1 := Lib.hid (HZ.out.below b1 HZ.out.lt)
  have z0 := HZ1.out.cell 0
  have z1 := HZ1.out.cell 1
  have f0 := HZ1.out.frozen 0
  have f1 := HZ1.out.frozen 1
  clear b1 HA HZ HB
  go_wp2
  have hk := (HZ1.out.set_ 0 (.int .i64 x)).set_ 1 (.int .i64 y)
  have j0 : _ = some (.int .i64 x : Value) := hk.cell 0
  have j1 : _ = some (.int .i64 y : Value) := hk.cell 1
  exact bodyPost_ret (v := .tuple #[rngV x y, .int .i64 c]) (by simp [results, Try.results7, go_sem, j0, j1]) rfl ⟨rfl, (HB1.out.setCell (by exact Nat.le_refl _) _).setCell (by exact Nat.le_refl _) _⟩

end Go.Proofs.Ytaolclpjlkdkjaa
namespace Go.Proofs.Ytaolclpjlkdkjaa
open Go.RowKit

/-- The first n bytes. -/
def cutB (s : ByteArray) (n : Nat) : ByteArray := if n < s.size then s.extract 0 n else s
theorem cutB_size (s : ByteArray) (n : Nat) : (cutB s n).size ≤ n := by
  unfold cutB
  split
  · simp; omega
  · omega

set_option maxHeartbeats 400000 in
theorem cut_any (s : ByteArray) (n : Nat) (w : World) (_hs : s.size ≤ 9223372036854775807) :
    Calls Try.prog 6 #[.string s, .int .i64 n] w fun e w' => e = .returned (.string (cutB s n)) ∧ w = w' := by
  by_cases h : n < s.size
  · have hx : cutB s n = s.extract 0 n := by simp [cutB, h]
    have h1 : decide ((n : Int) < (s.size : Int)) = true := by simpa using h
    have h2 : decide (n < s.size) = true := by simpa using h
    rw [hx]
    clear hx
    go_enter Try.func6, Try.ntmps6
    go_wp2
    go_ret
    exact ⟨rfl, rfl⟩
  · have hx : cutB s n = s := by simp [cutB, h]
    have h1 : decide ((n : Int) < (s.size : Int)) = false := by simp; omega
    have h2 : decide (n < s.size) = false := by simpa using h
    rw [hx]
    clear hx
    go_enter Try.func6, Try.ntmps6
    go_wp2
    go_ret
    exact ⟨rfl, rfl⟩

end Go.Proofs.Ytaolclpjlkdkjaa
