/-
  Plain facts: what a good type is written as says just that type; and what a text says is a good type. No condition.
-/
import Derived.Test.YtmepnfkgfbbkiaaMd
namespace Go.Proofs.Ytmepnfkgfbbkiaa

theorem tok_white (b : UInt8) (h : tokB b = true) : whiB b = false := by
  have := bytes_all (p := fun b => !tokB b || !whiB b) (by kernel_rfl) b
  simp [h] at this
  exact this
theorem tok_sSl (b : UInt8) (h : tokB b = true) : stp sSl b = true := by
  have := bytes_all (p := fun b => !tokB b || stp sSl b) (by kernel_rfl) b
  rw [h] at this
  exact this
theorem tok_sSe (b : UInt8) (h : tokB b = true) : stp sSe b = true := by
  have := bytes_all (p := fun b => !tokB b || stp sSe b) (by kernel_rfl) b
  rw [h] at this
  exact this
theorem tok_sSq (b : UInt8) (h : tokB b = true) : stp sSq b = true := by
  have := bytes_all (p := fun b => !tokB b || stp sSq b) (by kernel_rfl) b
  rw [h] at this
  exact this
theorem tok_34 (b : UInt8) (h : tokB b = true) : b.toNat ≠ 34 := fun e => by
  have := bytes_all (p := fun b => !tokB b || b.toNat != 34) (by kernel_rfl) b
  rw [h, e] at this
  cases this
theorem tok_low (b : UInt8) : tokB (lowB b) = tokB b := beq_iff_eq.1 (bytes_all (p := fun b => tokB (lowB b) == tokB b) (by kernel_rfl) b)

theorem allB_mem {p : UInt8 → Bool} {s : ByteArray} (h : allB p s = true) : ∀ b ∈ s.data.toList, p b = true := fun b hb => by
  obtain ⟨j, hj, e⟩ := List.getElem_of_mem hb
  have hj2 : j < s.size := by simpa using hj
  cases hp : p s[j]
  · rw [allB_no hj2 hp] at h; cases h
  · have e2 : s[j] = b := e
    rw [← e2]; exact hp
theorem allB_low (s : ByteArray) : allB tokB (lowS s) = allB tokB s := by
  cases h : allB tokB s
  · cases h2 : allB tokB (lowS s)
    · rfl
    · have := allB_yes (p := tokB) (s := s) fun j hj => by
        have hj2 : j < (lowS s).size := by rw [lowS_size]; exact hj
        have h3 := allB_mem h2 ((lowS s)[j]) (List.getElem_mem (l := (lowS s).data.toList) (by simpa using hj2))
        rw [lowS_at s j hj, tok_low] at h3
        exact h3
      rw [this] at h; cases h
  · exact allB_yes fun j hj => by
      have hj2 : j < s.size := by rw [lowS_size] at hj; exact hj
      rw [lowS_at s j hj2, tok_low]
      exact allB_mem h s[j] (List.getElem_mem (l := s.data.toList) (by simpa using hj2))
theorem needB_low (s : ByteArray) : needB (lowS s) = needB s := by
  unfold needB
  rw [allB_low]
  congr 1
  rw [Bool.eq_iff_iff, beq_iff_eq, beq_iff_eq]
  constructor
  · intro h
    have := congrArg List.length h
    rw [toList_size, lowS_size] at this
    exact List.length_eq_zero_iff.1 (by rw [toList_size]; exact this)
  · intro h
    have := congrArg List.length h
    rw [toList_size] at this
    exact List.length_eq_zero_iff.1 (by rw [toList_size, lowS_size]; exact this)
theorem nameB_low {s : ByteArray} (h : needB s = false) : nameB (lowS s) = true := by
  unfold nameB
  rw [needB_low, h, lowS_lowS, eqS_self]
  rfl
theorem says_good {t : ByteArray} (h : saysB t = true) : goodM (lowS (tyOf t)) (lowS (suOf t)) (prOf t) = true := by
  unfold saysB at h
  rw [Bool.and_eq_true, Bool.and_eq_true] at h
  unfold goodM
  rw [nameB_low (by simpa using h.1.2), nameB_low (by simpa using h.2)]
  exact parF_good _ _ _ _ rfl

/-- What a token is made of. -/
theorem need_no {s : ByteArray} (h : needB s = false) : (∀ b ∈ s.data.toList, tokB b = true) ∧ s.data.toList ≠ [] := by
  unfold needB at h
  rw [Bool.or_eq_false_iff] at h
  refine ⟨allB_mem (by simpa using h.2), fun e => ?_⟩
  have h1 := h.1
  rw [Lib.toList_data, e] at h1
  cases h1
theorem name_need {s : ByteArray} (h : nameB s = true) : needB s = false := by
  unfold nameB at h
  rw [Bool.and_eq_true] at h
  simpa using h.1
theorem name_low {s : ByteArray} (h : nameB s = true) : lowS s = s := by
  unfold nameB at h
  rw [Bool.and_eq_true] at h
  exact eqS_eq h.2

theorem scan_run {p : UInt8 → Bool} {s : ByteArray} {k : Nat} {a r : List UInt8} (h : s.data.toList.drop k = a ++ r) (ha : ∀ b ∈ a, p b = true) (hr : ∀ b q, r = b :: q → p b = false) : scan p s k = k + a.length := by
  unfold scan
  rw [h, List.takeWhile_append_of_pos ha]
  cases r with
  | nil => simp
  | cons b q =>
    rw [List.takeWhile_cons, if_neg (by rw [hr b q rfl]; exact Bool.false_ne_true)]
    simp
theorem ext_run {s : ByteArray} {k : Nat} {a r : List UInt8} (h : s.data.toList.drop k = a ++ r) : s.extract k (k + a.length) = ⟨a.toArray⟩ := by
  apply ByteArray.ext
  apply Array.toList_inj.1
  rw [bytes_extract, List.drop_take, h]
  have e : k + a.length - k = a.length := by omega
  rw [e]
  simp
theorem drop_run {s : ByteArray} {k : Nat} {a r : List UInt8} (h : s.data.toList.drop k = a ++ r) : s.data.toList.drop (k + a.length) = r := by
  rw [← List.drop_drop, h]
  simp
theorem run_le {s : ByteArray} {k : Nat} {a r : List UInt8} (h : s.data.toList.drop k = a ++ r) (hk : k ≤ s.size) : k + a.length + r.length = s.size := by
  have := congrArg List.length h
  rw [List.length_drop, List.length_append] at this
  have e : s.data.toList.length = s.size := by simp
  omega
theorem at_run {s : ByteArray} {k : Nat} {b : UInt8} {r : List UInt8} (h : s.data.toList.drop k = b :: r) : ∃ hk : k < s.size, s[k] = b := by
  have hl := congrArg List.length h
  rw [List.length_drop, List.length_cons] at hl
  have e : s.data.toList.length = s.size := by simp
  have hk : k < s.size := by omega
  refine ⟨hk, ?_⟩
  rw [drop_cons s k hk] at h
  exact (List.cons.inj h).1
theorem arr_self (s : ByteArray) : (⟨s.data.toList.toArray⟩ : ByteArray) = s := by
  apply ByteArray.ext
  simp

/-- A text whose last byte is none that is cut. -/
theorem cutP_last {p : UInt8 → Bool} {s : ByteArray} {a : List UInt8} {b : UInt8} (h : s.data.toList = a ++ [b]) (hb : p b = false) : cutP p s = s := by
  have hl := congrArg List.length h
  have e : s.data.toList.length = s.size := by simp
  rw [e, List.length_append, List.length_singleton] at hl
  have hlt : a.length < s.size := by omega
  have hat : s[a.length] = b := by
    have : s.data.toList[a.length]'(by simpa using hlt) = b := by simp [h]
    exact this
  unfold cutP
  rw [show backN p s s.size = s.size from by
    rw [hl]
    exact backN_stop hlt (by rw [hat]; exact hb)]
  exact extract_all s
theorem trimP_last {p : UInt8 → Bool} {s : ByteArray} {a c : List UInt8} {b d : UInt8} (h : s.data.toList = a ++ [b]) (hb : p b = false) (h2 : s.data.toList = d :: c) (hd : p d = false) : trimP p s = s := by
  unfold trimP
  have h0 : s.data.toList.drop 0 = d :: c := h2
  obtain ⟨h3, h4⟩ := at_run h0
  rw [scan_stop h3 (by rw [h4]; exact hd), extract_all]
  exact cutP_last h hb

theorem last_tok {s : ByteArray} (h : needB s = false) : ∃ a b, s.data.toList = a ++ [b] ∧ whiB b = false := by
  obtain ⟨h1, h2⟩ := need_no h
  rcases List.eq_nil_or_concat s.data.toList with e | ⟨a, b, e⟩
  · exact absurd e h2
  · rw [List.concat_eq_append] at e
    exact ⟨a, b, e, tok_white b (h1 b (by rw [e]; simp))⟩
theorem first_tok {s : ByteArray} (h : needB s = false) : ∃ b a, s.data.toList = b :: a ∧ tokB b = true := by
  obtain ⟨h1, h2⟩ := need_no h
  cases e : s.data.toList with
  | nil => exact absurd e h2
  | cons b a => exact ⟨b, a, rfl, h1 b (by rw [e]; simp)⟩
theorem serS_list (v : ByteArray) : (serS v).data.toList = 34 :: (serL v.data.toList ++ [34]) := by
  unfold serS
  simp
theorem wrS_last (v : ByteArray) : ∃ a b, (wrS v).data.toList = a ++ [b] ∧ whiB b = false := by
  unfold wrS
  cases h : needB v
  · rw [if_neg (by simp)]
    exact last_tok h
  · rw [if_pos rfl, serS_list]
    exact ⟨34 :: serL v.data.toList, 34, by simp, by kernel_rfl⟩
theorem text_last {t u : ByteArray} {ps : List Prm} (hu : needB u = false) : ∃ a b, textL t u ps = a ++ [b] ∧ whiB b = false := by
  unfold textL essL
  rcases List.eq_nil_or_concat ps with e | ⟨qs, q, e⟩
  · obtain ⟨a, b, h, hb⟩ := last_tok hu
    rw [e, h]
    exact ⟨t.data.toList ++ 47 :: a, b, by simp [serPs], hb⟩
  · rw [List.concat_eq_append] at e
    obtain ⟨a, b, h, hb⟩ := wrS_last q.v
    rw [e, serPs_append]
    have e2 : serPs [q] = 59 :: q.n.data.toList ++ 61 :: (a ++ [b]) := by simp [serPs, serP, h]
    rw [e2]
    exact ⟨t.data.toList ++ 47 :: u.data.toList ++ (serPs qs ++ (59 :: q.n.data.toList ++ 61 :: a)), b, by simp, hb⟩
theorem serPs_head {ps : List Prm} : ∀ b q, serPs ps = b :: q → b.toNat = 59 := fun b q h => by
  cases ps with
  | nil => cases h
  | cons p r =>
    simp [serPs, serP] at h
    rw [← h.1]; rfl

/-- One parameter that is written is read. -/
theorem step_ser {P : ByteArray} {k : Nat} {q : Prm} {r : List Prm} (hq : prmB q = true) (h : P.data.toList.drop k = serP q ++ serPs r) : k < P.size ∧ stepP P k = some q ∧ stepE P k = k + (serP q).length := by
  unfold prmB at hq
  rw [Bool.and_eq_true] at hq
  have hnd := name_need hq.1
  obtain ⟨hn1, _⟩ := need_no hnd
  obtain ⟨nb, na, hnl, hnb⟩ := first_tok hnd
  have h1 : P.data.toList.drop k = 59 :: (q.n.data.toList ++ (61 :: ((wrS q.v).data.toList ++ serPs r))) := by rw [h]; simp [serP]
  obtain ⟨hk, _⟩ := at_run h1
  have h2 : P.data.toList.drop (k + 1) = q.n.data.toList ++ (61 :: ((wrS q.v).data.toList ++ serPs r)) := drop_run (a := [59]) h1
  have hfr : nmFr P k = k + 1 := scan_run (a := []) (p := whiB) h2 (by simp) (fun b q' e => by
    rw [hnl] at e
    have := (List.cons.inj e).1
    rw [← this]
    exact tok_white nb hnb)
  have hto : nmTo P k = k + 1 + q.n.data.toList.length := by
    unfold nmTo
    rw [hfr]
    exact scan_run h2 (fun b hb => tok_sSq b (hn1 b hb)) (fun b q' e => by
      have := (List.cons.inj e).1
      rw [← this]; rfl)
  have h3 : P.data.toList.drop (nmTo P k) = 61 :: ((wrS q.v).data.toList ++ serPs r) := by rw [hto]; exact drop_run h2
  obtain ⟨hl3, ha3⟩ := at_run h3
  have hnm : nmOf P k = q.n := by
    unfold nmOf
    rw [hfr, hto, ext_run h2, arr_self]
    exact name_low hq.1
  have h61 : isAt P (nmTo P k) 61 = true := by rw [isAt_yes hl3, ha3]; rfl
  have h4 : P.data.toList.drop (nmTo P k + 1) = (wrS q.v).data.toList ++ serPs r := drop_run (a := [61]) h3
  have hse : ∀ b q', serPs r = b :: q' → stp sSe b = false := fun b q' e => by
    have := serPs_head b q' e
    show (!hasB sSe b) = false
    rw [sSe_has, this]; rfl
  have hlen : (serP q).length = 1 + q.n.data.toList.length + 1 + (wrS q.v).data.toList.length := by
    rw [serP_len]
    simp
    omega
  have key : valOf P (nmTo P k + 1) = some q.v ∧ valTo P (nmTo P k + 1) = nmTo P k + 1 + (wrS q.v).data.toList.length := by
    obtain ⟨j, hj⟩ : ∃ j, j = nmTo P k + 1 := ⟨_, rfl⟩
    rw [← hj] at h4 ⊢
    cases hv : needB q.v
    · have hw : wrS q.v = q.v := by unfold wrS; rw [hv]; rfl
      rw [hw] at h4 ⊢
      obtain ⟨hv1, _⟩ := need_no hv
      obtain ⟨vb, va, hvl, hvb⟩ := first_tok hv
      obtain ⟨la, lb, hll, hlb⟩ := last_tok hv
      have h5 : P.data.toList.drop j = vb :: (va ++ serPs r) := by rw [h4, hvl]; rfl
      obtain ⟨hjl, hja⟩ := at_run h5
      have h34 : isAt P j 34 = false := by
        rw [isAt_yes hjl, hja]
        simpa using tok_34 vb hvb
      have hsc : scan (stp sSe) P j = j + q.v.data.toList.length := scan_run h4 (fun b hb => tok_sSe b (hv1 b hb)) hse
      have hraw : valRaw P j = q.v := by
        unfold valRaw
        rw [hsc, ext_run h4, arr_self]
        exact cutP_last hll hlb
      refine ⟨?_, ?_⟩
      · unfold valOf
        rw [h34, hraw, if_neg (by simp), if_neg (by rw [Lib.toList_data, hvl]; simp)]
      · unfold valTo
        rw [h34, if_neg (by simp), hsc]
    · have hw : wrS q.v = serS q.v := by unfold wrS; rw [hv]; rfl
      rw [hw, serS_list] at h4
      have h5 : P.data.toList.drop j = 34 :: (serL q.v.data.toList ++ 34 :: serPs r) := by rw [h4]; simp
      obtain ⟨hjl, hja⟩ := at_run h5
      have h34 : isAt P j 34 = true := by rw [isAt_yes hjl, hja]; rfl
      have h6 : P.data.toList.drop (j + 1) = serL q.v.data.toList ++ 34 :: serPs r := drop_run (a := [34]) h5
      have hqs : quoS P (j + 1) = (q.v.data.toList, (serL q.v.data.toList).length + 1) := by unfold quoS; rw [h6, quoL_serL]
      have h7 : P.data.toList.drop (j + 1 + ((serL q.v.data.toList).length + 1)) = [] ++ serPs r := by
        have := drop_run (s := P) (k := j + 1) (a := serL q.v.data.toList ++ [34]) (r := serPs r) (by rw [h6]; simp)
        simpa using this
      refine ⟨?_, ?_⟩
      · unfold valOf
        rw [h34, if_pos rfl, hqs]
      · unfold valTo
        rw [h34, if_pos rfl, hqs, hw, serS_list, scan_run h7 (by simp) hse]
        simp [Nat.add_assoc, Nat.add_comm]
  refine ⟨hk, ?_, ?_⟩
  · unfold stepP
    rw [h61, if_pos rfl, key.1, hnm]
    rfl
  · unfold stepE
    rw [h61, if_pos rfl, key.2, hto, hlen]
    omega

theorem par_ser {P : ByteArray} : ∀ (qs : List Prm) (k : Nat) (acc : List Prm), goodL acc qs = true → P.data.toList.drop k = serPs qs → parS P k acc = acc ++ qs
  | [], k, acc, _, h => by
    have hl := congrArg List.length h
    rw [List.length_drop] at hl
    have e : P.data.toList.length = P.size := by simp
    have e2 : (serPs []).length = 0 := rfl
    rw [parS_end acc (by omega)]
    simp
  | q :: r, k, acc, hg, h => by
    rw [goodL, Bool.and_eq_true, Bool.and_eq_true] at hg
    have h1 : P.data.toList.drop k = serP q ++ serPs r := by rw [h]; simp [serPs]
    obtain ⟨hk, hp, he⟩ := step_ser hg.1.1 h1
    have hput : putO acc (some q) = acc ++ [q] := by
      show putL acc q = _
      unfold putL
      rw [hg.1.1, hg.1.2]
      rfl
    rw [parS_step acc hk, hp, he, hput, par_ser r _ _ hg.2 (drop_run h1)]
    simp

/-- What a good type is written as says that type. -/
theorem text_says {t u : ByteArray} {ps : List Prm} (h : goodM t u ps = true) (P : ByteArray) (hP : P = ⟨(textL t u ps).toArray⟩) :
    trimP whiB P = P ∧ saysB P = true ∧ lowS (tyOf P) = t ∧ lowS (suOf P) = u ∧ prOf P = ps := by
  unfold goodM at h
  rw [Bool.and_eq_true, Bool.and_eq_true] at h
  have hL : P.data.toList = t.data.toList ++ (47 :: (u.data.toList ++ serPs ps)) := by
    rw [hP]
    simp [textL, essL]
  have ht := name_need h.1.1
  have hu := name_need h.1.2
  obtain ⟨ht1, _⟩ := need_no ht
  obtain ⟨hu1, _⟩ := need_no hu
  obtain ⟨tb, ta, htl, htb⟩ := first_tok ht
  obtain ⟨la, lb, hll, hlb⟩ := text_last (t := t) (ps := ps) hu
  obtain ⟨ua, ub, hul, hub⟩ := last_tok hu
  have hL2 : P.data.toList = la ++ [lb] := by rw [← hll, hP]
  have htrim : trimP whiB P = P := trimP_last hL2 hlb (d := tb) (c := ta ++ (47 :: (u.data.toList ++ serPs ps))) (by rw [hL, htl]; rfl) (tok_white tb htb)
  have h0 : P.data.toList.drop 0 = t.data.toList ++ (47 :: (u.data.toList ++ serPs ps)) := hL
  have hty : tyTo P = t.data.toList.length := by
    have := scan_run (p := stp sSl) h0 (fun b hb => tok_sSl b (ht1 b hb)) (fun b q e => by
      have := (List.cons.inj e).1
      rw [← this]; rfl)
    unfold tyTo
    rw [this, Nat.zero_add]
  have htyo : tyOf P = t := by
    have := ext_run h0
    rw [Nat.zero_add] at this
    unfold tyOf
    rw [hty, this, arr_self]
  have h1 : P.data.toList.drop (tyTo P) = 47 :: (u.data.toList ++ serPs ps) := by
    have := drop_run h0
    rw [Nat.zero_add] at this
    rw [hty]; exact this
  obtain ⟨hlt, _⟩ := at_run h1
  have h2 : P.data.toList.drop (tyTo P + 1) = u.data.toList ++ serPs ps := drop_run (a := [47]) h1
  have hsu : suTo P = tyTo P + 1 + u.data.toList.length := scan_run (p := stp sSe) h2 (fun b hb => tok_sSe b (hu1 b hb)) (fun b q e => by
    have := serPs_head b q e
    show (!hasB sSe b) = false
    rw [sSe_has, this]; rfl)
  have hsuo : suOf P = u := by
    unfold suOf
    rw [hsu, ext_run h2, arr_self]
    exact cutP_last hul hub
  have hpr : prOf P = ps := by
    unfold prOf
    rw [par_ser ps (suTo P) [] h.2 (by rw [hsu]; exact drop_run h2)]
    rfl
  refine ⟨htrim, ?_, ?_, ?_, hpr⟩
  · unfold saysB
    rw [decide_eq_true hlt, htyo, hsuo, ht, hu]
    rfl
  · rw [htyo]; exact name_low h.1.1
  · rw [hsuo]; exact name_low h.1.2

/-- How many parameters a text has at most; how long a text is. -/
theorem parF_len (s : ByteArray) : ∀ (f k : Nat) (acc : List Prm), (parF s f k acc).length ≤ acc.length + f
  | 0, _, _ => Nat.le_refl _
  | f + 1, k, acc => by
    rw [parF]
    split
    · have h1 := parF_len s f (stepE s k) (putO acc (stepP s k))
      have h2 : (putO acc (stepP s k)).length ≤ acc.length + 1 := by
        cases stepP s k with
        | none => show acc.length ≤ _; omega
        | some p =>
          show (putL acc p).length ≤ _
          unfold putL
          split <;> simp
      omega
    · omega
theorem prOf_len (t : ByteArray) : (prOf t).length ≤ t.size := by
  have := parF_len t t.size (suTo t) []
  rw [List.length_nil, Nat.zero_add] at this
  exact this
theorem serPs_le {n : Nat} : ∀ {ps : List Prm}, AllIn n ps → (serPs ps).length ≤ ps.length * (3 * n + 4)
  | [], _ => Nat.zero_le _
  | p :: r, h => by
    have ih := serPs_le (fun q hq => h q (List.mem_cons_of_mem _ hq))
    have h1 := h p (List.mem_cons_self ..)
    have h2 := wrS_size p.v
    have e : serPs (p :: r) = serP p ++ serPs r := by simp [serPs]
    rw [e, List.length_append, serP_len, List.length_cons, Nat.succ_mul]
    omega

end Go.Proofs.Ytmepnfkgfbbkiaa
