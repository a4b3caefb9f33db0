/-
  Plain facts on layer 26: a good place is read again from what it is written as (tex_url); what is read is good (url_good). No condition.
  Plain facts on layer 26: the steps of the document's loops over a text, place by place. No condition.
  Contracts of the library at this seat: Split, Join, ReplaceAll, TrimFunc, Index, Contains, ContainsAny, HasPrefix, CutPrefix (the shelf's, laid). Conditions: those of each.
-/
import Derived.Test.YtagbndkfbnlpoaaGreatDoorZ8
import Derived.Shelf.Strings.OnBuilder
import Derived.Shelf.Small.Wraps
import Derived.Shelf.LaysM
import Derived.Shelf.Strings.Search3
import Derived.Shelf.GgClosure.StringsTrimFunc
import Derived.Shelf.Strings.Prefix
import Derived.Shelf.Strings.Split
import Derived.Shelf.Strings.Replace
import Derived.Shelf.Strings.SplitShaped
import Derived.Shelf.Strings.IndexAnyAll
import Derived.Test.YtagbndkfbnlpoaaGreatDoorRows
import Derived.WalkKit
namespace Go.Proofs.YtagbndkfbnlpoaaGreatDoor

theorem bytes_imp {p q : UInt8 → Bool} (h : (List.range 256).all (fun n => !p (UInt8.ofNat n) || q (UInt8.ofNat n)) = true) {b : UInt8} (hb : p b = true) : q b = true := by
  have := bytes_all (p := fun b => !p b || q b) h b
  simp only [hb, Bool.not_true, Bool.false_or] at this
  exact this
theorem allB_list {p : UInt8 → Bool} {s : ByteArray} (h : allB p s = true) : ∀ b ∈ s.data.toList, p b = true := fun b hb => by
  obtain ⟨i, hi, e⟩ := List.getElem_of_mem hb
  have hi2 : i < s.size := by simpa using hi
  have e2 : s[i] = b := e
  cases hp : p b
  · rw [allB_no hi2 (by rw [e2]; exact hp)] at h; cases h
  · rfl
theorem self_of {a b : ByteArray} (h : (a.toList == b.toList) = true) : a = b := eqS_eq h
/-- What is known of a good path, and of a good query. -/
theorem pth_known {s : ByteArray} (h : pthB s = true) : dotS s = s ∧ pqS s = s ∧ (∃ q, s.data.toList = 47 :: q) ∧ (∀ b ∈ s.data.toList, ownB b = true) ∧ ∀ b ∈ s.data.toList, nonB #[63, 35] b = true := by
  unfold pthB at h
  simp only [Bool.and_eq_true, Bool.not_eq_true'] at h
  obtain ⟨⟨⟨h0, h1⟩, h2⟩, h3⟩ := h
  have e1 := self_of h1
  have e2 := self_of h2
  refine ⟨e1, e2, dotS_head e1 ?_, pqS_self e2, allB_list h3⟩
  intro e
  have : (s.toList == []) = true := by rw [Lib.toList_data, e]; rfl
  rw [this] at h0
  cases h0
theorem qry_known {s : ByteArray} (h : qryB s = true) : pqS s = s ∧ (s.data.toList = [] ∨ ∃ q, s.data.toList = 63 :: q) ∧ (∀ b ∈ s.data.toList, ownB b = true) ∧ ∀ b ∈ s.data.toList, nonB #[35] b = true := by
  unfold qryB at h
  rw [Bool.or_eq_true] at h
  rcases h with h | h
  · have e := toList_eq h
    have e1 : s = ⟨#[]⟩ := (arr_of e).symm
    subst e1
    exact ⟨rfl, .inl rfl, by decide, by decide⟩
  · simp only [Bool.and_eq_true, beq_iff_eq] at h
    obtain ⟨⟨h0, h2⟩, h3⟩ := h
    have e2 : pqS s = s := self_of (by rw [h2]; exact beq_self_eq_true _)
    refine ⟨e2, ?_, pqS_self e2, allB_list h3⟩
    cases hs : s.data.toList with
    | nil => exact .inl rfl
    | cons b q =>
      right
      have hz : 0 < s.size := by rw [size_of hs]; simp
      rw [getElem!_pos s 0 hz] at h0
      have e3 : s[0] = s.data.toList[0]'(by rw [hs]; simp) := rfl
      have e4 : ∀ (l : List UInt8) (hh : 0 < l.length), l = b :: q → l[0] = b := fun l hh e => by subst e; rfl
      rw [e3, e4 _ _ hs] at h0
      exact ⟨q, by rw [h0]⟩

theorem prtS_list (n : Int) : (prtS n).data.toList = if 0 < n then 58 :: worL n else [] := by
  unfold prtS
  split
  · rw [app_list, worS_list]; rfl
  · rfl
theorem texU_list (u : Plc) : (texU u).data.toList = u.sc.data.toList ++ (58 :: 47 :: 47 :: (u.ho.data.toList ++ ((prtS u.po).data.toList ++ (u.pa.data.toList ++ u.qu.data.toList)))) := by
  unfold texU
  simp only [app_list]
  simp

/-- A port that is written is read. -/
theorem prt_port {u : Plc} (h0 : 0 < u.po) (h1 : u.po ≤ 65535) (h2 : u.po ≠ ownP u.sc) (v : Plc) (hv : v.sc = u.sc) : prtO (worS u.po) v = .ok { v with po := u.po } := by
  have hs := digS_size u.po.toNat
  have hl := decDigits_len u.po.toNat u.po.toNat (Nat.le_refl _)
  have hk := digS_num u.po.toNat
  have hw : worS u.po = digS u.po.toNat := by unfold worS; rw [if_neg (by omega)]
  have hz : (worS u.po).size ≠ 0 := by rw [hw]; omega
  have hp := parV_ok (s := worS u.po) hz (by rw [hw]; exact digS_all _) (by rw [hw, hk]; omega)
  have e1 : parE (worS u.po) = 0 ∧ parN (worS u.po) = u.po := by
    unfold parV at hp
    rw [hw, hk] at hp
    rw [hw]
    injection hp with hp
    have := congrArg Array.toList hp
    simp at this
    exact ⟨this.2, by omega⟩
  unfold prtO
  rw [if_neg hz, if_neg (by rw [e1.1]; decide), e1.2, if_neg (by omega), hv, if_neg h2]

theorem tex_url {u : Plc} (hg : goodU u = true) (hs : (texU u).size ≤ 8192) : urlO (texU u) = .ok u := by
  obtain ⟨sc, ho, po, pa, qu⟩ := u
  have hg0 := hg
  unfold goodU at hg
  simp only [Bool.and_eq_true, bne_iff_ne, decide_eq_true_eq] at hg
  obtain ⟨⟨⟨⟨⟨⟨g1, g2⟩, g3⟩, g4⟩, g5⟩, g6⟩, g7⟩ := hg
  obtain ⟨scl, scb, sc0⟩ := own_scheme g1
  have hob := nam_bytes g2
  obtain ⟨pd, pq, ⟨pt, ph⟩, pown, pnon⟩ := pth_known g6
  obtain ⟨qq, qh, qown, qnon⟩ := qry_known g7
  have hl := texU_list ⟨sc, ho, po, pa, qu⟩
  have hprt := prtS_list po
  have hdig := worL_dig po
  generalize htT : texU ⟨sc, ho, po, pa, qu⟩ = T at *
  simp only at hl
  rw [hprt] at hl
  -- every byte of the text
  have hall : ∀ b ∈ T.data.toList, ledB b = false ∧ nonB #[35] b = true := fun b hb => by
    rw [hl] at hb
    simp only [List.mem_append, List.mem_cons] at hb
    have key : ∀ {p : UInt8 → Bool}, (List.range 256).all (fun n => !p (UInt8.ofNat n) || (!ledB (UInt8.ofNat n) && nonB #[35] (UInt8.ofNat n))) = true → p b = true → ledB b = false ∧ nonB #[35] b = true := fun h hp => by
      have := bytes_imp (q := fun b => !ledB b && nonB #[35] b) h hp
      simpa using this
    rcases hb with hb | rfl | rfl | rfl | hb | hb | hb | hb
    · exact key (p := lowerB) (by kernel_rfl) (scb b hb)
    · exact ⟨by kernel_rfl, by kernel_rfl⟩
    · exact ⟨by kernel_rfl, by kernel_rfl⟩
    · exact ⟨by kernel_rfl, by kernel_rfl⟩
    · exact key (p := hoyB) (by kernel_rfl) (hob b hb)
    · split at hb
      · rcases List.mem_cons.1 hb with rfl | hb
        · exact ⟨by kernel_rfl, by kernel_rfl⟩
        · exact key (p := digB) (by kernel_rfl) (hdig b hb)
      · cases hb
    · have := key (p := fun b => ownB b && nonB #[63, 35] b) (by kernel_rfl) (by rw [pown b hb, pnon b hb]; rfl)
      exact this
    · have := key (p := fun b => ownB b && nonB #[35] b) (by kernel_rfl) (by rw [qown b hb, qnon b hb]; rfl)
      exact this
  have e1 : trimP ledB T = T := trim_self fun b hb => (hall b hb).1
  have e2 : scan (nonB #[35]) T 0 = T.size := scan_all_of rfl fun b hb => (hall b hb).2
  unfold urlO
  simp only [e1, e2, extract_all]
  rw [if_neg (by omega)]
  -- the scheme
  have k1 : scan (nonB #[58]) T 0 = sc.data.toList.length := scan_head hl (fun b hb => bytes_imp (p := lowerB) (by kernel_rfl) (scb b hb)) (one_head (by kernel_rfl))
  have x1 : T.extract 0 sc.data.toList.length = sc := (ext_head hl).trans (arr_of rfl)
  have hb1 := ext_back hl
  unfold schO
  simp only [k1, x1, scl]
  have pre : prefB (T.extract sc.data.toList.length T.size) ⟨#[58, 47, 47]⟩ = true := by
    rw [hb1]
    unfold prefB
    have ez : (⟨#[58, 47, 47]⟩ : ByteArray).size = 3 := rfl
    have e : ∀ (l : List UInt8), (⟨(58 :: 47 :: 47 :: l).toArray⟩ : ByteArray).extract 0 3 = ⟨#[58, 47, 47]⟩ := fun l => ext_head (l2 := [58, 47, 47]) (l3 := l) rfl
    rw [ez, e, Bool.and_eq_true]
    refine ⟨decide_eq_true ?_, beq_self_eq_true _⟩
    show 3 ≤ (List.toArray _).size
    simp
  rw [if_neg (by rw [pre]; decide)]
  have hl2 : T.data.toList = (sc.data.toList ++ [58, 47, 47]) ++ (ho.data.toList ++ ((if 0 < po then 58 :: worL po else []) ++ (pa.data.toList ++ qu.data.toList))) := by rw [hl]; simp
  have hb2 := ext_back hl2
  have ln : (sc.data.toList ++ ([58, 47, 47] : List UInt8)).length = sc.data.toList.length + 3 := by simp
  rw [ln] at hb2
  rw [hb2]
  -- the host
  generalize hB : (⟨(ho.data.toList ++ ((if 0 < po then 58 :: worL po else []) ++ (pa.data.toList ++ qu.data.toList))).toArray⟩ : ByteArray) = B
  have hlB : B.data.toList = ho.data.toList ++ ((if 0 < po then 58 :: worL po else []) ++ (pa.data.toList ++ qu.data.toList)) := by rw [← hB]
  have k2 : scan (nonB #[58, 47, 63]) B 0 = ho.data.toList.length := scan_head hlB (fun b hb => bytes_imp (p := hoyB) (by kernel_rfl) (hob b hb)) fun b q e => by
    split at e
    · obtain ⟨rfl, _⟩ := List.cons.inj e
      kernel_rfl
    · rw [ph] at e
      obtain ⟨rfl, _⟩ := List.cons.inj e
      kernel_rfl
  have x2 : B.extract 0 ho.data.toList.length = ho := (ext_head hlB).trans (arr_of rfl)
  have lho : lowS ho = ho := low_stays fun b hb => by
    have := bytes_imp (p := hoyB) (q := fun b => lowB b == b) (by kernel_rfl) (hob b hb)
    simpa using this
  have hb3 := ext_back hlB
  unfold hosO
  simp only [k2, x2, lho]
  rw [hb3]
  -- the path and the query behind the port
  have hend : ∀ (D : ByteArray) (p : ByteArray), D.data.toList = pa.data.toList ++ qu.data.toList → pthO sc ho p D = prtO p ⟨sc, ho, 0, pa, qu⟩ := fun D p hD => by
    have k4 : scan (nonB #[63]) D 0 = pa.data.toList.length := scan_head hD (fun b hb => bytes_imp (p := nonB #[63, 35]) (by kernel_rfl) (pnon b hb)) fun b q e => by
      rcases qh with qh | ⟨q', qh⟩
      · rw [qh] at e; cases e
      · rw [qh] at e
        obtain ⟨rfl, _⟩ := List.cons.inj e
        kernel_rfl
    have x4 : D.extract 0 pa.data.toList.length = pa := (ext_head hD).trans (arr_of rfl)
    have y4 : D.extract pa.data.toList.length D.size = qu := (ext_back hD).trans (arr_of rfl)
    have hne : pa.data.toList.length ≠ 0 := by rw [ph]; simp
    unfold pthO
    simp only [k4, x4, y4, pq, pd, qq]
    rw [if_neg hne, if_neg]
    unfold goodU
    simp only [Bool.not_eq_false, Bool.and_eq_true, bne_iff_ne, decide_eq_true_eq]
    exact ⟨⟨⟨⟨⟨⟨g1, g2⟩, Int.le_refl _⟩, by omega⟩, fun e => g1 e.symm⟩, g6⟩, g7⟩
  by_cases hpo : 0 < po
  · rw [if_pos hpo]
    generalize hC : (⟨(58 :: worL po ++ (pa.data.toList ++ qu.data.toList)).toArray⟩ : ByteArray) = C
    have hlC : C.data.toList = (58 :: worL po) ++ (pa.data.toList ++ qu.data.toList) := by rw [← hC]
    have a58 : atB C 0 58 = true := atB_of (l1 := []) (l3 := worL po ++ (pa.data.toList ++ qu.data.toList)) (by rw [hlC]; rfl)
    rw [if_pos a58]
    have k3 : scan (nonB #[47, 63]) C 0 = (58 :: worL po).length := scan_head hlC (fun b hb => by
      rcases List.mem_cons.1 hb with rfl | hb
      · kernel_rfl
      · exact bytes_imp (p := digB) (by kernel_rfl) (hdig b hb)) fun b q e => by
      rw [ph] at e
      obtain ⟨rfl, _⟩ := List.cons.inj e
      kernel_rfl
    have x3 : C.extract 1 (58 :: worL po).length = worS po := by
      have := ext_of (l1 := [58]) (l2 := worL po) (l3 := pa.data.toList ++ qu.data.toList) (s := C) (by rw [hlC]; rfl)
      rw [worS_of] at this
      rw [← this]
      congr 1
      simp
      omega
    have hb4 := ext_back hlC
    rw [k3, x3, hend _ _ (by rw [hb4])]
    exact prt_port (u := ⟨sc, ho, po, pa, qu⟩) hpo g4 g5 ⟨sc, ho, 0, pa, qu⟩ rfl
  · rw [if_neg hpo]
    generalize hC : (⟨([] ++ (pa.data.toList ++ qu.data.toList)).toArray⟩ : ByteArray) = C
    have hlC : C.data.toList = pa.data.toList ++ qu.data.toList := by rw [← hC]; rfl
    have a58 : atB C 0 58 = false := atB_no (l1 := []) (l3 := pt ++ qu.data.toList) (b := 47) (by rw [hlC, ph]; rfl) (by decide)
    rw [if_neg (by rw [a58]; decide), hend _ _ hlC]
    have hp0 : po = 0 := by omega
    rw [hp0]
    rfl

/-- What is read is good. -/
theorem prt_good {pt : ByteArray} {u v : Plc} (hu : goodU u = true) (h : prtO pt u = .ok v) : goodU v = true := by
  unfold prtO at h
  split at h
  · cases h; exact hu
  split at h
  · cases h
  split at h
  · cases h
  rename_i h1 h2 h3
  cases h
  have hn : 0 ≤ parN pt := by
    unfold parN
    split
    · exact Int.natCast_nonneg _
    · exact Int.le_refl _
  unfold goodU at hu ⊢
  simp only [Bool.and_eq_true, bne_iff_ne, decide_eq_true_eq] at hu ⊢
  obtain ⟨⟨⟨⟨⟨⟨g1, g2⟩, g3⟩, g4⟩, g5⟩, g6⟩, g7⟩ := hu
  refine ⟨⟨⟨⟨⟨⟨g1, g2⟩, ?_⟩, ?_⟩, ?_⟩, g6⟩, g7⟩
  · split <;> omega
  · split <;> omega
  · split
    · exact fun e => g1 e.symm
    · assumption
theorem pth_good {sc ho pt d : ByteArray} {v : Plc} (h : pthO sc ho pt d = .ok v) : goodU v = true := by
  unfold pthO at h
  simp only at h
  generalize (if scan (nonB #[63]) d 0 = 0 then (⟨#[47]⟩ : ByteArray) else dotS (pqS (d.extract 0 (scan (nonB #[63]) d 0)))) = pa at h
  split at h
  · cases h
  · rename_i hg
    exact prt_good (by simpa using hg) h
theorem url_good {s : ByteArray} {v : Plc} (h : urlO s = .ok v) : goodU v = true := by
  unfold urlO at h
  simp only at h
  split at h
  · cases h
  unfold schO at h
  simp only at h
  split at h
  · cases h
  unfold hosO at h
  simp only at h
  split at h
  · exact pth_good h
  · exact pth_good h

end Go.Proofs.YtagbndkfbnlpoaaGreatDoor
namespace Go.Proofs.YtagbndkfbnlpoaaGreatDoor

theorem pq_pct {s : ByteArray} {i : Nat} (h : i + 2 < s.size) (h0 : s[i] = 37) (h1 : hexY s[i + 1] = true) (h2 : hexY s[i + 2] = true) :
    pqL (s.data.toList.drop i) = 37 :: digG (hexB s[i + 1]).toNat :: digG (hexB s[i + 2]).toNat :: pqL (s.data.toList.drop (i + 3)) := by
  rw [drop_cons s i (by omega), drop_cons s (i + 1) (by omega), drop_cons s (i + 2) h, h0]
  exact pqL_pct _ h1 h2
theorem pq_esc {s : ByteArray} {i : Nat} (h : i < s.size) (hn : s[i] = 37 → ∀ h2 : i + 2 < s.size, hexY s[i + 1] = true → hexY s[i + 2] = false) :
    pqL (s.data.toList.drop i) = escL s[i] ++ pqL (s.data.toList.drop (i + 1)) := by
  rw [drop_cons s i h]
  refine pqL_esc ?_
  by_cases h2 : i + 2 < s.size
  · rw [drop_cons s (i + 1) (by omega), drop_cons s (i + 1 + 1) (by omega)]
    show (s[i] == 37 && hexY s[i + 1] && hexY s[i + 1 + 1]) = false
    cases h3 : s[i] == 37
    · rfl
    · cases h4 : hexY s[i + 1]
      · rfl
      · exact hn (by simpa using h3) h2 h4
  · by_cases h1 : i + 1 < s.size
    · rw [drop_cons s (i + 1) h1, List.drop_of_length_le (by simp; omega)]
      rfl
    · rw [List.drop_of_length_le (by simp; omega)]
      rfl
theorem pq_end {s : ByteArray} {i : Nat} (h : s.size ≤ i) : pqL (s.data.toList.drop i) = [] := by
  rw [List.drop_of_length_le (by simpa using h)]
  rfl

theorem ext_list {s : ByteArray} {a b : Nat} : (s.extract a b).data.toList = (s.data.toList.drop a).take (b - a) := by
  rw [ByteArray.data_extract, Array.toList_extract]
theorem drop_split {s : ByteArray} {f i : Nat} (h : f ≤ i) (hi : i < s.size) : s.data.toList.drop f = (s.extract f i).data.toList ++ s[i] :: s.data.toList.drop (i + 1) := by
  rw [ext_list, ← drop_cons s i hi]
  have e : s.data.toList.drop i = (s.data.toList.drop f).drop (i - f) := by rw [List.drop_drop]; congr 1; omega
  rw [e, List.take_append_drop]
theorem ext_mem {s : ByteArray} {f i : Nat} {p : UInt8 → Bool} (hi : i ≤ s.size) (hn : ∀ k, f ≤ k → k < i → (hk : k < s.size) → p s[k] = false) : ∀ b ∈ (s.extract f i).data.toList, p b = false := fun b hb => by
  obtain ⟨j, hj, e⟩ := List.getElem_of_mem hb
  have hj2 : j < (s.extract f i).size := by rw [Array.length_toList] at hj; exact hj
  have hz : (s.extract f i).size = i - f := by simp; omega
  have e2 : (s.extract f i)[j] = b := e
  rw [← e2, ext_at hi (by omega)]
  exact hn _ (by omega) (by omega) _
theorem sls_piece {s : ByteArray} {f i : Nat} (h : f ≤ i) (hi : i < s.size) (h47 : s[i] = 47) (hn : ∀ k, f ≤ k → k < i → (hk : k < s.size) → (s[k] == 47) = false) :
    slsL (s.data.toList.drop f) = (s.extract f i).data.toList :: slsL (s.data.toList.drop (i + 1)) := by
  rw [drop_split h hi, h47]
  exact slsL_run _ _ (ext_mem (p := fun b => b == 47) (by omega) hn)
theorem sls_end {s : ByteArray} {f : Nat} (hn : ∀ k, f ≤ k → k < s.size → (hk : k < s.size) → (s[k] == 47) = false) :
    slsL (s.data.toList.drop f) = [(s.extract f s.size).data.toList] := by
  have e : s.data.toList.drop f = (s.extract f s.size).data.toList := by
    rw [ext_list, List.take_of_length_le (by simp)]
  rw [e]
  exact slsL_last _ (ext_mem (p := fun b => b == 47) (Nat.le_refl _) hn)

/-- What a piece's points come to, step by step. -/
def ptsN (x : ByteArray) (n : Nat) : Nat := ptsL x.data.toList n
def dotE (x : ByteArray) : Bool := decide (2 < x.size) && ((lowS (x.extract 0 3)).toList == [37, 50, 101])
theorem pts_end {x : ByteArray} {n : Nat} (h : x.size = 0) : ptsN x n = n := by
  unfold ptsN
  have : x.data.toList = [] := List.length_eq_zero_iff.1 (by simpa using h)
  rw [this]
  rfl
theorem tail_list {x : ByteArray} {k : Nat} : (x.extract k x.size).data.toList = x.data.toList.drop k := by
  rw [ext_list, List.take_of_length_le (by simp)]
theorem lowB_is {b c : UInt8} (h : lowB b = c) (hc : (List.range 256).all (fun n => !(lowB (UInt8.ofNat n) == c) || (UInt8.ofNat n == c)) = true) : b = c := by
  have := bytes_all (p := fun b => !(lowB b == c) || b == c) hc b
  rw [h] at this
  simpa using this
theorem lowB_e {b : UInt8} : (lowB b == 101) = (b == 101 || b == 69) := by
  have := bytes_all (p := fun b => (lowB b == 101) == (b == 101 || b == 69)) (by kernel_rfl) b
  simpa using this
theorem dotE_list {x : ByteArray} {a b c : UInt8} {l : List UInt8} (h : x.data.toList = a :: b :: c :: l) : dotE x = (a == 37 && b == 50 && (c == 101 || c == 69)) := by
  have hz : x.size = l.length + 3 := by rw [size_of h]; simp
  have e : (lowS (x.extract 0 3)).data.toList = [lowB a, lowB b, lowB c] := by
    show ((x.extract 0 3).data.map lowB).toList = _
    rw [Array.toList_map, ext_list, h]
    rfl
  unfold dotE
  rw [decide_eq_true (by omega), Bool.true_and, Lib.toList_data, e]
  have e1 := bytes_all (p := fun a => (lowB a == 37) == (a == 37)) (by kernel_rfl) a
  have e2 := bytes_all (p := fun a => (lowB a == 50) == (a == 50)) (by kernel_rfl) b
  rw [beq_iff_eq] at e1 e2
  show (lowB a == 37 && (lowB b == 50 && (lowB c == 101 && true))) = _
  rw [e1, e2, lowB_e]
  cases a == 37 <;> cases b == 50 <;> cases (c == 101 || c == 69) <;> rfl
theorem dotE_short {x : ByteArray} (h : x.size ≤ 2) : dotE x = false := by
  unfold dotE
  rw [decide_eq_false (by omega)]
  rfl
theorem pts_two {x : ByteArray} {n : Nat} (h : dotE x = true) : ptsN x n = ptsN (x.extract 3 x.size) (n + 1) := by
  have hz : 2 < x.size := by
    unfold dotE at h
    simp only [Bool.and_eq_true, decide_eq_true_eq] at h
    exact h.1
  have hl : x.data.toList = x[0] :: x[1] :: x[2] :: x.data.toList.drop 3 := by
    rw [← drop_cons x 2 hz, ← drop_cons x 1 (by omega), ← drop_cons x 0 (by omega), List.drop_zero]
  rw [dotE_list hl] at h
  simp only [Bool.and_eq_true, beq_iff_eq] at h
  unfold ptsN
  rw [tail_list]
  conv => lhs; rw [hl, h.1.1, h.1.2]
  show (if (50 : UInt8) == 50 && (x[2] == 101 || x[2] == 69) then _ else 0) = _
  rw [h.2]
  rfl
theorem pts_one {x : ByteArray} {n : Nat} (h : 0 < x.size) (h0 : x[0] = 46) : ptsN x n = ptsN (x.extract 1 x.size) (n + 1) := by
  unfold ptsN
  rw [tail_list]
  have hl : x.data.toList = x[0] :: x.data.toList.drop 1 := by rw [← drop_cons x 0 h, List.drop_zero]
  conv => lhs; rw [hl, h0]
  generalize x.data.toList.drop 1 = l
  match l with
  | [] => rfl
  | [a] => rfl
  | a :: b :: l => rfl
theorem pts_no {x : ByteArray} {n : Nat} (h : 0 < x.size) (h0 : x[0] ≠ 46) (h1 : dotE x = false) : ptsN x n = 0 := by
  unfold ptsN
  have hl : x.data.toList = x[0] :: x.data.toList.drop 1 := by rw [← drop_cons x 0 h, List.drop_zero]
  have h46 : (x[0] == 46) = false := by simpa using h0
  have key : ∀ (a b c : UInt8) (l : List UInt8), (a == 46) = false → (a == 37 && b == 50 && (c == 101 || c == 69)) = false → ptsL (a :: b :: c :: l) n = 0 := fun a b c l q1 q2 => by
    by_cases ha : a = 37
    · subst ha
      show (if b == 50 && (c == 101 || c == 69) then _ else 0) = 0
      rw [if_neg (by simpa using q2)]
    · unfold ptsL
      split
      · contradiction
      · simp_all
      · rename_i e
        cases e
        rw [if_neg (by rw [q1]; decide)]
  have k1 : ∀ (a : UInt8), (a == 46) = false → ptsL [a] n = 0 := fun a q => by
    unfold ptsL
    split
    · contradiction
    · rename_i e; cases e
    · rename_i e
      cases e
      rw [if_neg (by rw [q]; decide)]
  have k2 : ∀ (a b : UInt8), (a == 46) = false → ptsL [a, b] n = 0 := fun a b q => by
    unfold ptsL
    split
    · contradiction
    · rename_i e; cases e
    · rename_i e
      cases e
      rw [if_neg (by rw [q]; decide)]
  cases hd : x.data.toList.drop 1 with
  | nil =>
    rw [hl, hd]
    exact k1 _ h46
  | cons a l =>
    cases l with
    | nil =>
      rw [hl, hd]
      exact k2 _ _ h46
    | cons b l =>
      rw [hd] at hl
      rw [dotE_list hl] at h1
      rw [hl]
      exact key _ _ _ _ h46 h1

end Go.Proofs.YtagbndkfbnlpoaaGreatDoor
namespace Go.Proofs.YtagbndkfbnlpoaaGreatDoor
open Go.RowKit Go.Shelf

def lays219_ren : Go.Shelf.Ren := ⟨fun | 219 => 86 | 217 => 102 | 225 => 103 | 224 => 104 | 267 => 105 | 266 => 117 | 314 => 118 | n => n, fun | 9 => 9 | 3 => 3 | 4 => 4 | 5 => 5 | 46 => 106 | 146 => 122 | 51 => 121 | n => n, fun | 1 => 0 | n => n⟩

theorem lays219 : Go.Proofs.Lays.n219 Tryz.prog lays219_ren := {
  mixed := by kernel_rfl
  f217 := Tryz.func102.trans (congrArg some (by kernel_rfl))
  f219 := Tryz.func86.trans (congrArg some (by kernel_rfl))
  f224 := Tryz.func104.trans (congrArg some (by kernel_rfl))
  f225 := Tryz.func103.trans (congrArg some (by kernel_rfl))
  f266 := Tryz.func117.trans (congrArg some (by kernel_rfl))
  f267 := Tryz.func105.trans (congrArg some (by kernel_rfl))
  f314 := Tryz.func118.trans (congrArg some (by kernel_rfl))
  t3 := Tryz.underlying3
  a3 := Tryz.isAgg3
  z3 := Tryz.sizeOf3
  v3 := Tryz.zeroValue3
  t4 := Tryz.underlying4
  a4 := Tryz.isAgg4
  z4 := Tryz.sizeOf4
  v4 := Tryz.zeroValue4
  t5 := Tryz.underlying5
  a5 := Tryz.isAgg5
  z5 := Tryz.sizeOf5
  v5 := Tryz.zeroValue5
  t9 := Tryz.underlying9
  a9 := Tryz.isAgg9
  z9 := Tryz.sizeOf9
  v9 := Tryz.zeroValue9
  t46 := Tryz.underlying106
  a46 := Tryz.isAgg106
  z46 := Tryz.sizeOf106
  v46 := Tryz.zeroValue106
  t51 := Tryz.underlying121
  a51 := Tryz.isAgg121
  z51 := Tryz.sizeOf121
  v51 := Tryz.zeroValue121
  t146 := Tryz.underlying122
  a146 := Tryz.isAgg122
  z146 := Tryz.sizeOf122
  v146 := Tryz.zeroValue122
  g1 := by kernel_rfl }

open Go.RowKit Go.Lib in
theorem stringslite_Index_one (s : ByteArray) (c : UInt8) (w : World) :
    Calls Tryz.prog 86 #[.string s, .string ⟨#[c]⟩] w fun e w' => e = .returned (.int .i64 (Lib.indexByte s.data.toList c)) ∧ w' = w := Any.stringslite_Index_one lays219 s c w

def lays143_ren : Go.Shelf.Ren := ⟨fun | 143 => 64 | 219 => 86 | 217 => 102 | 225 => 103 | 224 => 104 | 267 => 105 | 266 => 117 | 314 => 118 | n => n, fun | 9 => 9 | 3 => 3 | 4 => 4 | 5 => 5 | 46 => 106 | 146 => 122 | 51 => 121 | n => n, fun | 1 => 0 | n => n⟩

theorem lays143 : Go.Proofs.Lays.n143 Tryz.prog lays143_ren := {
  mixed := by kernel_rfl
  f143 := Tryz.func64.trans (congrArg some (by kernel_rfl))
  f217 := Tryz.func102.trans (congrArg some (by kernel_rfl))
  f219 := Tryz.func86.trans (congrArg some (by kernel_rfl))
  f224 := Tryz.func104.trans (congrArg some (by kernel_rfl))
  f225 := Tryz.func103.trans (congrArg some (by kernel_rfl))
  f266 := Tryz.func117.trans (congrArg some (by kernel_rfl))
  f267 := Tryz.func105.trans (congrArg some (by kernel_rfl))
  f314 := Tryz.func118.trans (congrArg some (by kernel_rfl))
  t3 := Tryz.underlying3
  a3 := Tryz.isAgg3
  z3 := Tryz.sizeOf3
  v3 := Tryz.zeroValue3
  t4 := Tryz.underlying4
  a4 := Tryz.isAgg4
  z4 := Tryz.sizeOf4
  v4 := Tryz.zeroValue4
  t5 := Tryz.underlying5
  a5 := Tryz.isAgg5
  z5 := Tryz.sizeOf5
  v5 := Tryz.zeroValue5
  t9 := Tryz.underlying9
  a9 := Tryz.isAgg9
  z9 := Tryz.sizeOf9
  v9 := Tryz.zeroValue9
  t46 := Tryz.underlying106
  a46 := Tryz.isAgg106
  z46 := Tryz.sizeOf106
  v46 := Tryz.zeroValue106
  t51 := Tryz.underlying121
  a51 := Tryz.isAgg121
  z51 := Tryz.sizeOf121
  v51 := Tryz.zeroValue121
  t146 := Tryz.underlying122
  a146 := Tryz.isAgg122
  z146 := Tryz.sizeOf122
  v146 := Tryz.zeroValue122
  g1 := by kernel_rfl }

open Go.RowKit Go.Lib in
theorem strings_Index_one (s : ByteArray) (c : UInt8) (w : World) :
    Calls Tryz.prog 64 #[.string s, .string ⟨#[c]⟩] w fun e w' => e = .returned (.int .i64 (Lib.indexByte s.data.toList c)) ∧ w' = w := Any.strings_Index_one lays143 s c w

open Go.RowKit Go.Lib in
theorem strings_Index (s sub : ByteArray) (m : Int) (w : World) (hs : s.size < 4294967281) (hm : w.cell? ⟨0, 0, none⟩ = some (.int .i64 m)) :
    Calls Tryz.prog 64 #[.string s, .string sub] w fun e w' => e = .returned (.int .i64 (Lib.index s.data.toList sub.data.toList)) ∧ w' = w := Any.strings_Index lays143 s sub m w hs hm

def lays144_ren : Go.Shelf.Ren := ⟨fun | 144 => 56 | 143 => 64 | 219 => 86 | 217 => 102 | 225 => 103 | 224 => 104 | 267 => 105 | 266 => 117 | 314 => 118 | n => n, fun | 9 => 9 | 4 => 4 | 3 => 3 | 5 => 5 | 46 => 106 | 146 => 122 | 51 => 121 | n => n, fun | 1 => 0 | n => n⟩

theorem lays144 : Go.Proofs.Lays.n144 Tryz.prog lays144_ren := {
  mixed := by kernel_rfl
  f143 := Tryz.func64.trans (congrArg some (by kernel_rfl))
  f144 := Tryz.func56.trans (congrArg some (by kernel_rfl))
  f217 := Tryz.func102.trans (congrArg some (by kernel_rfl))
  f219 := Tryz.func86.trans (congrArg some (by kernel_rfl))
  f224 := Tryz.func104.trans (congrArg some (by kernel_rfl))
  f225 := Tryz.func103.trans (congrArg some (by kernel_rfl))
  f266 := Tryz.func117.trans (congrArg some (by kernel_rfl))
  f267 := Tryz.func105.trans (congrArg some (by kernel_rfl))
  f314 := Tryz.func118.trans (congrArg some (by kernel_rfl))
  t3 := Tryz.underlying3
  a3 := Tryz.isAgg3
  z3 := Tryz.sizeOf3
  v3 := Tryz.zeroValue3
  t4 := Tryz.underlying4
  a4 := Tryz.isAgg4
  z4 := Tryz.sizeOf4
  v4 := Tryz.zeroValue4
  t5 := Tryz.underlying5
  a5 := Tryz.isAgg5
  z5 := Tryz.sizeOf5
  v5 := Tryz.zeroValue5
  t9 := Tryz.underlying9
  a9 := Tryz.isAgg9
  z9 := Tryz.sizeOf9
  v9 := Tryz.zeroValue9
  t46 := Tryz.underlying106
  a46 := Tryz.isAgg106
  z46 := Tryz.sizeOf106
  v46 := Tryz.zeroValue106
  t51 := Tryz.underlying121
  a51 := Tryz.isAgg121
  z51 := Tryz.sizeOf121
  v51 := Tryz.zeroValue121
  t146 := Tryz.underlying122
  a146 := Tryz.isAgg122
  z146 := Tryz.sizeOf122
  v146 := Tryz.zeroValue122
  g1 := by kernel_rfl }

open Go.RowKit Go.Lib in
theorem strings_Contains_one (s : ByteArray) (c : UInt8) (w : World) :
    Calls Tryz.prog 56 #[.string s, .string ⟨#[c]⟩] w fun e w' => e = .returned (.bool (decide (0 ≤ Lib.indexByte s.data.toList c))) ∧ w' = w := Any.strings_Contains_one lays144 s c w

open Go.RowKit Go.Lib in
theorem strings_Contains (s sub : ByteArray) (m : Int) (w : World) (hs : s.size < 4294967281) (hm : w.cell? ⟨0, 0, none⟩ = some (.int .i64 m)) :
    Calls Tryz.prog 56 #[.string s, .string sub] w fun e w' => e = .returned (.bool (Lib.contains s.data.toList sub.data.toList)) ∧ w' = w := Any.strings_Contains lays144 s sub m w hs hm

def lays99_ren : Go.Shelf.Ren := ⟨fun | 99 => 55 | 206 => 78 | n => n, fun | 9 => 9 | 4 => 4 | 3 => 3 | n => n, fun | n => n⟩

theorem lays99 : Go.Proofs.Lays.n99 Tryz.prog lays99_ren := {
  mixed := by kernel_rfl
  f99 := Tryz.func55.trans (congrArg some (by kernel_rfl))
  f206 := Tryz.func78.trans (congrArg some (by kernel_rfl))
  t3 := Tryz.underlying3
  a3 := Tryz.isAgg3
  z3 := Tryz.sizeOf3
  v3 := Tryz.zeroValue3
  t4 := Tryz.underlying4
  a4 := Tryz.isAgg4
  z4 := Tryz.sizeOf4
  v4 := Tryz.zeroValue4
  t9 := Tryz.underlying9
  a9 := Tryz.isAgg9
  z9 := Tryz.sizeOf9
  v9 := Tryz.zeroValue9 }

open Go.RowKit Go.Lib in
theorem strings_HasPrefix (s p : ByteArray) (w : World) :
    Calls Tryz.prog 55 #[.string s, .string p] w fun e w' => e = .returned (.bool (Lib.hasPrefix s.data.toList p.data.toList)) ∧ w' = w := Any.strings_HasPrefix lays99 s p w

def lays103_ren : Go.Shelf.Ren := ⟨fun | 103 => 45 | 210 => 66 | 206 => 78 | n => n, fun | 9 => 9 | 4 => 4 | 24 => 58 | 3 => 3 | n => n, fun | n => n⟩

theorem lays103 : Go.Proofs.Lays.n103 Tryz.prog lays103_ren := {
  mixed := by kernel_rfl
  f103 := Tryz.func45.trans (congrArg some (by kernel_rfl))
  f206 := Tryz.func78.trans (congrArg some (by kernel_rfl))
  f210 := Tryz.func66.trans (congrArg some (by kernel_rfl))
  t3 := Tryz.underlying3
  a3 := Tryz.isAgg3
  z3 := Tryz.sizeOf3
  v3 := Tryz.zeroValue3
  t4 := Tryz.underlying4
  a4 := Tryz.isAgg4
  z4 := Tryz.sizeOf4
  v4 := Tryz.zeroValue4
  t9 := Tryz.underlying9
  a9 := Tryz.isAgg9
  z9 := Tryz.sizeOf9
  v9 := Tryz.zeroValue9
  t24 := Tryz.underlying58
  a24 := Tryz.isAgg58
  z24 := Tryz.sizeOf58
  v24 := Tryz.zeroValue58 }

open Go.RowKit in
theorem strings_CutPrefix (s p : ByteArray) (w : World) :
    Calls Tryz.prog 45 #[.string s, .string p] w fun e w' => e = .returned (.tuple #[.string ⟨(Lib.trimPrefix s.data.toList p.data.toList).toArray⟩, .bool (Lib.hasPrefix s.data.toList p.data.toList)]) ∧ w' = w := Any.strings_CutPrefix lays103 s p w

def lays146_ren : Go.Shelf.Ren := ⟨fun | 146 => 68 | 221 => 87 | 268 => 106 | 138 => 107 | 143 => 64 | 195 => 119 | 197 => 84 | 218 => 120 | 219 => 86 | 260 => 101 | 217 => 102 | 225 => 103 | 224 => 104 | 267 => 105 | 266 => 117 | 314 => 118 | n => n, fun | 9 => 9 | 31 => 61 | 3 => 3 | 4 => 4 | 0 => 0 | 105 => 89 | 21 => 21 | 5 => 5 | 46 => 106 | 119 => 117 | 139 => 120 | 138 => 119 | 146 => 122 | 51 => 121 | n => n, fun | 1 => 0 | 3 => 1 | 4 => 2 | n => n⟩

theorem lays146 : Go.Proofs.Lays.n146 Tryz.prog lays146_ren := {
  mixed := by kernel_rfl
  f138 := Tryz.func107.trans (congrArg some (by kernel_rfl))
  f143 := Tryz.func64.trans (congrArg some (by kernel_rfl))
  f146 := Tryz.func68.trans (congrArg some (by kernel_rfl))
  f195 := Tryz.func119.trans (congrArg some (by kernel_rfl))
  f197 := Tryz.func84.trans (congrArg some (by kernel_rfl))
  f217 := Tryz.func102.trans (congrArg some (by kernel_rfl))
  f218 := Tryz.func120.trans (congrArg some (by kernel_rfl))
  f219 := Tryz.func86.trans (congrArg some (by kernel_rfl))
  f221 := Tryz.func87.trans (congrArg some (by kernel_rfl))
  f224 := Tryz.func104.trans (congrArg some (by kernel_rfl))
  f225 := Tryz.func103.trans (congrArg some (by kernel_rfl))
  f260 := Tryz.func101.trans (congrArg some (by kernel_rfl))
  f266 := Tryz.func117.trans (congrArg some (by kernel_rfl))
  f267 := Tryz.func105.trans (congrArg some (by kernel_rfl))
  f268 := Tryz.func106.trans (congrArg some (by kernel_rfl))
  f314 := Tryz.func118.trans (congrArg some (by kernel_rfl))
  t0 := Tryz.underlying0
  a0 := Tryz.isAgg0
  z0 := Tryz.sizeOf0
  v0 := Tryz.zeroValue0
  t3 := Tryz.underlying3
  a3 := Tryz.isAgg3
  z3 := Tryz.sizeOf3
  v3 := Tryz.zeroValue3
  t4 := Tryz.underlying4
  a4 := Tryz.isAgg4
  z4 := Tryz.sizeOf4
  v4 := Tryz.zeroValue4
  t5 := Tryz.underlying5
  a5 := Tryz.isAgg5
  z5 := Tryz.sizeOf5
  v5 := Tryz.zeroValue5
  t9 := Tryz.underlying9
  a9 := Tryz.isAgg9
  z9 := Tryz.sizeOf9
  v9 := Tryz.zeroValue9
  t21 := Tryz.underlying21
  a21 := Tryz.isAgg21
  z21 := Tryz.sizeOf21
  v21 := Tryz.zeroValue21
  t31 := Tryz.underlying61
  a31 := Tryz.isAgg61
  z31 := Tryz.sizeOf61
  v31 := Tryz.zeroValue61
  t46 := Tryz.underlying106
  a46 := Tryz.isAgg106
  z46 := Tryz.sizeOf106
  v46 := Tryz.zeroValue106
  t51 := Tryz.underlying121
  a51 := Tryz.isAgg121
  z51 := Tryz.sizeOf121
  v51 := Tryz.zeroValue121
  t105 := Tryz.underlying89
  a105 := Tryz.isAgg89
  z105 := Tryz.sizeOf89
  v105 := Tryz.zeroValue89
  t119 := Tryz.underlying117
  a119 := Tryz.isAgg117
  z119 := Tryz.sizeOf117
  t138 := Tryz.underlying119
  a138 := Tryz.isAgg119
  z138 := Tryz.sizeOf119
  v138 := Tryz.zeroValue119
  t139 := Tryz.underlying120
  a139 := Tryz.isAgg120
  z139 := Tryz.sizeOf120
  v139 := Tryz.zeroValue120
  t146 := Tryz.underlying122
  a146 := Tryz.isAgg122
  z146 := Tryz.sizeOf122
  v146 := Tryz.zeroValue122
  g1 := by kernel_rfl
  g3 := by kernel_rfl
  g4 := by kernel_rfl }

open Go.RowKit Go.Lib in
theorem strings_Split (s sep : ByteArray) (m : Int) (w : World) (hs : s.size < 4294967281) (hm : w.cell? ⟨0, 0, none⟩ = some (.int .i64 m)) (h1 : 1 ≤ sep.size) :
    Calls Tryz.prog 68 #[.string s, .string sep] w fun e w' =>
      e = .returned (.slice (some ⟨w.heap.size, 0, none⟩) (Lib.countB s sep + 1) (Lib.countB s sep + 1)) ∧ w' = w.alloc (.cells ((Lib.splitB sep 0 (Lib.countB s sep) s).map Value.string).toArray 9) := Any.strings_Split lays146 (by kernel_rfl) s sep m w hs hm h1

def lays156_ren : Go.Shelf.Ren := ⟨fun | 156 => 70 | 165 => 89 | 166 => 72 | 169 => 76 | 240 => 91 | 241 => 109 | 276 => 110 | 277 => 121 | n => n, fun | 31 => 61 | 9 => 9 | 3 => 3 | 4 => 4 | 0 => 0 | 20 => 20 | 72 => 72 | 76 => 77 | 70 => 70 | 37 => 38 | 75 => 76 | 127 => 96 | 164 => 109 | 5 => 5 | 80 => 81 | n => n, fun | n => n⟩

theorem lays156 : Go.Proofs.Lays.n156 Tryz.prog lays156_ren := {
  mixed := by kernel_rfl
  f156 := Tryz.func70.trans (congrArg some (by kernel_rfl))
  f165 := Tryz.func89.trans (congrArg some (by kernel_rfl))
  f166 := Tryz.func72.trans (congrArg some (by kernel_rfl))
  f169 := Tryz.func76.trans (congrArg some (by kernel_rfl))
  f240 := Tryz.func91.trans (congrArg some (by kernel_rfl))
  f241 := Tryz.func109.trans (congrArg some (by kernel_rfl))
  f276 := Tryz.func110.trans (congrArg some (by kernel_rfl))
  f277 := Tryz.func121.trans (congrArg some (by kernel_rfl))
  t0 := Tryz.underlying0
  a0 := Tryz.isAgg0
  z0 := Tryz.sizeOf0
  v0 := Tryz.zeroValue0
  t3 := Tryz.underlying3
  a3 := Tryz.isAgg3
  z3 := Tryz.sizeOf3
  v3 := Tryz.zeroValue3
  t4 := Tryz.underlying4
  a4 := Tryz.isAgg4
  z4 := Tryz.sizeOf4
  v4 := Tryz.zeroValue4
  t9 := Tryz.underlying9
  a9 := Tryz.isAgg9
  z9 := Tryz.sizeOf9
  v9 := Tryz.zeroValue9
  t20 := Tryz.underlying20
  a20 := Tryz.isAgg20
  z20 := Tryz.sizeOf20
  v20 := Tryz.zeroValue20
  t31 := Tryz.underlying61
  a31 := Tryz.isAgg61
  z31 := Tryz.sizeOf61
  v31 := Tryz.zeroValue61
  t37 := Tryz.underlying38
  a37 := Tryz.isAgg38
  z37 := Tryz.sizeOf38
  v37 := Tryz.zeroValue38
  t70 := Tryz.underlying70
  a70 := Tryz.isAgg70
  z70 := Tryz.sizeOf70
  v70 := Tryz.zeroValue70
  t72 := Tryz.underlying72
  a72 := Tryz.isAgg72
  z72 := Tryz.sizeOf72
  v72 := Tryz.zeroValue72
  t75 := Tryz.underlying76
  a75 := Tryz.isAgg76
  z75 := Tryz.sizeOf76
  v75 := Tryz.zeroValue76
  t76 := Tryz.underlying77
  a76 := Tryz.isAgg77
  z76 := Tryz.sizeOf77
  v76 := Tryz.zeroValue77
  t127 := Tryz.underlying96
  a127 := Tryz.isAgg96
  z127 := Tryz.sizeOf96
  v127 := Tryz.zeroValue96
  t164 := Tryz.underlying109
  a164 := Tryz.isAgg109
  z164 := Tryz.sizeOf109
  v164 := Tryz.zeroValue109 }

theorem Builder_Extra_156 : Builder.Extra Tryz.prog lays156_ren := {
  sizeBuilder := by kernel_rfl
  liesBuilder := by kernel_rfl
  t5 := Tryz.underlying5
  a5 := Tryz.isAgg5
  z5 := Tryz.sizeOf5
  v5 := Tryz.zeroValue5
  infoByte := by kernel_rfl
  cellsByte := by kernel_rfl
  sizeByte := by kernel_rfl
  neB5 := by decide }

open Go.RowKit in
theorem strings_Join_none (a : Option Addr) (c : Nat) (sep : ByteArray) (w : World) :
    Calls Tryz.prog 70 #[.slice a 0 c, .string sep] w fun e w' => e = .returned (.string ⟨#[]⟩) ∧ w' = w := Any.strings_Join_none lays156 Builder_Extra_156 a c sep w

open Go.RowKit in
theorem strings_Join (bk o c : Nat) (xs : List ByteArray) (sep : ByteArray) (w : World) (hcells : ∀ (j : Nat) x, xs[j]? = some x → w.cell? ⟨bk, o + j, none⟩ = some (.string x)) (hbk : bk < w.heap.size) (hN : xs.length ≤ 140737488355328) (hcap : xs.length ≤ c) (hlen : (Lib.join (xs.map (·.data.toList)) sep.data.toList).length ≤ 140737488355328) :
    Calls Tryz.prog 70 #[.slice (some ⟨bk, o, none⟩) xs.length c, .string sep] w fun e w' => e = .returned (.string ⟨(Lib.join (xs.map (·.data.toList)) sep.data.toList).toArray⟩) ∧ Below w.heap.size w w' := Any.strings_Join lays156 Builder_Extra_156 bk o c xs sep w hcells hbk hN hcap hlen

def lays155_ren : Go.Shelf.Ren := ⟨fun | 155 => 88 | 154 => 108 | 138 => 107 | 165 => 89 | 143 => 64 | 166 => 72 | 197 => 84 | 169 => 76 | 195 => 119 | 218 => 120 | 240 => 91 | 241 => 109 | 219 => 86 | 260 => 101 | 276 => 110 | 277 => 121 | 217 => 102 | 225 => 103 | 224 => 104 | 267 => 105 | 266 => 117 | 314 => 118 | n => n, fun | 9 => 9 | 3 => 3 | 4 => 4 | 72 => 72 | 0 => 0 | 76 => 77 | 105 => 89 | 21 => 21 | 5 => 5 | 70 => 70 | 20 => 20 | 37 => 38 | 75 => 76 | 127 => 96 | 164 => 109 | 46 => 106 | 119 => 117 | 139 => 120 | 138 => 119 | 146 => 122 | 51 => 121 | 80 => 81 | n => n, fun | 1 => 0 | 3 => 1 | 4 => 2 | n => n⟩

theorem lays155 : Go.Proofs.Lays.n155 Tryz.prog lays155_ren := {
  mixed := by kernel_rfl
  f138 := Tryz.func107.trans (congrArg some (by kernel_rfl))
  f143 := Tryz.func64.trans (congrArg some (by kernel_rfl))
  f154 := Tryz.func108.trans (congrArg some (by kernel_rfl))
  f155 := Tryz.func88.trans (congrArg some (by kernel_rfl))
  f165 := Tryz.func89.trans (congrArg some (by kernel_rfl))
  f166 := Tryz.func72.trans (congrArg some (by kernel_rfl))
  f169 := Tryz.func76.trans (congrArg some (by kernel_rfl))
  f195 := Tryz.func119.trans (congrArg some (by kernel_rfl))
  f197 := Tryz.func84.trans (congrArg some (by kernel_rfl))
  f217 := Tryz.func102.trans (congrArg some (by kernel_rfl))
  f218 := Tryz.func120.trans (congrArg some (by kernel_rfl))
  f219 := Tryz.func86.trans (congrArg some (by kernel_rfl))
  f224 := Tryz.func104.trans (congrArg some (by kernel_rfl))
  f225 := Tryz.func103.trans (congrArg some (by kernel_rfl))
  f240 := Tryz.func91.trans (congrArg some (by kernel_rfl))
  f241 := Tryz.func109.trans (congrArg some (by kernel_rfl))
  f260 := Tryz.func101.trans (congrArg some (by kernel_rfl))
  f266 := Tryz.func117.trans (congrArg some (by kernel_rfl))
  f267 := Tryz.func105.trans (congrArg some (by kernel_rfl))
  f276 := Tryz.func110.trans (congrArg some (by kernel_rfl))
  f277 := Tryz.func121.trans (congrArg some (by kernel_rfl))
  f314 := Tryz.func118.trans (congrArg some (by kernel_rfl))
  t0 := Tryz.underlying0
  a0 := Tryz.isAgg0
  z0 := Tryz.sizeOf0
  v0 := Tryz.zeroValue0
  t3 := Tryz.underlying3
  a3 := Tryz.isAgg3
  z3 := Tryz.sizeOf3
  v3 := Tryz.zeroValue3
  t4 := Tryz.underlying4
  a4 := Tryz.isAgg4
  z4 := Tryz.sizeOf4
  v4 := Tryz.zeroValue4
  t5 := Tryz.underlying5
  a5 := Tryz.isAgg5
  z5 := Tryz.sizeOf5
  v5 := Tryz.zeroValue5
  t9 := Tryz.underlying9
  a9 := Tryz.isAgg9
  z9 := Tryz.sizeOf9
  v9 := Tryz.zeroValue9
  t20 := Tryz.underlying20
  a20 := Tryz.isAgg20
  z20 := Tryz.sizeOf20
  v20 := Tryz.zeroValue20
  t21 := Tryz.underlying21
  a21 := Tryz.isAgg21
  z21 := Tryz.sizeOf21
  v21 := Tryz.zeroValue21
  t37 := Tryz.underlying38
  a37 := Tryz.isAgg38
  z37 := Tryz.sizeOf38
  v37 := Tryz.zeroValue38
  t46 := Tryz.underlying106
  a46 := Tryz.isAgg106
  z46 := Tryz.sizeOf106
  v46 := Tryz.zeroValue106
  t51 := Tryz.underlying121
  a51 := Tryz.isAgg121
  z51 := Tryz.sizeOf121
  v51 := Tryz.zeroValue121
  t70 := Tryz.underlying70
  a70 := Tryz.isAgg70
  z70 := Tryz.sizeOf70
  v70 := Tryz.zeroValue70
  t72 := Tryz.underlying72
  a72 := Tryz.isAgg72
  z72 := Tryz.sizeOf72
  v72 := Tryz.zeroValue72
  t75 := Tryz.underlying76
  a75 := Tryz.isAgg76
  z75 := Tryz.sizeOf76
  v75 := Tryz.zeroValue76
  t76 := Tryz.underlying77
  a76 := Tryz.isAgg77
  z76 := Tryz.sizeOf77
  v76 := Tryz.zeroValue77
  t105 := Tryz.underlying89
  a105 := Tryz.isAgg89
  z105 := Tryz.sizeOf89
  v105 := Tryz.zeroValue89
  t119 := Tryz.underlying117
  a119 := Tryz.isAgg117
  z119 := Tryz.sizeOf117
  t127 := Tryz.underlying96
  a127 := Tryz.isAgg96
  z127 := Tryz.sizeOf96
  v127 := Tryz.zeroValue96
  t138 := Tryz.underlying119
  a138 := Tryz.isAgg119
  z138 := Tryz.sizeOf119
  v138 := Tryz.zeroValue119
  t139 := Tryz.underlying120
  a139 := Tryz.isAgg120
  z139 := Tryz.sizeOf120
  v139 := Tryz.zeroValue120
  t146 := Tryz.underlying122
  a146 := Tryz.isAgg122
  z146 := Tryz.sizeOf122
  v146 := Tryz.zeroValue122
  t164 := Tryz.underlying109
  a164 := Tryz.isAgg109
  z164 := Tryz.sizeOf109
  v164 := Tryz.zeroValue109
  g1 := by kernel_rfl
  g3 := by kernel_rfl
  g4 := by kernel_rfl }

theorem Builder_Extra_155 : Builder.Extra Tryz.prog lays155_ren := {
  sizeBuilder := by kernel_rfl
  liesBuilder := by kernel_rfl
  t5 := Tryz.underlying5
  a5 := Tryz.isAgg5
  z5 := Tryz.sizeOf5
  v5 := Tryz.zeroValue5
  infoByte := by kernel_rfl
  cellsByte := by kernel_rfl
  sizeByte := by kernel_rfl
  neB5 := by decide }

open Go.RowKit Go.Lib in
theorem strings_ReplaceAll (s old new : ByteArray) (m : Int) (w : World) (hs : s.size < 4294967281) (hm : w.cell? ⟨0, 0, none⟩ = some (.int .i64 m)) (h1 : 1 ≤ old.size) (hlen : s.size + Lib.countB s old * new.size ≤ 140737488355328) :
    Calls Tryz.prog 88 #[.string s, .string old, .string new] w fun e w' =>
      e = .returned (.string ⟨(Lib.replaceAll s.data.toList old.data.toList new.data.toList).toArray⟩) ∧ Below w.heap.size w w' := Any.strings_ReplaceAll lays155 Builder_Extra_155 s old new m w hs hm h1 hlen

def lays237_ren : Go.Shelf.Ren := ⟨fun | 237 => 41 | 272 => 63 | 238 => 62 | 315 => 85 | 273 => 83 | 197 => 84 | 271 => 100 | 260 => 101 | 120 => 116 | n => n, fun | 9 => 9 | 40 => 53 | 4 => 4 | 3 => 3 | 105 => 89 | 21 => 21 | 0 => 0 | 5 => 5 | 119 => 117 | 46 => 106 | 139 => 120 | 138 => 119 | n => n, fun | 3 => 1 | 4 => 2 | n => n⟩

theorem lays237 : Go.Proofs.Lays.n237 Tryz.prog lays237_ren := {
  mixed := by kernel_rfl
  f120 := Tryz.func116.trans (congrArg some (by kernel_rfl))
  f197 := Tryz.func84.trans (congrArg some (by kernel_rfl))
  f237 := Tryz.func41.trans (congrArg some (by kernel_rfl))
  f238 := Tryz.func62.trans (congrArg some (by kernel_rfl))
  f260 := Tryz.func101.trans (congrArg some (by kernel_rfl))
  f271 := Tryz.func100.trans (congrArg some (by kernel_rfl))
  f272 := Tryz.func63.trans (congrArg some (by kernel_rfl))
  f273 := Tryz.func83.trans (congrArg some (by kernel_rfl))
  f315 := Tryz.func85.trans (congrArg some (by kernel_rfl))
  t0 := Tryz.underlying0
  a0 := Tryz.isAgg0
  z0 := Tryz.sizeOf0
  v0 := Tryz.zeroValue0
  t3 := Tryz.underlying3
  a3 := Tryz.isAgg3
  z3 := Tryz.sizeOf3
  v3 := Tryz.zeroValue3
  t4 := Tryz.underlying4
  a4 := Tryz.isAgg4
  z4 := Tryz.sizeOf4
  v4 := Tryz.zeroValue4
  t5 := Tryz.underlying5
  a5 := Tryz.isAgg5
  z5 := Tryz.sizeOf5
  v5 := Tryz.zeroValue5
  t9 := Tryz.underlying9
  a9 := Tryz.isAgg9
  z9 := Tryz.sizeOf9
  v9 := Tryz.zeroValue9
  t21 := Tryz.underlying21
  a21 := Tryz.isAgg21
  z21 := Tryz.sizeOf21
  v21 := Tryz.zeroValue21
  t40 := Tryz.underlying53
  a40 := Tryz.isAgg53
  z40 := Tryz.sizeOf53
  v40 := Tryz.zeroValue53
  t46 := Tryz.underlying106
  a46 := Tryz.isAgg106
  z46 := Tryz.sizeOf106
  v46 := Tryz.zeroValue106
  t105 := Tryz.underlying89
  a105 := Tryz.isAgg89
  z105 := Tryz.sizeOf89
  v105 := Tryz.zeroValue89
  t119 := Tryz.underlying117
  a119 := Tryz.isAgg117
  z119 := Tryz.sizeOf117
  t138 := Tryz.underlying119
  a138 := Tryz.isAgg119
  z138 := Tryz.sizeOf119
  v138 := Tryz.zeroValue119
  t139 := Tryz.underlying120
  a139 := Tryz.isAgg120
  z139 := Tryz.sizeOf120
  v139 := Tryz.zeroValue120
  g3 := by kernel_rfl
  g4 := by kernel_rfl }

open Go.RowKit Go.Lib in
theorem strings_TrimFunc (g : Nat) (lb : Array Value) (eg : ∀ args w, (callFunc g args).run Tryz.prog w = .ok (.enter g args) w) (p : Nat → Bool) (s : ByteArray) (w : World) (hs : s.size ≤ 9223372036854775807) (hT : Lib.Utf8Tabs 1 2 w) (hp : PredAt Tryz.prog g lb encR p w) :
    Calls Tryz.prog 41 #[.string s, .func (.func g) #[] lb] w fun e w' => e = .returned (.string (Lib.trimF p s)) ∧ Below w.heap.size w w' := Any.strings_TrimFunc lays237 g lb eg p s w hs hT hp

def lays150_ren : Go.Shelf.Ren := ⟨fun | 150 => 60 | 153 => 81 | 152 => 95 | 226 => 96 | 227 => 97 | 228 => 98 | 137 => 92 | 119 => 111 | 224 => 104 | 225 => 103 | 217 => 102 | 266 => 117 | n => n, fun | 9 => 9 | 4 => 4 | 3 => 3 | 5 => 5 | 21 => 21 | 117 => 102 | 116 => 101 | 0 => 0 | 46 => 106 | 124 => 111 | n => n, fun | n => n⟩

theorem lays150 : Go.Proofs.Lays.n150 Tryz.prog lays150_ren := {
  mixed := by kernel_rfl
  f119 := Tryz.func111.trans (congrArg some (by kernel_rfl))
  f137 := Tryz.func92.trans (congrArg some (by kernel_rfl))
  f150 := Tryz.func60.trans (congrArg some (by kernel_rfl))
  f152 := Tryz.func95.trans (congrArg some (by kernel_rfl))
  f153 := Tryz.func81.trans (congrArg some (by kernel_rfl))
  f217 := Tryz.func102.trans (congrArg some (by kernel_rfl))
  f224 := Tryz.func104.trans (congrArg some (by kernel_rfl))
  f225 := Tryz.func103.trans (congrArg some (by kernel_rfl))
  f226 := Tryz.func96.trans (congrArg some (by kernel_rfl))
  f227 := Tryz.func97.trans (congrArg some (by kernel_rfl))
  f228 := Tryz.func98.trans (congrArg some (by kernel_rfl))
  f266 := Tryz.func117.trans (congrArg some (by kernel_rfl))
  t0 := Tryz.underlying0
  a0 := Tryz.isAgg0
  z0 := Tryz.sizeOf0
  v0 := Tryz.zeroValue0
  t3 := Tryz.underlying3
  a3 := Tryz.isAgg3
  z3 := Tryz.sizeOf3
  v3 := Tryz.zeroValue3
  t4 := Tryz.underlying4
  a4 := Tryz.isAgg4
  z4 := Tryz.sizeOf4
  v4 := Tryz.zeroValue4
  t5 := Tryz.underlying5
  a5 := Tryz.isAgg5
  z5 := Tryz.sizeOf5
  v5 := Tryz.zeroValue5
  t9 := Tryz.underlying9
  a9 := Tryz.isAgg9
  z9 := Tryz.sizeOf9
  v9 := Tryz.zeroValue9
  t21 := Tryz.underlying21
  a21 := Tryz.isAgg21
  z21 := Tryz.sizeOf21
  v21 := Tryz.zeroValue21
  t46 := Tryz.underlying106
  a46 := Tryz.isAgg106
  z46 := Tryz.sizeOf106
  v46 := Tryz.zeroValue106
  t116 := Tryz.underlying101
  a116 := Tryz.isAgg101
  z116 := Tryz.sizeOf101
  t117 := Tryz.underlying102
  a117 := Tryz.isAgg102
  z117 := Tryz.sizeOf102
  v117 := Tryz.zeroValue102
  t124 := Tryz.underlying111
  a124 := Tryz.isAgg111
  z124 := Tryz.sizeOf111
  v124 := Tryz.zeroValue111 }

open Go.RowKit Go.Lib in
theorem strings_ContainsAny_laid (s chars : ByteArray) (w : World) (hs : s.size < 4294967281) (hcs : chars.size < 4294967281) (has : ∀ (j : Nat) b, s.data.toList[j]? = some b → b.toNat < 128) (hac : ∀ (j : Nat) b, chars.data.toList[j]? = some b → b.toNat < 128) :
    Calls Tryz.prog 60 #[.string s, .string chars] w fun e w' => e = .returned (.bool (Lib.containsAny s.data.toList chars.data.toList)) ∧ Below w.heap.size w w' := Any.strings_ContainsAny_laid lays150 (by kernel_rfl) s chars w hs hcs has hac

def laysM146_ren : Go.Shelf.Ren := ⟨fun | 146 => 68 | 221 => 87 | 268 => 106 | 138 => 107 | 143 => 64 | 195 => 119 | 197 => 84 | 218 => 120 | 219 => 86 | 260 => 101 | 217 => 102 | 225 => 103 | 224 => 104 | 267 => 105 | 266 => 117 | 314 => 118 | n => n, fun | 9 => 9 | 31 => 61 | 3 => 3 | 4 => 4 | 0 => 0 | 105 => 89 | 21 => 21 | 5 => 5 | 46 => 106 | 119 => 117 | 139 => 120 | 138 => 119 | 146 => 122 | 51 => 121 | n => n, fun | 1 => 0 | 3 => 1 | 4 => 2 | n => n⟩

theorem laysM146 : Go.Proofs.LaysM.n146 Tryz.prog laysM146_ren := {
  mixed := by kernel_rfl
  f138 := Tryz.func107.trans (congrArg some (by kernel_rfl))
  f143 := Tryz.func64.trans (congrArg some (by kernel_rfl))
  f146 := Tryz.func68.trans (congrArg some (by kernel_rfl))
  f195 := Tryz.func119.trans (congrArg some (by kernel_rfl))
  f197 := Tryz.func84.trans (congrArg some (by kernel_rfl))
  f217 := Tryz.func102.trans (congrArg some (by kernel_rfl))
  f218 := Tryz.func120.trans (congrArg some (by kernel_rfl))
  f219 := Tryz.func86.trans (congrArg some (by kernel_rfl))
  f221 := Tryz.func87.trans (congrArg some (by kernel_rfl))
  f224 := Tryz.func104.trans (congrArg some (by kernel_rfl))
  f225 := Tryz.func103.trans (congrArg some (by kernel_rfl))
  f260 := Tryz.func101.trans (congrArg some (by kernel_rfl))
  f266 := Tryz.func117.trans (congrArg some (by kernel_rfl))
  f267 := Tryz.func105.trans (congrArg some (by kernel_rfl))
  f268 := Tryz.func106.trans (congrArg some (by kernel_rfl))
  f314 := Tryz.func118.trans (congrArg some (by kernel_rfl))
  t0 := Tryz.underlying0
  a0 := Tryz.isAgg0
  z0 := Tryz.sizeOf0
  v0 := Tryz.zeroValue0
  t3 := Tryz.underlying3
  a3 := Tryz.isAgg3
  z3 := Tryz.sizeOf3
  v3 := Tryz.zeroValue3
  t4 := Tryz.underlying4
  a4 := Tryz.isAgg4
  z4 := Tryz.sizeOf4
  v4 := Tryz.zeroValue4
  t5 := Tryz.underlying5
  a5 := Tryz.isAgg5
  z5 := Tryz.sizeOf5
  v5 := Tryz.zeroValue5
  t9 := Tryz.underlying9
  a9 := Tryz.isAgg9
  z9 := Tryz.sizeOf9
  v9 := Tryz.zeroValue9
  t21 := Tryz.underlying21
  a21 := Tryz.isAgg21
  z21 := Tryz.sizeOf21
  v21 := Tryz.zeroValue21
  t31 := Tryz.underlying61
  a31 := Tryz.isAgg61
  z31 := Tryz.sizeOf61
  v31 := Tryz.zeroValue61
  t46 := Tryz.underlying106
  a46 := Tryz.isAgg106
  z46 := Tryz.sizeOf106
  v46 := Tryz.zeroValue106
  t51 := Tryz.underlying121
  a51 := Tryz.isAgg121
  z51 := Tryz.sizeOf121
  v51 := Tryz.zeroValue121
  t105 := Tryz.underlying89
  a105 := Tryz.isAgg89
  z105 := Tryz.sizeOf89
  v105 := Tryz.zeroValue89
  t119 := Tryz.underlying117
  a119 := Tryz.isAgg117
  z119 := Tryz.sizeOf117
  t138 := Tryz.underlying119
  a138 := Tryz.isAgg119
  z138 := Tryz.sizeOf119
  v138 := Tryz.zeroValue119
  t139 := Tryz.underlying120
  a139 := Tryz.isAgg120
  z139 := Tryz.sizeOf120
  v139 := Tryz.zeroValue120
  t146 := Tryz.underlying122
  a146 := Tryz.isAgg122
  z146 := Tryz.sizeOf122
  v146 := Tryz.zeroValue122
  g1 := by kernel_rfl
  g3 := by kernel_rfl
  g4 := by kernel_rfl
  i0 := by kernel_rfl
  i3 := by kernel_rfl
  i4 := by kernel_rfl
  i5 := by kernel_rfl
  i9 := by kernel_rfl
  i21 := by kernel_rfl
  i31 := by kernel_rfl
  i46 := by kernel_rfl
  i51 := by kernel_rfl
  i105 := by kernel_rfl
  i138 := by kernel_rfl
  i139 := by kernel_rfl
  i146 := by kernel_rfl
  m1 := by kernel_rfl
  s1_3 := fun w h => Go.Proofs.cell_of_shapedOpen_int (zero := #[.int .i64 0]) (t := 3) h (of_decide_eq_true (by kernel_rfl)) (by kernel_rfl) rfl (by kernel_rfl) (by kernel_rfl) Tryz.underlying3
  m3 := by kernel_rfl
  m4 := by kernel_rfl }

open Go.RowKit Go.Lib in
theorem strings_Split_shaped (s sep : ByteArray) (w : World) (h : w.ShapedOpen Tryz.prog) (hs : s.size < 4294967281) (h1 : 1 ≤ sep.size) :
    Calls Tryz.prog 68 #[.string s, .string sep] w fun e w' =>
      e = .returned (.slice (some ⟨w.heap.size, 0, none⟩) (Lib.countB s sep + 1) (Lib.countB s sep + 1)) ∧ w' = w.alloc (.cells ((Lib.splitB sep 0 (Lib.countB s sep) s).map Value.string).toArray 9) := Any.strings_Split_shaped laysM146 s sep w h hs h1

end Go.Proofs.YtagbndkfbnlpoaaGreatDoor
