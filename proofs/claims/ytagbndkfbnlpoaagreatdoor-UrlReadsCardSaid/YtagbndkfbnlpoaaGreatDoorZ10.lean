/-
  What Cut of the library answers at one byte; plain facts on a text's lines. Condition: the text is as long as a length can be.
  Plain facts on layer 26: how package url takes a text apart, and that it is what the document asks (urlO). No condition.
  What package url's test of a host's byte answers. No condition.
-/
import Derived.Test.YtagbndkfbnlpoaaGreatDoorZ9
import Derived.Test.YtagbndkfbnlpoaaGreatDoorZ6
import Derived.Test.YtagbndkfbnlpoaaGreatDoorZ4
import Derived.Test.YtagbndkfbnlpoaaGreatDoorZ7
import Derived.Test.YtagbndkfbnlpoaaGreatDoorZ3
import Derived.BigQuiet
import Derived.IntWalk
import Derived.Test.YtagbndkfbnlpoaaGreatDoorRows
import Derived.WalkKit
import Derived.Maps.OwnSet
import Derived.Maps.AppendAt
import Derived.Laws.OwnMore
import Derived.Laws.AppendOwn
import Derived.Test.YtagbndkfbnlpoaaGreatDoorZ8
import Derived.Test.YtagbndkfbnlpoaaGreatDoorZ2
namespace Go.Proofs.YtagbndkfbnlpoaaGreatDoor
open Go.RowKit

def notB (c : UInt8) (b : UInt8) : Bool := b != c
theorem idx_run (c : UInt8) : ∀ l : List UInt8, Lib.indexByte l c = if (l.takeWhile (notB c)).length < l.length then ((l.takeWhile (notB c)).length : Int) else -1
  | [] => rfl
  | b :: l => by
    have ih := idx_run c l
    have hle := (List.takeWhile_sublist (l := l) (notB c)).length_le
    rw [Lib.indexByte, List.takeWhile_cons]
    by_cases h : b = c
    · have h2 : notB c b = false := by unfold notB; simp [h]
      rw [if_pos (by simp [h]), h2]
      simp
    · have h2 : notB c b = true := by unfold notB; simpa using h
      rw [if_neg (by simp [h]), h2]
      simp only [if_true, List.length_cons]
      by_cases h3 : (l.takeWhile (notB c)).length < l.length
      · have e : Lib.indexByte l c = ((l.takeWhile (notB c)).length : Int) := by rw [ih, if_pos h3]
        rw [e, if_neg (by simp), if_pos (by omega)]
        push_cast
        rfl
      · have e : Lib.indexByte l c = -1 := by rw [ih, if_neg h3]
        rw [e, if_pos (by rfl), if_neg (by omega)]
theorem idx_scan (s : ByteArray) (c : UInt8) : Lib.indexByte s.data.toList c = if scan (notB c) s 0 < s.size then (scan (notB c) s 0 : Int) else -1 := by
  rw [idx_run]
  unfold scan
  rw [List.drop_zero, Nat.zero_add, Lib.size_eq]

set_option maxHeartbeats 1000000 in
theorem lcut_yes (c : UInt8) (s : ByteArray) (e : Nat) (w : World) (hs : s.size ≤ 9223372036854775806) (he : scan (notB c) s 0 = e) (hlt : e < s.size) :
    Calls Tryz.prog 65 #[.string s, .string ⟨#[c]⟩] w fun x w' => x = .returned (.tuple #[.string (s.extract 0 e), .string (s.extract (e + 1) s.size), .bool true]) ∧ ∃ n, w' = w.drewN n := by
  have HI := Lib.hid (fun W => stringslite_Index_one s c W)
  rw [idx_scan, he, if_pos hlt] at HI
  clear he
  have w1 : IntKind.i64.wrap ((e : Int) + 1) = (e : Int) + 1 := IntWalk.i64_in _ (by omega)
  have w2 : (0 : Int) ≤ (e : Int) + 1 := by omega
  have w3 : ((e : Int) + 1).toNat = e + 1 := by omega
  have w4 : e + 1 ≤ s.size := hlt
  have w5 : e ≤ s.size := by omega
  have w6 : (e : Int) + 1 ≤ (s.size : Int) := by omega
  have hz : (⟨#[c]⟩ : ByteArray).size = 1 := rfl
  obtain ⟨t, ht⟩ : ∃ t : ByteArray, t = ⟨#[c]⟩ := ⟨_, rfl⟩
  rw [← ht] at HI hz ⊢
  clear ht
  go_enter Tryz.func65, Tryz.ntmps65
  go_wp2_with (go_at_call 86; (with_reducible refine (HI.out _).mono ?_); rintro x w1 ⟨rfl, hw⟩; rw [hw])
  go_quiet (fail)
  go_wp2
  exact bodyPost_ret (v := .tuple #[.string (s.extract 0 e), .string (s.extract (e + 1) s.size), .bool true]) (by simp [results, Tryz.results65, go_sem]) rfl ⟨rfl, _, rfl⟩

set_option maxHeartbeats 1000000 in
theorem lcut_no (c : UInt8) (s : ByteArray) (w : World) (he : ¬ scan (notB c) s 0 < s.size) :
    Calls Tryz.prog 65 #[.string s, .string ⟨#[c]⟩] w fun x w' => x = .returned (.tuple #[.string s, .string ⟨#[]⟩, .bool false]) ∧ ∃ n, w' = w.drewN n := by
  have HI := Lib.hid (fun W => stringslite_Index_one s c W)
  rw [idx_scan, if_neg he] at HI
  clear he
  go_enter Tryz.func65, Tryz.ntmps65
  go_wp2_with (go_at_call 86; (with_reducible refine (HI.out _).mono ?_); rintro x w1 ⟨rfl, hw⟩; rw [hw])
  exact bodyPost_ret (v := .tuple #[.string s, .string ⟨#[]⟩, .bool false]) (by simp [results, Tryz.results65, go_sem]) rfl ⟨rfl, 0, rfl⟩

theorem cutAt_yes (c : UInt8) (s : ByteArray) (e : Nat) (w : World) (hs : s.size ≤ 9223372036854775806) (he : scan (notB c) s 0 = e) (hlt : e < s.size) :
    Calls Tryz.prog 44 #[.string s, .string ⟨#[c]⟩] w fun x w' => x = .returned (.tuple #[.string (s.extract 0 e), .string (s.extract (e + 1) s.size), .bool true]) ∧ ∃ n, w' = w.drewN n := by
  have HC := Lib.hid (lcut_yes c s e w hs he hlt)
  obtain ⟨t, ht⟩ : ∃ t : ByteArray, t = ⟨#[c]⟩ := ⟨_, rfl⟩
  rw [← ht] at HC ⊢
  obtain ⟨a, ha⟩ : ∃ a, a = s.extract 0 e := ⟨_, rfl⟩
  obtain ⟨b, hb⟩ : ∃ b, b = s.extract (e + 1) s.size := ⟨_, rfl⟩
  rw [← ha, ← hb] at HC ⊢
  clear ht ha hb he
  go_enter Tryz.func44, Tryz.ntmps44
  go_wp2_with fail
  refine HC.out.mono ?_
  rintro x w1 ⟨rfl, q, rfl⟩
  go_wp2
  exact bodyPost_ret (v := .tuple #[.string a, .string b, .bool true]) (by simp [results, Tryz.results44, go_sem]) rfl ⟨rfl, _, rfl⟩
theorem cutAt_no (c : UInt8) (s : ByteArray) (w : World) (he : ¬ scan (notB c) s 0 < s.size) :
    Calls Tryz.prog 44 #[.string s, .string ⟨#[c]⟩] w fun x w' => x = .returned (.tuple #[.string s, .string ⟨#[]⟩, .bool false]) ∧ ∃ n, w' = w.drewN n := by
  have HC := Lib.hid (lcut_no c s w he)
  obtain ⟨t, ht⟩ : ∃ t : ByteArray, t = ⟨#[c]⟩ := ⟨_, rfl⟩
  rw [← ht] at HC ⊢
  clear ht he
  go_enter Tryz.func44, Tryz.ntmps44
  go_wp2_with fail
  refine HC.out.mono ?_
  rintro x w1 ⟨rfl, q, rfl⟩
  go_wp2
  exact bodyPost_ret (v := .tuple #[.string s, .string ⟨#[]⟩, .bool false]) (by simp [results, Tryz.results44, go_sem]) rfl ⟨rfl, _, rfl⟩

end Go.Proofs.YtagbndkfbnlpoaaGreatDoor
namespace Go.Proofs.YtagbndkfbnlpoaaGreatDoor

def upS26 (c : UInt8) (s : ByteArray) : ByteArray := s.extract 0 (scan (notB c) s 0)
def frS (c : UInt8) (s : ByteArray) : ByteArray := s.extract (scan (notB c) s 0) s.size
def afS (c : UInt8) (s : ByteArray) : ByteArray := s.extract (scan (notB c) s 0 + 1) s.size
theorem split_at (c : UInt8) (s : ByteArray) : ∃ l2 l3 : List UInt8, s.data.toList = l2 ++ l3 ∧ (∀ b ∈ l2, b ≠ c) ∧ (∀ b q, l3 = b :: q → b = c) ∧ upS26 c s = ⟨l2.toArray⟩ ∧ frS c s = ⟨l3.toArray⟩ ∧ afS c s = ⟨(l3.drop 1).toArray⟩ := by
  obtain ⟨l2, h2e⟩ : ∃ l2, l2 = s.data.toList.takeWhile (notB c) := ⟨_, rfl⟩
  obtain ⟨l3, h3e⟩ : ∃ l3, l3 = s.data.toList.dropWhile (notB c) := ⟨_, rfl⟩
  have hl : s.data.toList = l2 ++ l3 := by rw [h2e, h3e, List.takeWhile_append_dropWhile]
  have h2 : ∀ b ∈ l2, notB c b = true := fun b hb => by
    rw [h2e] at hb
    have := List.all_eq_true.1 (List.all_takeWhile (p := notB c) (l := s.data.toList))
    exact this b hb
  have h3 : ∀ b q, l3 = b :: q → notB c b = false := fun b q e => by
    have hd := List.head?_dropWhile_not (notB c) s.data.toList
    rw [← h3e, e] at hd
    simpa using hd
  have hs : scan (notB c) s 0 = l2.length := scan_head hl h2 h3
  refine ⟨l2, l3, hl, fun b hb e => ?_, fun b q e => ?_, ?_, ?_, ?_⟩
  · have := h2 b hb
    rw [e] at this
    unfold notB at this
    simp at this
  · have := h3 b q e
    unfold notB at this
    simpa using this
  · unfold upS26; rw [hs]; exact ext_head hl
  · unfold frS; rw [hs]; exact ext_back hl
  · unfold afS
    rw [hs]
    cases l3 with
    | nil =>
      apply ByteArray.ext
      have : s.size = l2.length := by rw [size_of hl]; simp
      rw [this]
      simp
    | cons b q =>
      have hl2 : s.data.toList = (l2 ++ [b]) ++ q := by rw [hl]; simp
      have := ext_back hl2
      rw [List.length_append, List.length_singleton] at this
      exact this
theorem non_one (c : UInt8) : nonB #[c] = notB c := by
  funext b
  unfold nonB notB hasB
  by_cases h : b = c <;> simp [h]
theorem non_two (c d : UInt8) (b : UInt8) : nonB #[c, d] b = (notB c b && notB d b) := by
  unfold nonB notB hasB
  by_cases h : b = c <;> by_cases h2 : b = d <;> simp [h, h2]
theorem non_three (c d e : UInt8) (b : UInt8) : nonB #[c, d, e] b = (notB c b && notB d b && notB e b) := by
  unfold nonB notB hasB
  by_cases h : b = c <;> by_cases h2 : b = d <;> by_cases h3 : b = e <;> simp [h, h2, h3]
theorem notB_yes {c b : UInt8} (h : b ≠ c) : notB c b = true := by unfold notB; simpa using h
theorem notB_no (c : UInt8) : notB c c = false := by unfold notB; simp

theorem pth_bad {sc : ByteArray} (h : ownP sc = 0) (ho pt d : ByteArray) : pthO sc ho pt d = .error 2 := by
  have hg : ∀ a n p q, goodU ⟨sc, a, n, p, q⟩ = false := fun a n p q => by
    unfold goodU
    rw [h]
    rfl
  unfold pthO
  simp only [hg]
  rfl
theorem hos_bad {sc : ByteArray} (h : ownP sc = 0) (b : ByteArray) : hosO sc b = .error 2 := by
  unfold hosO
  simp only [pth_bad h]
  split <;> rfl
theorem low_list (s : ByteArray) : (lowS s).data.toList = s.data.toList.map lowB := by unfold lowS; exact Array.toList_map
theorem own_63 {x : ByteArray} (h : 63 ∈ x.data.toList) : ownP (lowS x) = 0 := by
  by_cases h0 : ownP (lowS x) = 0
  · exact h0
  · have hm : 63 ∈ (lowS x).data.toList := by
      rw [low_list, List.mem_map]
      exact ⟨63, h, by kernel_rfl⟩
    have := (own_scheme h0).2.1 63 hm
    exact absurd this (by decide)
theorem slash_own : dotS (pqS ⟨#[47]⟩) = ⟨#[47]⟩ := by
  apply ByteArray.ext
  apply Array.toList_inj.1
  rw [dotS_list, pqS_list]
  rfl
/-- A path, or a slash of none. -/
def pthS (p : ByteArray) : ByteArray := if p.size = 0 then ⟨#[47]⟩ else p
/-- What is read of a text without what stands behind a hash. -/
def redA (a : ByteArray) : ByteArray := upS26 63 a
def redQ (a : ByteArray) : ByteArray := frS 63 a
def redS (a : ByteArray) : ByteArray := upS26 58 (redA a)
def redR (a : ByteArray) : ByteArray := afS 58 (redA a)
def redI (a : ByteArray) : Bool := Lib.hasPrefix (redR a).data.toList [47, 47]
def redH (a : ByteArray) : ByteArray := ⟨(Lib.trimPrefix (redR a).data.toList [47, 47]).toArray⟩
def redP (a : ByteArray) : ByteArray := frS 47 (redH a)
def redO (a : ByteArray) : ByteArray := upS26 47 (redH a)
def redJ (a : ByteArray) : ByteArray := upS26 58 (redO a)
def redD (a : ByteArray) : ByteArray := afS 58 (redO a)
def redU (a : ByteArray) : Plc := ⟨lowS (redS a), lowS (redJ a), 0, dotS (pqS (pthS (redP a))), pqS (redQ a)⟩
theorem pre_three {s : ByteArray} {l : List UInt8} (h : s.data.toList = l) : prefB s ⟨#[58, 47, 47]⟩ = ([58, 47, 47] : List UInt8).isPrefixOf l := by
  have hz : s.size = l.length := size_of h
  have e : (s.extract 0 3).data.toList = l.take 3 := by rw [ext_list, h]; rfl
  unfold prefB
  show (decide (3 ≤ s.size) && ((s.extract 0 3).toList == (⟨#[58, 47, 47]⟩ : ByteArray).toList)) = _
  rw [Lib.toList_data, Lib.toList_data, e, hz]
  match l with
  | [] => rfl
  | [a] => simp [List.isPrefixOf]
  | [a, b] => simp [List.isPrefixOf]
  | a :: b :: c :: l =>
    show (decide (3 ≤ l.length + 3) && ([a, b, c] == [58, 47, 47])) = ((58 : UInt8) == a && ((47 : UInt8) == b && ((47 : UInt8) == c && true)))
    rw [decide_eq_true (by omega), Bool.true_and]
    show (a == 58 && (b == 47 && (c == 47 && true))) = _
    have hc : ∀ x y : UInt8, (x == y) = (y == x) := fun x y => BEq.comm
    rw [hc a, hc b, hc c]
theorem pth_of (sc ho pt : ByteArray) {d : ByteArray} {P Q : List UInt8} (hd : d.data.toList = P ++ Q) (nP : ∀ b ∈ P, b ≠ 63) (bQ : ∀ b q, Q = b :: q → b = 63) :
    pthO sc ho pt d = if goodU ⟨sc, ho, 0, dotS (pqS (pthS ⟨P.toArray⟩)), pqS ⟨Q.toArray⟩⟩ then prtO pt ⟨sc, ho, 0, dotS (pqS (pthS ⟨P.toArray⟩)), pqS ⟨Q.toArray⟩⟩ else .error 2 := by
  have hs : scan (nonB #[63]) d 0 = P.length := by
    rw [non_one]
    exact scan_head hd (fun b hb => notB_yes (nP b hb)) (fun b q e => by rw [bQ b q e]; exact notB_no 63)
  have hp : (if P.length = 0 then (⟨#[47]⟩ : ByteArray) else dotS (pqS ⟨P.toArray⟩)) = dotS (pqS (pthS ⟨P.toArray⟩)) := by
    unfold pthS
    have hz : (⟨P.toArray⟩ : ByteArray).size = P.length := by show P.toArray.size = _; simp
    rw [hz]
    split
    · exact slash_own.symm
    · rfl
  unfold pthO
  simp only [hs, ext_head hd, ext_back hd, hp]
  cases goodU ⟨sc, ho, 0, dotS (pqS (pthS ⟨P.toArray⟩)), pqS ⟨Q.toArray⟩⟩ <;> rfl
theorem sch_none {a : ByteArray} {lA lQ : List UInt8} (e : a.data.toList = lA ++ lQ) (nA : ∀ b ∈ lA, b ≠ 58) (bQ : ∀ b q, lQ = b :: q → b = 63) : schO a = .error 2 := by
  obtain ⟨l2, l3, e1, n2, b3, _, _, _⟩ := split_at 58 a
  have hs : scan (nonB #[58]) a 0 = l2.length := by
    rw [non_one]
    exact scan_head e1 (fun b hb => notB_yes (n2 b hb)) (fun b q e => by rw [b3 b q e]; exact notB_no 58)
  unfold schO
  simp only [hs]
  rw [ext_back e1, pre_three (l := l3) rfl]
  cases l3 with
  | nil => rfl
  | cons b q =>
    have hb := b3 b q rfl
    subst hb
    cases hp : ([58, 47, 47] : List UInt8).isPrefixOf (58 :: q)
    · rfl
    · have h63 : 63 ∈ l2 := by
        rw [e] at e1
        -- the colon stands behind the question mark
        cases lQ with
        | nil =>
          have : (58 : UInt8) ∈ lA ++ [] := by rw [e1]; simp
          simp at this
          exact absurd rfl (nA 58 this)
        | cons x r =>
          have hx := bQ x r rfl
          subst hx
          rcases List.append_eq_append_iff.1 e1 with ⟨m, h1, h2⟩ | ⟨m, h1, h2⟩
          · cases m with
            | nil => cases h2
            | cons y m =>
              cases h2
              rw [h1]
              simp
          · cases m with
            | nil => cases h2
            | cons y m =>
              cases h2
              exact absurd rfl (nA 58 (by rw [h1]; simp))
      rw [if_neg (by decide), ext_head e1, hos_bad (own_63 h63)]
theorem pre_slash {R Q : List UInt8} (bQ : ∀ b q, Q = b :: q → b = 63) : ([58, 47, 47] : List UInt8).isPrefixOf (58 :: (R ++ Q)) = ([47, 47] : List UInt8).isPrefixOf R := by
  match R with
  | [] =>
    cases Q with
    | nil => rfl
    | cons x q =>
      rw [bQ x q rfl]
      rfl
  | [x] =>
    cases Q with
    | nil => simp [List.isPrefixOf]
    | cons y q =>
      rw [bQ y q rfl]
      simp [List.isPrefixOf]
  | x :: y :: r => simp [List.isPrefixOf]

theorem head_two {P Q : List UInt8} {c d : UInt8} (bP : ∀ b q, P = b :: q → b = c) (bQ : ∀ b q, Q = b :: q → b = d) : ∀ b q, P ++ Q = b :: q → b = c ∨ b = d := fun b q e => by
  cases P with
  | nil => exact .inr (bQ b q e)
  | cons y r =>
    rw [List.cons_append] at e
    exact .inl ((List.cons.inj e).1 ▸ bP y r rfl)
theorem hos_of (sc : ByteArray) {B : ByteArray} {J D P Q : List UInt8} (hbl : B.data.toList = J ++ (D ++ (P ++ Q))) (nJ : ∀ b ∈ J, b ≠ 58 ∧ b ≠ 47 ∧ b ≠ 63) (nD : ∀ b ∈ D, b ≠ 63 ∧ b ≠ 47)
    (bD : ∀ b q, D = b :: q → b = 58) (bP : ∀ b q, P = b :: q → b = 47) (nP : ∀ b ∈ P, b ≠ 63) (bQ : ∀ b q, Q = b :: q → b = 63) :
    hosO sc B = if goodU ⟨sc, lowS ⟨J.toArray⟩, 0, dotS (pqS (pthS ⟨P.toArray⟩)), pqS ⟨Q.toArray⟩⟩ then prtO ⟨(D.drop 1).toArray⟩ ⟨sc, lowS ⟨J.toArray⟩, 0, dotS (pqS (pthS ⟨P.toArray⟩)), pqS ⟨Q.toArray⟩⟩ else .error 2 := by
  have hPQ := head_two bP bQ
  have hk : scan (nonB #[58, 47, 63]) B 0 = J.length := by
    refine scan_head hbl (fun b hb => ?_) (fun b q e => ?_)
    · rw [non_three, notB_yes (nJ b hb).1, notB_yes (nJ b hb).2.1, notB_yes (nJ b hb).2.2]; rfl
    · rw [non_three]
      cases D with
      | nil =>
        rcases hPQ b q e with rfl | rfl
        · rw [notB_no]; simp
        · rw [notB_no]; simp
      | cons y r =>
        rw [List.cons_append] at e
        rw [← (List.cons.inj e).1, bD y r rfl, notB_no]
        rfl
  obtain ⟨c, hc, hcl⟩ : ∃ c : ByteArray, c = ⟨(D ++ (P ++ Q)).toArray⟩ ∧ c.data.toList = D ++ (P ++ Q) := ⟨_, rfl, rfl⟩
  unfold hosO
  simp only [hk, ext_head hbl, ext_back hbl]
  rw [← hc]
  clear hc hk hbl nJ
  cases D with
  | nil =>
    rw [List.nil_append] at hcl
    have hat : atB c 0 58 = false := by
      cases hpq : P ++ Q with
      | nil =>
        rw [hpq] at hcl
        have : c.size = 0 := by rw [size_of hcl]; rfl
        exact atB_out (by omega)
      | cons b q =>
        have hne : b ≠ 58 := by rcases hPQ b q hpq with rfl | rfl <;> decide
        rw [hpq] at hcl
        exact atB_no (l1 := []) (l3 := q) hcl hne
    rw [hat, if_neg (by decide)]
    exact pth_of sc _ _ hcl nP bQ
  | cons y r =>
    have hy := bD y r rfl
    subst hy
    have hat : atB c 0 58 = true := atB_of (l1 := []) (l3 := r ++ (P ++ Q)) hcl
    have hj : scan (nonB #[47, 63]) c 0 = (58 :: r).length := by
      refine scan_head hcl (fun b hb => ?_) (fun b q e => ?_)
      · rw [non_two, notB_yes (nD b hb).2, notB_yes (nD b hb).1]; rfl
      · rw [non_two]
        rcases hPQ b q e with rfl | rfl
        · rw [notB_no]; rfl
        · rw [notB_no]; simp
    have hb2 := ext_back hcl
    have hdg : c.extract 1 (58 :: r).length = ⟨r.toArray⟩ := by
      have h1 : c.data.toList = [58] ++ (r ++ (P ++ Q)) := hcl
      have := ext_of h1
      rw [List.length_cons, Nat.add_comm]
      exact this
    rw [hat, if_pos rfl, hj, hb2, hdg]
    exact pth_of sc _ _ (d := ⟨(P ++ Q).toArray⟩) rfl nP bQ
theorem red_is (a : ByteArray) : schO a = if redI a && goodU (redU a) then prtO (redD a) (redU a) else .error 2 := by
  obtain ⟨lA, lQ, e1, nA, bQ, uA, uQ, _⟩ := split_at 63 a
  have hA : (redA a).data.toList = lA := by unfold redA; rw [uA]
  obtain ⟨lS, lR, e2, nS, bR, uS, _, uR⟩ := split_at 58 (redA a)
  rw [hA] at e2
  have hR : (redR a).data.toList = lR.drop 1 := by unfold redR; rw [uR]
  have hal : a.data.toList = lS ++ (lR ++ lQ) := by rw [e1, e2, List.append_assoc]
  cases lR with
  | nil =>
    have hI : redI a = false := by unfold redI; rw [hR]; rfl
    rw [hI]
    exact sch_none e1 (by rw [e2, List.append_nil]; exact nS) bQ
  | cons x R =>
    have hx := bR x R rfl
    subst hx
    have hR2 : (redR a).data.toList = R := hR
    have hs : scan (nonB #[58]) a 0 = lS.length := by
      rw [non_one]
      exact scan_head hal (fun b hb => notB_yes (nS b hb)) (fun b q e => by cases e; exact notB_no 58)
    have hI : redI a = ([47, 47] : List UInt8).isPrefixOf R := by unfold redI Lib.hasPrefix; rw [hR2]
    have hsc : redS a = ⟨lS.toArray⟩ := uS
    have hpre : prefB (a.extract lS.length a.size) ⟨#[58, 47, 47]⟩ = redI a := by
      rw [ext_back hal, pre_three (l := 58 :: (R ++ lQ)) rfl, hI, pre_slash bQ]
    unfold schO
    simp only [hs, hpre, ext_head hal, ← hsc]
    cases hi : redI a
    · rfl
    · rw [if_neg (by decide), Bool.true_and]
      rw [hI] at hi
      obtain ⟨H, hH⟩ := List.isPrefixOf_iff_prefix.1 hi
      have hH2 : R = 47 :: 47 :: H := hH.symm
      have hHH : redH a = ⟨H.toArray⟩ := by
        unfold redH Lib.trimPrefix Lib.hasPrefix
        rw [hR2, if_pos hi, hH2]
        rfl
      have hb : (a.extract (lS.length + 3) a.size).data.toList = H ++ lQ := by
        have : a.data.toList = (lS ++ [58, 47, 47]) ++ (H ++ lQ) := by rw [hal, hH2]; simp
        have h3 := ext_back this
        rw [List.length_append] at h3
        rw [show lS.length + 3 = lS.length + ([58, 47, 47] : List UInt8).length from rfl, h3]
      obtain ⟨lI, lP, e3, nI, bP, uI, uP, _⟩ := split_at 47 (redH a)
      have e3' : H = lI ++ lP := by rw [← e3, hHH]
      obtain ⟨lJ, lD, e4, nJ, bD, uJ, _, uD⟩ := split_at 58 (redO a)
      have e4' : lI = lJ ++ lD := by
        rw [← e4]
        unfold redO
        rw [uI]
      have hmA : ∀ b ∈ H, b ≠ 63 := fun b hb => nA b (by rw [e2, hH2]; simp [hb])
      have hnP : ∀ b ∈ lP, b ≠ 63 := fun b hb => hmA b (by rw [e3']; simp [hb])
      have hnD : ∀ b ∈ lD, b ≠ 63 ∧ b ≠ 47 := fun b hb => ⟨hmA b (by rw [e3', e4']; simp [hb]), nI b (by rw [e4']; simp [hb])⟩
      have hnJ : ∀ b ∈ lJ, b ≠ 63 ∧ b ≠ 47 := fun b hb => ⟨hmA b (by rw [e3', e4']; simp [hb]), nI b (by rw [e4']; simp [hb])⟩
      have hbl : (a.extract (lS.length + 3) a.size).data.toList = lJ ++ (lD ++ (lP ++ lQ)) := by rw [hb, e3', e4']; simp
      have hPQ := head_two bP bQ
      have hU : redU a = ⟨lowS (redS a), lowS ⟨lJ.toArray⟩, 0, dotS (pqS (pthS ⟨lP.toArray⟩)), pqS ⟨lQ.toArray⟩⟩ := by
        unfold redU
        rw [show redJ a = ⟨lJ.toArray⟩ from uJ, show redP a = ⟨lP.toArray⟩ from uP, show redQ a = ⟨lQ.toArray⟩ from uQ]
      have hDg : redD a = ⟨(lD.drop 1).toArray⟩ := uD
      rw [hU, hDg]
      exact hos_of _ hbl (fun b hb => ⟨nJ b hb, (hnJ b hb).2, (hnJ b hb).1⟩) hnD bD bP hnP bQ

end Go.Proofs.YtagbndkfbnlpoaaGreatDoor
namespace Go.Proofs.YtagbndkfbnlpoaaGreatDoor
open Go.RowKit

theorem lower_ways (b : UInt8) : lowerB b = (decide ((97 : Int) ≤ (b.toNat : Int)) && decide ((b.toNat : Int) ≤ 122)) := by
  unfold lowerB
  congr 1 <;> (rw [decide_eq_decide]; omega)
set_option maxHeartbeats 2000000 in
theorem hoy_any (b : UInt8) (w : World) : Calls Tryz.prog 58 #[.int .u8 (b.toNat : Int)] w fun e w' => e = .returned (.bool (hoyB b)) ∧ w = w' := by
  have HD := Lib.hid (fun W => digit_any b W)
  have e1 : (b == 45) = ((b.toNat : Int) == 45) := by
    rw [Bool.eq_iff_iff, beq_iff_eq, beq_iff_eq, ← UInt8.toNat_inj]
    show b.toNat = 45 ↔ _
    omega
  have e2 : (b == 46) = ((b.toNat : Int) == 46) := by
    rw [Bool.eq_iff_iff, beq_iff_eq, beq_iff_eq, ← UInt8.toNat_inj]
    show b.toNat = 46 ↔ _
    omega
  have HV : Hid (hoyB b = (decide ((97 : Int) ≤ (b.toNat : Int)) && decide ((b.toNat : Int) ≤ 122) || digB b || ((b.toNat : Int) == 45) || ((b.toNat : Int) == 46))) := by
    unfold hoyB
    rw [lower_ways, e1, e2]
    exact rfl
  clear e1 e2
  generalize hoyB b = v at *
  generalize digB b = d at *
  cases g1 : decide ((97 : Int) ≤ (b.toNat : Int)) <;> cases g2 : decide ((b.toNat : Int) ≤ 122) <;> cases d <;> cases g3 : ((b.toNat : Int) == 46) <;> cases g4 : ((b.toNat : Int) == 45)
  all_goals
    rw [g1, g2, g3, g4] at HV
    go_enter Tryz.func58, Tryz.ntmps58
    go_wp2_with (go_at_call 59; (with_reducible refine (HD.out _).mono ?_); rintro e w1 ⟨rfl, rfl⟩)
    go_ret
    exact ⟨by rw [HV.out]; rfl, rfl⟩

end Go.Proofs.YtagbndkfbnlpoaaGreatDoor
