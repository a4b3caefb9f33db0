/-
  Plain facts: what a good type is written as says just that type; and what a text says is a good type. No condition.
  Plain facts on headers: which are good, of which name, what their text is, and what a text's lines say. No condition.
  Plain facts on a text's lines, line by line. No condition.
-/
import Derived.Test.YtjikahflbhgniaaZ6
namespace Go.Proofs.Ytjikahflbhgniaa

theorem allB_mem {p : UInt8 → Bool} {s : ByteArray} (h : allB p s = true) : ∀ b ∈ s.data.toList, p b = true := fun b hb => by
  obtain ⟨j, hj, e⟩ := List.getElem_of_mem hb
  have hj2 : j < s.size := by simpa using hj
  cases hp : p s[j]
  · rw [allB_no hj2 hp] at h; cases h
  · have e2 : s[j] = b := e
    rw [← e2]; exact hp
/-- What a token is made of. -/
theorem need_no {s : ByteArray} (h : needB s = false) : (∀ b ∈ s.data.toList, tokB b = true) ∧ s.data.toList ≠ [] := by
  unfold needB at h
  rw [Bool.or_eq_false_iff] at h
  refine ⟨allB_mem (by simpa using h.2), fun e => ?_⟩
  have h1 := h.1
  rw [Lib.toList_data, e] at h1
  cases h1
theorem scan_run {p : UInt8 → Bool} {s : ByteArray} {k : Nat} {a r : List UInt8} (h : s.data.toList.drop k = a ++ r) (ha : ∀ b ∈ a, p b = true) (hr : ∀ b q, r = b :: q → p b = false) : scan p s k = k + a.length := by
  unfold scan
  rw [h, List.takeWhile_append_of_pos ha]
  cases r with
  | nil => simp
  | cons b q =>
    rw [List.takeWhile_cons, if_neg (by rw [hr b q rfl]; exact Bool.false_ne_true)]
    simp
theorem ext_run {s : ByteArray} {k : Nat} {a r : List UInt8} (h : s.data.toList.drop k = a ++ r) : s.extract k (k + a.length) = ⟨a.toArray⟩ := by
  apply ByteArray.ext
  apply Array.toList_inj.1
  rw [bytes_extract, List.drop_take, h]
  have e : k + a.length - k = a.length := by omega
  rw [e]
  simp
theorem drop_run {s : ByteArray} {k : Nat} {a r : List UInt8} (h : s.data.toList.drop k = a ++ r) : s.data.toList.drop (k + a.length) = r := by
  rw [← List.drop_drop, h]
  simp
theorem run_le {s : ByteArray} {k : Nat} {a r : List UInt8} (h : s.data.toList.drop k = a ++ r) (hk : k ≤ s.size) : k + a.length + r.length = s.size := by
  have := congrArg List.length h
  rw [List.length_drop, List.length_append] at this
  have e : s.data.toList.length = s.size := by simp
  omega
theorem at_run {s : ByteArray} {k : Nat} {b : UInt8} {r : List UInt8} (h : s.data.toList.drop k = b :: r) : ∃ hk : k < s.size, s[k] = b := by
  have hl := congrArg List.length h
  rw [List.length_drop, List.length_cons] at hl
  have e : s.data.toList.length = s.size := by simp
  have hk : k < s.size := by omega
  refine ⟨hk, ?_⟩
  rw [drop_cons s k hk] at h
  exact (List.cons.inj h).1
end Go.Proofs.Ytjikahflbhgniaa
namespace Go.Proofs.Ytjikahflbhgniaa

/-- A byte that no value may have. -/
def ctlB (b : UInt8) : Bool := b.toNat == 0 || b.toNat == 10 || b.toNat == 13
def ctlS (s : ByteArray) : Bool := s.data.toList.any ctlB
/-- Whether a header is good; whether all are. -/
def hdrB (h : Prm) : Bool := !needB h.n && (eqS (trimP whiB h.v) h.v && (!ctlS h.v && decide (h.v.size ≤ 8192)))
def hdrsB (l : List Prm) : Bool := l.all hdrB && decide (l.length ≤ 100)
/-- Whether a header has a name. -/
def hasN (name : ByteArray) (h : Prm) : Bool := sameB h.n name
def getN (name : ByteArray) (l : List Prm) : List ByteArray := (l.filter (hasN name)).map Prm.v
def cutN (name : ByteArray) (l : List Prm) : List Prm := l.filter fun h => !hasN name h
/-- The text of headers. -/
def hdrL (h : Prm) : List UInt8 := h.n.data.toList ++ 58 :: 32 :: (h.v.data.toList ++ [13, 10])
def hdrsL (l : List Prm) : List UInt8 := l.flatMap hdrL
/-- Without a 13 at the end. -/
def cr13 (t : ByteArray) : ByteArray := if 0 < t.size ∧ t[t.size - 1]! = 13 then t.extract 0 (t.size - 1) else t
def no10 (b : UInt8) : Bool := b != 10
def no58 (b : UInt8) : Bool := b != 58
/-- What a line says: nothing, as it is empty; a header; or it is a bad one. -/
def hdrO (t : ByteArray) : Option (Option Prm) :=
  if t.size = 0 then some none
  else if scan no58 t 0 = t.size then none
  else if hdrB ⟨t.extract 0 (scan no58 t 0), trimP whiB (t.extract (scan no58 t 0 + 1) t.size)⟩ then some (some ⟨t.extract 0 (scan no58 t 0), trimP whiB (t.extract (scan no58 t 0 + 1) t.size)⟩) else none
/-- What lines say, from a place on: all headers, or the number of a bad line. -/
def parH (s : ByteArray) : Nat → Nat → Nat → List Prm → List Prm ⊕ Nat
  | 0, _, n, _ => .inr n
  | f + 1, k, n, acc =>
    match hdrO (cr13 (s.extract k (scan no10 s k))) with
    | none => .inr n
    | some o => if scan no10 s k < s.size then parH s f (scan no10 s k + 1) (n + 1) (acc ++ o.toList) else .inl (acc ++ o.toList)

theorem tok_plain (b : UInt8) (h : tokB b = true) : no10 b = true ∧ no58 b = true := by
  have := bytes_all (p := fun b => !tokB b || (no10 b && no58 b)) (by kernel_rfl) b
  rw [h] at this
  simpa using this
theorem ctl_plain (b : UInt8) (h : ctlB b = false) : no10 b = true ∧ b ≠ 13 := by
  have := bytes_all (p := fun b => ctlB b || (no10 b && b != 13)) (by kernel_rfl) b
  rw [h] at this
  simpa using this
theorem arr_list (a : List UInt8) : (⟨a.toArray⟩ : ByteArray).data.toList = a := rfl
theorem arr_len (a : List UInt8) : (⟨a.toArray⟩ : ByteArray).size = a.length := by show a.toArray.size = _; simp
/-- A 13 at the end goes. -/
theorem cr13_run (a : List UInt8) : cr13 ⟨(a ++ [13]).toArray⟩ = ⟨a.toArray⟩ := by
  have hs : (⟨(a ++ [13]).toArray⟩ : ByteArray).size = a.length + 1 := by rw [arr_len]; simp
  have hk : a.length < (⟨(a ++ [13]).toArray⟩ : ByteArray).size := by omega
  have hb : (⟨(a ++ [13]).toArray⟩ : ByteArray)[a.length]! = 13 := by
    obtain ⟨s, hs⟩ : ∃ s : ByteArray, s = ⟨(a ++ [13]).toArray⟩ := ⟨_, rfl⟩
    rw [← hs] at hk ⊢
    rw [getElem!_pos s a.length hk]
    have h2 : s.data.toList.drop a.length = 13 :: [] := by rw [hs]; simp
    obtain ⟨_, e⟩ := at_run h2
    exact e
  unfold cr13
  rw [hs, Nat.add_sub_cancel, if_pos ⟨by omega, hb⟩]
  have := ext_run (s := ⟨(a ++ [13]).toArray⟩) (k := 0) (a := a) (r := [13]) rfl
  rw [Nat.zero_add] at this
  exact this
/-- A blank ahead goes. -/
theorem trim_blank (s : ByteArray) : trimP whiB ⟨(32 :: s.data.toList).toArray⟩ = trimP whiB s := by
  obtain ⟨u, hu⟩ : ∃ u : ByteArray, u = ⟨(32 :: s.data.toList).toArray⟩ := ⟨_, rfl⟩
  have hl : u.data.toList = 32 :: s.data.toList := by rw [hu]
  have hz : u.size = s.size + 1 := by rw [hu, arr_len]; simp
  rw [← hu]
  have h0 : scan whiB u 0 = scan whiB s 0 + 1 := by
    unfold scan
    rw [hl, List.drop_zero, List.drop_zero, List.takeWhile_cons, if_pos (by kernel_rfl)]
    simp
  have he : u.extract (scan whiB u 0) u.size = s.extract (scan whiB s 0) s.size := by
    rw [h0, hz]
    apply ByteArray.ext
    apply Array.toList_inj.1
    rw [bytes_extract, bytes_extract, hl]
    have e1 : (32 :: s.data.toList).take (s.size + 1) = 32 :: s.data.toList.take s.size := rfl
    rw [e1, List.drop_succ_cons]
  unfold trimP
  rw [he]
/-- What a good header's line says. -/
theorem hdrO_run (h : Prm) (hg : hdrB h = true) : hdrO ⟨(h.n.data.toList ++ 58 :: 32 :: h.v.data.toList).toArray⟩ = some (some h) := by
  obtain ⟨t, ht⟩ : ∃ t : ByteArray, t = ⟨(h.n.data.toList ++ 58 :: 32 :: h.v.data.toList).toArray⟩ := ⟨_, rfl⟩
  have hl : t.data.toList.drop 0 = h.n.data.toList ++ 58 :: 32 :: h.v.data.toList := by rw [ht]; rfl
  have hz : t.size = h.n.size + (h.v.size + 2) := by rw [ht, arr_len, List.length_append]; simp
  rw [← ht]
  have hn : needB h.n = false := by
    unfold hdrB at hg
    rw [Bool.and_eq_true] at hg
    simpa using hg.1
  have hv : trimP whiB h.v = h.v := by
    unfold hdrB at hg
    rw [Bool.and_eq_true, Bool.and_eq_true] at hg
    exact eqS_eq hg.2.1
  obtain ⟨n1, _⟩ := need_no hn
  have hc : scan no58 t 0 = h.n.size := by
    have := scan_run (p := no58) hl (fun b hb => (tok_plain b (n1 b hb)).2) (fun b q e => by cases e; kernel_rfl)
    rw [this, Nat.zero_add]
    simp
  have e1 : t.extract 0 h.n.size = h.n := by
    have := ext_run hl
    rw [Nat.zero_add] at this
    rw [show h.n.size = h.n.data.toList.length from by simp, this]
  have e2 : trimP whiB (t.extract (h.n.size + 1) t.size) = h.v := by
    have hd : t.data.toList.drop (h.n.size + 1) = 32 :: h.v.data.toList ++ [] := by
      have := drop_run (s := t) (k := 0) (a := h.n.data.toList ++ [58]) (r := 32 :: h.v.data.toList) (by rw [hl]; simp)
      rw [List.append_nil]
      rw [← this]
      congr 1
      simp
    have := ext_run hd
    rw [show h.n.size + 1 + (32 :: h.v.data.toList).length = t.size from by rw [hz]; simp; omega] at this
    rw [this, trim_blank, hv]
  unfold hdrO
  rw [if_neg (by omega), hc, if_neg (by omega), e1, e2, if_pos hg]
/-- What the text of good headers says. -/
theorem parH_text (s : ByteArray) : ∀ (l : List Prm) (f k n : Nat) (acc : List Prm), l.all hdrB = true → l.length < f → k ≤ s.size → s.data.toList.drop k = hdrsL l → parH s f k n acc = .inl (acc ++ l)
  | [], f + 1, k, n, acc, _, _, hk, hd => by
    have hz : k = s.size := by
      have := congrArg List.length hd
      simp [hdrsL] at this
      omega
    have hs : scan no10 s k = k := scan_end hz
    unfold parH
    rw [hs, show s.extract k k = ⟨#[]⟩ from by apply ByteArray.ext; simp, show hdrO (cr13 ⟨#[]⟩) = some none from by kernel_rfl]
    simp only [Option.toList]
    rw [if_neg (by omega)]
  | h :: l, f + 1, k, n, acc, ha, hf, hk, hd => by
    rw [List.all_cons, Bool.and_eq_true] at ha
    obtain ⟨hg, ha⟩ := ha
    have hn : needB h.n = false := by
      unfold hdrB at hg
      rw [Bool.and_eq_true] at hg
      simpa using hg.1
    have hv : ctlS h.v = false := by
      unfold hdrB at hg
      simp only [Bool.and_eq_true] at hg
      simpa using hg.2.2.1
    obtain ⟨n1, _⟩ := need_no hn
    have hd2 : s.data.toList.drop k = (h.n.data.toList ++ 58 :: 32 :: (h.v.data.toList ++ [13])) ++ 10 :: hdrsL l := by
      rw [hd]
      simp [hdrsL, hdrL]
    have hsc := scan_run (p := no10) hd2 (fun b hb => by
      simp only [List.mem_append, List.mem_cons, List.not_mem_nil, or_false] at hb
      rcases hb with hb | rfl | rfl | hb | rfl
      · exact (tok_plain b (n1 b hb)).1
      · kernel_rfl
      · kernel_rfl
      · refine (ctl_plain b ?_).1
        unfold ctlS at hv
        rw [List.any_eq_false] at hv
        simpa using hv b hb
      · kernel_rfl) (fun b q e => by cases e; kernel_rfl)
    have hex := ext_run hd2
    have hle := run_le hd2 hk
    have hdr : s.data.toList.drop (k + (h.n.data.toList ++ 58 :: 32 :: (h.v.data.toList ++ [13])).length + 1) = hdrsL l := by
      have := drop_run hd2
      rw [← List.drop_drop, this]
      rfl
    have hcr : cr13 (s.extract k (scan no10 s k)) = ⟨(h.n.data.toList ++ 58 :: 32 :: h.v.data.toList).toArray⟩ := by
      rw [hsc, hex]
      have := cr13_run (h.n.data.toList ++ 58 :: 32 :: h.v.data.toList)
      rw [← this]
      simp
    unfold parH
    rw [hcr, hdrO_run h hg]
    simp only [Option.toList]
    rw [hsc]
    generalize (h.n.data.toList ++ 58 :: 32 :: (h.v.data.toList ++ [13])).length = m at *
    simp only [List.length_cons] at hle hf
    rw [if_pos (by omega)]
    have ih := parH_text s l f (k + m + 1) (n + 1) (acc ++ [h]) ha (by omega) (by omega) hdr
    rw [ih]
    simp
theorem hdrsL_len (l : List Prm) : l.length ≤ (hdrsL l).length := by
  induction l with
  | nil => simp [hdrsL]
  | cons h l ih =>
    have e : hdrsL (h :: l) = hdrL h ++ hdrsL l := rfl
    have h1 : 1 ≤ (hdrL h).length := by unfold hdrL; simp; omega
    rw [e, List.length_append, List.length_cons]
    omega
/-- The text of good headers is read as they were. -/
theorem text_back {s : ByteArray} {l : List Prm} (hs : s = ⟨(hdrsL l).toArray⟩) (h : l.all hdrB = true) : parH s (s.size + 1) 0 1 [] = .inl l := by
  have hl : s.data.toList = hdrsL l := by rw [hs]
  have hz : s.size = (hdrsL l).length := by rw [hs, arr_len]
  have := hdrsL_len l
  have h2 := parH_text s l (s.size + 1) 0 1 [] h (by omega) (by omega) (by rw [List.drop_zero]; exact hl)
  rw [h2]
  simp

end Go.Proofs.Ytjikahflbhgniaa
namespace Go.Proofs.Ytjikahflbhgniaa

/-- Where a run of bytes ends. -/
theorem scan_is {p : UInt8 → Bool} {s : ByteArray} : ∀ (d k i : Nat), i = k + d → i ≤ s.size → (∀ j (_ : k ≤ j) (_ : j < i) (hj : j < s.size), p s[j] = true) → (i = s.size ∨ ∃ h : i < s.size, p s[i] = false) → scan p s k = i
  | 0, k, i, e, hi, _, he => by
    subst e
    rcases he with he | ⟨h, he⟩
    · exact scan_end he
    · exact scan_stop h he
  | d + 1, k, i, e, hi, h, he => by
    have hk : k < s.size := by omega
    rw [← scan_step hk (h k (Nat.le_refl _) (by omega) hk)]
    exact scan_is d (k + 1) i (by omega) hi (fun j h1 h2 hj => h j (by omega) h2 hj) he
theorem parH_bad {s : ByteArray} {f k n i : Nat} {acc : List Prm} (hs : scan no10 s k = i) (h : hdrO (cr13 (s.extract k i)) = none) : parH s (f + 1) k n acc = .inr n := by
  unfold parH
  rw [hs, h]
theorem parH_more {s : ByteArray} {f k n i : Nat} {acc : List Prm} {o : Option Prm} (hs : scan no10 s k = i) (h : hdrO (cr13 (s.extract k i)) = some o) (hi : i < s.size) : parH s (f + 1) k n acc = parH s f (i + 1) (n + 1) (acc ++ o.toList) := by
  rw [parH]
  rw [hs, h]
  simp only []
  rw [if_pos hi]
theorem parH_last {s : ByteArray} {f k n : Nat} {acc : List Prm} {o : Option Prm} (hs : scan no10 s k = s.size) (h : hdrO (cr13 (s.extract k s.size)) = some o) : parH s (f + 1) k n acc = .inl (acc ++ o.toList) := by
  rw [parH]
  rw [hs, h]
  simp only []
  rw [if_neg (by omega)]
/-- What Parse answers: the headers, the line's number, the code. -/
def parA (s : ByteArray) : List Prm × Nat × Nat :=
  match parH s (s.size + 1) 0 1 [] with
  | .inr n => ([], n, 2)
  | .inl l => if l.length ≤ 100 then (l, 0, 0) else ([], 0, 6)
theorem parA_bad {s : ByteArray} {n : Nat} (h : parH s (s.size + 1) 0 1 [] = .inr n) : parA s = ([], n, 2) := by unfold parA; rw [h]
theorem parA_all {s : ByteArray} {l : List Prm} (h : parH s (s.size + 1) 0 1 [] = .inl l) (hl : l.length ≤ 100) : parA s = (l, 0, 0) := by unfold parA; rw [h]; simp only []; rw [if_pos hl]
theorem parA_long {s : ByteArray} {l : List Prm} (h : parH s (s.size + 1) 0 1 [] = .inl l) (hl : ¬ l.length ≤ 100) : parA s = ([], 0, 6) := by unfold parA; rw [h]; simp only []; rw [if_neg hl]
/-- The text of good headers is read as they were. -/
theorem parA_back {s : ByteArray} {l : List Prm} (hs : s = ⟨(hdrsL l).toArray⟩) (h : hdrsB l = true) : parA s = (l, 0, 0) := by
  unfold hdrsB at h
  rw [Bool.and_eq_true, decide_eq_true_eq] at h
  exact parA_all (text_back hs h.1) h.2
/-- A line, by its parts. -/
theorem hdrO_empty {t : ByteArray} (h : t.size = 0) : hdrO t = some none := by unfold hdrO; rw [if_pos h]
theorem hdrO_none {t : ByteArray} (h : t.size ≠ 0) (h2 : scan no58 t 0 = t.size) : hdrO t = none := by unfold hdrO; rw [if_neg h, if_pos h2]
theorem hdrO_good {t : ByteArray} {c : Nat} {x y : ByteArray} (h : t.size ≠ 0) (hc : scan no58 t 0 = c) (h2 : c ≠ t.size) (hx : t.extract 0 c = x) (hy : trimP whiB (t.extract (c + 1) t.size) = y) (hg : hdrB ⟨x, y⟩ = true) : hdrO t = some (some ⟨x, y⟩) := by
  unfold hdrO
  rw [if_neg h, hc, if_neg h2, hx, hy, if_pos hg]
theorem hdrO_bad {t : ByteArray} {c : Nat} {x y : ByteArray} (h : t.size ≠ 0) (hc : scan no58 t 0 = c) (h2 : c ≠ t.size) (hx : t.extract 0 c = x) (hy : trimP whiB (t.extract (c + 1) t.size) = y) (hg : hdrB ⟨x, y⟩ = false) : hdrO t = none := by
  unfold hdrO
  rw [if_neg h, hc, if_neg h2, hx, hy, if_neg (by simp [hg])]
/-- How long what was read is. -/
theorem hdrO_size {t : ByteArray} {h : Prm} (e : hdrO t = some (some h)) : h.n.size ≤ t.size ∧ h.v.size ≤ t.size := by
  unfold hdrO at e
  split at e
  · cases e
  · split at e
    · cases e
    · split at e
      · simp only [Option.some.injEq] at e
        subst e
        have := trimP_size whiB (t.extract (scan no58 t 0 + 1) t.size)
        constructor
        · simp only [ByteArray.size_extract]; omega
        · simp only [ByteArray.size_extract] at this; show (trimP whiB _).size ≤ _; omega
      · cases e

end Go.Proofs.Ytjikahflbhgniaa
