/-
  Plain facts on patterns of bytes, as layer 6 tells them. No condition.
  Plain facts on tags and other beginnings. No condition.
  Plain facts on tags behind blanks. No condition.
-/
import Derived.Test.YtjaockmbnjflaaaGreatDoorZ1
namespace Go.Proofs.YtjaockmbnjflaaaGreatDoor

/-- Whether a pattern is good. -/
def goodP (b m : ByteArray) : Bool := decide (0 < b.size) && (decide (b.size ≤ 64) && decide (m.size = b.size))
/-- How many bytes of sk stand ahead. -/
def begN (sk s : ByteArray) : Nat := scan (hasB sk) s 0
/-- What is behind them. -/
def restS (s sk : ByteArray) : ByteArray := s.extract (begN sk s) s.size
/-- The first n bytes are as they must be. -/
def FitN (r b m : ByteArray) (n : Nat) : Prop := ∀ j, j < n → (r[j]! &&& m[j]!) = b[j]!
def fitB (r b m : ByteArray) : Bool := (List.range (min r.size b.size)).all fun j => (r[j]! &&& m[j]!) == b[j]!
theorem fitB_iff {r b m : ByteArray} : fitB r b m = true ↔ FitN r b m (min r.size b.size) := by
  unfold fitB FitN
  rw [List.all_eq_true]
  constructor
  · intro h j hj
    exact beq_iff_eq.1 (h j (List.mem_range.2 hj))
  · intro h j hj
    exact beq_iff_eq.2 (h j (List.mem_range.1 hj))
theorem fitB_all {r b m : ByteArray} {n : Nat} (h : FitN r b m n) (hn : min r.size b.size ≤ n) : fitB r b m = true := fitB_iff.2 fun j hj => h j (by omega)
theorem fitB_not {r b m : ByteArray} {j : Nat} (h1 : j < r.size) (h2 : j < b.size) (h : (r[j]! &&& m[j]!) ≠ b[j]!) : fitB r b m = false := by
  rw [Bool.eq_false_iff]
  intro hf
  exact h (fitB_iff.1 hf j (by omega))
theorem FitN.zero (r b m : ByteArray) : FitN r b m 0 := fun j hj => absurd hj (by omega)
theorem FitN.succ {r b m : ByteArray} {n : Nat} (h : FitN r b m n) (e : (r[n]! &&& m[n]!) = b[n]!) : FitN r b m (n + 1) := fun j hj => by
  by_cases hjn : j = n
  · subst hjn; exact e
  · exact h j (by omega)

/-- Whether a text begins with a pattern; whether more bytes could make it so. -/
def matB (s b m sk : ByteArray) : Bool := goodP b m && (decide (b.size ≤ (restS s sk).size) && fitB (restS s sk) b m)
/-- Whether the n-th byte ends a tag. -/
def endB (s : ByteArray) (n : Int) : Bool := decide (0 ≤ n) && (decide (n < s.size) && (s[n.toNat]!.toNat == 32 || s[n.toNat]!.toNat == 62))
theorem begN_le (sk s : ByteArray) : begN sk s ≤ s.size := scan_le _ _ _ (by omega)
theorem begN_at {sk s : ByteArray} {k : Nat} (h : ∀ j (hj : j < s.size), j < k → hasB sk s[j] = true) (hk : k < s.size) (hn : hasB sk s[k] = false) : begN sk s = k := by
  have step : ∀ i, i ≤ k → scan (hasB sk) s 0 = scan (hasB sk) s i := by
    intro i
    induction i with
    | zero => intro _; rfl
    | succ i ih => intro hi; rw [ih (by omega), scan_step (by omega) (h i (by omega) (by omega))]
  unfold begN
  rw [step k (Nat.le_refl _), scan_stop hk hn]
theorem begN_all {sk s : ByteArray} (h : ∀ j (hj : j < s.size), hasB sk s[j] = true) : begN sk s = s.size := by
  have step : ∀ i, i ≤ s.size → scan (hasB sk) s 0 = scan (hasB sk) s i := by
    intro i
    induction i with
    | zero => intro _; rfl
    | succ i ih => intro hi; rw [ih (by omega), scan_step (by omega) (h i (by omega))]
  unfold begN
  rw [step s.size (Nat.le_refl _), scan_end rfl]
theorem begN_before {sk s : ByteArray} {j : Nat} (hj : j < begN sk s) (hs : j < s.size) : hasB sk s[j] = true := by
  unfold begN scan at hj
  rw [List.drop_zero, Nat.zero_add] at hj
  have h1 := List.all_eq_true.1 (List.all_takeWhile (p := hasB sk) (l := s.data.toList)) _ (List.getElem_mem hj)
  have h2 : (s.data.toList.takeWhile (hasB sk))[j] = s.data.toList[j]'(by simpa using hs) := (List.takeWhile_prefix (hasB sk)).getElem hj
  rw [h2] at h1
  exact h1
theorem begN_stop {sk s : ByteArray} (h : begN sk s < s.size) : hasB sk (s[begN sk s]'h) = false := by
  rw [Bool.eq_false_iff]
  intro ht
  have h1 : scan (hasB sk) s (begN sk s + 1) = scan (hasB sk) s (begN sk s) := scan_step h ht
  have h2 := scan_ge (hasB sk) s (begN sk s + 1)
  have h3 : scan (hasB sk) s (begN sk s) = begN sk s := by
    have step : ∀ i, i ≤ begN sk s → scan (hasB sk) s 0 = scan (hasB sk) s i := by
      intro i
      induction i with
      | zero => intro _; rfl
      | succ i ih => intro hi; rw [ih (by omega), scan_step (by omega) (begN_before (by omega) (by omega))]
    rw [← step (begN sk s) (Nat.le_refl _)]
    rfl
  omega

theorem restS_size (s sk : ByteArray) : (restS s sk).size = s.size - begN sk s := by
  unfold restS
  simp
/-- The great letter, and its mask. -/
def upB (b : UInt8) : UInt8 := if letB b then b &&& 223 else b
def mskB (b : UInt8) : UInt8 := if letB b then 223 else 255
def upS (s : ByteArray) : ByteArray := ⟨s.data.map upB⟩
def mskS (s : ByteArray) : ByteArray := ⟨s.data.map mskB⟩
def blk5 : ByteArray := ⟨#[9, 10, 12, 13, 32]⟩
theorem upS_size (s : ByteArray) : (upS s).size = s.size := by
  show (s.data.map upB).size = s.data.size
  simp
theorem mskS_size (s : ByteArray) : (mskS s).size = s.size := by
  show (s.data.map mskB).size = s.data.size
  simp
theorem upS_at (s : ByteArray) (i : Nat) (h : i < s.size) : (upS s)[i]'(by rw [upS_size]; exact h) = upB s[i] :=
  Array.getElem_map (f := upB) (xs := s.data) (i := i) (hi := by simpa using h)
theorem mskS_at (s : ByteArray) (i : Nat) (h : i < s.size) : (mskS s)[i]'(by rw [mskS_size]; exact h) = mskB s[i] :=
  Array.getElem_map (f := mskB) (xs := s.data) (i := i) (hi := by simpa using h)
theorem upS_at' {s : ByteArray} {i : Nat} (h : i < s.size) : (upS s)[i]! = upB s[i] := by
  rw [getElem!_pos (upS s) i (by rw [upS_size]; exact h)]
  exact upS_at s i h
theorem mskS_at' {s : ByteArray} {i : Nat} (h : i < s.size) : (mskS s)[i]! = mskB s[i] := by
  rw [getElem!_pos (mskS s) i (by rw [mskS_size]; exact h)]
  exact mskS_at s i h

/-- The bits that two bytes have both, bit by bit. -/
theorem and_step (a b : UInt8) (k : Nat) : (a &&& b).toNat % 2 ^ (k + 1) = (a &&& b).toNat % 2 ^ k + (if a.toNat / 2 ^ k % 2 = 1 ∧ b.toNat / 2 ^ k % 2 = 1 then 2 ^ k else 0) := by
  rw [Nat.mod_pow_succ, ← Nat.toNat_testBit, UInt8.toNat_and, Nat.testBit_and, Nat.testBit_eq_decide_div_mod_eq, Nat.testBit_eq_decide_div_mod_eq]
  by_cases h1 : a.toNat / 2 ^ k % 2 = 1 <;> by_cases h2 : b.toNat / 2 ^ k % 2 = 1 <;> simp [h1, h2]
theorem and_all (a b : UInt8) : (a &&& b).toNat % 2 ^ 8 = (a &&& b).toNat := Nat.mod_eq_of_lt (a &&& b).toNat_lt

end Go.Proofs.YtjaockmbnjflaaaGreatDoor
namespace Go.Proofs.YtjaockmbnjflaaaGreatDoor

theorem let_great (c : UInt8) (h : letB c = true) : letB (c &&& 223) = true := by
  have := bytes_all (p := fun c => !letB c || letB (c &&& 223)) (by kernel_rfl) c
  rw [h] at this
  simpa using this
theorem low_great (r : UInt8) (h : letB (r &&& 223) = true) : lowB r = (r &&& 223) + 32 := by
  have := bytes_all (p := fun r => !letB (r &&& 223) || (lowB r == (r &&& 223) + 32)) (by kernel_rfl) r
  rw [h] at this
  simpa using this
theorem low_and (r : UInt8) : (lowB r &&& 223) = (r &&& 223) := by
  have := bytes_all (p := fun r => (lowB r &&& 223) == (r &&& 223)) (by kernel_rfl) r
  simpa using this
theorem low_self (c : UInt8) (h : letB c = false) : lowB c = c := by
  have := bytes_all (p := fun c => letB c || (lowB c == c)) (by kernel_rfl) c
  rw [h] at this
  simpa using this
theorem low_unletter (r : UInt8) (h : letB (lowB r) = false) : lowB r = r := by
  have := bytes_all (p := fun r => letB (lowB r) || (lowB r == r)) (by kernel_rfl) r
  rw [h] at this
  simpa using this
theorem and_all255 (r : UInt8) : (r &&& 255) = r := by
  have := bytes_all (p := fun r => (r &&& 255) == r) (by kernel_rfl) r
  simpa using this
/-- A byte is a tag's just if both are one in small letters. -/
theorem and_low (r c : UInt8) : (r &&& mskB c) = upB c ↔ lowB r = lowB c := by
  unfold mskB upB
  cases h : letB c
  · rw [if_neg (by simp), if_neg (by simp), and_all255]
    constructor
    · rintro rfl; rfl
    · intro e
      rw [low_self c h] at e
      have h2 : letB (lowB r) = false := by rw [e]; exact h
      rw [← e, low_unletter r h2]
  · rw [if_pos rfl, if_pos rfl]
    constructor
    · intro e
      have h1 := let_great c h
      rw [low_great r (by rw [e]; exact h1), low_great c h1, e]
    · intro e
      rw [← low_and r, e, low_and]

/-- Two texts of as many bytes are one in small letters just if all bytes are. -/
theorem low_same {x t : ByteArray} (h : x.size = t.size) : ((lowS x).toList == (lowS t).toList) = true ↔ ∀ j (h1 : j < x.size) (h2 : j < t.size), lowB x[j] = lowB t[j] := by
  rw [beq_iff_eq, Lib.toList_data, Lib.toList_data]
  constructor
  · intro e j h1 h2
    have e2 : (lowS x).data.toList[j]? = (lowS t).data.toList[j]? := by rw [e]
    have a1 : (lowS x).data.toList[j]? = some (lowB x[j]) := by
      rw [List.getElem?_eq_getElem (by simp; rw [lowS_size]; exact h1)]
      exact congrArg some (lowS_at x j h1)
    have a2 : (lowS t).data.toList[j]? = some (lowB t[j]) := by
      rw [List.getElem?_eq_getElem (by simp; rw [lowS_size]; exact h2)]
      exact congrArg some (lowS_at t j h2)
    rw [a1, a2] at e2
    exact Option.some.inj e2
  · intro e
    apply List.ext_getElem
    · simp; rw [lowS_size, lowS_size, h]
    · intro j h1 h2
      have h1' : j < x.size := by simp at h1; rw [lowS_size] at h1; exact h1
      have a1 : (lowS x).data.toList[j] = lowB x[j] := lowS_at x j h1'
      have a2 : (lowS t).data.toList[j] = lowB (t[j]'(by omega)) := lowS_at t j (by omega)
      rw [a1, a2]
      exact e j h1' (by omega)

/-- A tag's pattern matches what has it behind blanks, in small or great letters. -/
theorem tag_same (s : ByteArray) {t : ByteArray} (h0 : 0 < t.size) (h64 : t.size ≤ 64) :
    matB s (upS t) (mskS t) blk5 = (decide (t.size ≤ (restS s blk5).size) && ((lowS ((restS s blk5).extract 0 t.size)).toList == (lowS t).toList)) := by
  have hg : goodP (upS t) (mskS t) = true := by
    unfold goodP
    rw [upS_size, mskS_size]
    simp
    omega
  unfold matB
  rw [hg, Bool.true_and, upS_size]
  generalize restS s blk5 = u
  by_cases hu : t.size ≤ u.size
  · rw [decide_eq_true hu, Bool.true_and, Bool.true_and, Bool.eq_iff_iff, fitB_iff, low_same (by simp; omega), upS_size]
    have hx : (u.extract 0 t.size).size = t.size := by simp; omega
    constructor
    · intro h j h1 h2
      have := h j (by omega)
      rw [upS_at' h2, mskS_at' h2, getElem!_pos u j (by omega), and_low] at this
      rw [← this]
      congr 1
      simp [ByteArray.getElem_extract]
    · intro h j hj
      have h2 : j < t.size := by omega
      have := h j (by omega) h2
      rw [upS_at' h2, mskS_at' h2, getElem!_pos u j (by omega), and_low, ← this]
      congr 1
      simp [ByteArray.getElem_extract]
  · rw [decide_eq_false hu]
    rfl

/-- A pattern of which all bits count matches what begins with it. -/
theorem ff_same (s b m sk : ByteArray) (hg : goodP b m = true) (hm : ∀ j, j < m.size → m[j]! = 255) : matB s b m sk = prefB (restS s sk) b := by
  have hz : m.size = b.size := by
    unfold goodP at hg
    simp at hg
    omega
  unfold matB prefB
  rw [hg, Bool.true_and]
  generalize restS s sk = u
  by_cases hu : b.size ≤ u.size
  · rw [decide_eq_true hu, Bool.true_and, Bool.true_and, Bool.eq_iff_iff, fitB_iff, beq_iff_eq, Lib.toList_data, Lib.toList_data]
    have hx : (u.extract 0 b.size).size = b.size := by simp; omega
    have key : ∀ j (h1 : j < b.size), (u.extract 0 b.size)[j]'(by omega) = u[j] := fun j h1 => by simp [ByteArray.getElem_extract]
    constructor
    · intro h
      apply List.ext_getElem
      · simp; omega
      · intro j h1 h2
        have h2' : j < b.size := by simpa using h2
        have := h j (by omega)
        rw [hm j (by omega), and_all255, getElem!_pos u j (by omega), getElem!_pos b j h2'] at this
        exact (key j h2').trans this
    · intro h j hj
      have h2' : j < b.size := by omega
      rw [hm j (by omega), and_all255, getElem!_pos u j (by omega), getElem!_pos b j h2', ← key j h2']
      have e2 : (u.extract 0 b.size).data.toList[j]? = b.data.toList[j]? := by rw [h]
      rw [List.getElem?_eq_getElem (by simp; omega), List.getElem?_eq_getElem (by simpa using h2')] at e2
      exact Option.some.inj e2
  · rw [decide_eq_false hu]
    rfl

/-- The tags. -/
def tagsL : List ByteArray := [⟨#[33, 68, 79, 67, 84, 89, 80, 69, 32, 72, 84, 77, 76]⟩, ⟨#[72, 84, 77, 76]⟩, ⟨#[72, 69, 65, 68]⟩, ⟨#[83, 67, 82, 73, 80, 84]⟩, ⟨#[73, 70, 82, 65, 77, 69]⟩, ⟨#[72, 49]⟩, ⟨#[68, 73, 86]⟩, ⟨#[70, 79, 78, 84]⟩, ⟨#[84, 65, 66, 76, 69]⟩, ⟨#[65]⟩, ⟨#[83, 84, 89, 76, 69]⟩, ⟨#[84, 73, 84, 76, 69]⟩, ⟨#[66]⟩, ⟨#[66, 79, 68, 89]⟩, ⟨#[66, 82]⟩, ⟨#[80]⟩]
def ltS (t : ByteArray) : ByteArray := ⟨#[60]⟩ ++ t
theorem ltS_size (t : ByteArray) : (ltS t).size = t.size + 1 := by
  unfold ltS
  rw [ByteArray.size_append]
  show 1 + t.size = _
  omega
theorem tags_few : ∀ t ∈ tagsL, t.size ≤ 13 := by
  intro t ht
  have := List.all_eq_true.1 (show tagsL.all (fun t => decide (t.size ≤ 13)) = true from by kernel_rfl) t ht
  simpa using this
/-- Whether a text begins with a tag, and its end. -/
def tagU (u t : ByteArray) : Bool := decide (t.size + 1 < u.size) && (((lowS (u.extract 0 (t.size + 1))).toList == (lowS (ltS t)).toList) && (u[t.size + 1]!.toNat == 32 || u[t.size + 1]!.toNat == 62))
abbrev comS : ByteArray := ⟨#[60, 33, 45, 45]⟩
abbrev xmlS : ByteArray := ⟨#[60, 63, 120, 109, 108]⟩
abbrev pdfS : ByteArray := ⟨#[37, 80, 68, 70, 45]⟩
/-- Whether a text is HTML, or XML. -/
def htmU (u : ByteArray) : Bool := prefB u comS || tagsL.any (tagU u)
def htmB (s : ByteArray) : Bool := htmU (restS s blk5)
def xmlB (s : ByteArray) : Bool := prefB (restS s blk5) xmlS

theorem rest_size (s sk : ByteArray) : (restS s sk).size = s.size - begN sk s := by
  unfold restS
  simp
theorem rest_at (s sk : ByteArray) {j : Nat} (h : j < (restS s sk).size) : (restS s sk)[j]! = s[begN sk s + j]! := by
  exact extract_at (s := s) (a := begN sk s) (b := s.size) (i := j) h
/-- The end of a tag, as the text has it behind its blanks. -/
theorem tag_end (s t : ByteArray) (h : t.size + 1 < (restS s blk5).size) : endB s ((begN blk5 s + (ltS t).size : Nat) : Int) = ((restS s blk5)[t.size + 1]!.toNat == 32 || (restS s blk5)[t.size + 1]!.toNat == 62) := by
  have hs := rest_size s blk5
  rw [rest_at s blk5 h]
  unfold endB
  rw [ltS_size, decide_eq_true (show (0 : Int) ≤ ((begN blk5 s + (t.size + 1) : Nat) : Int) by omega), decide_eq_true (show ((begN blk5 s + (t.size + 1) : Nat) : Int) < (s.size : Int) by omega)]
  rfl
theorem tag_over (s t : ByteArray) (h : ¬ t.size + 1 < (restS s blk5).size) : endB s ((begN blk5 s + (ltS t).size : Nat) : Int) = false := by
  have hs := rest_size s blk5
  have hb := begN_le blk5 s
  unfold endB
  rw [ltS_size, decide_eq_false (show ¬ ((begN blk5 s + (t.size + 1) : Nat) : Int) < (s.size : Int) by omega)]
  simp
/-- What a tag is, by its pattern and its end. -/
theorem tag_by (s t : ByteArray) (ht : t.size ≤ 13) : tagU (restS s blk5) t = (matB s (upS (ltS t)) (mskS (ltS t)) blk5 && endB s ((begN blk5 s + (ltS t).size : Nat) : Int)) := by
  have hz := ltS_size t
  rw [tag_same s (by omega) (by omega)]
  unfold tagU
  by_cases h : t.size + 1 < (restS s blk5).size
  · rw [tag_end s t h, decide_eq_true h, hz, decide_eq_true (show t.size + 1 ≤ (restS s blk5).size by omega), Bool.true_and, Bool.true_and]
  · rw [tag_over s t h, decide_eq_false h, Bool.false_and, Bool.and_false]

end Go.Proofs.YtjaockmbnjflaaaGreatDoor
namespace Go.Proofs.YtjaockmbnjflaaaGreatDoor

theorem tags_alone : (tagsL.all fun t => htmB (ltS t ++ ⟨#[32]⟩) && !htmB (ltS t)) = true := by kernel_rfl
theorem tag_blank {t : ByteArray} (h : t ∈ tagsL) : htmB (ltS t ++ ⟨#[32]⟩) = true := by
  have := List.all_eq_true.1 tags_alone t h
  rw [Bool.and_eq_true] at this
  exact this.1
theorem tag_bare {t : ByteArray} (h : t ∈ tagsL) : htmB (ltS t) = false := by
  have := List.all_eq_true.1 tags_alone t h
  rw [Bool.and_eq_true] at this
  simpa using this.2
/-- A text that begins with a tag and its end. -/
theorem tagU_is (t y : ByteArray) : tagU (ltS t ++ (⟨#[62]⟩ ++ y)) t = true := by
  have hz := ltS_size t
  have hx : (ltS t ++ (⟨#[62]⟩ ++ y)).size = t.size + 1 + (1 + y.size) := by
    rw [ByteArray.size_append, ByteArray.size_append, hz]
    rfl
  have he : (ltS t ++ (⟨#[62]⟩ ++ y)).extract 0 (t.size + 1) = ltS t := by
    rw [← hz]
    exact ByteArray.extract_append_eq_left rfl
  have hb : (ltS t ++ (⟨#[62]⟩ ++ y))[t.size + 1]! = 62 := by
    rw [getElem!_pos _ _ (by omega), ByteArray.getElem_append_right (by omega)]
    have hk : t.size + 1 - (ltS t).size = 0 := by omega
    have key : ∀ k (hk : k < (⟨#[62]⟩ ++ y : ByteArray).size), k = 0 → (⟨#[62]⟩ ++ y : ByteArray)[k] = 62 := by
      rintro k hk rfl
      rw [ByteArray.getElem_append_left (show 0 < (⟨#[62]⟩ : ByteArray).size by decide)]
      rfl
    exact key _ _ hk
  unfold tagU
  rw [he, hb, hx, decide_eq_true (show t.size + 1 < t.size + 1 + (1 + y.size) by omega)]
  simp
theorem rest_two (u : ByteArray) (h0 : 0 < u.size) (h : hasB blk5 (u[0]'h0) = false) : restS (⟨#[32, 10]⟩ ++ u) blk5 = u := by
  have hz : (⟨#[32, 10]⟩ ++ u : ByteArray).size = 2 + u.size := by rw [ByteArray.size_append]; rfl
  have hb : begN blk5 (⟨#[32, 10]⟩ ++ u) = 2 := by
    refine begN_at (k := 2) (fun j hj hk => ?_) (by omega) ?_
    · rw [ByteArray.getElem_append_left (show j < (⟨#[32, 10]⟩ : ByteArray).size from hk)]
      match j, hk with
      | 0, _ => exact (show hasB blk5 32 = true from by kernel_rfl)
      | 1, _ => exact (show hasB blk5 10 = true from by kernel_rfl)
    · rw [ByteArray.getElem_append_right (show (⟨#[32, 10]⟩ : ByteArray).size ≤ 2 from Nat.le_refl _)]
      exact h
  unfold restS
  rw [hb]
  exact ByteArray.extract_append_eq_right rfl (by rw [hz]; rfl)
/-- A tag behind blanks, with its end, whatever stands behind it. -/
theorem tag_behind {t : ByteArray} (h : t ∈ tagsL) (y : ByteArray) : htmB (((⟨#[32, 10]⟩ ++ ltS t) ++ ⟨#[62]⟩) ++ y) = true := by
  rw [ByteArray.append_assoc, ByteArray.append_assoc]
  have hz := ltS_size t
  have h0 : 0 < (ltS t ++ (⟨#[62]⟩ ++ y)).size := by rw [ByteArray.size_append]; omega
  have hb : hasB blk5 ((ltS t ++ (⟨#[62]⟩ ++ y))[0]'h0) = false := by
    rw [ByteArray.getElem_append_left (by omega)]
    have e : (ltS t)[0]'(by omega) = 60 := by
      unfold ltS
      rw [ByteArray.getElem_append_left (show 0 < (⟨#[60]⟩ : ByteArray).size by decide)]
      rfl
    rw [e]
    exact (show hasB blk5 60 = false from by kernel_rfl)
  unfold htmB
  rw [rest_two _ h0 hb]
  unfold htmU
  rw [Bool.or_eq_true]
  exact Or.inr (List.any_eq_true.2 ⟨t, h, tagU_is t y⟩)

end Go.Proofs.YtjaockmbnjflaaaGreatDoor
