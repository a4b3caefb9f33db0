/-
  Plain facts on groups of types: whether a text is one of some, whether it ends with another; what each group is of a type's two names. No condition.
  Plain facts on patterns of bytes, as layer 6 tells them. No condition.
  Plain facts on tags and other beginnings. No condition.
-/
import Derived.Test.YtkdjjlfpaciohaaGreatDoorZ3
import Derived.Test.YtkdjjlfpaciohaaGreatDoorZ1
namespace Go.Proofs.YtkdjjlfpaciohaaGreatDoor

/-- A type's two names as one text. -/
def gEss (t u : ByteArray) : ByteArray := ⟨(essL t u).toArray⟩
/-- One of some texts. -/
def gIn (x : ByteArray) (L : List (List UInt8)) : Bool := L.any fun l => x.toList == l
theorem gIn_iff {x : ByteArray} {L : List (List UInt8)} : gIn x L = true ↔ x.toList ∈ L := by
  unfold gIn
  rw [List.any_eq_true]
  exact ⟨fun ⟨l, h, e⟩ => (beq_iff_eq.1 e) ▸ h, fun h => ⟨_, h, beq_self_eq_true _⟩⟩
theorem gIn_cons (x : ByteArray) (l : List UInt8) (L : List (List UInt8)) : gIn x (l :: L) = (x.toList == l || gIn x L) := rfl
theorem gIn_same {x : ByteArray} {L M : List (List UInt8)} (h1 : L.all (fun l => M.contains l) = true) (h2 : M.all (fun l => L.contains l) = true) : gIn x L = gIn x M := by
  rw [Bool.eq_iff_iff, gIn_iff, gIn_iff]
  rw [List.all_eq_true] at h1 h2
  exact ⟨fun h => by simpa using h1 _ h, fun h => by simpa using h2 _ h⟩
/-- Ends with. -/
def gEnd (s e : ByteArray) : Bool := decide (e.size ≤ s.size) && ((s.extract (s.size - e.size) s.size).toList == e.toList)
abbrev gXmlL : List (List UInt8) := [[116, 101, 120, 116, 47, 120, 109, 108], [97, 112, 112, 108, 105, 99, 97, 116, 105, 111, 110, 47, 120, 109, 108]]
abbrev gXmlD : List (List UInt8) := [[97, 112, 112, 108, 105, 99, 97, 116, 105, 111, 110, 47, 120, 109, 108], [116, 101, 120, 116, 47, 120, 109, 108]]
abbrev gXmlE : ByteArray := ⟨#[43, 120, 109, 108]⟩
abbrev gHtm : List UInt8 := [116, 101, 120, 116, 47, 104, 116, 109, 108]
abbrev gOgg : List UInt8 := [97, 112, 112, 108, 105, 99, 97, 116, 105, 111, 110, 47, 111, 103, 103]
abbrev gImg : List UInt8 := [105, 109, 97, 103, 101]
abbrev gAud : List UInt8 := [97, 117, 100, 105, 111]
abbrev gVid : List UInt8 := [118, 105, 100, 101, 111]
def xmlG (t u : ByteArray) : Bool := gIn (gEss t u) gXmlL || gEnd u gXmlE
def htmlG (t u : ByteArray) : Bool := (gEss t u).toList == gHtm
def imageG (t : ByteArray) : Bool := t.toList == gImg
def mediaG (t u : ByteArray) : Bool := t.toList == gAud || t.toList == gVid || (gEss t u).toList == gOgg
theorem xmlG_doc (x : ByteArray) : gIn x gXmlD = gIn x gXmlL := gIn_same (by decide) (by decide)
theorem html_ess {t u : ByteArray} (h : htmlG t u = true) : (gEss t u).toList = gHtm := by unfold htmlG at h; rwa [beq_iff_eq] at h
end Go.Proofs.YtkdjjlfpaciohaaGreatDoor
namespace Go.Proofs.YtkdjjlfpaciohaaGreatDoor

/-- Whether a pattern is good. -/
def goodP (b m : ByteArray) : Bool := decide (0 < b.size) && (decide (b.size ≤ 64) && decide (m.size = b.size))
/-- How many bytes of sk stand ahead. -/
def begN (sk s : ByteArray) : Nat := scan (hasB sk) s 0
/-- What is behind them. -/
def restS (s sk : ByteArray) : ByteArray := s.extract (begN sk s) s.size
/-- The first n bytes are as they must be. -/
def FitN (r b m : ByteArray) (n : Nat) : Prop := ∀ j, j < n → (r[j]! &&& m[j]!) = b[j]!
def fitB (r b m : ByteArray) : Bool := (List.range (min r.size b.size)).all fun j => (r[j]! &&& m[j]!) == b[j]!
theorem fitB_iff {r b m : ByteArray} : fitB r b m = true ↔ FitN r b m (min r.size b.size) := by
  unfold fitB FitN
  rw [List.all_eq_true]
  constructor
  · intro h j hj
    exact beq_iff_eq.1 (h j (List.mem_range.2 hj))
  · intro h j hj
    exact beq_iff_eq.2 (h j (List.mem_range.1 hj))
theorem fitB_all {r b m : ByteArray} {n : Nat} (h : FitN r b m n) (hn : min r.size b.size ≤ n) : fitB r b m = true := fitB_iff.2 fun j hj => h j (by omega)
theorem fitB_not {r b m : ByteArray} {j : Nat} (h1 : j < r.size) (h2 : j < b.size) (h : (r[j]! &&& m[j]!) ≠ b[j]!) : fitB r b m = false := by
  rw [Bool.eq_false_iff]
  intro hf
  exact h (fitB_iff.1 hf j (by omega))
theorem FitN.zero (r b m : ByteArray) : FitN r b m 0 := fun j hj => absurd hj (by omega)
theorem FitN.succ {r b m : ByteArray} {n : Nat} (h : FitN r b m n) (e : (r[n]! &&& m[n]!) = b[n]!) : FitN r b m (n + 1) := fun j hj => by
  by_cases hjn : j = n
  · subst hjn; exact e
  · exact h j (by omega)

/-- Whether a text begins with a pattern; whether more bytes could make it so. -/
def matB (s b m sk : ByteArray) : Bool := goodP b m && (decide (b.size ≤ (restS s sk).size) && fitB (restS s sk) b m)
/-- Whether the n-th byte ends a tag. -/
def endB (s : ByteArray) (n : Int) : Bool := decide (0 ≤ n) && (decide (n < s.size) && (s[n.toNat]!.toNat == 32 || s[n.toNat]!.toNat == 62))
theorem begN_le (sk s : ByteArray) : begN sk s ≤ s.size := scan_le _ _ _ (by omega)
theorem begN_at {sk s : ByteArray} {k : Nat} (h : ∀ j (hj : j < s.size), j < k → hasB sk s[j] = true) (hk : k < s.size) (hn : hasB sk s[k] = false) : begN sk s = k := by
  have step : ∀ i, i ≤ k → scan (hasB sk) s 0 = scan (hasB sk) s i := by
    intro i
    induction i with
    | zero => intro _; rfl
    | succ i ih => intro hi; rw [ih (by omega), scan_step (by omega) (h i (by omega) (by omega))]
  unfold begN
  rw [step k (Nat.le_refl _), scan_stop hk hn]
theorem begN_all {sk s : ByteArray} (h : ∀ j (hj : j < s.size), hasB sk s[j] = true) : begN sk s = s.size := by
  have step : ∀ i, i ≤ s.size → scan (hasB sk) s 0 = scan (hasB sk) s i := by
    intro i
    induction i with
    | zero => intro _; rfl
    | succ i ih => intro hi; rw [ih (by omega), scan_step (by omega) (h i (by omega))]
  unfold begN
  rw [step s.size (Nat.le_refl _), scan_end rfl]
theorem begN_before {sk s : ByteArray} {j : Nat} (hj : j < begN sk s) (hs : j < s.size) : hasB sk s[j] = true := by
  unfold begN scan at hj
  rw [List.drop_zero, Nat.zero_add] at hj
  have h1 := List.all_eq_true.1 (List.all_takeWhile (p := hasB sk) (l := s.data.toList)) _ (List.getElem_mem hj)
  have h2 : (s.data.toList.takeWhile (hasB sk))[j] = s.data.toList[j]'(by simpa using hs) := (List.takeWhile_prefix (hasB sk)).getElem hj
  rw [h2] at h1
  exact h1
theorem begN_stop {sk s : ByteArray} (h : begN sk s < s.size) : hasB sk (s[begN sk s]'h) = false := by
  rw [Bool.eq_false_iff]
  intro ht
  have h1 : scan (hasB sk) s (begN sk s + 1) = scan (hasB sk) s (begN sk s) := scan_step h ht
  have h2 := scan_ge (hasB sk) s (begN sk s + 1)
  have h3 : scan (hasB sk) s (begN sk s) = begN sk s := by
    have step : ∀ i, i ≤ begN sk s → scan (hasB sk) s 0 = scan (hasB sk) s i := by
      intro i
      induction i with
      | zero => intro _; rfl
      | succ i ih => intro hi; rw [ih (by omega), scan_step (by omega) (begN_before (by omega) (by omega))]
    rw [← step (begN sk s) (Nat.le_refl _)]
    rfl
  omega

theorem restS_size (s sk : ByteArray) : (restS s sk).size = s.size - begN sk s := by
  unfold restS
  simp
/-- The great letter, and its mask. -/
def upB (b : UInt8) : UInt8 := if letB b then b &&& 223 else b
def mskB (b : UInt8) : UInt8 := if letB b then 223 else 255
def upS (s : ByteArray) : ByteArray := ⟨s.data.map upB⟩
def mskS (s : ByteArray) : ByteArray := ⟨s.data.map mskB⟩
def blk5 : ByteArray := ⟨#[9, 10, 12, 13, 32]⟩
theorem upS_size (s : ByteArray) : (upS s).size = s.size := by
  show (s.data.map upB).size = s.data.size
  simp
theorem mskS_size (s : ByteArray) : (mskS s).size = s.size := by
  show (s.data.map mskB).size = s.data.size
  simp
theorem upS_at (s : ByteArray) (i : Nat) (h : i < s.size) : (upS s)[i]'(by rw [upS_size]; exact h) = upB s[i] :=
  Array.getElem_map (f := upB) (xs := s.data) (i := i) (hi := by simpa using h)
theorem mskS_at (s : ByteArray) (i : Nat) (h : i < s.size) : (mskS s)[i]'(by rw [mskS_size]; exact h) = mskB s[i] :=
  Array.getElem_map (f := mskB) (xs := s.data) (i := i) (hi := by simpa using h)
theorem upS_at' {s : ByteArray} {i : Nat} (h : i < s.size) : (upS s)[i]! = upB s[i] := by
  rw [getElem!_pos (upS s) i (by rw [upS_size]; exact h)]
  exact upS_at s i h
theorem mskS_at' {s : ByteArray} {i : Nat} (h : i < s.size) : (mskS s)[i]! = mskB s[i] := by
  rw [getElem!_pos (mskS s) i (by rw [mskS_size]; exact h)]
  exact mskS_at s i h

/-- The bits that two bytes have both, bit by bit. -/
theorem and_step (a b : UInt8) (k : Nat) : (a &&& b).toNat % 2 ^ (k + 1) = (a &&& b).toNat % 2 ^ k + (if a.toNat / 2 ^ k % 2 = 1 ∧ b.toNat / 2 ^ k % 2 = 1 then 2 ^ k else 0) := by
  rw [Nat.mod_pow_succ, ← Nat.toNat_testBit, UInt8.toNat_and, Nat.testBit_and, Nat.testBit_eq_decide_div_mod_eq, Nat.testBit_eq_decide_div_mod_eq]
  by_cases h1 : a.toNat / 2 ^ k % 2 = 1 <;> by_cases h2 : b.toNat / 2 ^ k % 2 = 1 <;> simp [h1, h2]
theorem and_all (a b : UInt8) : (a &&& b).toNat % 2 ^ 8 = (a &&& b).toNat := Nat.mod_eq_of_lt (a &&& b).toNat_lt

end Go.Proofs.YtkdjjlfpaciohaaGreatDoor
namespace Go.Proofs.YtkdjjlfpaciohaaGreatDoor

theorem let_great (c : UInt8) (h : letB c = true) : letB (c &&& 223) = true := by
  have := bytes_all (p := fun c => !letB c || letB (c &&& 223)) (by kernel_rfl) c
  rw [h] at this
  simpa using this
theorem low_great (r : UInt8) (h : letB (r &&& 223) = true) : lowB r = (r &&& 223) + 32 := by
  have := bytes_all (p := fun r => !letB (r &&& 223) || (lowB r == (r &&& 223) + 32)) (by kernel_rfl) r
  rw [h] at this
  simpa using this
theorem low_and (r : UInt8) : (lowB r &&& 223) = (r &&& 223) := by
  have := bytes_all (p := fun r => (lowB r &&& 223) == (r &&& 223)) (by kernel_rfl) r
  simpa using this
theorem low_self (c : UInt8) (h : letB c = false) : lowB c = c := by
  have := bytes_all (p := fun c => letB c || (lowB c == c)) (by kernel_rfl) c
  rw [h] at this
  simpa using this
theorem low_unletter (r : UInt8) (h : letB (lowB r) = false) : lowB r = r := by
  have := bytes_all (p := fun r => letB (lowB r) || (lowB r == r)) (by kernel_rfl) r
  rw [h] at this
  simpa using this
theorem and_all255 (r : UInt8) : (r &&& 255) = r := by
  have := bytes_all (p := fun r => (r &&& 255) == r) (by kernel_rfl) r
  simpa using this
/-- A byte is a tag's just if both are one in small letters. -/
theorem and_low (r c : UInt8) : (r &&& mskB c) = upB c ↔ lowB r = lowB c := by
  unfold mskB upB
  cases h : letB c
  · rw [if_neg (by simp), if_neg (by simp), and_all255]
    constructor
    · rintro rfl; rfl
    · intro e
      rw [low_self c h] at e
      have h2 : letB (lowB r) = false := by rw [e]; exact h
      rw [← e, low_unletter r h2]
  · rw [if_pos rfl, if_pos rfl]
    constructor
    · intro e
      have h1 := let_great c h
      rw [low_great r (by rw [e]; exact h1), low_great c h1, e]
    · intro e
      rw [← low_and r, e, low_and]

/-- Two texts of as many bytes are one in small letters just if all bytes are. -/
theorem low_same {x t : ByteArray} (h : x.size = t.size) : ((lowS x).toList == (lowS t).toList) = true ↔ ∀ j (h1 : j < x.size) (h2 : j < t.size), lowB x[j] = lowB t[j] := by
  rw [beq_iff_eq, Lib.toList_data, Lib.toList_data]
  constructor
  · intro e j h1 h2
    have e2 : (lowS x).data.toList[j]? = (lowS t).data.toList[j]? := by rw [e]
    have a1 : (lowS x).data.toList[j]? = some (lowB x[j]) := by
      rw [List.getElem?_eq_getElem (by simp; rw [lowS_size]; exact h1)]
      exact congrArg some (lowS_at x j h1)
    have a2 : (lowS t).data.toList[j]? = some (lowB t[j]) := by
      rw [List.getElem?_eq_getElem (by simp; rw [lowS_size]; exact h2)]
      exact congrArg some (lowS_at t j h2)
    rw [a1, a2] at e2
    exact Option.some.inj e2
  · intro e
    apply List.ext_getElem
    · simp; rw [lowS_size, lowS_size, h]
    · intro j h1 h2
      have h1' : j < x.size := by simp at h1; rw [lowS_size] at h1; exact h1
      have a1 : (lowS x).data.toList[j] = lowB x[j] := lowS_at x j h1'
      have a2 : (lowS t).data.toList[j] = lowB (t[j]'(by omega)) := lowS_at t j (by omega)
      rw [a1, a2]
      exact e j h1' (by omega)

/-- A tag's pattern matches what has it behind blanks, in small or great letters. -/
theorem tag_same (s : ByteArray) {t : ByteArray} (h0 : 0 < t.size) (h64 : t.size ≤ 64) :
    matB s (upS t) (mskS t) blk5 = (decide (t.size ≤ (restS s blk5).size) && ((lowS ((restS s blk5).extract 0 t.size)).toList == (lowS t).toList)) := by
  have hg : goodP (upS t) (mskS t) = true := by
    unfold goodP
    rw [upS_size, mskS_size]
    simp
    omega
  unfold matB
  rw [hg, Bool.true_and, upS_size]
  generalize restS s blk5 = u
  by_cases hu : t.size ≤ u.size
  · rw [decide_eq_true hu, Bool.true_and, Bool.true_and, Bool.eq_iff_iff, fitB_iff, low_same (by simp; omega), upS_size]
    have hx : (u.extract 0 t.size).size = t.size := by simp; omega
    constructor
    · intro h j h1 h2
      have := h j (by omega)
      rw [upS_at' h2, mskS_at' h2, getElem!_pos u j (by omega), and_low] at this
      rw [← this]
      congr 1
      simp [ByteArray.getElem_extract]
    · intro h j hj
      have h2 : j < t.size := by omega
      have := h j (by omega) h2
      rw [upS_at' h2, mskS_at' h2, getElem!_pos u j (by omega), and_low, ← this]
      congr 1
      simp [ByteArray.getElem_extract]
  · rw [decide_eq_false hu]
    rfl

/-- The tags. -/
def tagsL : List ByteArray := [⟨#[33, 68, 79, 67, 84, 89, 80, 69, 32, 72, 84, 77, 76]⟩, ⟨#[72, 84, 77, 76]⟩, ⟨#[72, 69, 65, 68]⟩, ⟨#[83, 67, 82, 73, 80, 84]⟩, ⟨#[73, 70, 82, 65, 77, 69]⟩, ⟨#[72, 49]⟩, ⟨#[68, 73, 86]⟩, ⟨#[70, 79, 78, 84]⟩, ⟨#[84, 65, 66, 76, 69]⟩, ⟨#[65]⟩, ⟨#[83, 84, 89, 76, 69]⟩, ⟨#[84, 73, 84, 76, 69]⟩, ⟨#[66]⟩, ⟨#[66, 79, 68, 89]⟩, ⟨#[66, 82]⟩, ⟨#[80]⟩]
def ltS (t : ByteArray) : ByteArray := ⟨#[60]⟩ ++ t
theorem ltS_size (t : ByteArray) : (ltS t).size = t.size + 1 := by
  unfold ltS
  rw [ByteArray.size_append]
  show 1 + t.size = _
  omega
theorem tags_few : ∀ t ∈ tagsL, t.size ≤ 13 := by
  intro t ht
  have := List.all_eq_true.1 (show tagsL.all (fun t => decide (t.size ≤ 13)) = true from by kernel_rfl) t ht
  simpa using this
/-- Whether a text begins with a tag, and its end. -/
def tagU (u t : ByteArray) : Bool := decide (t.size + 1 < u.size) && (((lowS (u.extract 0 (t.size + 1))).toList == (lowS (ltS t)).toList) && (u[t.size + 1]!.toNat == 32 || u[t.size + 1]!.toNat == 62))
abbrev comS : ByteArray := ⟨#[60, 33, 45, 45]⟩
abbrev xmlS : ByteArray := ⟨#[60, 63, 120, 109, 108]⟩
abbrev pdfS : ByteArray := ⟨#[37, 80, 68, 70, 45]⟩
/-- Whether a text is HTML, or XML. -/
def htmU (u : ByteArray) : Bool := prefB u comS || tagsL.any (tagU u)
def htmB (s : ByteArray) : Bool := htmU (restS s blk5)
def xmlB (s : ByteArray) : Bool := prefB (restS s blk5) xmlS

theorem rest_size (s sk : ByteArray) : (restS s sk).size = s.size - begN sk s := by
  unfold restS
  simp
theorem rest_at (s sk : ByteArray) {j : Nat} (h : j < (restS s sk).size) : (restS s sk)[j]! = s[begN sk s + j]! := by
  exact extract_at (s := s) (a := begN sk s) (b := s.size) (i := j) h
/-- The end of a tag, as the text has it behind its blanks. -/
theorem tag_end (s t : ByteArray) (h : t.size + 1 < (restS s blk5).size) : endB s ((begN blk5 s + (ltS t).size : Nat) : Int) = ((restS s blk5)[t.size + 1]!.toNat == 32 || (restS s blk5)[t.size + 1]!.toNat == 62) := by
  have hs := rest_size s blk5
  rw [rest_at s blk5 h]
  unfold endB
  rw [ltS_size, decide_eq_true (show (0 : Int) ≤ ((begN blk5 s + (t.size + 1) : Nat) : Int) by omega), decide_eq_true (show ((begN blk5 s + (t.size + 1) : Nat) : Int) < (s.size : Int) by omega)]
  rfl
theorem tag_over (s t : ByteArray) (h : ¬ t.size + 1 < (restS s blk5).size) : endB s ((begN blk5 s + (ltS t).size : Nat) : Int) = false := by
  have hs := rest_size s blk5
  have hb := begN_le blk5 s
  unfold endB
  rw [ltS_size, decide_eq_false (show ¬ ((begN blk5 s + (t.size + 1) : Nat) : Int) < (s.size : Int) by omega)]
  simp
/-- What a tag is, by its pattern and its end. -/
theorem tag_by (s t : ByteArray) (ht : t.size ≤ 13) : tagU (restS s blk5) t = (matB s (upS (ltS t)) (mskS (ltS t)) blk5 && endB s ((begN blk5 s + (ltS t).size : Nat) : Int)) := by
  have hz := ltS_size t
  rw [tag_same s (by omega) (by omega)]
  unfold tagU
  by_cases h : t.size + 1 < (restS s blk5).size
  · rw [tag_end s t h, decide_eq_true h, hz, decide_eq_true (show t.size + 1 ≤ (restS s blk5).size by omega), Bool.true_and, Bool.true_and]
  · rw [tag_over s t h, decide_eq_false h, Bool.false_and, Bool.and_false]

end Go.Proofs.YtkdjjlfpaciohaaGreatDoor
