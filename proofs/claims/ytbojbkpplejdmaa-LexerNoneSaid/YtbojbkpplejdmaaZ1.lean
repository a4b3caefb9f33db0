/-
  Plain facts on runs of bytes. No condition.
  Plain facts on single bytes, as layer 3 parts them. No condition.
  Plain facts on layer 27: bytes that come one behind another, and whether they are JSON, may begin it, or can't (ansJ: the state, and what lies from the first wrong byte on); what is gone by within a text, a number, a word. No condition.
-/
import Derived.KernelRfl
import Derived.Laws.Externs
namespace Go.Proofs.Ytbojbkpplejdmaa

/-- The first place from i on at which p does not hold, or the end. -/
def scan (p : UInt8 → Bool) (s : ByteArray) (i : Nat) : Nat := i + ((s.data.toList.drop i).takeWhile p).length

theorem drop_cons (s : ByteArray) (i : Nat) (h : i < s.size) : s.data.toList.drop i = s[i] :: s.data.toList.drop (i + 1) := by
  rw [List.drop_eq_getElem_cons (by simpa using h)]; rfl
theorem scan_step {p : UInt8 → Bool} {s : ByteArray} {i : Nat} (h : i < s.size) (hp : p s[i] = true) : scan p s (i + 1) = scan p s i := by
  unfold scan
  rw [drop_cons s i h, List.takeWhile_cons, if_pos hp, List.length_cons]
  omega
theorem scan_stop {p : UInt8 → Bool} {s : ByteArray} {i : Nat} (h : i < s.size) (hp : p s[i] = false) : scan p s i = i := by
  unfold scan
  rw [drop_cons s i h, List.takeWhile_cons, if_neg (by simp [hp])]
  simp
theorem scan_end {p : UInt8 → Bool} {s : ByteArray} {i : Nat} (h : i = s.size) : scan p s i = i := by
  unfold scan
  rw [List.drop_of_length_le (by rw [h]; simp)]
  simp
theorem scan_ge (p : UInt8 → Bool) (s : ByteArray) (i : Nat) : i ≤ scan p s i := by unfold scan; omega
theorem scan_le (p : UInt8 → Bool) (s : ByteArray) (i : Nat) (h : i ≤ s.size) : scan p s i ≤ s.size := by
  unfold scan
  have h1 := (List.takeWhile_sublist (l := s.data.toList.drop i) p).length_le
  have h2 : s.data.toList.length = s.size := by simp
  rw [List.length_drop] at h1
  omega

theorem take_snoc (s : ByteArray) (k : Nat) (h : k < s.size) : s.data.toList.take (k + 1) = s.data.toList.take k ++ [s[k]] := by
  rw [List.take_succ_eq_append_getElem (by simpa using h)]; rfl

def lowerB (b : UInt8) : Bool := decide (97 ≤ b.toNat) && decide (b.toNat ≤ 122)

/-- Whether a byte is among some. -/
def hasB (t : ByteArray) (b : UInt8) : Bool := t.data.toList.contains b
theorem hasB_at {t : ByteArray} {b : UInt8} {i : Nat} (h : i < t.size) (e : t[i] = b) : hasB t b = true := by
  unfold hasB
  rw [List.contains_iff_mem]
  subst e
  exact List.getElem_mem (l := t.data.toList) (by simpa using h)
theorem hasB_no {t : ByteArray} {b : UInt8} (h : ∀ i (hi : i < t.size), t[i] ≠ b) : hasB t b = false := by
  unfold hasB
  rw [Bool.eq_false_iff]
  intro hc
  rw [List.contains_iff_mem] at hc
  obtain ⟨i, hi, e⟩ := List.getElem_of_mem hc
  exact h i (by simpa using hi) e

end Go.Proofs.Ytbojbkpplejdmaa
namespace Go.Proofs.Ytbojbkpplejdmaa

/-- What holds of all 256 bytes, by trying them. -/
theorem bytes_all {p : UInt8 → Bool} (h : (List.range 256).all (fun n => p (UInt8.ofNat n)) = true) (b : UInt8) : p b = true := by
  rw [List.all_eq_true] at h
  have := h b.toNat (List.mem_range.2 b.toNat_lt)
  simpa using this

def lowB (b : UInt8) : UInt8 := if decide (65 ≤ b.toNat) && decide (b.toNat ≤ 90) then UInt8.ofNat (b.toNat + 32) else b
def digB (b : UInt8) : Bool := decide (48 ≤ b.toNat) && decide (b.toNat ≤ 57)
def letB (b : UInt8) : Bool := lowerB (lowB b)
def tabB (b : UInt8) : Bool := b.toNat == 9 || b.toNat == 32
def whiB (b : UInt8) : Bool := tabB b || b.toNat == 10 || b.toNat == 13
/-- The number of a digit to the base 16, or -1. -/
def hexB (b : UInt8) : Int := if digB b then (b.toNat : Int) - 48 else if decide (97 ≤ (lowB b).toNat) && decide ((lowB b).toNat ≤ 102) then ((lowB b).toNat : Int) - 87 else -1

def hexS : ByteArray := ⟨#[48, 49, 50, 51, 52, 53, 54, 55, 56, 57, 97, 98, 99, 100, 101, 102]⟩
def hexT : ByteArray := ⟨#[48, 49, 50, 51, 52, 53, 54, 55, 56, 57, 65, 66, 67, 68, 69, 70]⟩
theorem hexS_size : hexS.size = 16 := rfl
theorem hexT_size : hexT.size = 16 := rfl
theorem hexB_at {b : UInt8} {k : Nat} (hk : k < 16) (h : (hexS[k]'(by rw [hexS_size]; exact hk)).toNat = b.toNat ∨ (hexT[k]'(by rw [hexT_size]; exact hk)).toNat = b.toNat) : hexB b = k := by
  have := bytes_all (p := fun b => (List.range 16).all fun k => !(hexS[k]!.toNat == b.toNat || hexT[k]!.toNat == b.toNat) || hexB b == (k : Int)) (by kernel_rfl) b
  rw [List.all_eq_true] at this
  have := this k (List.mem_range.2 hk)
  rw [getElem!_pos hexS k (by rw [hexS_size]; exact hk), getElem!_pos hexT k (by rw [hexT_size]; exact hk)] at this
  simp only [Bool.or_eq_true, Bool.not_eq_true', Bool.or_eq_false_iff, beq_eq_false_iff_ne, ne_eq, beq_iff_eq] at this
  rcases this with ⟨h1, h2⟩ | h3
  · rcases h with h | h
    · exact absurd h h1
    · exact absurd h h2
  · exact h3
theorem hexB_no {b : UInt8} (h : ∀ k (hk : k < 16), (hexS[k]'(by rw [hexS_size]; exact hk)).toNat ≠ b.toNat ∧ (hexT[k]'(by rw [hexT_size]; exact hk)).toNat ≠ b.toNat) : hexB b = -1 := by
  have := bytes_all (p := fun b => (List.range 16).any (fun k => hexS[k]!.toNat == b.toNat || hexT[k]!.toNat == b.toNat) || hexB b == -1) (by kernel_rfl) b
  rw [Bool.or_eq_true] at this
  rcases this with h1 | h1
  · rw [List.any_eq_true] at h1
    obtain ⟨k, hk, e⟩ := h1
    have hk := List.mem_range.1 hk
    rw [getElem!_pos hexS k (by rw [hexS_size]; exact hk), getElem!_pos hexT k (by rw [hexT_size]; exact hk)] at e
    simp only [Bool.or_eq_true, beq_iff_eq] at e
    rcases e with e | e
    · exact absurd e (h k hk).1
    · exact absurd e (h k hk).2
  · exact beq_iff_eq.1 h1

theorem hexB_range (b : UInt8) : (-1 ≤ hexB b ∧ hexB b ≤ 15) := by
  have := bytes_all (p := fun b => decide (-1 ≤ hexB b) && decide (hexB b ≤ 15)) (by kernel_rfl) b
  simpa using this

end Go.Proofs.Ytbojbkpplejdmaa
namespace Go.Proofs.Ytbojbkpplejdmaa

/-- Where reading stands: a value is due; just behind [; just behind {; a name is due; a colon is due; behind a value; within a text (of a name?); within a number; within a word (what is left of it). -/
inductive Pj where
  | v | a | o | k | c | e
  | q (key : Bool) (n : Nat)
  | n (i : Nat)
  | w (x : UInt8) (l : List UInt8)
/-- What one byte makes of it: it goes on (with what is open), or can't, or is too deep. -/
inductive Sj where
  | go (p : Pj) (st : List Bool)
  | no
  | de
def behJ (st : List Bool) (b : UInt8) : Sj :=
  if whiB b then .go .e st else match st with
    | [] => .no
    | t :: r => if b == (if t then 125 else 93) then .go .e r else if b == 44 then .go (if t then .k else .v) st else .no
def begJ (D : Nat) (st : List Bool) (b : UInt8) : Sj :=
  if b == 91 then (if st.length < D then .go .a (false :: st) else .de)
  else if b == 123 then (if st.length < D then .go .o (true :: st) else .de)
  else if b == 34 then .go (.q false 0) st
  else if b == 45 then .go (.n 0) st
  else if b == 48 then .go (.n 2) st
  else if digB b then .go (.n 1) st
  else if b == 116 then .go (.w 114 [117, 101]) st
  else if b == 102 then .go (.w 97 [108, 115, 101]) st
  else if b == 110 then .go (.w 117 [108, 108]) st
  else .no
def escJ (b : UInt8) : Bool := [34, 92, 47, 98, 102, 110, 114, 116].contains b
/-- Within a text: 0 plain, 1 behind a backslash, 5 to 2: so many less one digits to come. none: wrong. -/
def quoN (n : Nat) (b : UInt8) : Option Nat :=
  match n with
  | 0 => if decide (b.toNat < 32) then none else if b == 92 then some 1 else some 0
  | 1 => if b == 117 then some 5 else if escJ b then some 0 else none
  | m + 2 => if decide (0 ≤ hexB b) then some (if m = 0 then 0 else m + 1) else none
def stepJ (D : Nat) (p : Pj) (st : List Bool) (b : UInt8) : Sj :=
  match p with
  | .v => if whiB b then .go .v st else begJ D st b
  | .a => if whiB b then .go .a st else if b == 93 then .go .e st.tail else begJ D st b
  | .o => if whiB b then .go .o st else if b == 125 then .go .e st.tail else if b == 34 then .go (.q true 0) st else .no
  | .k => if whiB b then .go .k st else if b == 34 then .go (.q true 0) st else .no
  | .c => if whiB b then .go .c st else if b == 58 then .go .v st else .no
  | .e => behJ st b
  | .q key n => if n == 0 && b == 34 then .go (if key then .c else .e) st else match quoN n b with
    | some m => .go (.q key m) st
    | none => .no
  | .n i => match i with
    | 0 => if b == 48 then .go (.n 2) st else if digB b then .go (.n 1) st else .no
    | 1 => if digB b then .go (.n 1) st else if b == 46 then .go (.n 3) st else if b == 101 || b == 69 then .go (.n 5) st else behJ st b
    | 2 => if b == 46 then .go (.n 3) st else if b == 101 || b == 69 then .go (.n 5) st else behJ st b
    | 3 => if digB b then .go (.n 4) st else .no
    | 4 => if digB b then .go (.n 4) st else if b == 101 || b == 69 then .go (.n 5) st else behJ st b
    | 5 => if b == 43 || b == 45 then .go (.n 6) st else if digB b then .go (.n 7) st else .no
    | 6 => if digB b then .go (.n 7) st else .no
    | _ => if digB b then .go (.n 7) st else behJ st b
  | .w x l => if b == x then .go (match l with | [] => .e | y :: r => .w y r) st else .no
/-- Is it whole, where it stands so? -/
def endJ (p : Pj) (st : List Bool) : Bool :=
  st.isEmpty && match p with
    | .e => true
    | .n i => i == 1 || i == 2 || i == 4 || decide (7 ≤ i)
    | _ => false
/-- The bytes gone by: where it stands, or the state and what lies from the wrong byte on. -/
def runJ (D : Nat) : Pj → List Bool → List UInt8 → Except (Int × List UInt8) (Pj × List Bool)
  | p, st, [] => .ok (p, st)
  | p, st, b :: l => match stepJ D p st b with
    | .go p' st' => runJ D p' st' l
    | .no => .error (0, b :: l)
    | .de => .error (3, b :: l)
/-- The state, and what lies from the wrong byte on. -/
def finJ : Except (Int × List UInt8) (Pj × List Bool) → Int × List UInt8
  | .ok (p, st) => (if endJ p st then 2 else 1, [])
  | .error r => r
def ansJ (D : Nat) (p : Pj) (st : List Bool) (l : List UInt8) : Int × List UInt8 := finJ (runJ D p st l)

theorem ans_nil (D : Nat) (p : Pj) (st : List Bool) : ansJ D p st [] = (if endJ p st then 2 else 1, []) := rfl
theorem ans_go {D : Nat} {p p' : Pj} {st st' : List Bool} {b : UInt8} {l : List UInt8} (h : stepJ D p st b = .go p' st') : ansJ D p st (b :: l) = ansJ D p' st' l := by
  unfold ansJ
  rw [runJ, h]
theorem ans_no {D : Nat} {p : Pj} {st : List Bool} {b : UInt8} {l : List UInt8} (h : stepJ D p st b = .no) : ansJ D p st (b :: l) = (0, b :: l) := by
  unfold ansJ
  rw [runJ, h]
  rfl
theorem ans_de {D : Nat} {p : Pj} {st : List Bool} {b : UInt8} {l : List UInt8} (h : stepJ D p st b = .de) : ansJ D p st (b :: l) = (3, b :: l) := by
  unfold ansJ
  rw [runJ, h]
  rfl

/-- Bytes behind bytes. -/
theorem run_app (D : Nat) : ∀ (x y : List UInt8) (p : Pj) (st : List Bool), runJ D p st (x ++ y) = match runJ D p st x with
    | .ok (p', st') => runJ D p' st' y
    | .error (s, r) => .error (s, r ++ y)
  | [], _, _, _ => rfl
  | b :: x, y, p, st => by
    rw [List.cons_append, runJ, runJ]
    cases h : stepJ D p st b with
    | go p' st' => exact run_app D x y p' st'
    | no => rfl
    | de => rfl
theorem run_bad (D : Nat) : ∀ (x : List UInt8) (p : Pj) (st : List Bool) (s : Int) (r : List UInt8), runJ D p st x = .error (s, r) → (s = 0 ∨ s = 3) ∧ r ≠ [] ∧ ∃ y, x = y ++ r
  | [], _, _, _, _, h => by cases h
  | b :: x, p, st, s, r, h => by
    rw [runJ] at h
    cases hs : stepJ D p st b with
    | go p' st' =>
      rw [hs] at h
      obtain ⟨h1, h2, y, h3⟩ := run_bad D x p' st' s r h
      exact ⟨h1, h2, b :: y, by rw [h3]; rfl⟩
    | no =>
      rw [hs] at h
      cases h
      exact ⟨Or.inl rfl, List.cons_ne_nil _ _, [], rfl⟩
    | de =>
      rw [hs] at h
      cases h
      exact ⟨Or.inr rfl, List.cons_ne_nil _ _, [], rfl⟩

/-- What parts is gone by. -/
def calmJ : Pj → Bool
  | .v => true
  | .a => true
  | .o => true
  | .k => true
  | .c => true
  | .e => true
  | _ => false
theorem ans_white (D : Nat) {p : Pj} (hp : calmJ p = true) (st : List Bool) : ∀ l, ansJ D p st l = ansJ D p st (l.dropWhile whiB)
  | [] => rfl
  | b :: l => by
    rw [List.dropWhile_cons]
    cases h : whiB b with
    | false => rfl
    | true =>
      rw [if_pos rfl, ← ans_white D hp st l]
      refine ans_go ?_
      cases p with
      | v => exact if_pos h
      | a => exact if_pos h
      | o => exact if_pos h
      | k => exact if_pos h
      | c => exact if_pos h
      | e => exact if_pos h
      | q _ _ => cases hp
      | n _ => cases hp
      | w _ _ => cases hp

/-- How reading a piece ends: at the end of all (it may go on), at a wrong byte, too deep, or well, with what is left. -/
inductive Ej where
  | op
  | bd (r : List UInt8)
  | dp (r : List UInt8)
  | wl (r : List UInt8)
def thenJ (D : Nat) (p : Pj) (st : List Bool) : Ej → Int × List UInt8
  | .op => (1, [])
  | .bd r => (0, r)
  | .dp r => (3, r)
  | .wl r => ansJ D p st r
/-- A text, as from the place in it that n tells. -/
def quoE : Nat → List UInt8 → Ej
  | _, [] => .op
  | n, b :: l => if n == 0 && b == 34 then .wl l else match quoN n b with
    | some m => quoE m l
    | none => .bd (b :: l)
theorem quo_end (D : Nat) (key : Bool) (st : List Bool) {n : Nat} {b : UInt8} (h : (n == 0 && b == 34) = true) : stepJ D (.q key n) st b = .go (if key then .c else .e) st := by
  show (if n == 0 && b == 34 then _ else _) = _
  rw [h]
  exact if_pos rfl
theorem quo_in (D : Nat) (key : Bool) (st : List Bool) {n : Nat} {b : UInt8} (h : (n == 0 && b == 34) = false) : stepJ D (.q key n) st b = match quoN n b with
    | some m => .go (.q key m) st
    | none => .no := by
  show (if n == 0 && b == 34 then _ else _) = _
  rw [h]
  exact if_neg (by decide)
theorem ans_quo (D : Nat) (key : Bool) (st : List Bool) : ∀ (l : List UInt8) (n : Nat), ansJ D (.q key n) st l = thenJ D (if key then .c else .e) st (quoE n l)
  | [], n => by
    show (if st.isEmpty && false then (2 : Int) else 1, ([] : List UInt8)) = _
    rw [Bool.and_false]
    rfl
  | b :: l, n => by
    rw [quoE]
    cases h : (n == 0 && b == 34) with
    | true => exact ans_go (quo_end D key st h)
    | false =>
      have h1 := quo_in D key st h
      cases h2 : quoN n b with
      | some m =>
        rw [h2] at h1
        exact (ans_go h1).trans (ans_quo D key st l m)
      | none =>
        rw [h2] at h1
        exact ans_no h1
/-- A word, what is left of it. -/
def worE : List UInt8 → List UInt8 → Ej
  | [], l => .wl l
  | _ :: _, [] => .op
  | x :: r, b :: l => if b == x then worE r l else .bd (b :: l)
theorem ans_wor (D : Nat) (st : List Bool) : ∀ (l r : List UInt8) (x : UInt8), ansJ D (.w x r) st l = thenJ D .e st (worE (x :: r) l)
  | [], r, x => by
    show (if st.isEmpty && false then (2 : Int) else 1, ([] : List UInt8)) = _
    rw [Bool.and_false]
    rfl
  | b :: l, r, x => by
    rw [worE]
    cases h : (b == x) with
    | false => exact ans_no (show (if b == x then _ else _) = _ from by rw [h]; rfl)
    | true =>
      cases r with
      | nil => exact ans_go (show (if b == x then _ else _) = _ from by rw [h]; rfl)
      | cons y r => exact (ans_go (show stepJ D (.w x (y :: r)) st b = .go (.w y r) st from by show (if b == x then _ else _) = _; rw [h]; rfl)).trans (ans_wor D st l r y)
/-- A number, as from the place in it that i tells. -/
def numE : Nat → List UInt8 → Ej
  | i, [] => if i == 1 || i == 2 || i == 4 || decide (7 ≤ i) then .wl [] else .op
  | 0, b :: l => if b == 48 then numE 2 l else if digB b then numE 1 l else .bd (b :: l)
  | 1, b :: l => if digB b then numE 1 l else if b == 46 then numE 3 l else if b == 101 || b == 69 then numE 5 l else .wl (b :: l)
  | 2, b :: l => if b == 46 then numE 3 l else if b == 101 || b == 69 then numE 5 l else .wl (b :: l)
  | 3, b :: l => if digB b then numE 4 l else .bd (b :: l)
  | 4, b :: l => if digB b then numE 4 l else if b == 101 || b == 69 then numE 5 l else .wl (b :: l)
  | 5, b :: l => if b == 43 || b == 45 then numE 6 l else if digB b then numE 7 l else .bd (b :: l)
  | 6, b :: l => if digB b then numE 7 l else .bd (b :: l)
  | _ + 7, b :: l => if digB b then numE 7 l else .wl (b :: l)
theorem ans_beh (D : Nat) (p : Pj) (st : List Bool) (b : UInt8) (l : List UInt8) (h : stepJ D p st b = behJ st b) : ansJ D p st (b :: l) = ansJ D .e st (b :: l) := by
  unfold ansJ
  rw [runJ, runJ, h]
  rfl
theorem num_end (D : Nat) (st : List Bool) (i : Nat) : ansJ D (.n i) st [] = thenJ D .e st (numE i []) := by
  rw [numE]
  show (if st.isEmpty && (i == 1 || i == 2 || i == 4 || decide (7 ≤ i)) then (2 : Int) else 1, ([] : List UInt8)) = _
  cases (i == 1 || i == 2 || i == 4 || decide (7 ≤ i)) with
  | true => rfl
  | false => rw [Bool.and_false]; rfl
theorem ans_num (D : Nat) (st : List Bool) : ∀ (l : List UInt8) (i : Nat), ansJ D (.n i) st l = thenJ D .e st (numE i l)
  | [], i => num_end D st i
  | b :: l, 0 => by
    rw [numE]
    cases h : (b == 48) with
    | true => exact (ans_go (show stepJ D (.n 0) st b = .go (.n 2) st from by show (if b == 48 then _ else _) = _; rw [h]; rfl)).trans (ans_num D st l 2)
    | false =>
      cases h2 : digB b with
      | true => exact (ans_go (show stepJ D (.n 0) st b = .go (.n 1) st from by show (if b == 48 then _ else if digB b then _ else _) = _; rw [h, h2]; rfl)).trans (ans_num D st l 1)
      | false => exact ans_no (show stepJ D (.n 0) st b = .no from by show (if b == 48 then _ else if digB b then _ else _) = _; rw [h, h2]; rfl)
  | b :: l, 1 => by
    rw [numE]
    cases h : digB b with
    | true => exact (ans_go (show stepJ D (.n 1) st b = .go (.n 1) st from by show (if digB b then _ else _) = _; rw [h]; rfl)).trans (ans_num D st l 1)
    | false =>
      cases h2 : (b == 46) with
      | true => exact (ans_go (show stepJ D (.n 1) st b = .go (.n 3) st from by show (if digB b then _ else if b == 46 then _ else _) = _; rw [h, h2]; rfl)).trans (ans_num D st l 3)
      | false =>
        cases h3 : (b == 101 || b == 69) with
        | true => exact (ans_go (show stepJ D (.n 1) st b = .go (.n 5) st from by show (if digB b then _ else if b == 46 then _ else if b == 101 || b == 69 then _ else _) = _; rw [h, h2, h3]; rfl)).trans (ans_num D st l 5)
        | false => exact ans_beh D (.n 1) st b l (by show (if digB b then _ else if b == 46 then _ else if b == 101 || b == 69 then _ else _) = _; rw [h, h2, h3]; rfl)
  | b :: l, 2 => by
    rw [numE]
    cases h2 : (b == 46) with
    | true => exact (ans_go (show stepJ D (.n 2) st b = .go (.n 3) st from by show (if b == 46 then _ else _) = _; rw [h2]; rfl)).trans (ans_num D st l 3)
    | false =>
      cases h3 : (b == 101 || b == 69) with
      | true => exact (ans_go (show stepJ D (.n 2) st b = .go (.n 5) st from by show (if b == 46 then _ else if b == 101 || b == 69 then _ else _) = _; rw [h2, h3]; rfl)).trans (ans_num D st l 5)
      | false => exact ans_beh D (.n 2) st b l (by show (if b == 46 then _ else if b == 101 || b == 69 then _ else _) = _; rw [h2, h3]; rfl)
  | b :: l, 3 => by
    rw [numE]
    cases h : digB b with
    | true => exact (ans_go (show stepJ D (.n 3) st b = .go (.n 4) st from by show (if digB b then _ else _) = _; rw [h]; rfl)).trans (ans_num D st l 4)
    | false => exact ans_no (show stepJ D (.n 3) st b = .no from by show (if digB b then _ else _) = _; rw [h]; rfl)
  | b :: l, 4 => by
    rw [numE]
    cases h : digB b with
    | true => exact (ans_go (show stepJ D (.n 4) st b = .go (.n 4) st from by show (if digB b then _ else _) = _; rw [h]; rfl)).trans (ans_num D st l 4)
    | false =>
      cases h3 : (b == 101 || b == 69) with
      | true => exact (ans_go (show stepJ D (.n 4) st b = .go (.n 5) st from by show (if digB b then _ else if b == 101 || b == 69 then _ else _) = _; rw [h, h3]; rfl)).trans (ans_num D st l 5)
      | false => exact ans_beh D (.n 4) st b l (by show (if digB b then _ else if b == 101 || b == 69 then _ else _) = _; rw [h, h3]; rfl)
  | b :: l, 5 => by
    rw [numE]
    cases h3 : (b == 43 || b == 45) with
    | true => exact (ans_go (show stepJ D (.n 5) st b = .go (.n 6) st from by show (if b == 43 || b == 45 then _ else _) = _; rw [h3]; rfl)).trans (ans_num D st l 6)
    | false =>
      cases h : digB b with
      | true => exact (ans_go (show stepJ D (.n 5) st b = .go (.n 7) st from by show (if b == 43 || b == 45 then _ else if digB b then _ else _) = _; rw [h3, h]; rfl)).trans (ans_num D st l 7)
      | false => exact ans_no (show stepJ D (.n 5) st b = .no from by show (if b == 43 || b == 45 then _ else if digB b then _ else _) = _; rw [h3, h]; rfl)
  | b :: l, 6 => by
    rw [numE]
    cases h : digB b with
    | true => exact (ans_go (show stepJ D (.n 6) st b = .go (.n 7) st from by show (if digB b then _ else _) = _; rw [h]; rfl)).trans (ans_num D st l 7)
    | false => exact ans_no (show stepJ D (.n 6) st b = .no from by show (if digB b then _ else _) = _; rw [h]; rfl)
  | b :: l, i + 7 => by
    rw [numE]
    cases h : digB b with
    | true => exact (ans_go (show stepJ D (.n (i + 7)) st b = .go (.n 7) st from by show (if digB b then _ else _) = _; rw [h]; rfl)).trans (ans_num D st l 7)
    | false => exact ans_beh D (.n (i + 7)) st b l (by show (if digB b then _ else _) = _; rw [h]; rfl)
end Go.Proofs.Ytbojbkpplejdmaa
