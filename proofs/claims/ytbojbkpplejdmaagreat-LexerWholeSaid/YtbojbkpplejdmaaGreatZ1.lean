/-
  Plain facts on runs of bytes. No condition.
  Plain facts on single bytes, as layer 3 parts them. No condition.
  Plain facts on layer 28: bytes that come one behind another, and whether they are a script's pieces, may go on, or can't be (stepH: what one byte makes of where reading stands; runH: all bytes). No condition.
-/
import Derived.KernelRfl
import Derived.Laws.Externs
namespace Go.Proofs.YtbojbkpplejdmaaGreat

/-- The first place from i on at which p does not hold, or the end. -/
def scan (p : UInt8 → Bool) (s : ByteArray) (i : Nat) : Nat := i + ((s.data.toList.drop i).takeWhile p).length

theorem drop_cons (s : ByteArray) (i : Nat) (h : i < s.size) : s.data.toList.drop i = s[i] :: s.data.toList.drop (i + 1) := by
  rw [List.drop_eq_getElem_cons (by simpa using h)]; rfl
theorem scan_step {p : UInt8 → Bool} {s : ByteArray} {i : Nat} (h : i < s.size) (hp : p s[i] = true) : scan p s (i + 1) = scan p s i := by
  unfold scan
  rw [drop_cons s i h, List.takeWhile_cons, if_pos hp, List.length_cons]
  omega
theorem scan_stop {p : UInt8 → Bool} {s : ByteArray} {i : Nat} (h : i < s.size) (hp : p s[i] = false) : scan p s i = i := by
  unfold scan
  rw [drop_cons s i h, List.takeWhile_cons, if_neg (by simp [hp])]
  simp
theorem scan_end {p : UInt8 → Bool} {s : ByteArray} {i : Nat} (h : i = s.size) : scan p s i = i := by
  unfold scan
  rw [List.drop_of_length_le (by rw [h]; simp)]
  simp
theorem scan_ge (p : UInt8 → Bool) (s : ByteArray) (i : Nat) : i ≤ scan p s i := by unfold scan; omega
theorem scan_le (p : UInt8 → Bool) (s : ByteArray) (i : Nat) (h : i ≤ s.size) : scan p s i ≤ s.size := by
  unfold scan
  have h1 := (List.takeWhile_sublist (l := s.data.toList.drop i) p).length_le
  have h2 : s.data.toList.length = s.size := by simp
  rw [List.length_drop] at h1
  omega

theorem take_snoc (s : ByteArray) (k : Nat) (h : k < s.size) : s.data.toList.take (k + 1) = s.data.toList.take k ++ [s[k]] := by
  rw [List.take_succ_eq_append_getElem (by simpa using h)]; rfl

def lowerB (b : UInt8) : Bool := decide (97 ≤ b.toNat) && decide (b.toNat ≤ 122)

/-- Whether a byte is among some. -/
def hasB (t : ByteArray) (b : UInt8) : Bool := t.data.toList.contains b
theorem hasB_at {t : ByteArray} {b : UInt8} {i : Nat} (h : i < t.size) (e : t[i] = b) : hasB t b = true := by
  unfold hasB
  rw [List.contains_iff_mem]
  subst e
  exact List.getElem_mem (l := t.data.toList) (by simpa using h)
theorem hasB_no {t : ByteArray} {b : UInt8} (h : ∀ i (hi : i < t.size), t[i] ≠ b) : hasB t b = false := by
  unfold hasB
  rw [Bool.eq_false_iff]
  intro hc
  rw [List.contains_iff_mem] at hc
  obtain ⟨i, hi, e⟩ := List.getElem_of_mem hc
  exact h i (by simpa using hi) e

end Go.Proofs.YtbojbkpplejdmaaGreat
namespace Go.Proofs.YtbojbkpplejdmaaGreat

/-- What holds of all 256 bytes, by trying them. -/
theorem bytes_all {p : UInt8 → Bool} (h : (List.range 256).all (fun n => p (UInt8.ofNat n)) = true) (b : UInt8) : p b = true := by
  rw [List.all_eq_true] at h
  have := h b.toNat (List.mem_range.2 b.toNat_lt)
  simpa using this

def lowB (b : UInt8) : UInt8 := if decide (65 ≤ b.toNat) && decide (b.toNat ≤ 90) then UInt8.ofNat (b.toNat + 32) else b
def digB (b : UInt8) : Bool := decide (48 ≤ b.toNat) && decide (b.toNat ≤ 57)
def letB (b : UInt8) : Bool := lowerB (lowB b)
def tabB (b : UInt8) : Bool := b.toNat == 9 || b.toNat == 32
def whiB (b : UInt8) : Bool := tabB b || b.toNat == 10 || b.toNat == 13
/-- The number of a digit to the base 16, or -1. -/
def hexB (b : UInt8) : Int := if digB b then (b.toNat : Int) - 48 else if decide (97 ≤ (lowB b).toNat) && decide ((lowB b).toNat ≤ 102) then ((lowB b).toNat : Int) - 87 else -1

theorem letB_eq (b : UInt8) : letB b = (decide (97 ≤ b.toNat) && decide (b.toNat ≤ 122) || decide (65 ≤ b.toNat) && decide (b.toNat ≤ 90)) := by
  have := bytes_all (p := fun b => letB b == (decide (97 ≤ b.toNat) && decide (b.toNat ≤ 122) || decide (65 ≤ b.toNat) && decide (b.toNat ≤ 90))) (by kernel_rfl) b
  exact beq_iff_eq.1 this
def hexS : ByteArray := ⟨#[48, 49, 50, 51, 52, 53, 54, 55, 56, 57, 97, 98, 99, 100, 101, 102]⟩
def hexT : ByteArray := ⟨#[48, 49, 50, 51, 52, 53, 54, 55, 56, 57, 65, 66, 67, 68, 69, 70]⟩
theorem hexS_size : hexS.size = 16 := rfl
theorem hexT_size : hexT.size = 16 := rfl
theorem hexB_at {b : UInt8} {k : Nat} (hk : k < 16) (h : (hexS[k]'(by rw [hexS_size]; exact hk)).toNat = b.toNat ∨ (hexT[k]'(by rw [hexT_size]; exact hk)).toNat = b.toNat) : hexB b = k := by
  have := bytes_all (p := fun b => (List.range 16).all fun k => !(hexS[k]!.toNat == b.toNat || hexT[k]!.toNat == b.toNat) || hexB b == (k : Int)) (by kernel_rfl) b
  rw [List.all_eq_true] at this
  have := this k (List.mem_range.2 hk)
  rw [getElem!_pos hexS k (by rw [hexS_size]; exact hk), getElem!_pos hexT k (by rw [hexT_size]; exact hk)] at this
  simp only [Bool.or_eq_true, Bool.not_eq_true', Bool.or_eq_false_iff, beq_eq_false_iff_ne, ne_eq, beq_iff_eq] at this
  rcases this with ⟨h1, h2⟩ | h3
  · rcases h with h | h
    · exact absurd h h1
    · exact absurd h h2
  · exact h3
theorem hexB_no {b : UInt8} (h : ∀ k (hk : k < 16), (hexS[k]'(by rw [hexS_size]; exact hk)).toNat ≠ b.toNat ∧ (hexT[k]'(by rw [hexT_size]; exact hk)).toNat ≠ b.toNat) : hexB b = -1 := by
  have := bytes_all (p := fun b => (List.range 16).any (fun k => hexS[k]!.toNat == b.toNat || hexT[k]!.toNat == b.toNat) || hexB b == -1) (by kernel_rfl) b
  rw [Bool.or_eq_true] at this
  rcases this with h1 | h1
  · rw [List.any_eq_true] at h1
    obtain ⟨k, hk, e⟩ := h1
    have hk := List.mem_range.1 hk
    rw [getElem!_pos hexS k (by rw [hexS_size]; exact hk), getElem!_pos hexT k (by rw [hexT_size]; exact hk)] at e
    simp only [Bool.or_eq_true, beq_iff_eq] at e
    rcases e with e | e
    · exact absurd e (h k hk).1
    · exact absurd e (h k hk).2
  · exact beq_iff_eq.1 h1

theorem hexB_range (b : UInt8) : (-1 ≤ hexB b ∧ hexB b ≤ 15) := by
  have := bytes_all (p := fun b => decide (-1 ≤ hexB b) && decide (hexB b ≤ 15)) (by kernel_rfl) b
  simpa using this

end Go.Proofs.YtbojbkpplejdmaaGreat
namespace Go.Proofs.YtbojbkpplejdmaaGreat

def lineB (b : UInt8) : Bool := b == 10 || b == 13
def innB (b : UInt8) : Bool := letB b || digB b || b == 95 || b == 36 || decide (127 < b.toNat)
def blkB (b : UInt8) : Bool := (decide (9 ≤ b.toNat) && decide (b.toNat ≤ 13)) || b == 32
def opnH (b : UInt8) : Bool := [40, 91, 123].contains b
def cloB (b : UInt8) : Bool := [41, 93, 125].contains b
def sgnH (b : UInt8) : Bool := [123, 125, 40, 41, 91, 93, 59, 44, 60, 62, 61, 33, 43, 45, 42, 37, 38, 124, 94, 126, 63, 58, 46].contains b
/-- A script's own words. -/
def kwdL : List (List UInt8) := [[97, 119, 97, 105, 116], [98, 114, 101, 97, 107], [99, 97, 115, 101], [99, 97, 116, 99, 104], [99, 108, 97, 115, 115], [99, 111, 110, 115, 116], [99, 111, 110, 116, 105, 110, 117, 101], [100, 101, 102, 97, 117, 108, 116], [100, 101, 108, 101, 116, 101], [100, 111], [101, 108, 115, 101], [101, 120, 112, 111, 114, 116], [101, 120, 116, 101, 110, 100, 115], [102, 105, 110, 97, 108, 108, 121], [102, 111, 114], [102, 114, 111, 109], [102, 117, 110, 99, 116, 105, 111, 110], [103, 101, 116], [105, 102], [105, 109, 112, 111, 114, 116], [105, 110], [105, 110, 115, 116, 97, 110, 99, 101, 111, 102], [108, 101, 116], [110, 101, 119], [111, 102], [114, 101, 116, 117, 114, 110], [115, 101, 116], [115, 116, 97, 116, 105, 99], [115, 119, 105, 116, 99, 104], [116, 104, 114, 111, 119], [116, 114, 121], [116, 121, 112, 101, 111, 102], [118, 97, 114], [118, 111, 105, 100], [119, 104, 105, 108, 101], [119, 105, 116, 104], [121, 105, 101, 108, 100], [97, 115, 121, 110, 99], [97, 115]]
def kwdH (l : List UInt8) : Bool := kwdL.any (fun k => k == l)

/-- What stands last (0 neither, 1 a value, 2 a brace), whether a line ended since, what is open (the innermost first), how many pieces and ends. -/
structure Hs where
  last : Nat
  br : Bool
  op : List UInt8
  pc : Nat
  en : Nat
/-- Where reading stands: between pieces; in a word (begun by a digit? its bytes); in a text; in one between graves (behind a backslash? behind a $?); in a pattern (behind a backslash? in brackets?); behind a pattern; behind a slash; in a line's remark; in one that a star and a slash end (behind a star?); in <!--. -/
inductive Hp where
  | z
  | w (dig : Bool) (acc : List UInt8)
  | t (by_ : UInt8) (esc : Bool)
  | g (esc dol : Bool)
  | p (esc inb : Bool)
  | f
  | s
  | l
  | k (star : Bool)
  | x (i : Nat)
inductive Sh where
  | go (p : Hp) (h : Hs)
  | no (h : Hs)
def endH (h : Hs) (n : Nat) : Hs := { h with last := n, br := false }
def joiH (h : Hs) : Bool := h.last == 1 && !h.br
def pcH (h : Hs) : Hs := { h with pc := h.pc + 1 }
def brH (h : Hs) (b : UInt8) : Hs := { h with br := h.br || lineB b }
def worH (h : Hs) (acc : List UInt8) : Hs := endH h (if kwdH acc then 0 else 1)
/-- A sign, counted already. -/
def sigH (D : Nat) (h : Hs) (b : UInt8) : Sh :=
  if opnH b then (if h.op.length == D then .no h else .go .z (endH { h with op := b :: h.op } 0))
  else if !cloB b then .go .z (endH { h with en := h.en + (if b == 59 && h.op.isEmpty then 1 else 0) } 0)
  else match h.op with
    | [] => .no h
    | o :: r => if b == 125 && o == 36 then .go (.g false false) { h with op := r }
      else if (b == 41 && o == 40) || (b == 93 && o == 91) || (b == 125 && o == 123) then
        (if b == 125 then .go .z (endH { h with op := r, en := h.en + (if r.isEmpty then 1 else 0) } 2) else .go .z (endH { h with op := r } 1))
      else .no h
/-- What a byte begins, where no piece is under way. -/
def begH (D : Nat) (h : Hs) (b : UInt8) : Sh :=
  if blkB b then .go .z (brH h b)
  else if innB b then (if joiH h then .no h else .go (.w (digB b) [b]) (pcH h))
  else if b == 34 || b == 39 then (if joiH h then .no h else .go (.t b false) (pcH h))
  else if b == 96 then .go (.g false false) (pcH h)
  else if b == 47 then .go .s h
  else if b == 60 && h.pc == 0 then .go (.x 1) h
  else if sgnH b then sigH D (pcH h) b
  else .no h
def texH (h : Hs) (y : UInt8) (b : UInt8) : Sh :=
  if b == 92 then .go (.t y true) h else if lineB b then .no h else if b == y then .go .z (endH h 1) else .go (.t y false) h
def graH (h : Hs) (b : UInt8) : Sh :=
  if b == 92 then .go (.g true false) h else if b == 96 then .go .z (endH h 1) else if b == 36 then .go (.g false true) h else .go (.g false false) h
def patH (h : Hs) (inb : Bool) (b : UInt8) : Sh :=
  if b == 92 then .go (.p true inb) h else if lineB b then .no h else if b == 47 && !inb then .go .f (endH h 1)
  else if b == 91 then .go (.p false true) h else if b == 93 then .go (.p false false) h else .go (.p false inb) h
def minH (i : Nat) : UInt8 := if i == 1 then 33 else 45
def stepH (D : Nat) (p : Hp) (h : Hs) (b : UInt8) : Sh :=
  match p with
  | .z => begH D h b
  | .w dig acc => if innB b || (dig && b == 46) then .go (.w dig (acc ++ [b])) h else begH D (worH h acc) b
  | .t y esc => if esc then .go (.t y false) h else texH h y b
  | .g esc dol => if esc then .go (.g false false) h
    else if dol && b == 123 then (if h.op.length == D then .no h else .go .z (endH { h with op := 36 :: h.op } 0))
    else graH h b
  | .p esc inb => if esc then .go (.p false inb) h else patH h inb b
  | .f => if innB b then .go .f h else begH D h b
  | .s => if b == 47 then .go .l h else if b == 42 then .go (.k false) h
    else if h.last != 0 then begH D (endH (pcH h) 0) b else patH (pcH h) false b
  | .l => if lineB b then .go .z { h with br := true } else .go .l h
  | .k star => if star && b == 47 then .go .z h else .go (.k (b == 42)) (brH h b)
  | .x i => if b == minH i then (if i == 3 then .go .l h else .go (.x (i + 1)) h) else .no h
/-- The bytes gone by: where it stands, or what was so at the bad byte and what lies from it on. -/
inductive Rh where
  | ok (p : Hp) (h : Hs)
  | bad (h : Hs) (r : List UInt8)
def runH (D : Nat) : Hp → Hs → List UInt8 → Rh
  | p, h, [] => .ok p h
  | p, h, b :: l => match stepH D p h b with
    | .go p' h' => runH D p' h' l
    | .no h' => .bad h' (b :: l)
theorem runH_go {D : Nat} {p p' : Hp} {h h' : Hs} {b : UInt8} {l : List UInt8} (e : stepH D p h b = .go p' h') : runH D p h (b :: l) = runH D p' h' l := by rw [runH, e]
theorem runH_no {D : Nat} {p : Hp} {h h' : Hs} {b : UInt8} {l : List UInt8} (e : stepH D p h b = .no h') : runH D p h (b :: l) = .bad h' (b :: l) := by rw [runH, e]
theorem runH_app (D : Nat) : ∀ (x y : List UInt8) (p : Hp) (h : Hs), runH D p h (x ++ y) = match runH D p h x with
    | .ok p' h' => runH D p' h' y
    | .bad h' r => .bad h' (r ++ y)
  | [], _, _, _ => rfl
  | b :: x, y, p, h => by
    rw [List.cons_append, runH, runH]
    cases e : stepH D p h b with
    | go p' h' => exact runH_app D x y p' h'
    | no h' => rfl
theorem runH_bad (D : Nat) : ∀ (x : List UInt8) (p : Hp) (h h' : Hs) (r : List UInt8), runH D p h x = .bad h' r → r ≠ [] ∧ ∃ y, x = y ++ r
  | [], _, _, _, _, e => by cases e
  | b :: x, p, h, h', r, e => by
    rw [runH] at e
    cases es : stepH D p h b with
    | go p' h2 =>
      rw [es] at e
      obtain ⟨h3, y, h4⟩ := runH_bad D x p' h2 h' r e
      exact ⟨h3, b :: y, by rw [h4]; rfl⟩
    | no h2 =>
      rw [es] at e
      cases e
      exact ⟨List.cons_ne_nil _ _, [], rfl⟩

/-! Ends are never less, and no more are open than may be. -/
def ofS : Sh → Hs
  | .go _ h => h
  | .no h => h
def ofR : Rh → Hs
  | .ok _ h => h
  | .bad h _ => h
theorem sig_en (D : Nat) (h : Hs) (b : UInt8) : h.en ≤ (ofS (sigH D h b)).en := by
  unfold sigH
  repeat' split
  all_goals first
    | exact Nat.le_refl _
    | exact Nat.le_add_right _ _
theorem beg_en (D : Nat) (h : Hs) (b : UInt8) : h.en ≤ (ofS (begH D h b)).en := by
  unfold begH
  repeat' split
  all_goals first
    | exact Nat.le_refl _
    | exact sig_en D (pcH h) b
theorem pat_en (h : Hs) (i : Bool) (b : UInt8) : h.en ≤ (ofS (patH h i b)).en := by
  unfold patH
  repeat' split
  all_goals exact Nat.le_refl _
theorem step_en (D : Nat) (p : Hp) (h : Hs) (b : UInt8) : h.en ≤ (ofS (stepH D p h b)).en := by
  unfold stepH texH graH
  repeat' split
  all_goals first
    | exact Nat.le_refl _
    | exact beg_en D h b
    | exact beg_en D (worH h _) b
    | exact beg_en D (endH (pcH h) 0) b
    | exact pat_en h _ b
    | exact pat_en (pcH h) _ b
theorem run_en (D : Nat) : ∀ (l : List UInt8) (p : Hp) (h : Hs), h.en ≤ (ofR (runH D p h l)).en
  | [], _, _ => Nat.le_refl _
  | b :: l, p, h => by
    have h1 := step_en D p h b
    cases e : stepH D p h b with
    | go p' h' =>
      rw [runH_go e]
      rw [e] at h1
      exact Nat.le_trans h1 (run_en D l p' h')
    | no h' =>
      rw [runH_no e]
      rw [e] at h1
      exact h1
end Go.Proofs.YtbojbkpplejdmaaGreat
