/-
  Plain facts on layer 28: piece by piece, as the document's own side reads (nextO, readO), and that it comes to the same as byte behind byte (readO_ok). No condition.
  Plain facts on layer 28: all of it piece by piece (readO, by fuel) comes to the same as byte behind byte (readO_ok); what is told of all bytes (tolH, staH, plaH), and that what is bad stays so. No condition.
  Plain facts on layer 27: bytes that come one behind another, and whether they are JSON, may begin it, or can't (ansJ: the state, and what lies from the first wrong byte on); what is gone by within a text, a number, a word. No condition.
-/
import Derived.Test.YtbojbkpplejdmaaGreatZ1
namespace Go.Proofs.YtbojbkpplejdmaaGreat

/-- What is told: from the bad byte on (none: none is bad); whether the end lies within something; what is open; pieces, ends. -/
abbrev Th := Option (List UInt8) × Bool × List UInt8 × Nat × Nat
def winH : Hp → Bool
  | .t _ _ => true
  | .g _ _ => true
  | .p _ _ => true
  | .s => true
  | .k _ => true
  | .x _ => true
  | _ => false
def telH : Rh → Th
  | .ok p h => (none, winH p, h.op, h.pc, h.en)
  | .bad h r => (some r, false, h.op, h.pc, h.en)
/-- How reading a piece ends: it goes on with what is left; at a bad byte; within it. -/
inductive Ho where
  | on (h : Hs) (r : List UInt8)
  | bad (h : Hs) (r : List UInt8)
  | win (h : Hs)
def telO (D : Nat) : Ho → Th
  | .on h r => telH (runH D .z h r)
  | .bad h r => (some r, false, h.op, h.pc, h.en)
  | .win h => (none, true, h.op, h.pc, h.en)

/-! A word, and what stands behind a pattern. -/
def wpB (dig : Bool) (b : UInt8) : Bool := innB b || (dig && b == 46)
theorem word_ok (D : Nat) (dig : Bool) (h : Hs) : ∀ (l acc : List UInt8), telH (runH D (.w dig acc) h l) = telH (runH D .z (worH h (acc ++ l.takeWhile (wpB dig))) (l.dropWhile (wpB dig)))
  | [], acc => by
    rw [List.takeWhile_nil, List.dropWhile_nil, List.append_nil]
    rfl
  | b :: l, acc => by
    cases e : wpB dig b with
    | true =>
      rw [List.takeWhile_cons, List.dropWhile_cons, e, if_pos rfl, if_pos rfl, runH_go (show stepH D (.w dig acc) h b = .go (.w dig (acc ++ [b])) h from if_pos e), word_ok D dig h l (acc ++ [b])]
      rw [List.append_assoc, List.singleton_append]
    | false =>
      rw [List.takeWhile_cons, List.dropWhile_cons, e, if_neg (by decide), if_neg (by decide), List.append_nil]
      have e2 : stepH D (.w dig acc) h b = stepH D .z (worH h acc) b := if_neg (by rw [show (innB b || (dig && b == 46)) = false from e]; decide)
      rw [runH, runH, e2]
theorem flag_ok (D : Nat) (h : Hs) : ∀ l : List UInt8, telH (runH D .f h l) = telH (runH D .z h (l.dropWhile innB))
  | [] => rfl
  | b :: l => by
    rw [List.dropWhile_cons]
    cases e : innB b with
    | true =>
      rw [if_pos rfl, runH_go (show stepH D .f h b = .go .f h from if_pos e)]
      exact flag_ok D h l
    | false =>
      have e2 : stepH D .f h b = stepH D .z h b := if_neg (by rw [e]; decide)
      rw [if_neg (by decide), runH, runH, e2]

/-! Remarks. -/
def lineO (h : Hs) : List UInt8 → Ho
  | [] => .on h []
  | b :: l => if lineB b then .on { h with br := true } l else lineO h l
theorem line_ok (D : Nat) (h : Hs) : ∀ l : List UInt8, telH (runH D .l h l) = telO D (lineO h l)
  | [] => rfl
  | b :: l => by
    rw [lineO]
    cases e : lineB b with
    | true =>
      rw [if_pos rfl, runH_go (show stepH D .l h b = .go .z { h with br := true } from if_pos e)]
      rfl
    | false =>
      rw [if_neg (by decide), runH_go (show stepH D .l h b = .go .l h from if_neg (by rw [e]; decide))]
      exact line_ok D h l
def blockO : Hs → List UInt8 → Ho
  | h, [] => .win h
  | h, b :: l => if b == 42 && l.head? == some 47 then .on h l.tail else blockO (brH h b) l
theorem brH_no {h : Hs} {b : UInt8} (e : lineB b = false) : brH h b = h := by
  unfold brH
  rw [e, Bool.or_false]
theorem block_ok (D : Nat) : ∀ (l : List UInt8) (h : Hs), telH (runH D (.k false) h l) = telO D (blockO h l) ∧ telH (runH D (.k true) h l) = telO D (if l.head? == some 47 then .on h l.tail else blockO h l)
  | [], h => ⟨rfl, rfl⟩
  | b :: l, h => by
    have h1 : telH (runH D (.k (b == 42)) (brH h b) l) = telO D (blockO h (b :: l)) := by
      rw [blockO]
      cases e : (b == 42) with
      | true =>
        have hb : b = 42 := eq_of_beq e
        subst hb
        rw [brH_no (h := h) (b := 42) rfl, (block_ok D l h).2]
        cases l.head? == some 47 <;> rfl
      | false => exact (block_ok D l (brH h b)).1
    refine ⟨?_, ?_⟩
    · rw [runH_go (show stepH D (.k false) h b = .go (.k (b == 42)) (brH h b) from rfl)]
      exact h1
    · cases e : (b == 47) with
      | true =>
        have hb : b = 47 := eq_of_beq e
        subst hb
        rw [runH_go (show stepH D (.k true) h 47 = .go .z h from rfl)]
        rfl
      | false =>
        rw [runH_go (show stepH D (.k true) h b = .go (.k (b == 42)) (brH h b) from if_neg (by rw [e]; decide)), h1]
        rw [if_neg (show ¬ ((b :: l).head? == some 47) = true from by rw [List.head?_cons]; simpa using e)]

/-! Texts. -/
def quoteO (y : UInt8) (h : Hs) : List UInt8 → Ho
  | [] => .win h
  | b :: l => if b == 92 then (match l with
      | [] => .win h
      | _ :: l' => quoteO y h l') else if lineB b then .bad h (b :: l) else if b == y then .on (endH h 1) l else quoteO y h l
theorem quoteO_cons (y : UInt8) (h : Hs) (b : UInt8) (l : List UInt8) : quoteO y h (b :: l) = if b == 92 then (match l with
      | [] => .win h
      | _ :: l' => quoteO y h l') else if lineB b then .bad h (b :: l) else if b == y then .on (endH h 1) l else quoteO y h l := by cases l <;> rfl
theorem quote_ok (D : Nat) (y : UInt8) (h : Hs) : ∀ l : List UInt8, telH (runH D (.t y false) h l) = telO D (quoteO y h l)
  | [] => rfl
  | b :: l => by
    rw [quoteO_cons]
    have hs : stepH D (.t y false) h b = texH h y b := rfl
    unfold texH at hs
    cases e1 : (b == 92) with
    | true =>
      rw [e1, if_pos rfl] at hs
      rw [if_pos rfl, runH_go hs]
      match l with
      | [] => rfl
      | c :: l' =>
        rw [runH_go (show stepH D (.t y true) h c = .go (.t y false) h from rfl)]
        exact quote_ok D y h l'
    | false =>
      rw [e1, if_neg (by decide)] at hs
      rw [if_neg (by decide)]
      cases e2 : lineB b with
      | true =>
        rw [e2, if_pos rfl] at hs
        rw [if_pos rfl, runH_no hs]
        rfl
      | false =>
        rw [e2, if_neg (by decide)] at hs
        rw [if_neg (by decide)]
        cases e3 : (b == y) with
        | true =>
          rw [e3, if_pos rfl] at hs
          rw [if_pos rfl, runH_go hs]
          rfl
        | false =>
          rw [e3, if_neg (by decide)] at hs
          rw [if_neg (by decide), runH_go hs]
          exact quote_ok D y h l
def dolO (D : Nat) (h : Hs) (l : List UInt8) : Ho := if h.op.length == D then .bad h l else .on (endH { h with op := 36 :: h.op } 0) l.tail
def graveO (D : Nat) (h : Hs) : List UInt8 → Ho
  | [] => .win h
  | b :: l => if b == 92 then (match l with
      | [] => .win h
      | _ :: l' => graveO D h l') else if b == 96 then .on (endH h 1) l else if b == 36 && l.head? == some 123 then dolO D h l else graveO D h l
theorem graveO_cons (D : Nat) (h : Hs) (b : UInt8) (l : List UInt8) : graveO D h (b :: l) = if b == 92 then (match l with
      | [] => .win h
      | _ :: l' => graveO D h l') else if b == 96 then .on (endH h 1) l else if b == 36 && l.head? == some 123 then dolO D h l else graveO D h l := by cases l <;> rfl
theorem grave_ok (D : Nat) (h : Hs) : ∀ l : List UInt8, telH (runH D (.g false false) h l) = telO D (graveO D h l) ∧ telH (runH D (.g false true) h l) = telO D (if l.head? == some 123 then dolO D h l else graveO D h l)
  | [] => ⟨rfl, rfl⟩
  | b :: l => by
    have h1 : ∀ dol, (dol && b == 123) = false → telH (runH D (.g false dol) h (b :: l)) = telO D (graveO D h (b :: l)) := fun dol hd => by
      have hs : stepH D (.g false dol) h b = graH h b := by
        show (if dol && b == 123 then _ else graH h b) = _
        rw [hd]
        exact if_neg (by decide)
      unfold graH at hs
      rw [graveO_cons]
      cases e1 : (b == 92) with
      | true =>
        rw [e1, if_pos rfl] at hs
        rw [if_pos rfl, runH_go hs]
        match l with
        | [] => rfl
        | c :: l' =>
          rw [runH_go (show stepH D (.g true false) h c = .go (.g false false) h from rfl)]
          exact (grave_ok D h l').1
      | false =>
        rw [e1, if_neg (by decide)] at hs
        rw [if_neg (by decide)]
        cases e2 : (b == 96) with
        | true =>
          rw [e2, if_pos rfl] at hs
          rw [if_pos rfl, runH_go hs]
          rfl
        | false =>
          rw [e2, if_neg (by decide)] at hs
          rw [if_neg (by decide)]
          cases e3 : (b == 36) with
          | true =>
            rw [e3, if_pos rfl] at hs
            rw [runH_go hs, (grave_ok D h l).2, Bool.true_and]
          | false =>
            rw [e3, if_neg (by decide)] at hs
            rw [runH_go hs, (grave_ok D h l).1, Bool.false_and, if_neg (by decide)]
    refine ⟨h1 false rfl, ?_⟩
    cases e : (b == 123) with
    | true =>
      have hb : b = 123 := eq_of_beq e
      subst hb
      rw [if_pos (show ((123 :: l).head? == some 123) = true from rfl)]
      have hs : stepH D (.g false true) h 123 = if h.op.length == D then .no h else .go .z (endH { h with op := 36 :: h.op } 0) := rfl
      unfold dolO
      cases e2 : (h.op.length == D) with
      | true =>
        rw [e2, if_pos rfl] at hs
        rw [if_pos rfl, runH_no hs]
        rfl
      | false =>
        rw [e2, if_neg (by decide)] at hs
        rw [if_neg (by decide), runH_go hs]
        rfl
    | false =>
      rw [if_neg (show ¬ ((b :: l).head? == some 123) = true from by rw [List.head?_cons]; simpa using e)]
      exact h1 true (by rw [e]; rfl)

/-! A pattern. -/
def patO (h : Hs) : Bool → List UInt8 → Ho
  | _, [] => .win h
  | inb, b :: l => if b == 92 then (match l with
      | [] => .win h
      | _ :: l' => patO h inb l') else if lineB b then .bad h (b :: l) else if b == 47 && !inb then .on (endH h 1) (l.dropWhile innB)
      else if b == 91 then patO h true l else if b == 93 then patO h false l else patO h inb l
theorem patO_cons (h : Hs) (inb : Bool) (b : UInt8) (l : List UInt8) : patO h inb (b :: l) = if b == 92 then (match l with
      | [] => .win h
      | _ :: l' => patO h inb l') else if lineB b then .bad h (b :: l) else if b == 47 && !inb then .on (endH h 1) (l.dropWhile innB)
      else if b == 91 then patO h true l else if b == 93 then patO h false l else patO h inb l := by cases l <;> rfl
theorem pat_ok (D : Nat) (h : Hs) : ∀ (l : List UInt8) (inb : Bool), telH (runH D (.p false inb) h l) = telO D (patO h inb l)
  | [], _ => rfl
  | b :: l, inb => by
    rw [patO_cons]
    have hs : stepH D (.p false inb) h b = patH h inb b := rfl
    unfold patH at hs
    cases e1 : (b == 92) with
    | true =>
      rw [e1, if_pos rfl] at hs
      rw [if_pos rfl, runH_go hs]
      match l with
      | [] => rfl
      | c :: l' =>
        rw [runH_go (show stepH D (.p true inb) h c = .go (.p false inb) h from rfl)]
        exact pat_ok D h l' inb
    | false =>
      rw [e1, if_neg (by decide)] at hs
      rw [if_neg (by decide)]
      cases e2 : lineB b with
      | true =>
        rw [e2, if_pos rfl] at hs
        rw [if_pos rfl, runH_no hs]
        rfl
      | false =>
        rw [e2, if_neg (by decide)] at hs
        rw [if_neg (by decide)]
        cases e3 : (b == 47 && !inb) with
        | true =>
          rw [e3, if_pos rfl] at hs
          rw [if_pos rfl, runH_go hs]
          exact flag_ok D (endH h 1) l
        | false =>
          rw [e3, if_neg (by decide)] at hs
          rw [if_neg (by decide)]
          cases e4 : (b == 91) with
          | true =>
            rw [e4, if_pos rfl] at hs
            rw [if_pos rfl, runH_go hs]
            exact pat_ok D h l true
          | false =>
            rw [e4, if_neg (by decide)] at hs
            rw [if_neg (by decide)]
            cases e5 : (b == 93) with
            | true =>
              rw [e5, if_pos rfl] at hs
              rw [if_pos rfl, runH_go hs]
              exact pat_ok D h l false
            | false =>
              rw [e5, if_neg (by decide)] at hs
              rw [if_neg (by decide), runH_go hs]
              exact pat_ok D h l inb
/-! What begins with a slash, with <!--; a sign. -/
def slashO (h : Hs) : List UInt8 → Ho
  | [] => .win h
  | b :: r => if b == 47 then lineO h r else if b == 42 then blockO h r else if h.last != 0 then .on (endH (pcH h) 0) (b :: r) else patO (pcH h) false (b :: r)
theorem slash_ok (D : Nat) (h : Hs) : ∀ l : List UInt8, telH (runH D .s h l) = telO D (slashO h l)
  | [] => rfl
  | b :: r => by
    rw [slashO]
    have hs : stepH D .s h b = if b == 47 then .go .l h else if b == 42 then .go (.k false) h else if h.last != 0 then begH D (endH (pcH h) 0) b else patH (pcH h) false b := rfl
    cases e1 : (b == 47) with
    | true =>
      rw [e1, if_pos rfl] at hs
      rw [if_pos rfl, runH_go hs]
      exact line_ok D h r
    | false =>
      rw [e1, if_neg (by decide)] at hs
      rw [if_neg (by decide)]
      cases e2 : (b == 42) with
      | true =>
        rw [e2, if_pos rfl] at hs
        rw [if_pos rfl, runH_go hs]
        exact (block_ok D r h).1
      | false =>
        rw [e2, if_neg (by decide)] at hs
        rw [if_neg (by decide)]
        cases e3 : (h.last != 0) with
        | true =>
          rw [e3, if_pos rfl] at hs
          rw [if_pos rfl, runH, hs]
          show _ = telH (runH D .z (endH (pcH h) 0) (b :: r))
          rw [runH]
          rfl
        | false =>
          rw [e3, if_neg (by decide)] at hs
          rw [if_neg (by decide), ← pat_ok D (pcH h) (b :: r) false, runH, runH, hs]
          rfl
def lessO (h : Hs) : Nat → List UInt8 → Ho
  | _, [] => .win h
  | i, b :: l => if b == minH i then (if i == 3 then lineO h l else lessO h (i + 1) l) else .bad h (b :: l)
theorem less_ok (D : Nat) (h : Hs) : ∀ (l : List UInt8) (i : Nat), telH (runH D (.x i) h l) = telO D (lessO h i l)
  | [], _ => rfl
  | b :: l, i => by
    rw [lessO]
    have hs : stepH D (.x i) h b = if b == minH i then (if i == 3 then .go .l h else .go (.x (i + 1)) h) else .no h := rfl
    cases e1 : (b == minH i) with
    | true =>
      rw [e1, if_pos rfl] at hs
      rw [if_pos rfl]
      cases e2 : (i == 3) with
      | true =>
        rw [e2, if_pos rfl] at hs
        rw [if_pos rfl, runH_go hs]
        exact line_ok D h l
      | false =>
        rw [e2, if_neg (by decide)] at hs
        rw [if_neg (by decide), runH_go hs]
        exact less_ok D h l (i + 1)
    | false =>
      rw [e1, if_neg (by decide)] at hs
      rw [if_neg (by decide), runH_no hs]
      rfl
def signO (D : Nat) (h : Hs) (b : UInt8) (l : List UInt8) : Ho := match sigH D (pcH h) b with
  | .go (.g _ _) h' => graveO D h' l
  | .go _ h' => .on h' l
  | .no h' => .bad h' (b :: l)
theorem sig_kind (D : Nat) (h : Hs) (b : UInt8) : (∃ h', sigH D h b = .go .z h') ∨ (∃ h', sigH D h b = .go (.g false false) h') ∨ (∃ h', sigH D h b = .no h') := by
  unfold sigH
  repeat' split
  all_goals first
    | exact Or.inl ⟨_, rfl⟩
    | exact Or.inr (Or.inl ⟨_, rfl⟩)
    | exact Or.inr (Or.inr ⟨_, rfl⟩)
theorem sign_ok {D : Nat} {p : Hp} {h h2 : Hs} {b : UInt8} {l : List UInt8} (e : stepH D p h2 b = sigH D (pcH h) b) : telH (runH D p h2 (b :: l)) = telO D (signO D h b l) := by
  unfold signO
  rcases sig_kind D (pcH h) b with ⟨h', e2⟩ | ⟨h', e2⟩ | ⟨h', e2⟩
  · rw [e2, runH_go (e.trans e2)]
    rfl
  · rw [e2, runH_go (e.trans e2)]
    exact (grave_ok D h' l).1
  · rw [e2, runH_no (e.trans e2)]
    rfl
/-! What stands at a place; all of it. -/
def nextO (D : Nat) (h : Hs) (b : UInt8) (l : List UInt8) : Ho :=
  if blkB b then .on (brH h b) l
  else if innB b then (if joiH h then .bad h (b :: l) else .on (worH (pcH h) (b :: l.takeWhile (wpB (digB b)))) (l.dropWhile (wpB (digB b))))
  else if b == 34 || b == 39 then (if joiH h then .bad h (b :: l) else quoteO b (pcH h) l)
  else if b == 96 then graveO D (pcH h) l
  else if b == 47 then slashO h l
  else if b == 60 && h.pc == 0 then lessO h 1 l
  else if sgnH b then signO D h b l
  else .bad h (b :: l)
theorem nextO_ok (D : Nat) (h : Hs) (b : UInt8) (l : List UInt8) : telH (runH D .z h (b :: l)) = telO D (nextO D h b l) := by
  have hs : stepH D .z h b = begH D h b := rfl
  unfold begH at hs
  unfold nextO
  cases e1 : blkB b with
  | true =>
    rw [e1, if_pos rfl] at hs
    rw [if_pos rfl, runH_go hs]
    rfl
  | false =>
    rw [e1, if_neg (by decide)] at hs
    rw [if_neg (by decide)]
    cases e2 : innB b with
    | true =>
      rw [e2, if_pos rfl] at hs
      rw [if_pos rfl]
      cases e : joiH h with
      | true =>
        rw [e, if_pos rfl] at hs
        rw [if_pos rfl, runH_no hs]
        rfl
      | false =>
        rw [e, if_neg (by decide)] at hs
        rw [if_neg (by decide), runH_go hs]
        exact word_ok D (digB b) (pcH h) l [b]
    | false =>
      rw [e2, if_neg (by decide)] at hs
      rw [if_neg (by decide)]
      cases e3 : (b == 34 || b == 39) with
      | true =>
        rw [e3, if_pos rfl] at hs
        rw [if_pos rfl]
        cases e : joiH h with
        | true =>
          rw [e, if_pos rfl] at hs
          rw [if_pos rfl, runH_no hs]
          rfl
        | false =>
          rw [e, if_neg (by decide)] at hs
          rw [if_neg (by decide), runH_go hs]
          exact quote_ok D b (pcH h) l
      | false =>
        rw [e3, if_neg (by decide)] at hs
        rw [if_neg (by decide)]
        cases e4 : (b == 96) with
        | true =>
          rw [e4, if_pos rfl] at hs
          rw [if_pos rfl, runH_go hs]
          exact (grave_ok D (pcH h) l).1
        | false =>
          rw [e4, if_neg (by decide)] at hs
          rw [if_neg (by decide)]
          cases e5 : (b == 47) with
          | true =>
            rw [e5, if_pos rfl] at hs
            rw [if_pos rfl, runH_go hs]
            exact slash_ok D h l
          | false =>
            rw [e5, if_neg (by decide)] at hs
            rw [if_neg (by decide)]
            cases e6 : (b == 60 && h.pc == 0) with
            | true =>
              rw [e6, if_pos rfl] at hs
              rw [if_pos rfl, runH_go hs]
              exact less_ok D h l 1
            | false =>
              rw [e6, if_neg (by decide)] at hs
              rw [if_neg (by decide)]
              cases e7 : sgnH b with
              | true =>
                rw [e7, if_pos rfl] at hs
                rw [if_pos rfl]
                exact sign_ok hs
              | false =>
                rw [e7, if_neg (by decide)] at hs
                rw [if_neg (by decide), runH_no hs]
                rfl
end Go.Proofs.YtbojbkpplejdmaaGreat
namespace Go.Proofs.YtbojbkpplejdmaaGreat

/-! What is left is no longer. -/
def onLen (n : Nat) : Ho → Prop
  | .on _ r => r.length ≤ n
  | _ => True
theorem onLen.mono {n m : Nat} {o : Ho} (h : onLen n o) (hn : n ≤ m) : onLen m o := by
  cases o with
  | on h' r => exact Nat.le_trans h hn
  | bad _ _ => trivial
  | win _ => trivial
theorem line_len (h : Hs) : ∀ l : List UInt8, onLen l.length (lineO h l)
  | [] => Nat.le_refl _
  | b :: l => by
    rw [lineO]
    split
    · exact Nat.le_succ _
    · exact (line_len h l).mono (Nat.le_succ _)
theorem block_len : ∀ (l : List UInt8) (h : Hs), onLen l.length (blockO h l)
  | [], _ => trivial
  | b :: l, h => by
    rw [blockO]
    split
    · show l.tail.length ≤ l.length + 1
      rw [List.length_tail]
      omega
    · exact (block_len l (brH h b)).mono (Nat.le_succ _)
theorem quote_len (y : UInt8) (h : Hs) : ∀ l : List UInt8, onLen l.length (quoteO y h l)
  | [] => trivial
  | b :: l => by
    rw [quoteO_cons]
    split
    · match l with
      | [] => trivial
      | c :: l' => exact (quote_len y h l').mono (Nat.le_succ_of_le (Nat.le_succ _))
    · split
      · trivial
      · split
        · exact Nat.le_succ _
        · exact (quote_len y h l).mono (Nat.le_succ _)
theorem dol_len (D : Nat) (h : Hs) (l : List UInt8) : onLen l.length (dolO D h l) := by
  unfold dolO
  split
  · trivial
  · show l.tail.length ≤ l.length
    rw [List.length_tail]
    omega
theorem grave_len (D : Nat) (h : Hs) : ∀ l : List UInt8, onLen l.length (graveO D h l)
  | [] => trivial
  | b :: l => by
    rw [graveO_cons]
    split
    · match l with
      | [] => trivial
      | c :: l' => exact (grave_len D h l').mono (Nat.le_succ_of_le (Nat.le_succ _))
    · split
      · exact Nat.le_succ _
      · split
        · exact (dol_len D h l).mono (Nat.le_succ _)
        · exact (grave_len D h l).mono (Nat.le_succ _)
theorem dropw_len (p : UInt8 → Bool) (l : List UInt8) : (l.dropWhile p).length ≤ l.length := (List.dropWhile_suffix _).length_le
theorem pat_len (h : Hs) : ∀ (l : List UInt8) (inb : Bool), onLen l.length (patO h inb l)
  | [], _ => trivial
  | b :: l, inb => by
    rw [patO_cons]
    split
    · match l with
      | [] => trivial
      | c :: l' => exact (pat_len h l' inb).mono (Nat.le_succ_of_le (Nat.le_succ _))
    · split
      · trivial
      · split
        · exact Nat.le_succ_of_le (dropw_len innB l)
        · split
          · exact (pat_len h l true).mono (Nat.le_succ _)
          · split
            · exact (pat_len h l false).mono (Nat.le_succ _)
            · exact (pat_len h l inb).mono (Nat.le_succ _)
theorem slash_len (h : Hs) : ∀ l : List UInt8, onLen l.length (slashO h l)
  | [] => trivial
  | b :: r => by
    rw [slashO]
    split
    · exact (line_len h r).mono (Nat.le_succ _)
    · split
      · exact (block_len r h).mono (Nat.le_succ _)
      · split
        · exact Nat.le_refl _
        · exact pat_len (pcH h) (b :: r) false
theorem less_len (h : Hs) : ∀ (l : List UInt8) (i : Nat), onLen l.length (lessO h i l)
  | [], _ => trivial
  | b :: l, i => by
    rw [lessO]
    split
    · split
      · exact (line_len h l).mono (Nat.le_succ _)
      · exact (less_len h l (i + 1)).mono (Nat.le_succ _)
    · trivial
theorem sign_len (D : Nat) (h : Hs) (b : UInt8) (l : List UInt8) : onLen l.length (signO D h b l) := by
  unfold signO
  rcases sig_kind D (pcH h) b with ⟨h', e2⟩ | ⟨h', e2⟩ | ⟨h', e2⟩
  · rw [e2]; exact Nat.le_refl _
  · rw [e2]; exact grave_len D h' l
  · rw [e2]; trivial
theorem next_len (D : Nat) (h : Hs) (b : UInt8) (l : List UInt8) : onLen l.length (nextO D h b l) := by
  unfold nextO
  split
  · exact Nat.le_refl _
  · split
    · split
      · trivial
      · exact dropw_len _ l
    · split
      · split
        · trivial
        · exact quote_len _ _ l
      · split
        · exact grave_len D _ l
        · split
          · exact slash_len h l
          · split
            · exact less_len h l 1
            · split
              · exact sign_len D h b l
              · trivial

/-- All of it, piece by piece. -/
def readO (D : Nat) : Nat → Hs → List UInt8 → Th
  | 0, h, _ => (none, false, h.op, h.pc, h.en)
  | _ + 1, h, [] => (none, false, h.op, h.pc, h.en)
  | f + 1, h, b :: l => match nextO D h b l with
    | .on h' r => readO D f h' r
    | .bad h' r => (some r, false, h'.op, h'.pc, h'.en)
    | .win h' => (none, true, h'.op, h'.pc, h'.en)
theorem readO_ok (D : Nat) : ∀ (f : Nat) (h : Hs) (l : List UInt8), l.length ≤ f → telH (runH D .z h l) = readO D f h l
  | 0, h, l, hl => by
    have e : l = [] := List.eq_nil_of_length_eq_zero (Nat.le_zero.1 hl)
    subst e
    rfl
  | f + 1, h, [], _ => rfl
  | f + 1, h, b :: l, hl => by
    have hn := next_len D h b l
    rw [nextO_ok, readO]
    have hl' : l.length ≤ f := Nat.le_of_succ_le_succ hl
    cases e : nextO D h b l with
    | on h' r =>
      rw [e] at hn
      exact readO_ok D f h' r (Nat.le_trans hn hl')
    | bad h' r => rfl
    | win h' => rfl

/-! What is told of all bytes. -/
def newH : Hs := ⟨0, false, [], 0, 0⟩
def tolH (D : Nat) (s : ByteArray) : Th := telH (runH D .z newH s.data.toList)
def staH (x : Th) : Int := match x.1 with
  | some _ => 0
  | none => if x.2.1 || !x.2.2.1.isEmpty then 1 else 2
def plaH (n : Nat) (x : Th) : Int := match x.1 with
  | some r => (n : Int) - (r.length : Int)
  | none => -1
theorem app_toList (s m : ByteArray) : (s ++ m).data.toList = s.data.toList ++ m.data.toList := by simp [ByteArray.data_append]
theorem tol_bad {D : Nat} {s m : ByteArray} (h : staH (tolH D s) = 0) : staH (tolH D (s ++ m)) = 0 ∧ plaH (s ++ m).size (tolH D (s ++ m)) = plaH s.size (tolH D s) ∧ (tolH D (s ++ m)).2.2.2.2 = (tolH D s).2.2.2.2 ∧ 0 ≤ plaH s.size (tolH D s) ∧ plaH s.size (tolH D s) < s.size := by
  unfold tolH at h ⊢
  cases hr : runH D .z newH s.data.toList with
  | ok p h' =>
    rw [hr] at h
    exfalso
    unfold staH at h
    have h2 : (if (winH p || !h'.op.isEmpty) = true then (1 : Int) else 2) = 0 := h
    split at h2 <;> cases h2
  | bad h' r =>
    rw [app_toList, runH_app, hr]
    obtain ⟨h1, y, h2⟩ := runH_bad D _ _ _ _ _ hr
    have hz : s.size = s.data.toList.length := by simp
    have hm : m.data.toList.length = m.size := by simp
    have hl : 0 < r.length := List.length_pos_iff.2 h1
    have hz2 := hz
    rw [h2, List.length_append] at hz2
    refine ⟨rfl, ?_, rfl, ?_, ?_⟩
    · show ((s ++ m).size : Int) - ((r ++ m.data.toList).length : Int) = (s.size : Int) - (r.length : Int)
      rw [List.length_append, hm, ByteArray.size_append]
      omega
    · show (0 : Int) ≤ (s.size : Int) - (r.length : Int)
      omega
    · show (s.size : Int) - (r.length : Int) < s.size
      omega
theorem tol_open {D : Nat} {s m : ByteArray} (h : staH (tolH D s) ≠ 0) : plaH s.size (tolH D s) = -1 ∧ (plaH (s ++ m).size (tolH D (s ++ m)) = -1 ∨ (s.size : Int) ≤ plaH (s ++ m).size (tolH D (s ++ m))) ∧ (tolH D s).2.2.2.2 ≤ (tolH D (s ++ m)).2.2.2.2 := by
  unfold tolH at h ⊢
  cases hr : runH D .z newH s.data.toList with
  | bad h' r =>
    rw [hr] at h
    exact absurd rfl h
  | ok p h' =>
    rw [app_toList, runH_app, hr]
    have he := run_en D m.data.toList p h'
    refine ⟨rfl, ?_, ?_⟩
    · show plaH (s ++ m).size (telH (runH D p h' m.data.toList)) = -1 ∨ (s.size : Int) ≤ plaH (s ++ m).size (telH (runH D p h' m.data.toList))
      cases hq : runH D p h' m.data.toList with
      | ok p2 h2 => exact Or.inl rfl
      | bad h2 r =>
        obtain ⟨_, y, hy⟩ := runH_bad D _ _ _ _ _ hq
        have hz : m.size = m.data.toList.length := by simp
        rw [hy, List.length_append] at hz
        refine Or.inr ?_
        show (s.size : Int) ≤ ((s ++ m).size : Int) - (r.length : Int)
        rw [ByteArray.size_append]
        omega
    · show h'.en ≤ (telH (runH D p h' m.data.toList)).2.2.2.2
      cases hq : runH D p h' m.data.toList with
      | ok p2 h2 => rw [hq] at he; exact he
      | bad h2 r => rw [hq] at he; exact he
theorem tol_read (D : Nat) (s : ByteArray) : tolH D s = readO D s.size newH s.data.toList := readO_ok D s.size newH s.data.toList (by simp)
end Go.Proofs.YtbojbkpplejdmaaGreat
namespace Go.Proofs.YtbojbkpplejdmaaGreat

/-- Where reading stands: a value is due; just behind [; just behind {; a name is due; a colon is due; behind a value; within a text (of a name?); within a number; within a word (what is left of it). -/
inductive Pj where
  | v | a | o | k | c | e
  | q (key : Bool) (n : Nat)
  | n (i : Nat)
  | w (x : UInt8) (l : List UInt8)
/-- What one byte makes of it: it goes on (with what is open), or can't, or is too deep. -/
inductive Sj where
  | go (p : Pj) (st : List Bool)
  | no
  | de
def behJ (st : List Bool) (b : UInt8) : Sj :=
  if whiB b then .go .e st else match st with
    | [] => .no
    | t :: r => if b == (if t then 125 else 93) then .go .e r else if b == 44 then .go (if t then .k else .v) st else .no
def begJ (D : Nat) (st : List Bool) (b : UInt8) : Sj :=
  if b == 91 then (if st.length < D then .go .a (false :: st) else .de)
  else if b == 123 then (if st.length < D then .go .o (true :: st) else .de)
  else if b == 34 then .go (.q false 0) st
  else if b == 45 then .go (.n 0) st
  else if b == 48 then .go (.n 2) st
  else if digB b then .go (.n 1) st
  else if b == 116 then .go (.w 114 [117, 101]) st
  else if b == 102 then .go (.w 97 [108, 115, 101]) st
  else if b == 110 then .go (.w 117 [108, 108]) st
  else .no
def escJ (b : UInt8) : Bool := [34, 92, 47, 98, 102, 110, 114, 116].contains b
/-- Within a text: 0 plain, 1 behind a backslash, 5 to 2: so many less one digits to come. none: wrong. -/
def quoN (n : Nat) (b : UInt8) : Option Nat :=
  match n with
  | 0 => if decide (b.toNat < 32) then none else if b == 92 then some 1 else some 0
  | 1 => if b == 117 then some 5 else if escJ b then some 0 else none
  | m + 2 => if decide (0 ≤ hexB b) then some (if m = 0 then 0 else m + 1) else none
def stepJ (D : Nat) (p : Pj) (st : List Bool) (b : UInt8) : Sj :=
  match p with
  | .v => if whiB b then .go .v st else begJ D st b
  | .a => if whiB b then .go .a st else if b == 93 then .go .e st.tail else begJ D st b
  | .o => if whiB b then .go .o st else if b == 125 then .go .e st.tail else if b == 34 then .go (.q true 0) st else .no
  | .k => if whiB b then .go .k st else if b == 34 then .go (.q true 0) st else .no
  | .c => if whiB b then .go .c st else if b == 58 then .go .v st else .no
  | .e => behJ st b
  | .q key n => if n == 0 && b == 34 then .go (if key then .c else .e) st else match quoN n b with
    | some m => .go (.q key m) st
    | none => .no
  | .n i => match i with
    | 0 => if b == 48 then .go (.n 2) st else if digB b then .go (.n 1) st else .no
    | 1 => if digB b then .go (.n 1) st else if b == 46 then .go (.n 3) st else if b == 101 || b == 69 then .go (.n 5) st else behJ st b
    | 2 => if b == 46 then .go (.n 3) st else if b == 101 || b == 69 then .go (.n 5) st else behJ st b
    | 3 => if digB b then .go (.n 4) st else .no
    | 4 => if digB b then .go (.n 4) st else if b == 101 || b == 69 then .go (.n 5) st else behJ st b
    | 5 => if b == 43 || b == 45 then .go (.n 6) st else if digB b then .go (.n 7) st else .no
    | 6 => if digB b then .go (.n 7) st else .no
    | _ => if digB b then .go (.n 7) st else behJ st b
  | .w x l => if b == x then .go (match l with | [] => .e | y :: r => .w y r) st else .no
/-- Is it whole, where it stands so? -/
def endJ (p : Pj) (st : List Bool) : Bool :=
  st.isEmpty && match p with
    | .e => true
    | .n i => i == 1 || i == 2 || i == 4 || decide (7 ≤ i)
    | _ => false
/-- The bytes gone by: where it stands, or the state and what lies from the wrong byte on. -/
def runJ (D : Nat) : Pj → List Bool → List UInt8 → Except (Int × List UInt8) (Pj × List Bool)
  | p, st, [] => .ok (p, st)
  | p, st, b :: l => match stepJ D p st b with
    | .go p' st' => runJ D p' st' l
    | .no => .error (0, b :: l)
    | .de => .error (3, b :: l)
/-- The state, and what lies from the wrong byte on. -/
def finJ : Except (Int × List UInt8) (Pj × List Bool) → Int × List UInt8
  | .ok (p, st) => (if endJ p st then 2 else 1, [])
  | .error r => r
def ansJ (D : Nat) (p : Pj) (st : List Bool) (l : List UInt8) : Int × List UInt8 := finJ (runJ D p st l)

theorem ans_nil (D : Nat) (p : Pj) (st : List Bool) : ansJ D p st [] = (if endJ p st then 2 else 1, []) := rfl
theorem ans_go {D : Nat} {p p' : Pj} {st st' : List Bool} {b : UInt8} {l : List UInt8} (h : stepJ D p st b = .go p' st') : ansJ D p st (b :: l) = ansJ D p' st' l := by
  unfold ansJ
  rw [runJ, h]
theorem ans_no {D : Nat} {p : Pj} {st : List Bool} {b : UInt8} {l : List UInt8} (h : stepJ D p st b = .no) : ansJ D p st (b :: l) = (0, b :: l) := by
  unfold ansJ
  rw [runJ, h]
  rfl
theorem ans_de {D : Nat} {p : Pj} {st : List Bool} {b : UInt8} {l : List UInt8} (h : stepJ D p st b = .de) : ansJ D p st (b :: l) = (3, b :: l) := by
  unfold ansJ
  rw [runJ, h]
  rfl

/-- Bytes behind bytes. -/
theorem run_app (D : Nat) : ∀ (x y : List UInt8) (p : Pj) (st : List Bool), runJ D p st (x ++ y) = match runJ D p st x with
    | .ok (p', st') => runJ D p' st' y
    | .error (s, r) => .error (s, r ++ y)
  | [], _, _, _ => rfl
  | b :: x, y, p, st => by
    rw [List.cons_append, runJ, runJ]
    cases h : stepJ D p st b with
    | go p' st' => exact run_app D x y p' st'
    | no => rfl
    | de => rfl
theorem run_bad (D : Nat) : ∀ (x : List UInt8) (p : Pj) (st : List Bool) (s : Int) (r : List UInt8), runJ D p st x = .error (s, r) → (s = 0 ∨ s = 3) ∧ r ≠ [] ∧ ∃ y, x = y ++ r
  | [], _, _, _, _, h => by cases h
  | b :: x, p, st, s, r, h => by
    rw [runJ] at h
    cases hs : stepJ D p st b with
    | go p' st' =>
      rw [hs] at h
      obtain ⟨h1, h2, y, h3⟩ := run_bad D x p' st' s r h
      exact ⟨h1, h2, b :: y, by rw [h3]; rfl⟩
    | no =>
      rw [hs] at h
      cases h
      exact ⟨Or.inl rfl, List.cons_ne_nil _ _, [], rfl⟩
    | de =>
      rw [hs] at h
      cases h
      exact ⟨Or.inr rfl, List.cons_ne_nil _ _, [], rfl⟩

/-- What parts is gone by. -/
def calmJ : Pj → Bool
  | .v => true
  | .a => true
  | .o => true
  | .k => true
  | .c => true
  | .e => true
  | _ => false
theorem ans_white (D : Nat) {p : Pj} (hp : calmJ p = true) (st : List Bool) : ∀ l, ansJ D p st l = ansJ D p st (l.dropWhile whiB)
  | [] => rfl
  | b :: l => by
    rw [List.dropWhile_cons]
    cases h : whiB b with
    | false => rfl
    | true =>
      rw [if_pos rfl, ← ans_white D hp st l]
      refine ans_go ?_
      cases p with
      | v => exact if_pos h
      | a => exact if_pos h
      | o => exact if_pos h
      | k => exact if_pos h
      | c => exact if_pos h
      | e => exact if_pos h
      | q _ _ => cases hp
      | n _ => cases hp
      | w _ _ => cases hp

/-- How reading a piece ends: at the end of all (it may go on), at a wrong byte, too deep, or well, with what is left. -/
inductive Ej where
  | op
  | bd (r : List UInt8)
  | dp (r : List UInt8)
  | wl (r : List UInt8)
def thenJ (D : Nat) (p : Pj) (st : List Bool) : Ej → Int × List UInt8
  | .op => (1, [])
  | .bd r => (0, r)
  | .dp r => (3, r)
  | .wl r => ansJ D p st r
/-- A text, as from the place in it that n tells. -/
def quoE : Nat → List UInt8 → Ej
  | _, [] => .op
  | n, b :: l => if n == 0 && b == 34 then .wl l else match quoN n b with
    | some m => quoE m l
    | none => .bd (b :: l)
theorem quo_end (D : Nat) (key : Bool) (st : List Bool) {n : Nat} {b : UInt8} (h : (n == 0 && b == 34) = true) : stepJ D (.q key n) st b = .go (if key then .c else .e) st := by
  show (if n == 0 && b == 34 then _ else _) = _
  rw [h]
  exact if_pos rfl
theorem quo_in (D : Nat) (key : Bool) (st : List Bool) {n : Nat} {b : UInt8} (h : (n == 0 && b == 34) = false) : stepJ D (.q key n) st b = match quoN n b with
    | some m => .go (.q key m) st
    | none => .no := by
  show (if n == 0 && b == 34 then _ else _) = _
  rw [h]
  exact if_neg (by decide)
theorem ans_quo (D : Nat) (key : Bool) (st : List Bool) : ∀ (l : List UInt8) (n : Nat), ansJ D (.q key n) st l = thenJ D (if key then .c else .e) st (quoE n l)
  | [], n => by
    show (if st.isEmpty && false then (2 : Int) else 1, ([] : List UInt8)) = _
    rw [Bool.and_false]
    rfl
  | b :: l, n => by
    rw [quoE]
    cases h : (n == 0 && b == 34) with
    | true => exact ans_go (quo_end D key st h)
    | false =>
      have h1 := quo_in D key st h
      cases h2 : quoN n b with
      | some m =>
        rw [h2] at h1
        exact (ans_go h1).trans (ans_quo D key st l m)
      | none =>
        rw [h2] at h1
        exact ans_no h1
/-- A word, what is left of it. -/
def worE : List UInt8 → List UInt8 → Ej
  | [], l => .wl l
  | _ :: _, [] => .op
  | x :: r, b :: l => if b == x then worE r l else .bd (b :: l)
theorem ans_wor (D : Nat) (st : List Bool) : ∀ (l r : List UInt8) (x : UInt8), ansJ D (.w x r) st l = thenJ D .e st (worE (x :: r) l)
  | [], r, x => by
    show (if st.isEmpty && false then (2 : Int) else 1, ([] : List UInt8)) = _
    rw [Bool.and_false]
    rfl
  | b :: l, r, x => by
    rw [worE]
    cases h : (b == x) with
    | false => exact ans_no (show (if b == x then _ else _) = _ from by rw [h]; rfl)
    | true =>
      cases r with
      | nil => exact ans_go (show (if b == x then _ else _) = _ from by rw [h]; rfl)
      | cons y r => exact (ans_go (show stepJ D (.w x (y :: r)) st b = .go (.w y r) st from by show (if b == x then _ else _) = _; rw [h]; rfl)).trans (ans_wor D st l r y)
/-- A number, as from the place in it that i tells. -/
def numE : Nat → List UInt8 → Ej
  | i, [] => if i == 1 || i == 2 || i == 4 || decide (7 ≤ i) then .wl [] else .op
  | 0, b :: l => if b == 48 then numE 2 l else if digB b then numE 1 l else .bd (b :: l)
  | 1, b :: l => if digB b then numE 1 l else if b == 46 then numE 3 l else if b == 101 || b == 69 then numE 5 l else .wl (b :: l)
  | 2, b :: l => if b == 46 then numE 3 l else if b == 101 || b == 69 then numE 5 l else .wl (b :: l)
  | 3, b :: l => if digB b then numE 4 l else .bd (b :: l)
  | 4, b :: l => if digB b then numE 4 l else if b == 101 || b == 69 then numE 5 l else .wl (b :: l)
  | 5, b :: l => if b == 43 || b == 45 then numE 6 l else if digB b then numE 7 l else .bd (b :: l)
  | 6, b :: l => if digB b then numE 7 l else .bd (b :: l)
  | _ + 7, b :: l => if digB b then numE 7 l else .wl (b :: l)
theorem ans_beh (D : Nat) (p : Pj) (st : List Bool) (b : UInt8) (l : List UInt8) (h : stepJ D p st b = behJ st b) : ansJ D p st (b :: l) = ansJ D .e st (b :: l) := by
  unfold ansJ
  rw [runJ, runJ, h]
  rfl
theorem num_end (D : Nat) (st : List Bool) (i : Nat) : ansJ D (.n i) st [] = thenJ D .e st (numE i []) := by
  rw [numE]
  show (if st.isEmpty && (i == 1 || i == 2 || i == 4 || decide (7 ≤ i)) then (2 : Int) else 1, ([] : List UInt8)) = _
  cases (i == 1 || i == 2 || i == 4 || decide (7 ≤ i)) with
  | true => rfl
  | false => rw [Bool.and_false]; rfl
theorem ans_num (D : Nat) (st : List Bool) : ∀ (l : List UInt8) (i : Nat), ansJ D (.n i) st l = thenJ D .e st (numE i l)
  | [], i => num_end D st i
  | b :: l, 0 => by
    rw [numE]
    cases h : (b == 48) with
    | true => exact (ans_go (show stepJ D (.n 0) st b = .go (.n 2) st from by show (if b == 48 then _ else _) = _; rw [h]; rfl)).trans (ans_num D st l 2)
    | false =>
      cases h2 : digB b with
      | true => exact (ans_go (show stepJ D (.n 0) st b = .go (.n 1) st from by show (if b == 48 then _ else if digB b then _ else _) = _; rw [h, h2]; rfl)).trans (ans_num D st l 1)
      | false => exact ans_no (show stepJ D (.n 0) st b = .no from by show (if b == 48 then _ else if digB b then _ else _) = _; rw [h, h2]; rfl)
  | b :: l, 1 => by
    rw [numE]
    cases h : digB b with
    | true => exact (ans_go (show stepJ D (.n 1) st b = .go (.n 1) st from by show (if digB b then _ else _) = _; rw [h]; rfl)).trans (ans_num D st l 1)
    | false =>
      cases h2 : (b == 46) with
      | true => exact (ans_go (show stepJ D (.n 1) st b = .go (.n 3) st from by show (if digB b then _ else if b == 46 then _ else _) = _; rw [h, h2]; rfl)).trans (ans_num D st l 3)
      | false =>
        cases h3 : (b == 101 || b == 69) with
        | true => exact (ans_go (show stepJ D (.n 1) st b = .go (.n 5) st from by show (if digB b then _ else if b == 46 then _ else if b == 101 || b == 69 then _ else _) = _; rw [h, h2, h3]; rfl)).trans (ans_num D st l 5)
        | false => exact ans_beh D (.n 1) st b l (by show (if digB b then _ else if b == 46 then _ else if b == 101 || b == 69 then _ else _) = _; rw [h, h2, h3]; rfl)
  | b :: l, 2 => by
    rw [numE]
    cases h2 : (b == 46) with
    | true => exact (ans_go (show stepJ D (.n 2) st b = .go (.n 3) st from by show (if b == 46 then _ else _) = _; rw [h2]; rfl)).trans (ans_num D st l 3)
    | false =>
      cases h3 : (b == 101 || b == 69) with
      | true => exact (ans_go (show stepJ D (.n 2) st b = .go (.n 5) st from by show (if b == 46 then _ else if b == 101 || b == 69 then _ else _) = _; rw [h2, h3]; rfl)).trans (ans_num D st l 5)
      | false => exact ans_beh D (.n 2) st b l (by show (if b == 46 then _ else if b == 101 || b == 69 then _ else _) = _; rw [h2, h3]; rfl)
  | b :: l, 3 => by
    rw [numE]
    cases h : digB b with
    | true => exact (ans_go (show stepJ D (.n 3) st b = .go (.n 4) st from by show (if digB b then _ else _) = _; rw [h]; rfl)).trans (ans_num D st l 4)
    | false => exact ans_no (show stepJ D (.n 3) st b = .no from by show (if digB b then _ else _) = _; rw [h]; rfl)
  | b :: l, 4 => by
    rw [numE]
    cases h : digB b with
    | true => exact (ans_go (show stepJ D (.n 4) st b = .go (.n 4) st from by show (if digB b then _ else _) = _; rw [h]; rfl)).trans (ans_num D st l 4)
    | false =>
      cases h3 : (b == 101 || b == 69) with
      | true => exact (ans_go (show stepJ D (.n 4) st b = .go (.n 5) st from by show (if digB b then _ else if b == 101 || b == 69 then _ else _) = _; rw [h, h3]; rfl)).trans (ans_num D st l 5)
      | false => exact ans_beh D (.n 4) st b l (by show (if digB b then _ else if b == 101 || b == 69 then _ else _) = _; rw [h, h3]; rfl)
  | b :: l, 5 => by
    rw [numE]
    cases h3 : (b == 43 || b == 45) with
    | true => exact (ans_go (show stepJ D (.n 5) st b = .go (.n 6) st from by show (if b == 43 || b == 45 then _ else _) = _; rw [h3]; rfl)).trans (ans_num D st l 6)
    | false =>
      cases h : digB b with
      | true => exact (ans_go (show stepJ D (.n 5) st b = .go (.n 7) st from by show (if b == 43 || b == 45 then _ else if digB b then _ else _) = _; rw [h3, h]; rfl)).trans (ans_num D st l 7)
      | false => exact ans_no (show stepJ D (.n 5) st b = .no from by show (if b == 43 || b == 45 then _ else if digB b then _ else _) = _; rw [h3, h]; rfl)
  | b :: l, 6 => by
    rw [numE]
    cases h : digB b with
    | true => exact (ans_go (show stepJ D (.n 6) st b = .go (.n 7) st from by show (if digB b then _ else _) = _; rw [h]; rfl)).trans (ans_num D st l 7)
    | false => exact ans_no (show stepJ D (.n 6) st b = .no from by show (if digB b then _ else _) = _; rw [h]; rfl)
  | b :: l, i + 7 => by
    rw [numE]
    cases h : digB b with
    | true => exact (ans_go (show stepJ D (.n (i + 7)) st b = .go (.n 7) st from by show (if digB b then _ else _) = _; rw [h]; rfl)).trans (ans_num D st l 7)
    | false => exact ans_beh D (.n (i + 7)) st b l (by show (if digB b then _ else _) = _; rw [h]; rfl)
end Go.Proofs.YtbojbkpplejdmaaGreat
