/-
  Plain facts on layer 28: all of it piece by piece (readO, by fuel) comes to the same as byte behind byte (readO_ok); what is told of all bytes (tolH, staH, plaH), and that what is bad stays so. No condition.
  Plain facts on layer 29: what is told behind each byte (vrdB), that a blank behind a blank turns nothing (vrd_blank), the first place where it is told (fstV: by all beginnings, and by those that the document looks at), and that what is JSON whole is never let through. No condition.
  Plain facts on layer 29: the first place where it is told (fstV): cut into pieces, and as the document looks for it (a blank behind a blank is passed over); what is told at the end (endV); and that what is JSON whole is never let through. No condition.
-/
import Derived.Test.YtbojbkpplejdmaaZ4
import Derived.Test.YtbojbkpplejdmaaZ2
namespace Go.Proofs.Ytbojbkpplejdmaa

/-! What is left is no longer. -/
def onLen (n : Nat) : Ho → Prop
  | .on _ r => r.length ≤ n
  | _ => True
theorem onLen.mono {n m : Nat} {o : Ho} (h : onLen n o) (hn : n ≤ m) : onLen m o := by
  cases o with
  | on h' r => exact Nat.le_trans h hn
  | bad _ _ => trivial
  | win _ => trivial
theorem line_len (h : Hs) : ∀ l : List UInt8, onLen l.length (lineO h l)
  | [] => Nat.le_refl _
  | b :: l => by
    rw [lineO]
    split
    · exact Nat.le_succ _
    · exact (line_len h l).mono (Nat.le_succ _)
theorem block_len : ∀ (l : List UInt8) (h : Hs), onLen l.length (blockO h l)
  | [], _ => trivial
  | b :: l, h => by
    rw [blockO]
    split
    · show l.tail.length ≤ l.length + 1
      rw [List.length_tail]
      omega
    · exact (block_len l (brH h b)).mono (Nat.le_succ _)
theorem quote_len (y : UInt8) (h : Hs) : ∀ l : List UInt8, onLen l.length (quoteO y h l)
  | [] => trivial
  | b :: l => by
    rw [quoteO_cons]
    split
    · match l with
      | [] => trivial
      | c :: l' => exact (quote_len y h l').mono (Nat.le_succ_of_le (Nat.le_succ _))
    · split
      · trivial
      · split
        · exact Nat.le_succ _
        · exact (quote_len y h l).mono (Nat.le_succ _)
theorem dol_len (D : Nat) (h : Hs) (l : List UInt8) : onLen l.length (dolO D h l) := by
  unfold dolO
  split
  · trivial
  · show l.tail.length ≤ l.length
    rw [List.length_tail]
    omega
theorem grave_len (D : Nat) (h : Hs) : ∀ l : List UInt8, onLen l.length (graveO D h l)
  | [] => trivial
  | b :: l => by
    rw [graveO_cons]
    split
    · match l with
      | [] => trivial
      | c :: l' => exact (grave_len D h l').mono (Nat.le_succ_of_le (Nat.le_succ _))
    · split
      · exact Nat.le_succ _
      · split
        · exact (dol_len D h l).mono (Nat.le_succ _)
        · exact (grave_len D h l).mono (Nat.le_succ _)
theorem dropw_len (p : UInt8 → Bool) (l : List UInt8) : (l.dropWhile p).length ≤ l.length := (List.dropWhile_suffix _).length_le
theorem pat_len (h : Hs) : ∀ (l : List UInt8) (inb : Bool), onLen l.length (patO h inb l)
  | [], _ => trivial
  | b :: l, inb => by
    rw [patO_cons]
    split
    · match l with
      | [] => trivial
      | c :: l' => exact (pat_len h l' inb).mono (Nat.le_succ_of_le (Nat.le_succ _))
    · split
      · trivial
      · split
        · exact Nat.le_succ_of_le (dropw_len innB l)
        · split
          · exact (pat_len h l true).mono (Nat.le_succ _)
          · split
            · exact (pat_len h l false).mono (Nat.le_succ _)
            · exact (pat_len h l inb).mono (Nat.le_succ _)
theorem slash_len (h : Hs) : ∀ l : List UInt8, onLen l.length (slashO h l)
  | [] => trivial
  | b :: r => by
    rw [slashO]
    split
    · exact (line_len h r).mono (Nat.le_succ _)
    · split
      · exact (block_len r h).mono (Nat.le_succ _)
      · split
        · exact Nat.le_refl _
        · exact pat_len (pcH h) (b :: r) false
theorem less_len (h : Hs) : ∀ (l : List UInt8) (i : Nat), onLen l.length (lessO h i l)
  | [], _ => trivial
  | b :: l, i => by
    rw [lessO]
    split
    · split
      · exact (line_len h l).mono (Nat.le_succ _)
      · exact (less_len h l (i + 1)).mono (Nat.le_succ _)
    · trivial
theorem sign_len (D : Nat) (h : Hs) (b : UInt8) (l : List UInt8) : onLen l.length (signO D h b l) := by
  unfold signO
  rcases sig_kind D (pcH h) b with ⟨h', e2⟩ | ⟨h', e2⟩ | ⟨h', e2⟩
  · rw [e2]; exact Nat.le_refl _
  · rw [e2]; exact grave_len D h' l
  · rw [e2]; trivial
theorem next_len (D : Nat) (h : Hs) (b : UInt8) (l : List UInt8) : onLen l.length (nextO D h b l) := by
  unfold nextO
  split
  · exact Nat.le_refl _
  · split
    · split
      · trivial
      · exact dropw_len _ l
    · split
      · split
        · trivial
        · exact quote_len _ _ l
      · split
        · exact grave_len D _ l
        · split
          · exact slash_len h l
          · split
            · exact less_len h l 1
            · split
              · exact sign_len D h b l
              · trivial

/-- All of it, piece by piece. -/
def readO (D : Nat) : Nat → Hs → List UInt8 → Th
  | 0, h, _ => (none, false, h.op, h.pc, h.en)
  | _ + 1, h, [] => (none, false, h.op, h.pc, h.en)
  | f + 1, h, b :: l => match nextO D h b l with
    | .on h' r => readO D f h' r
    | .bad h' r => (some r, false, h'.op, h'.pc, h'.en)
    | .win h' => (none, true, h'.op, h'.pc, h'.en)
theorem readO_ok (D : Nat) : ∀ (f : Nat) (h : Hs) (l : List UInt8), l.length ≤ f → telH (runH D .z h l) = readO D f h l
  | 0, h, l, hl => by
    have e : l = [] := List.eq_nil_of_length_eq_zero (Nat.le_zero.1 hl)
    subst e
    rfl
  | f + 1, h, [], _ => rfl
  | f + 1, h, b :: l, hl => by
    have hn := next_len D h b l
    rw [nextO_ok, readO]
    have hl' : l.length ≤ f := Nat.le_of_succ_le_succ hl
    cases e : nextO D h b l with
    | on h' r =>
      rw [e] at hn
      exact readO_ok D f h' r (Nat.le_trans hn hl')
    | bad h' r => rfl
    | win h' => rfl

/-! What is told of all bytes. -/
def newH : Hs := ⟨0, false, [], 0, 0⟩
def tolH (D : Nat) (s : ByteArray) : Th := telH (runH D .z newH s.data.toList)
def staH (x : Th) : Int := match x.1 with
  | some _ => 0
  | none => if x.2.1 || !x.2.2.1.isEmpty then 1 else 2
def plaH (n : Nat) (x : Th) : Int := match x.1 with
  | some r => (n : Int) - (r.length : Int)
  | none => -1
theorem app_toList (s m : ByteArray) : (s ++ m).data.toList = s.data.toList ++ m.data.toList := by simp [ByteArray.data_append]
theorem tol_bad {D : Nat} {s m : ByteArray} (h : staH (tolH D s) = 0) : staH (tolH D (s ++ m)) = 0 ∧ plaH (s ++ m).size (tolH D (s ++ m)) = plaH s.size (tolH D s) ∧ (tolH D (s ++ m)).2.2.2.2 = (tolH D s).2.2.2.2 ∧ 0 ≤ plaH s.size (tolH D s) ∧ plaH s.size (tolH D s) < s.size := by
  unfold tolH at h ⊢
  cases hr : runH D .z newH s.data.toList with
  | ok p h' =>
    rw [hr] at h
    exfalso
    unfold staH at h
    have h2 : (if (winH p || !h'.op.isEmpty) = true then (1 : Int) else 2) = 0 := h
    split at h2 <;> cases h2
  | bad h' r =>
    rw [app_toList, runH_app, hr]
    obtain ⟨h1, y, h2⟩ := runH_bad D _ _ _ _ _ hr
    have hz : s.size = s.data.toList.length := by simp
    have hm : m.data.toList.length = m.size := by simp
    have hl : 0 < r.length := List.length_pos_iff.2 h1
    have hz2 := hz
    rw [h2, List.length_append] at hz2
    refine ⟨rfl, ?_, rfl, ?_, ?_⟩
    · show ((s ++ m).size : Int) - ((r ++ m.data.toList).length : Int) = (s.size : Int) - (r.length : Int)
      rw [List.length_append, hm, ByteArray.size_append]
      omega
    · show (0 : Int) ≤ (s.size : Int) - (r.length : Int)
      omega
    · show (s.size : Int) - (r.length : Int) < s.size
      omega
theorem tol_open {D : Nat} {s m : ByteArray} (h : staH (tolH D s) ≠ 0) : plaH s.size (tolH D s) = -1 ∧ (plaH (s ++ m).size (tolH D (s ++ m)) = -1 ∨ (s.size : Int) ≤ plaH (s ++ m).size (tolH D (s ++ m))) ∧ (tolH D s).2.2.2.2 ≤ (tolH D (s ++ m)).2.2.2.2 := by
  unfold tolH at h ⊢
  cases hr : runH D .z newH s.data.toList with
  | bad h' r =>
    rw [hr] at h
    exact absurd rfl h
  | ok p h' =>
    rw [app_toList, runH_app, hr]
    have he := run_en D m.data.toList p h'
    refine ⟨rfl, ?_, ?_⟩
    · show plaH (s ++ m).size (telH (runH D p h' m.data.toList)) = -1 ∨ (s.size : Int) ≤ plaH (s ++ m).size (telH (runH D p h' m.data.toList))
      cases hq : runH D p h' m.data.toList with
      | ok p2 h2 => exact Or.inl rfl
      | bad h2 r =>
        obtain ⟨_, y, hy⟩ := runH_bad D _ _ _ _ _ hq
        have hz : m.size = m.data.toList.length := by simp
        rw [hy, List.length_append] at hz
        refine Or.inr ?_
        show (s.size : Int) ≤ ((s ++ m).size : Int) - (r.length : Int)
        rw [ByteArray.size_append]
        omega
    · show h'.en ≤ (telH (runH D p h' m.data.toList)).2.2.2.2
      cases hq : runH D p h' m.data.toList with
      | ok p2 h2 => rw [hq] at he; exact he
      | bad h2 r => rw [hq] at he; exact he
theorem tol_read (D : Nat) (s : ByteArray) : tolH D s = readO D s.size newH s.data.toList := readO_ok D s.size newH s.data.toList (by simp)
end Go.Proofs.Ytbojbkpplejdmaa
namespace Go.Proofs.Ytbojbkpplejdmaa

/-- Behind these bytes: 0 deep, 1 no script, 2 a script; none: wait. -/
def vrdB (D : Nat) (l : List UInt8) : Option Nat :=
  match runJ D .v [] l, runH D .z newH l with
  | .error (x, _), .bad _ _ => if x == 3 then some 0 else some 1
  | .ok _, .bad _ _ => some 1
  | .error (x, _), .ok _ h => if x == 3 then some 0 else if h.en == 0 then none else some 2
  | .ok _, .ok _ _ => none
/-- It waits still: the script's pieces go on, and JSON goes on, or can't be, and no end came. -/
theorem vrd_none {D : Nat} {l : List UInt8} : vrdB D l = none ↔ ∃ p h, runH D .z newH l = .ok p h ∧ ((∃ q, runJ D .v [] l = .ok q) ∨ ∃ r, runJ D .v [] l = .error (0, r) ∧ h.en = 0) := by
  unfold vrdB
  cases hj : runJ D .v [] l with
  | ok q =>
    cases hh : runH D .z newH l with
    | ok p h => exact ⟨fun _ => ⟨p, h, rfl, Or.inl ⟨q, rfl⟩⟩, fun _ => rfl⟩
    | bad h r => exact ⟨fun e => (by cases e), fun ⟨p, h', e, _⟩ => (by cases e)⟩
  | error e =>
    obtain ⟨x, r⟩ := e
    have hx := (run_bad D _ _ _ _ _ hj).1
    cases hh : runH D .z newH l with
    | ok p h =>
      rcases hx with rfl | rfl
      · show (if h.en == 0 then none else some 2) = none ↔ _
        cases he : (h.en == 0) with
        | true => exact ⟨fun _ => ⟨p, h, rfl, Or.inr ⟨r, rfl, eq_of_beq he⟩⟩, fun _ => rfl⟩
        | false =>
          refine ⟨fun e => (by cases e), fun ⟨p', h', e, e2⟩ => ?_⟩
          injection e with e3 e4
          subst e4
          rcases e2 with ⟨q, e5⟩ | ⟨r', _, e6⟩
          · cases e5
          · rw [e6] at he
            cases he
      · refine ⟨fun e => (by cases e), fun ⟨p', h', _, e2⟩ => ?_⟩
        rcases e2 with ⟨q, e5⟩ | ⟨r', e6, _⟩
        · cases e5
        · injection e6 with e7
          injection e7 with e8
          cases e8
    | bad h r2 =>
      refine ⟨fun e => ?_, fun ⟨p, h', e, _⟩ => (by cases e)⟩
      rcases hx with rfl | rfl <;> cases e

/-! A blank behind a blank. -/
def wrdJ : Pj → Bool
  | .w x l => x != 32 && l.all (· != 32)
  | _ => true
theorem wrd_beg {D : Nat} {st st' : List Bool} {b : UInt8} {p : Pj} (h : begJ D st b = .go p st') : wrdJ p = true := by
  unfold begJ at h
  repeat' split at h
  all_goals first
    | (cases h; done)
    | (injection h with h1 h2; subst h1; rfl)
theorem wrd_beh {st st' : List Bool} {b : UInt8} {p : Pj} (h : behJ st b = .go p st') : wrdJ p = true := by
  unfold behJ at h
  repeat' split at h
  all_goals first
    | (cases h; done)
    | (injection h with h1 h2; subst h1; first | rfl | (split <;> rfl))
def wnxJ (l : List UInt8) : Pj := match l with | [] => .e | y :: r => .w y r
theorem step_wnx {D : Nat} {st : List Bool} {x b : UInt8} {l : List UInt8} : stepJ D (.w x l) st b = if b == x then .go (wnxJ l) st else .no := rfl
theorem wrd_step {D : Nat} {p p' : Pj} {st st' : List Bool} {b : UInt8} (hw : wrdJ p = true) (h : stepJ D p st b = .go p' st') : wrdJ p' = true := by
  cases p with
  | w x l =>
    rw [step_wnx] at h
    cases h8 : (b == x) with
    | false => rw [h8] at h; cases h
    | true =>
      rw [h8, if_pos rfl] at h
      injection h with h1 h2
      subst h1
      cases l with
      | nil => rfl
      | cons y r =>
        have hw' : (x != 32 && ((y != 32) && r.all (· != 32))) = true := hw
        rw [Bool.and_eq_true] at hw'
        exact hw'.2
  | v => unfold stepJ at h; repeat' split at h
         all_goals first
           | contradiction
           | exact wrd_beg h
           | (injection h with h1 h2; subst h1; rfl)
  | a => unfold stepJ at h; repeat' split at h
         all_goals first
           | contradiction
           | exact wrd_beg h
           | (injection h with h1 h2; subst h1; rfl)
  | o => unfold stepJ at h; repeat' split at h
         all_goals first
           | contradiction
           | (cases h; done)
           | (injection h with h1 h2; subst h1; rfl)
  | k => unfold stepJ at h; repeat' split at h
         all_goals first
           | contradiction
           | (cases h; done)
           | (injection h with h1 h2; subst h1; rfl)
  | c => unfold stepJ at h; repeat' split at h
         all_goals first
           | contradiction
           | (cases h; done)
           | (injection h with h1 h2; subst h1; rfl)
  | e => exact wrd_beh h
  | q key n =>
    cases hq : (n == 0 && b == 34) with
    | true =>
      rw [quo_end D key st hq] at h
      injection h with h1 h2
      subst h1
      cases key <;> rfl
    | false =>
      rw [quo_in D key st hq] at h
      cases hm : quoN n b with
      | none => rw [hm] at h; cases h
      | some m =>
        rw [hm] at h
        injection h with h1 h2
        subst h1
        rfl
  | n i =>
    unfold stepJ at h
    repeat' split at h
    all_goals first
      | contradiction
      | (cases h; done)
      | exact wrd_beh h
      | (injection h with h1 h2; subst h1; rfl)
theorem wrd_run {D : Nat} : ∀ (l : List UInt8) {p p' : Pj} {st st' : List Bool}, wrdJ p = true → runJ D p st l = .ok (p', st') → wrdJ p' = true
  | [], _, _, _, _, hw, h => by cases h; exact hw
  | b :: l, p, p', st, st', hw, h => by
    rw [runJ] at h
    cases h2 : stepJ D p st b with
    | go q su =>
      rw [h2] at h
      exact wrd_run l (wrd_step hw h2) h
    | no => rw [h2] at h; cases h
    | de => rw [h2] at h; cases h
/-- Where a blank may stand, another one may. -/
theorem blank_again {D : Nat} {p p' : Pj} {st st' : List Bool} (hw : wrdJ p = true) (h : stepJ D p st 32 = .go p' st') : ∃ p2 st2, stepJ D p' st' 32 = .go p2 st2 := by
  have hb : ∀ s, behJ s 32 = .go .e s := fun s => by unfold behJ; rw [show whiB 32 = true from by kernel_rfl]; rfl
  have hwh : whiB 32 = true := by kernel_rfl
  have calm : ∀ q s, calmJ q = true → stepJ D q s 32 = .go q s := fun q s hq => by
    cases q with
    | v => exact (if_pos hwh : (if whiB 32 = true then Sj.go .v s else begJ D s 32) = _)
    | a => exact (if_pos hwh : (if whiB 32 = true then Sj.go .a s else if (32 : UInt8) == 93 then .go .e s.tail else begJ D s 32) = _)
    | o => exact (if_pos hwh : (if whiB 32 = true then Sj.go .o s else if (32 : UInt8) == 125 then .go .e s.tail else if (32 : UInt8) == 34 then .go (.q true 0) s else .no) = _)
    | k => exact (if_pos hwh : (if whiB 32 = true then Sj.go .k s else if (32 : UInt8) == 34 then .go (.q true 0) s else .no) = _)
    | c => exact (if_pos hwh : (if whiB 32 = true then Sj.go .c s else if (32 : UInt8) == 58 then .go .v s else .no) = _)
    | e => exact hb s
    | q _ _ => cases hq
    | n _ => cases hq
    | w _ _ => cases hq
  by_cases hp : calmJ p = true
  · rw [calm p st hp] at h
    injection h with h1 h2
    subst h1 h2
    exact ⟨_, _, calm p st hp⟩
  · cases p with
    | v => exact absurd rfl hp
    | a => exact absurd rfl hp
    | o => exact absurd rfl hp
    | k => exact absurd rfl hp
    | c => exact absurd rfl hp
    | e => exact absurd rfl hp
    | q key n =>
      rw [quo_in D key st (show (n == 0 && (32 : UInt8) == 34) = false from by rw [show ((32 : UInt8) == 34) = false from rfl, Bool.and_false])] at h
      match n, h with
      | 0, h =>
        have h' : Sj.go (Pj.q key 0) st = Sj.go p' st' := h
        injection h' with h1 h2
        subst h1 h2
        exact ⟨.q key 0, st, by rw [quo_in D key st rfl]; rfl⟩
      | 1, h =>
        have h' : Sj.no = Sj.go p' st' := h
        cases h'
      | m + 2, h =>
        have hx : decide (0 ≤ hexB 32) = false := by kernel_rfl
        have h' : (match (if decide (0 ≤ hexB 32) then some (if m = 0 then 0 else m + 1) else none) with | some m => Sj.go (.q key m) st | none => .no) = Sj.go p' st' := h
        rw [hx] at h'
        cases h'
    | n i =>
      have hn : stepJ D (.n i) st 32 = behJ st 32 ∨ stepJ D (.n i) st 32 = .no := by
        match i with
        | 0 => exact Or.inr rfl
        | 1 => exact Or.inl rfl
        | 2 => exact Or.inl rfl
        | 3 => exact Or.inr rfl
        | 4 => exact Or.inl rfl
        | 5 => exact Or.inr rfl
        | 6 => exact Or.inr rfl
        | j + 7 => exact Or.inl rfl
      rcases hn with hn | hn
      · rw [hn, hb] at h
        injection h with h1 h2
        subst h1 h2
        exact ⟨_, _, hb st⟩
      · rw [hn] at h
        cases h
    | w x l =>
      have hw' : (x != 32 && l.all (· != 32)) = true := hw
      rw [Bool.and_eq_true] at hw'
      rw [step_wnx, show ((32 : UInt8) == x) = false from by rw [beq_eq_false_iff_ne]; intro hx; rw [← hx] at hw'; exact absurd hw'.1 (by decide)] at h
      cases h
/-- What a blank makes of a script's pieces. -/
def notX : Hp → Bool
  | .x _ => false
  | _ => true
theorem blank_script {D : Nat} {p : Hp} {h : Hs} : (∃ p' h', stepH D p h 32 = .go p' h' ∧ notX p' = true ∧ h'.en = h.en) ∨ notX p = false := by
  have hb : ∀ h, begH D h 32 = .go .z (brH h 32) := fun h => by unfold begH; rw [show blkB 32 = true from by kernel_rfl]; rfl
  have hi : innB 32 = false := by kernel_rfl
  have hp2 : ∀ h i, ∃ p' h', patH h i 32 = .go p' h' ∧ notX p' = true ∧ h'.en = h.en := fun h i => ⟨_, _, rfl, rfl, rfl⟩
  cases p with
  | z => exact Or.inl ⟨_, _, hb h, rfl, rfl⟩
  | w dig acc =>
    have e : stepH D (.w dig acc) h 32 = begH D (worH h acc) 32 := by
      show (if innB 32 || (dig && (32 : UInt8) == 46) then _ else begH D (worH h acc) 32) = _
      rw [hi, show ((32 : UInt8) == 46) = false from rfl, Bool.and_false]
      rfl
    exact Or.inl ⟨_, _, e.trans (hb _), rfl, rfl⟩
  | t y esc =>
    cases esc with
    | true => exact Or.inl ⟨_, _, rfl, rfl, rfl⟩
    | false =>
      have e : stepH D (.t y false) h 32 = if (32 : UInt8) == y then .go .z (endH h 1) else .go (.t y false) h := rfl
      cases hy : ((32 : UInt8) == y) with
      | true => rw [hy, if_pos rfl] at e; exact Or.inl ⟨_, _, e, rfl, rfl⟩
      | false => rw [hy, if_neg (by decide)] at e; exact Or.inl ⟨_, _, e, rfl, rfl⟩
  | g esc dol =>
    cases esc with
    | true => exact Or.inl ⟨_, _, rfl, rfl, rfl⟩
    | false => cases dol <;> exact Or.inl ⟨_, _, rfl, rfl, rfl⟩
  | p esc inb =>
    cases esc with
    | true => exact Or.inl ⟨_, _, rfl, rfl, rfl⟩
    | false => exact Or.inl (hp2 h inb)
  | f =>
    have e : stepH D .f h 32 = begH D h 32 := (if_neg (by rw [hi]; decide) : (if innB 32 = true then Sh.go .f h else begH D h 32) = _)
    exact Or.inl ⟨_, _, e.trans (hb _), rfl, rfl⟩
  | s =>
    have e : stepH D .s h 32 = if h.last != 0 then begH D (endH (pcH h) 0) 32 else patH (pcH h) false 32 := rfl
    cases hl : (h.last != 0) with
    | true => rw [hl, if_pos rfl] at e; exact Or.inl ⟨_, _, e.trans (hb _), rfl, rfl⟩
    | false =>
      rw [hl, if_neg (by decide)] at e
      obtain ⟨p', h', e1, e2, e3⟩ := hp2 (pcH h) false
      exact Or.inl ⟨p', h', e.trans e1, e2, e3⟩
  | l => exact Or.inl ⟨_, _, rfl, rfl, rfl⟩
  | k star => cases star <;> exact Or.inl ⟨_, _, rfl, rfl, rfl⟩
  | x i => exact Or.inr rfl
theorem blank_x {D : Nat} {h : Hs} {i : Nat} : stepH D (.x i) h 32 = .no h := by
  show (if (32 : UInt8) == minH i then _ else Sh.no h) = _
  unfold minH
  cases (i == 1) <;> rfl
theorem vrd_blank {D : Nat} {l : List UInt8} (h : vrdB D (l ++ [32]) = none) : vrdB D (l ++ [32] ++ [32]) = none := by
  rw [vrd_none] at h ⊢
  obtain ⟨p, hs, h1, h2⟩ := h
  -- the script's pieces
  have hS : ∃ p2 h2, runH D .z newH (l ++ [32] ++ [32]) = .ok p2 h2 ∧ h2.en = hs.en := by
    rw [runH_app, h1]
    have hx : notX p = true := by
      rw [runH_app] at h1
      cases hl : runH D .z newH l with
      | bad h' r => rw [hl] at h1; cases h1
      | ok p0 h0 =>
        rw [hl] at h1
        have h1' : runH D p0 h0 [32] = .ok p hs := h1
        rcases blank_script (D := D) (p := p0) (h := h0) with ⟨p', h', e, en, _⟩ | e
        · rw [runH_go e] at h1'
          injection h1' with e1 e2
          rw [← e1]
          exact en
        · cases p0 with
          | x i => rw [runH_no blank_x] at h1'; cases h1'
          | _ => cases e
    rcases blank_script (D := D) (p := p) (h := hs) with ⟨p', h', e, _, en⟩ | e
    · exact ⟨p', h', by show runH D p hs [32] = _; rw [runH_go e]; rfl, en⟩
    · rw [hx] at e
      cases e
  obtain ⟨p2, hs2, h3, h4⟩ := hS
  refine ⟨p2, hs2, h3, ?_⟩
  rcases h2 with ⟨⟨q, su⟩, hq⟩ | ⟨r, hr, he⟩
  · left
    rw [run_app, hq]
    have hq' := hq
    rw [run_app] at hq'
    cases hl : runJ D .v [] l with
    | error x => rw [hl] at hq'; cases hq'
    | ok y =>
      obtain ⟨p0, st0⟩ := y
      rw [hl] at hq'
      have hq2 : runJ D p0 st0 [32] = .ok (q, su) := hq'
      have hw := wrd_run l (p := .v) rfl hl
      rw [runJ] at hq2
      cases e : stepJ D p0 st0 32 with
      | go p1 st1 =>
        rw [e] at hq2
        have hq3 : (Except.ok (p1, st1) : Except (Int × List UInt8) (Pj × List Bool)) = .ok (q, su) := hq2
        injection hq3 with e3
        injection e3 with e4 e5
        subst e4 e5
        obtain ⟨p2, st2, e6⟩ := blank_again hw e
        refine ⟨(p2, st2), ?_⟩
        show runJ D p1 st1 [32] = _
        rw [runJ, e6]
        rfl
      | no => rw [e] at hq2; cases hq2
      | de => rw [e] at hq2; cases hq2
  · right
    refine ⟨r ++ [32], ?_, h4.trans he⟩
    rw [run_app, hr]

/-! What is JSON whole is never let through behind a byte. -/
theorem whole_no {D : Nat} {x y : List UInt8} {q : Pj × List Bool} (h : runJ D .v [] (x ++ y) = .ok q) : vrdB D x = none ∨ vrdB D x = some 1 := by
  have hx : ∃ q', runJ D .v [] x = .ok q' := by
    rw [run_app] at h
    cases e : runJ D .v [] x with
    | ok q' => exact ⟨q', rfl⟩
    | error r => rw [e] at h; cases h
  obtain ⟨q', e⟩ := hx
  unfold vrdB
  rw [e]
  cases runH D .z newH x with
  | ok p h => exact Or.inl rfl
  | bad h r => exact Or.inr rfl
end Go.Proofs.Ytbojbkpplejdmaa
namespace Go.Proofs.Ytbojbkpplejdmaa

/-- What the document asks behind each beginning. -/
theorem vrd_doc (D : Nat) (s : ByteArray) : vrdB D s.data.toList = if (whoJ D s).1 == 3 then some 0 else if (tolH D s).1.isSome then some 1 else if (whoJ D s).1 == 0 && decide (0 < (tolH D s).2.2.2.2) then some 2 else none := by
  unfold vrdB tolH
  cases hj : runJ D .v [] s.data.toList with
  | ok q =>
    obtain ⟨p, st⟩ := q
    rw [who_ok hj]
    have e3 : ((if endJ p st then (2 : Int) else 1) == 3) = false := by cases endJ p st <;> rfl
    have e0 : ((if endJ p st then (2 : Int) else 1) == 0) = false := by cases endJ p st <;> rfl
    show _ = if ((if endJ p st then (2 : Int) else 1) == 3) = true then _ else if _ then _ else if (((if endJ p st then (2 : Int) else 1) == 0) && _) = true then _ else _
    rw [e3, e0]
    cases runH D .z newH s.data.toList <;> rfl
  | error e =>
    obtain ⟨x, r⟩ := e
    rw [who_bad hj]
    show _ = if (x == 3) = true then _ else if _ then _ else if ((x == 0) && _) = true then _ else _
    rcases (run_bad D _ _ _ _ _ hj).1 with rfl | rfl
    · cases runH D .z newH s.data.toList with
      | ok p h =>
        show (if h.en == 0 then none else some 2) = if decide (0 < h.en) then some 2 else none
        cases he : h.en <;> rfl
      | bad h r2 => rfl
    · cases runH D .z newH s.data.toList <;> rfl
/-- What waits behind more, waits behind less. -/
theorem vrd_less {D : Nat} {x y : List UInt8} (h : vrdB D (x ++ y) = none) : vrdB D x = none := by
  rw [vrd_none] at h ⊢
  obtain ⟨p, hs, h1, h2⟩ := h
  rw [runH_app] at h1
  cases hx : runH D .z newH x with
  | bad h' r => rw [hx] at h1; cases h1
  | ok p0 h0 =>
    rw [hx] at h1
    refine ⟨p0, h0, rfl, ?_⟩
    rw [run_app] at h2
    cases hj : runJ D .v [] x with
    | ok q => exact Or.inl ⟨q, rfl⟩
    | error e =>
      obtain ⟨c, r⟩ := e
      rw [hj] at h2
      rcases h2 with ⟨q, e⟩ | ⟨r', e, he⟩
      · cases e
      · have e' : (Except.error (c, r ++ y) : Except (Int × List UInt8) (Pj × List Bool)) = .error (0, r') := e
        injection e' with e1
        injection e1 with e2 _
        subst e2
        refine Or.inr ⟨r, rfl, ?_⟩
        have hm := run_en D y p0 h0
        have h1' : runH D p0 h0 y = .ok p hs := h1
        rw [h1'] at hm
        have hm' : h0.en ≤ hs.en := hm
        omega
/-- The first place where it is told: what, and behind how many bytes. -/
def fstV (D : Nat) : List UInt8 → List UInt8 → Option (Nat × Nat)
  | _, [] => none
  | x, b :: l => match vrdB D (x ++ [b]) with
    | some c => some (c, x.length + 1)
    | none => fstV D (x ++ [b]) l
theorem fstV_app (D : Nat) : ∀ (l x m : List UInt8), fstV D x (l ++ m) = match fstV D x l with
    | some r => some r
    | none => fstV D (x ++ l) m
  | [], x, m => by rw [List.append_nil]; rfl
  | b :: l, x, m => by
    rw [List.cons_append, fstV, fstV]
    cases vrdB D (x ++ [b]) with
    | some c => rfl
    | none =>
      show fstV D (x ++ [b]) (l ++ m) = _
      rw [fstV_app D l (x ++ [b]) m, List.append_assoc, List.singleton_append]
theorem fstV_one {D : Nat} {x : List UInt8} {b : UInt8} : fstV D x [b] = (vrdB D (x ++ [b])).map fun c => (c, x.length + 1) := by
  rw [fstV]
  cases vrdB D (x ++ [b]) <;> rfl
theorem fstV_wait {D : Nat} : ∀ (l x : List UInt8), vrdB D (x ++ l) = none → fstV D x l = none
  | [], _, _ => rfl
  | b :: l, x, h => by
    have h' : vrdB D ((x ++ [b]) ++ l) = none := by rw [List.append_assoc, List.singleton_append]; exact h
    rw [fstV, vrd_less h']
    exact fstV_wait l (x ++ [b]) h'
theorem fstV_none {D : Nat} : ∀ (l x : List UInt8), fstV D x l = none → l ≠ [] → vrdB D (x ++ l) = none
  | [], _, _, h => absurd rfl h
  | b :: l, x, h, _ => by
    rw [fstV] at h
    cases e : vrdB D (x ++ [b]) with
    | some c => rw [e] at h; cases h
    | none =>
      rw [e] at h
      cases l with
      | nil => exact e
      | cons c r =>
        have := fstV_none (c :: r) (x ++ [b]) h (List.cons_ne_nil _ _)
        rw [List.append_assoc, List.singleton_append] at this
        exact this
theorem fstV_iff {D : Nat} (l : List UInt8) : fstV D [] l = none ↔ vrdB D l = none := by
  refine ⟨fun h => ?_, fun h => fstV_wait l [] h⟩
  cases l with
  | nil => rfl
  | cons b r => exact fstV_none (b :: r) [] h (List.cons_ne_nil _ _)
/-- Where it is told, it is told of that beginning. -/
theorem fstV_some {D : Nat} : ∀ (l x : List UInt8) {c n : Nat}, fstV D x l = some (c, n) → x.length < n ∧ n ≤ x.length + l.length ∧ vrdB D ((x ++ l).take n) = some c
  | [], _, _, _, h => by cases h
  | b :: l, x, c, n, h => by
    rw [fstV] at h
    cases e : vrdB D (x ++ [b]) with
    | some c' =>
      rw [e] at h
      injection h with h1
      injection h1 with h2 h3
      subst h2 h3
      refine ⟨Nat.lt_succ_self _, by rw [List.length_cons]; omega, ?_⟩
      rw [show x ++ b :: l = (x ++ [b]) ++ l from by rw [List.append_assoc, List.singleton_append], List.take_append_of_le_length (by rw [List.length_append, List.length_singleton]; exact Nat.le_refl _), List.take_of_length_le (by rw [List.length_append, List.length_singleton]; exact Nat.le_refl _)]
      exact e
    | none =>
      rw [e] at h
      obtain ⟨h1, h2, h3⟩ := fstV_some l (x ++ [b]) h
      rw [List.length_append, List.length_singleton] at h1 h2
      rw [List.append_assoc, List.singleton_append] at h3
      exact ⟨by omega, by rw [List.length_cons]; omega, h3⟩

/-! As the document looks for it. -/
theorem take_one29 {l : List UInt8} {k : Nat} (h : k < l.length) : l.take (k + 1) = l.take k ++ [l[k]] := by rw [List.take_succ_eq_append_getElem h]
theorem drop_one29 {l : List UInt8} {k : Nat} (h : k < l.length) : l.drop k = l[k] :: l.drop (k + 1) := List.drop_eq_getElem_cons h
theorem fst_go {D : Nat} {l : List UInt8} {k : Nat} (h : k < l.length) (hv : vrdB D (l.take (k + 1)) = none) : fstV D (l.take k) (l.drop k) = fstV D (l.take (k + 1)) (l.drop (k + 1)) := by
  rw [take_one29 h] at hv ⊢
  rw [drop_one29 h, fstV, hv]
theorem fst_hit {D c : Nat} {l : List UInt8} {k : Nat} (h : k < l.length) (hv : vrdB D (l.take (k + 1)) = some c) : fstV D (l.take k) (l.drop k) = some (c, k + 1) := by
  rw [take_one29 h] at hv
  rw [drop_one29 h, fstV, hv, List.length_take, Nat.min_eq_left (Nat.le_of_lt h)]
theorem fst_skip {D : Nat} {l : List UInt8} {k : Nat} (h : k + 1 < l.length) (h1 : l[k + 1] = 32) (h2 : l[k]'(Nat.lt_of_succ_lt h) = 32) (hv : vrdB D (l.take (k + 1)) = none) : vrdB D (l.take (k + 2)) = none := by
  rw [take_one29 h, h1]
  rw [take_one29 (Nat.lt_of_succ_lt h), h2] at hv ⊢
  exact vrd_blank hv

/-! At the end. -/
def endV (D : Nat) (s : ByteArray) : Nat := if s.data.toList.all whiB then 3 else if (whoJ D s).1 != 0 then 4 else if staH (tolH D s) == 2 then 5 else 6
/-- What JSON comes to behind what parts alone. -/
theorem run_white29 {D : Nat} : ∀ l : List UInt8, l.all whiB = true → runJ D .v [] l = .ok (.v, [])
  | [], _ => rfl
  | b :: l, h => by
    rw [List.all_cons, Bool.and_eq_true] at h
    have e : stepJ D .v [] b = .go .v [] := (if_pos h.1 : (if whiB b = true then Sj.go .v [] else begJ D [] b) = _)
    rw [runJ, e]
    exact run_white29 l h.2
theorem json_begun {D : Nat} {s : ByteArray} (h : (whoJ D s).1 = 2) : s.data.toList.all whiB = false := by
  cases e : s.data.toList.all whiB with
  | false => rfl
  | true =>
    rw [who_ok (run_white29 s.data.toList e)] at h
    exact absurd h (by decide)
theorem json_run {D : Nat} {s : ByteArray} (h : (whoJ D s).1 = 2) : ∃ q, runJ D .v [] s.data.toList = .ok q := by
  cases hj : runJ D .v [] s.data.toList with
  | ok q => exact ⟨q, rfl⟩
  | error e =>
    obtain ⟨x, r⟩ := e
    rw [who_bad hj] at h
    have h' : x = 2 := h
    rcases (run_bad D _ _ _ _ _ hj).1 with hx | hx
    · rw [hx] at h'; cases h'
    · rw [hx] at h'; cases h'
/-- Of what is JSON whole only 'no script' is told behind a byte, and JSON at the end. -/
theorem json_first {D : Nat} {l x y : List UInt8} {q : Pj × List Bool} (h : runJ D .v [] l = .ok q) (hl : l = x ++ y) {c n : Nat} (hf : fstV D [] x = some (c, n)) : c = 1 := by
  obtain ⟨_, _, h3⟩ := fstV_some x [] hf
  have e : l = x.take n ++ (x.drop n ++ y) := by rw [← List.append_assoc, List.take_append_drop]; exact hl
  rw [e] at h
  rw [List.nil_append] at h3
  rcases whole_no h with h4 | h4
  · rw [h4] at h3; cases h3
  · rw [h4] at h3
    injection h3 with h5
    exact h5.symm
theorem json_end {D : Nat} {s : ByteArray} (h : (whoJ D s).1 = 2) : endV D s = 4 := by
  unfold endV
  rw [json_begun h, if_neg (by decide), h]
  rfl
end Go.Proofs.Ytbojbkpplejdmaa
