/-
  Plain facts on layer 27: value within value comes to the same as byte behind byte (dsc_ok; who_is: of all bytes). No condition.
  Plain facts on layer 28: bytes that come one behind another, and whether they are a script's pieces, may go on, or can't be (stepH: what one byte makes of where reading stands; runH: all bytes). No condition.
  Plain facts on layer 28: piece by piece, as the document's own side reads (nextO, readO), and that it comes to the same as byte behind byte (readO_ok). No condition.
-/
import Derived.Test.YtbojbkpplejdmaaZ2
import Derived.Test.YtbojbkpplejdmaaZ3
import Derived.Test.YtbojbkpplejdmaaZ1
namespace Go.Proofs.Ytbojbkpplejdmaa

theorem fst_ok {D depth : Nat} {p : Pj} {st : List Bool} {b : UInt8} {r : List UInt8} {list : Bool → List UInt8 → Ej} (hp : stepJ D p st b = begJ D st b) (hd : st.length + depth = D)
    (hl : ∀ t, st.length < D → ansJ D (if t then .o else .a) (t :: st) r = thenJ D .e st (list t r)) : ansJ D p st (b :: r) = thenJ D .e st (fstE list depth b r) := by
  unfold fstE
  by_cases c1 : (b == 91) = true
  · rw [if_pos c1]
    have hb : begJ D st b = if st.length < D then .go .a (false :: st) else .de := by unfold begJ; rw [if_pos c1]
    by_cases h0 : depth = 0
    · rw [if_pos (by simpa using h0)]
      rw [if_neg (by omega)] at hb
      exact ans_de (hp.trans hb)
    · rw [if_neg (by simpa using h0)]
      rw [if_pos (by omega)] at hb
      exact (ans_go (hp.trans hb)).trans (hl false (by omega))
  rw [if_neg c1]
  by_cases c2 : (b == 123) = true
  · rw [if_pos c2]
    have hb : begJ D st b = if st.length < D then .go .o (true :: st) else .de := by unfold begJ; rw [if_neg c1, if_pos c2]
    by_cases h0 : depth = 0
    · rw [if_pos (by simpa using h0)]
      rw [if_neg (by omega)] at hb
      exact ans_de (hp.trans hb)
    · rw [if_neg (by simpa using h0)]
      rw [if_pos (by omega)] at hb
      exact (ans_go (hp.trans hb)).trans (hl true (by omega))
  rw [if_neg c2]
  by_cases c3 : (b == 34) = true
  · rw [if_pos c3]
    exact (ans_go (hp.trans (by unfold begJ; rw [if_neg c1, if_neg c2, if_pos c3]))).trans (ans_quo D false st r 0)
  rw [if_neg c3]
  by_cases c4 : (b == 45) = true
  · rw [if_pos c4]
    exact (ans_go (hp.trans (by unfold begJ; rw [if_neg c1, if_neg c2, if_neg c3, if_pos c4]))).trans (ans_num D st r 0)
  rw [if_neg c4]
  by_cases c5 : (b == 48) = true
  · have e : b = 48 := by simpa using c5
    have h1 : digB b = true := by rw [e]; kernel_rfl
    rw [if_pos h1, numE, if_pos c5]
    exact (ans_go (hp.trans (by unfold begJ; rw [if_neg c1, if_neg c2, if_neg c3, if_neg c4, if_pos c5]))).trans (ans_num D st r 2)
  by_cases c6 : digB b = true
  · rw [if_pos c6, numE, if_neg c5, if_pos c6]
    exact (ans_go (hp.trans (by unfold begJ; rw [if_neg c1, if_neg c2, if_neg c3, if_neg c4, if_neg c5, if_pos c6]))).trans (ans_num D st r 1)
  rw [if_neg c6]
  by_cases c7 : (b == 116) = true
  · rw [if_pos c7]
    exact (ans_go (hp.trans (by unfold begJ; rw [if_neg c1, if_neg c2, if_neg c3, if_neg c4, if_neg c5, if_neg c6, if_pos c7]))).trans (ans_wor D st r _ _)
  rw [if_neg c7]
  by_cases c8 : (b == 102) = true
  · rw [if_pos c8]
    exact (ans_go (hp.trans (by unfold begJ; rw [if_neg c1, if_neg c2, if_neg c3, if_neg c4, if_neg c5, if_neg c6, if_neg c7, if_pos c8]))).trans (ans_wor D st r _ _)
  rw [if_neg c8]
  by_cases c9 : (b == 110) = true
  · rw [if_pos c9]
    exact (ans_go (hp.trans (by unfold begJ; rw [if_neg c1, if_neg c2, if_neg c3, if_neg c4, if_neg c5, if_neg c6, if_neg c7, if_neg c8, if_pos c9]))).trans (ans_wor D st r _ _)
  rw [if_neg c9]
  exact ans_no (hp.trans (by unfold begJ; rw [if_neg c1, if_neg c2, if_neg c3, if_neg c4, if_neg c5, if_neg c6, if_neg c7, if_neg c8, if_neg c9]))

/-- Where reading stands within an array or an object: just begun, or behind a comma. -/
def lisP (named first : Bool) : Pj := if first then (if named then .o else .a) else (if named then .k else .v)
theorem lis_calm (named first : Bool) : calmJ (lisP named first) = true := by cases named <;> cases first <;> rfl
theorem end_in (p : Pj) (t : Bool) (st : List Bool) : endJ p (t :: st) = false := rfl
theorem tal_ok {D N : Nat} {named : Bool} {st : List Bool} {k : List UInt8 → Ej} {x : Ej} (hx : ∀ r, x = .wl r → r.length ≤ N) (hk : ∀ r, r.length + 1 ≤ N → ansJ D (lisP named false) (named :: st) r = thenJ D .e st (k r)) :
    thenJ D .e (named :: st) x = thenJ D .e st (talE named k x) := by
  cases x with
  | op => rfl
  | bd _ => rfl
  | dp _ => rfl
  | wl y =>
    have hy := hx y rfl
    show ansJ D .e (named :: st) y = _
    rw [ans_white D rfl]
    cases hd : y.dropWhile whiB with
    | nil => rw [tal_nil hd, ans_nil, end_in]; rfl
    | cons b r =>
      obtain ⟨h1, hw⟩ := dropW_cons hd
      rw [tal_cons hd]
      have hs : stepJ D .e (named :: st) b = if b == (if named then 125 else 93) then .go .e st else if b == 44 then .go (if named then .k else .v) (named :: st) else .no := by
        show behJ (named :: st) b = _
        unfold behJ
        rw [hw, if_neg (by decide)]
      by_cases c1 : (b == (if named then 125 else 93)) = true
      · rw [if_pos c1] at hs ⊢
        exact ans_go hs
      · rw [if_neg c1] at hs ⊢
        by_cases c2 : (b == 44) = true
        · rw [if_pos c2] at hs ⊢
          exact (ans_go hs).trans (hk r (by omega))
        · rw [if_neg c2] at hs ⊢
          exact ans_no hs
theorem nam_ok {D N : Nat} {st : List Bool} {k : List UInt8 → Ej} {x : Ej} (hx : ∀ r, x = .wl r → r.length ≤ N) (hk : ∀ r, r.length + 1 ≤ N → ansJ D .v (true :: st) r = thenJ D .e (true :: st) (k r)) :
    thenJ D .c (true :: st) x = thenJ D .e (true :: st) (namE k x) := by
  cases x with
  | op => rfl
  | bd _ => rfl
  | dp _ => rfl
  | wl y =>
    have hy := hx y rfl
    show ansJ D .c (true :: st) y = _
    rw [ans_white D rfl]
    cases hd : y.dropWhile whiB with
    | nil => rw [nam_nil hd, ans_nil, end_in]; rfl
    | cons b r =>
      obtain ⟨h1, hw⟩ := dropW_cons hd
      rw [nam_cons hd]
      have hs : stepJ D .c (true :: st) b = if b == 58 then .go .v (true :: st) else .no := by
        show (if whiB b then _ else _) = _
        rw [hw]
        exact if_neg (by decide)
      by_cases c1 : (b == 58) = true
      · rw [if_pos c1] at hs ⊢
        exact (ans_go hs).trans (hk r (by omega))
      · rw [if_neg c1] at hs ⊢
        exact ans_no hs
theorem dsc_ok (D : Nat) : ∀ f, (∀ depth l st, 2 * l.length + 1 ≤ f → st.length + depth = D → ansJ D .v st l = thenJ D .e st (dscE f none depth l)) ∧
    (∀ depth named first l st, 2 * l.length + 2 ≤ f → st.length + 1 + depth = D → ansJ D (lisP named first) (named :: st) l = thenJ D .e st (dscE f (some (named, first)) depth l))
  | 0 => ⟨fun _ l _ h _ => by omega, fun _ _ _ l _ h _ => by omega⟩
  | f + 1 => by
    obtain ⟨ihv, ihl⟩ := dsc_ok D f
    refine ⟨fun depth l st hf hD => ?_, fun depth named first l st hf hD => ?_⟩
    · rw [ans_white D rfl]
      cases hd : l.dropWhile whiB with
      | nil =>
        rw [dsc_nil hd, ans_nil]
        show (if st.isEmpty && false then (2 : Int) else 1, ([] : List UInt8)) = _
        rw [Bool.and_false]
        rfl
      | cons b r =>
        obtain ⟨h1, hw⟩ := dropW_cons hd
        rw [dsc_val hd]
        refine fst_ok (by show (if whiB b then _ else _) = _; rw [hw]; exact if_neg (by decide)) hD (fun t ht => ?_)
        have := ihl (depth - 1) t true r st (by omega) (by omega)
        rw [← this]
        rfl
    · rw [ans_white D (lis_calm named first)]
      cases hd : l.dropWhile whiB with
      | nil => rw [dsc_nil hd, ans_nil, end_in]; rfl
      | cons b r =>
        obtain ⟨h1, hw⟩ := dropW_cons hd
        rw [dsc_lis hd]
        have htl : ∀ x : Ej, (∀ y, x = .wl y → y.length ≤ r.length + 1) → thenJ D .e (named :: st) x = thenJ D .e st (talE named (fun r => dscE f (some (named, false)) depth r) x) := fun x hx =>
          tal_ok hx (fun y hy => ihl depth named false y st (by omega) hD)
        by_cases c1 : (first && b == (if named then 125 else 93)) = true
        · rw [if_pos c1]
          rw [Bool.and_eq_true] at c1
          obtain ⟨rfl, c1⟩ := c1
          refine ans_go ?_
          cases named with
          | true =>
            show (if whiB b then _ else if b == 125 then Sj.go .e st else _) = _
            rw [hw, if_neg (by decide)]
            exact if_pos c1
          | false =>
            show (if whiB b then _ else if b == 93 then Sj.go .e st else _) = _
            rw [hw, if_neg (by decide)]
            exact if_pos c1
        · rw [if_neg c1]
          cases named with
          | true =>
            rw [if_pos rfl]
            have hs : stepJ D (lisP true first) (true :: st) b = if b == 34 then .go (.q true 0) (true :: st) else .no := by
              cases first with
              | true =>
                show (if whiB b then _ else if b == 125 then _ else _) = _
                rw [hw, if_neg (by decide)]
                exact if_neg (by simpa using c1)
              | false =>
                show (if whiB b then _ else _) = _
                rw [hw]
                exact if_neg (by decide)
            by_cases c3 : (b == 34) = true
            · rw [if_pos c3] at hs ⊢
              rw [ans_go hs, ans_quo, if_pos rfl]
              rw [nam_ok (N := r.length) (k := fun r => dscE f none depth r) (fun y hy => quo_len _ _ hy) (fun y hy => ihv depth y (true :: st) (by omega) (by simp; omega))]
              exact htl _ (fun y hy => Nat.le_succ_of_le (nam_len (fun z z' hz => dsc_len f _ _ z r.length z' hz) (fun z hz => quo_len _ _ hz) hy))
            · rw [if_neg c3] at hs ⊢
              exact ans_no hs
          | false =>
            rw [if_neg (by decide)]
            have hs : stepJ D (lisP false first) (false :: st) b = begJ D (false :: st) b := by
              cases first with
              | true =>
                show (if whiB b then _ else if b == 93 then _ else _) = _
                rw [hw, if_neg (by decide)]
                exact if_neg (by simpa using c1)
              | false =>
                show (if whiB b then _ else _) = _
                rw [hw]
                exact if_neg (by decide)
            have hv : stepJ D .v (false :: st) b = begJ D (false :: st) b := by
              show (if whiB b then _ else _) = _
              rw [hw]
              exact if_neg (by decide)
            have he : ansJ D (lisP false first) (false :: st) (b :: r) = ansJ D .v (false :: st) (b :: r) := by
              unfold ansJ
              rw [runJ, runJ, hs, hv]
            rw [he, ihv depth (b :: r) (false :: st) (by simp; omega) (by simp; omega)]
            exact htl _ (fun y hy => dsc_len f _ _ _ _ _ (by simp) hy)

/-- Of all bytes: behind a value nothing may come but what parts. -/
def topE : Ej → Int × List UInt8
  | .op => (1, [])
  | .bd r => (0, r)
  | .dp r => (3, r)
  | .wl r => match r.dropWhile whiB with
    | [] => (2, [])
    | b :: r' => (0, b :: r')
theorem top_ok (D : Nat) (x : Ej) : thenJ D .e [] x = topE x := by
  cases x with
  | op => rfl
  | bd _ => rfl
  | dp _ => rfl
  | wl y =>
    show ansJ D .e [] y = match y.dropWhile whiB with
      | [] => (2, [])
      | b :: r' => (0, b :: r')
    rw [ans_white D rfl]
    cases hd : y.dropWhile whiB with
    | nil => rfl
    | cons b r =>
      obtain ⟨_, hw⟩ := dropW_cons hd
      exact ans_no (show stepJ D .e [] b = .no from by show behJ [] b = _; unfold behJ; rw [hw]; rfl)
theorem ans_top (D : Nat) (l : List UInt8) {f : Nat} (hf : 2 * l.length + 1 ≤ f) : ansJ D .v [] l = topE (dscE f none D l) := by
  rw [(dsc_ok D f).1 D l [] hf (by simp), top_ok]

/-! Digits gone by at once. -/
theorem num_one : ∀ l, numE 1 l = numE 1 (l.dropWhile digB)
  | [] => rfl
  | b :: l => by
    rw [List.dropWhile_cons]
    cases h : digB b with
    | true => rw [numE, h, if_pos rfl, if_pos rfl]; exact num_one l
    | false => rfl
theorem num_four : ∀ l, numE 4 l = numE 4 (l.dropWhile digB)
  | [] => rfl
  | b :: l => by
    rw [List.dropWhile_cons]
    cases h : digB b with
    | true => rw [numE, h, if_pos rfl, if_pos rfl]; exact num_four l
    | false => rfl
theorem num_seven : ∀ l, numE 7 l = .wl (l.dropWhile digB)
  | [] => rfl
  | b :: l => by
    rw [List.dropWhile_cons]
    cases h : digB b with
    | true => rw [show numE 7 (b :: l) = if digB b then numE 7 l else .wl (b :: l) from by rw [numE], h, if_pos rfl, if_pos rfl]; exact num_seven l
    | false => rw [show numE 7 (b :: l) = if digB b then numE 7 l else .wl (b :: l) from by rw [numE], h]; rfl
/-- Whether something came but what parts. -/
def begunJ (s : ByteArray) : Bool := !allB whiB s
end Go.Proofs.Ytbojbkpplejdmaa
namespace Go.Proofs.Ytbojbkpplejdmaa

def lineB (b : UInt8) : Bool := b == 10 || b == 13
def innB (b : UInt8) : Bool := letB b || digB b || b == 95 || b == 36 || decide (127 < b.toNat)
def blkB (b : UInt8) : Bool := (decide (9 ≤ b.toNat) && decide (b.toNat ≤ 13)) || b == 32
def opnH (b : UInt8) : Bool := [40, 91, 123].contains b
def cloB (b : UInt8) : Bool := [41, 93, 125].contains b
def sgnH (b : UInt8) : Bool := [123, 125, 40, 41, 91, 93, 59, 44, 60, 62, 61, 33, 43, 45, 42, 37, 38, 124, 94, 126, 63, 58, 46].contains b
/-- A script's own words. -/
def kwdL : List (List UInt8) := [[97, 119, 97, 105, 116], [98, 114, 101, 97, 107], [99, 97, 115, 101], [99, 97, 116, 99, 104], [99, 108, 97, 115, 115], [99, 111, 110, 115, 116], [99, 111, 110, 116, 105, 110, 117, 101], [100, 101, 102, 97, 117, 108, 116], [100, 101, 108, 101, 116, 101], [100, 111], [101, 108, 115, 101], [101, 120, 112, 111, 114, 116], [101, 120, 116, 101, 110, 100, 115], [102, 105, 110, 97, 108, 108, 121], [102, 111, 114], [102, 114, 111, 109], [102, 117, 110, 99, 116, 105, 111, 110], [103, 101, 116], [105, 102], [105, 109, 112, 111, 114, 116], [105, 110], [105, 110, 115, 116, 97, 110, 99, 101, 111, 102], [108, 101, 116], [110, 101, 119], [111, 102], [114, 101, 116, 117, 114, 110], [115, 101, 116], [115, 116, 97, 116, 105, 99], [115, 119, 105, 116, 99, 104], [116, 104, 114, 111, 119], [116, 114, 121], [116, 121, 112, 101, 111, 102], [118, 97, 114], [118, 111, 105, 100], [119, 104, 105, 108, 101], [119, 105, 116, 104], [121, 105, 101, 108, 100], [97, 115, 121, 110, 99], [97, 115]]
def kwdH (l : List UInt8) : Bool := kwdL.any (fun k => k == l)

/-- What stands last (0 neither, 1 a value, 2 a brace), whether a line ended since, what is open (the innermost first), how many pieces and ends. -/
structure Hs where
  last : Nat
  br : Bool
  op : List UInt8
  pc : Nat
  en : Nat
/-- Where reading stands: between pieces; in a word (begun by a digit? its bytes); in a text; in one between graves (behind a backslash? behind a $?); in a pattern (behind a backslash? in brackets?); behind a pattern; behind a slash; in a line's remark; in one that a star and a slash end (behind a star?); in <!--. -/
inductive Hp where
  | z
  | w (dig : Bool) (acc : List UInt8)
  | t (by_ : UInt8) (esc : Bool)
  | g (esc dol : Bool)
  | p (esc inb : Bool)
  | f
  | s
  | l
  | k (star : Bool)
  | x (i : Nat)
inductive Sh where
  | go (p : Hp) (h : Hs)
  | no (h : Hs)
def endH (h : Hs) (n : Nat) : Hs := { h with last := n, br := false }
def joiH (h : Hs) : Bool := h.last == 1 && !h.br
def pcH (h : Hs) : Hs := { h with pc := h.pc + 1 }
def brH (h : Hs) (b : UInt8) : Hs := { h with br := h.br || lineB b }
def worH (h : Hs) (acc : List UInt8) : Hs := endH h (if kwdH acc then 0 else 1)
/-- A sign, counted already. -/
def sigH (D : Nat) (h : Hs) (b : UInt8) : Sh :=
  if opnH b then (if h.op.length == D then .no h else .go .z (endH { h with op := b :: h.op } 0))
  else if !cloB b then .go .z (endH { h with en := h.en + (if b == 59 && h.op.isEmpty then 1 else 0) } 0)
  else match h.op with
    | [] => .no h
    | o :: r => if b == 125 && o == 36 then .go (.g false false) { h with op := r }
      else if (b == 41 && o == 40) || (b == 93 && o == 91) || (b == 125 && o == 123) then
        (if b == 125 then .go .z (endH { h with op := r, en := h.en + (if r.isEmpty then 1 else 0) } 2) else .go .z (endH { h with op := r } 1))
      else .no h
/-- What a byte begins, where no piece is under way. -/
def begH (D : Nat) (h : Hs) (b : UInt8) : Sh :=
  if blkB b then .go .z (brH h b)
  else if innB b then (if joiH h then .no h else .go (.w (digB b) [b]) (pcH h))
  else if b == 34 || b == 39 then (if joiH h then .no h else .go (.t b false) (pcH h))
  else if b == 96 then .go (.g false false) (pcH h)
  else if b == 47 then .go .s h
  else if b == 60 && h.pc == 0 then .go (.x 1) h
  else if sgnH b then sigH D (pcH h) b
  else .no h
def texH (h : Hs) (y : UInt8) (b : UInt8) : Sh :=
  if b == 92 then .go (.t y true) h else if lineB b then .no h else if b == y then .go .z (endH h 1) else .go (.t y false) h
def graH (h : Hs) (b : UInt8) : Sh :=
  if b == 92 then .go (.g true false) h else if b == 96 then .go .z (endH h 1) else if b == 36 then .go (.g false true) h else .go (.g false false) h
def patH (h : Hs) (inb : Bool) (b : UInt8) : Sh :=
  if b == 92 then .go (.p true inb) h else if lineB b then .no h else if b == 47 && !inb then .go .f (endH h 1)
  else if b == 91 then .go (.p false true) h else if b == 93 then .go (.p false false) h else .go (.p false inb) h
def minH (i : Nat) : UInt8 := if i == 1 then 33 else 45
def stepH (D : Nat) (p : Hp) (h : Hs) (b : UInt8) : Sh :=
  match p with
  | .z => begH D h b
  | .w dig acc => if innB b || (dig && b == 46) then .go (.w dig (acc ++ [b])) h else begH D (worH h acc) b
  | .t y esc => if esc then .go (.t y false) h else texH h y b
  | .g esc dol => if esc then .go (.g false false) h
    else if dol && b == 123 then (if h.op.length == D then .no h else .go .z (endH { h with op := 36 :: h.op } 0))
    else graH h b
  | .p esc inb => if esc then .go (.p false inb) h else patH h inb b
  | .f => if innB b then .go .f h else begH D h b
  | .s => if b == 47 then .go .l h else if b == 42 then .go (.k false) h
    else if h.last != 0 then begH D (endH (pcH h) 0) b else patH (pcH h) false b
  | .l => if lineB b then .go .z { h with br := true } else .go .l h
  | .k star => if star && b == 47 then .go .z h else .go (.k (b == 42)) (brH h b)
  | .x i => if b == minH i then (if i == 3 then .go .l h else .go (.x (i + 1)) h) else .no h
/-- The bytes gone by: where it stands, or what was so at the bad byte and what lies from it on. -/
inductive Rh where
  | ok (p : Hp) (h : Hs)
  | bad (h : Hs) (r : List UInt8)
def runH (D : Nat) : Hp → Hs → List UInt8 → Rh
  | p, h, [] => .ok p h
  | p, h, b :: l => match stepH D p h b with
    | .go p' h' => runH D p' h' l
    | .no h' => .bad h' (b :: l)
theorem runH_go {D : Nat} {p p' : Hp} {h h' : Hs} {b : UInt8} {l : List UInt8} (e : stepH D p h b = .go p' h') : runH D p h (b :: l) = runH D p' h' l := by rw [runH, e]
theorem runH_no {D : Nat} {p : Hp} {h h' : Hs} {b : UInt8} {l : List UInt8} (e : stepH D p h b = .no h') : runH D p h (b :: l) = .bad h' (b :: l) := by rw [runH, e]
theorem runH_app (D : Nat) : ∀ (x y : List UInt8) (p : Hp) (h : Hs), runH D p h (x ++ y) = match runH D p h x with
    | .ok p' h' => runH D p' h' y
    | .bad h' r => .bad h' (r ++ y)
  | [], _, _, _ => rfl
  | b :: x, y, p, h => by
    rw [List.cons_append, runH, runH]
    cases e : stepH D p h b with
    | go p' h' => exact runH_app D x y p' h'
    | no h' => rfl
theorem runH_bad (D : Nat) : ∀ (x : List UInt8) (p : Hp) (h h' : Hs) (r : List UInt8), runH D p h x = .bad h' r → r ≠ [] ∧ ∃ y, x = y ++ r
  | [], _, _, _, _, e => by cases e
  | b :: x, p, h, h', r, e => by
    rw [runH] at e
    cases es : stepH D p h b with
    | go p' h2 =>
      rw [es] at e
      obtain ⟨h3, y, h4⟩ := runH_bad D x p' h2 h' r e
      exact ⟨h3, b :: y, by rw [h4]; rfl⟩
    | no h2 =>
      rw [es] at e
      cases e
      exact ⟨List.cons_ne_nil _ _, [], rfl⟩

/-! Ends are never less, and no more are open than may be. -/
def ofS : Sh → Hs
  | .go _ h => h
  | .no h => h
def ofR : Rh → Hs
  | .ok _ h => h
  | .bad h _ => h
theorem sig_en (D : Nat) (h : Hs) (b : UInt8) : h.en ≤ (ofS (sigH D h b)).en := by
  unfold sigH
  repeat' split
  all_goals first
    | exact Nat.le_refl _
    | exact Nat.le_add_right _ _
theorem beg_en (D : Nat) (h : Hs) (b : UInt8) : h.en ≤ (ofS (begH D h b)).en := by
  unfold begH
  repeat' split
  all_goals first
    | exact Nat.le_refl _
    | exact sig_en D (pcH h) b
theorem pat_en (h : Hs) (i : Bool) (b : UInt8) : h.en ≤ (ofS (patH h i b)).en := by
  unfold patH
  repeat' split
  all_goals exact Nat.le_refl _
theorem step_en (D : Nat) (p : Hp) (h : Hs) (b : UInt8) : h.en ≤ (ofS (stepH D p h b)).en := by
  unfold stepH texH graH
  repeat' split
  all_goals first
    | exact Nat.le_refl _
    | exact beg_en D h b
    | exact beg_en D (worH h _) b
    | exact beg_en D (endH (pcH h) 0) b
    | exact pat_en h _ b
    | exact pat_en (pcH h) _ b
theorem run_en (D : Nat) : ∀ (l : List UInt8) (p : Hp) (h : Hs), h.en ≤ (ofR (runH D p h l)).en
  | [], _, _ => Nat.le_refl _
  | b :: l, p, h => by
    have h1 := step_en D p h b
    cases e : stepH D p h b with
    | go p' h' =>
      rw [runH_go e]
      rw [e] at h1
      exact Nat.le_trans h1 (run_en D l p' h')
    | no h' =>
      rw [runH_no e]
      rw [e] at h1
      exact h1
end Go.Proofs.Ytbojbkpplejdmaa
namespace Go.Proofs.Ytbojbkpplejdmaa

/-- What is told: from the bad byte on (none: none is bad); whether the end lies within something; what is open; pieces, ends. -/
abbrev Th := Option (List UInt8) × Bool × List UInt8 × Nat × Nat
def winH : Hp → Bool
  | .t _ _ => true
  | .g _ _ => true
  | .p _ _ => true
  | .s => true
  | .k _ => true
  | .x _ => true
  | _ => false
def telH : Rh → Th
  | .ok p h => (none, winH p, h.op, h.pc, h.en)
  | .bad h r => (some r, false, h.op, h.pc, h.en)
/-- How reading a piece ends: it goes on with what is left; at a bad byte; within it. -/
inductive Ho where
  | on (h : Hs) (r : List UInt8)
  | bad (h : Hs) (r : List UInt8)
  | win (h : Hs)
def telO (D : Nat) : Ho → Th
  | .on h r => telH (runH D .z h r)
  | .bad h r => (some r, false, h.op, h.pc, h.en)
  | .win h => (none, true, h.op, h.pc, h.en)

/-! A word, and what stands behind a pattern. -/
def wpB (dig : Bool) (b : UInt8) : Bool := innB b || (dig && b == 46)
theorem word_ok (D : Nat) (dig : Bool) (h : Hs) : ∀ (l acc : List UInt8), telH (runH D (.w dig acc) h l) = telH (runH D .z (worH h (acc ++ l.takeWhile (wpB dig))) (l.dropWhile (wpB dig)))
  | [], acc => by
    rw [List.takeWhile_nil, List.dropWhile_nil, List.append_nil]
    rfl
  | b :: l, acc => by
    cases e : wpB dig b with
    | true =>
      rw [List.takeWhile_cons, List.dropWhile_cons, e, if_pos rfl, if_pos rfl, runH_go (show stepH D (.w dig acc) h b = .go (.w dig (acc ++ [b])) h from if_pos e), word_ok D dig h l (acc ++ [b])]
      rw [List.append_assoc, List.singleton_append]
    | false =>
      rw [List.takeWhile_cons, List.dropWhile_cons, e, if_neg (by decide), if_neg (by decide), List.append_nil]
      have e2 : stepH D (.w dig acc) h b = stepH D .z (worH h acc) b := if_neg (by rw [show (innB b || (dig && b == 46)) = false from e]; decide)
      rw [runH, runH, e2]
theorem flag_ok (D : Nat) (h : Hs) : ∀ l : List UInt8, telH (runH D .f h l) = telH (runH D .z h (l.dropWhile innB))
  | [] => rfl
  | b :: l => by
    rw [List.dropWhile_cons]
    cases e : innB b with
    | true =>
      rw [if_pos rfl, runH_go (show stepH D .f h b = .go .f h from if_pos e)]
      exact flag_ok D h l
    | false =>
      have e2 : stepH D .f h b = stepH D .z h b := if_neg (by rw [e]; decide)
      rw [if_neg (by decide), runH, runH, e2]

/-! Remarks. -/
def lineO (h : Hs) : List UInt8 → Ho
  | [] => .on h []
  | b :: l => if lineB b then .on { h with br := true } l else lineO h l
theorem line_ok (D : Nat) (h : Hs) : ∀ l : List UInt8, telH (runH D .l h l) = telO D (lineO h l)
  | [] => rfl
  | b :: l => by
    rw [lineO]
    cases e : lineB b with
    | true =>
      rw [if_pos rfl, runH_go (show stepH D .l h b = .go .z { h with br := true } from if_pos e)]
      rfl
    | false =>
      rw [if_neg (by decide), runH_go (show stepH D .l h b = .go .l h from if_neg (by rw [e]; decide))]
      exact line_ok D h l
def blockO : Hs → List UInt8 → Ho
  | h, [] => .win h
  | h, b :: l => if b == 42 && l.head? == some 47 then .on h l.tail else blockO (brH h b) l
theorem brH_no {h : Hs} {b : UInt8} (e : lineB b = false) : brH h b = h := by
  unfold brH
  rw [e, Bool.or_false]
theorem block_ok (D : Nat) : ∀ (l : List UInt8) (h : Hs), telH (runH D (.k false) h l) = telO D (blockO h l) ∧ telH (runH D (.k true) h l) = telO D (if l.head? == some 47 then .on h l.tail else blockO h l)
  | [], h => ⟨rfl, rfl⟩
  | b :: l, h => by
    have h1 : telH (runH D (.k (b == 42)) (brH h b) l) = telO D (blockO h (b :: l)) := by
      rw [blockO]
      cases e : (b == 42) with
      | true =>
        have hb : b = 42 := eq_of_beq e
        subst hb
        rw [brH_no (h := h) (b := 42) rfl, (block_ok D l h).2]
        cases l.head? == some 47 <;> rfl
      | false => exact (block_ok D l (brH h b)).1
    refine ⟨?_, ?_⟩
    · rw [runH_go (show stepH D (.k false) h b = .go (.k (b == 42)) (brH h b) from rfl)]
      exact h1
    · cases e : (b == 47) with
      | true =>
        have hb : b = 47 := eq_of_beq e
        subst hb
        rw [runH_go (show stepH D (.k true) h 47 = .go .z h from rfl)]
        rfl
      | false =>
        rw [runH_go (show stepH D (.k true) h b = .go (.k (b == 42)) (brH h b) from if_neg (by rw [e]; decide)), h1]
        rw [if_neg (show ¬ ((b :: l).head? == some 47) = true from by rw [List.head?_cons]; simpa using e)]

/-! Texts. -/
def quoteO (y : UInt8) (h : Hs) : List UInt8 → Ho
  | [] => .win h
  | b :: l => if b == 92 then (match l with
      | [] => .win h
      | _ :: l' => quoteO y h l') else if lineB b then .bad h (b :: l) else if b == y then .on (endH h 1) l else quoteO y h l
theorem quoteO_cons (y : UInt8) (h : Hs) (b : UInt8) (l : List UInt8) : quoteO y h (b :: l) = if b == 92 then (match l with
      | [] => .win h
      | _ :: l' => quoteO y h l') else if lineB b then .bad h (b :: l) else if b == y then .on (endH h 1) l else quoteO y h l := by cases l <;> rfl
theorem quote_ok (D : Nat) (y : UInt8) (h : Hs) : ∀ l : List UInt8, telH (runH D (.t y false) h l) = telO D (quoteO y h l)
  | [] => rfl
  | b :: l => by
    rw [quoteO_cons]
    have hs : stepH D (.t y false) h b = texH h y b := rfl
    unfold texH at hs
    cases e1 : (b == 92) with
    | true =>
      rw [e1, if_pos rfl] at hs
      rw [if_pos rfl, runH_go hs]
      match l with
      | [] => rfl
      | c :: l' =>
        rw [runH_go (show stepH D (.t y true) h c = .go (.t y false) h from rfl)]
        exact quote_ok D y h l'
    | false =>
      rw [e1, if_neg (by decide)] at hs
      rw [if_neg (by decide)]
      cases e2 : lineB b with
      | true =>
        rw [e2, if_pos rfl] at hs
        rw [if_pos rfl, runH_no hs]
        rfl
      | false =>
        rw [e2, if_neg (by decide)] at hs
        rw [if_neg (by decide)]
        cases e3 : (b == y) with
        | true =>
          rw [e3, if_pos rfl] at hs
          rw [if_pos rfl, runH_go hs]
          rfl
        | false =>
          rw [e3, if_neg (by decide)] at hs
          rw [if_neg (by decide), runH_go hs]
          exact quote_ok D y h l
def dolO (D : Nat) (h : Hs) (l : List UInt8) : Ho := if h.op.length == D then .bad h l else .on (endH { h with op := 36 :: h.op } 0) l.tail
def graveO (D : Nat) (h : Hs) : List UInt8 → Ho
  | [] => .win h
  | b :: l => if b == 92 then (match l with
      | [] => .win h
      | _ :: l' => graveO D h l') else if b == 96 then .on (endH h 1) l else if b == 36 && l.head? == some 123 then dolO D h l else graveO D h l
theorem graveO_cons (D : Nat) (h : Hs) (b : UInt8) (l : List UInt8) : graveO D h (b :: l) = if b == 92 then (match l with
      | [] => .win h
      | _ :: l' => graveO D h l') else if b == 96 then .on (endH h 1) l else if b == 36 && l.head? == some 123 then dolO D h l else graveO D h l := by cases l <;> rfl
theorem grave_ok (D : Nat) (h : Hs) : ∀ l : List UInt8, telH (runH D (.g false false) h l) = telO D (graveO D h l) ∧ telH (runH D (.g false true) h l) = telO D (if l.head? == some 123 then dolO D h l else graveO D h l)
  | [] => ⟨rfl, rfl⟩
  | b :: l => by
    have h1 : ∀ dol, (dol && b == 123) = false → telH (runH D (.g false dol) h (b :: l)) = telO D (graveO D h (b :: l)) := fun dol hd => by
      have hs : stepH D (.g false dol) h b = graH h b := by
        show (if dol && b == 123 then _ else graH h b) = _
        rw [hd]
        exact if_neg (by decide)
      unfold graH at hs
      rw [graveO_cons]
      cases e1 : (b == 92) with
      | true =>
        rw [e1, if_pos rfl] at hs
        rw [if_pos rfl, runH_go hs]
        match l with
        | [] => rfl
        | c :: l' =>
          rw [runH_go (show stepH D (.g true false) h c = .go (.g false false) h from rfl)]
          exact (grave_ok D h l').1
      | false =>
        rw [e1, if_neg (by decide)] at hs
        rw [if_neg (by decide)]
        cases e2 : (b == 96) with
        | true =>
          rw [e2, if_pos rfl] at hs
          rw [if_pos rfl, runH_go hs]
          rfl
        | false =>
          rw [e2, if_neg (by decide)] at hs
          rw [if_neg (by decide)]
          cases e3 : (b == 36) with
          | true =>
            rw [e3, if_pos rfl] at hs
            rw [runH_go hs, (grave_ok D h l).2, Bool.true_and]
          | false =>
            rw [e3, if_neg (by decide)] at hs
            rw [runH_go hs, (grave_ok D h l).1, Bool.false_and, if_neg (by decide)]
    refine ⟨h1 false rfl, ?_⟩
    cases e : (b == 123) with
    | true =>
      have hb : b = 123 := eq_of_beq e
      subst hb
      rw [if_pos (show ((123 :: l).head? == some 123) = true from rfl)]
      have hs : stepH D (.g false true) h 123 = if h.op.length == D then .no h else .go .z (endH { h with op := 36 :: h.op } 0) := rfl
      unfold dolO
      cases e2 : (h.op.length == D) with
      | true =>
        rw [e2, if_pos rfl] at hs
        rw [if_pos rfl, runH_no hs]
        rfl
      | false =>
        rw [e2, if_neg (by decide)] at hs
        rw [if_neg (by decide), runH_go hs]
        rfl
    | false =>
      rw [if_neg (show ¬ ((b :: l).head? == some 123) = true from by rw [List.head?_cons]; simpa using e)]
      exact h1 true (by rw [e]; rfl)

/-! A pattern. -/
def patO (h : Hs) : Bool → List UInt8 → Ho
  | _, [] => .win h
  | inb, b :: l => if b == 92 then (match l with
      | [] => .win h
      | _ :: l' => patO h inb l') else if lineB b then .bad h (b :: l) else if b == 47 && !inb then .on (endH h 1) (l.dropWhile innB)
      else if b == 91 then patO h true l else if b == 93 then patO h false l else patO h inb l
theorem patO_cons (h : Hs) (inb : Bool) (b : UInt8) (l : List UInt8) : patO h inb (b :: l) = if b == 92 then (match l with
      | [] => .win h
      | _ :: l' => patO h inb l') else if lineB b then .bad h (b :: l) else if b == 47 && !inb then .on (endH h 1) (l.dropWhile innB)
      else if b == 91 then patO h true l else if b == 93 then patO h false l else patO h inb l := by cases l <;> rfl
theorem pat_ok (D : Nat) (h : Hs) : ∀ (l : List UInt8) (inb : Bool), telH (runH D (.p false inb) h l) = telO D (patO h inb l)
  | [], _ => rfl
  | b :: l, inb => by
    rw [patO_cons]
    have hs : stepH D (.p false inb) h b = patH h inb b := rfl
    unfold patH at hs
    cases e1 : (b == 92) with
    | true =>
      rw [e1, if_pos rfl] at hs
      rw [if_pos rfl, runH_go hs]
      match l with
      | [] => rfl
      | c :: l' =>
        rw [runH_go (show stepH D (.p true inb) h c = .go (.p false inb) h from rfl)]
        exact pat_ok D h l' inb
    | false =>
      rw [e1, if_neg (by decide)] at hs
      rw [if_neg (by decide)]
      cases e2 : lineB b with
      | true =>
        rw [e2, if_pos rfl] at hs
        rw [if_pos rfl, runH_no hs]
        rfl
      | false =>
        rw [e2, if_neg (by decide)] at hs
        rw [if_neg (by decide)]
        cases e3 : (b == 47 && !inb) with
        | true =>
          rw [e3, if_pos rfl] at hs
          rw [if_pos rfl, runH_go hs]
          exact flag_ok D (endH h 1) l
        | false =>
          rw [e3, if_neg (by decide)] at hs
          rw [if_neg (by decide)]
          cases e4 : (b == 91) with
          | true =>
            rw [e4, if_pos rfl] at hs
            rw [if_pos rfl, runH_go hs]
            exact pat_ok D h l true
          | false =>
            rw [e4, if_neg (by decide)] at hs
            rw [if_neg (by decide)]
            cases e5 : (b == 93) with
            | true =>
              rw [e5, if_pos rfl] at hs
              rw [if_pos rfl, runH_go hs]
              exact pat_ok D h l false
            | false =>
              rw [e5, if_neg (by decide)] at hs
              rw [if_neg (by decide), runH_go hs]
              exact pat_ok D h l inb
/-! What begins with a slash, with <!--; a sign. -/
def slashO (h : Hs) : List UInt8 → Ho
  | [] => .win h
  | b :: r => if b == 47 then lineO h r else if b == 42 then blockO h r else if h.last != 0 then .on (endH (pcH h) 0) (b :: r) else patO (pcH h) false (b :: r)
theorem slash_ok (D : Nat) (h : Hs) : ∀ l : List UInt8, telH (runH D .s h l) = telO D (slashO h l)
  | [] => rfl
  | b :: r => by
    rw [slashO]
    have hs : stepH D .s h b = if b == 47 then .go .l h else if b == 42 then .go (.k false) h else if h.last != 0 then begH D (endH (pcH h) 0) b else patH (pcH h) false b := rfl
    cases e1 : (b == 47) with
    | true =>
      rw [e1, if_pos rfl] at hs
      rw [if_pos rfl, runH_go hs]
      exact line_ok D h r
    | false =>
      rw [e1, if_neg (by decide)] at hs
      rw [if_neg (by decide)]
      cases e2 : (b == 42) with
      | true =>
        rw [e2, if_pos rfl] at hs
        rw [if_pos rfl, runH_go hs]
        exact (block_ok D r h).1
      | false =>
        rw [e2, if_neg (by decide)] at hs
        rw [if_neg (by decide)]
        cases e3 : (h.last != 0) with
        | true =>
          rw [e3, if_pos rfl] at hs
          rw [if_pos rfl, runH, hs]
          show _ = telH (runH D .z (endH (pcH h) 0) (b :: r))
          rw [runH]
          rfl
        | false =>
          rw [e3, if_neg (by decide)] at hs
          rw [if_neg (by decide), ← pat_ok D (pcH h) (b :: r) false, runH, runH, hs]
          rfl
def lessO (h : Hs) : Nat → List UInt8 → Ho
  | _, [] => .win h
  | i, b :: l => if b == minH i then (if i == 3 then lineO h l else lessO h (i + 1) l) else .bad h (b :: l)
theorem less_ok (D : Nat) (h : Hs) : ∀ (l : List UInt8) (i : Nat), telH (runH D (.x i) h l) = telO D (lessO h i l)
  | [], _ => rfl
  | b :: l, i => by
    rw [lessO]
    have hs : stepH D (.x i) h b = if b == minH i then (if i == 3 then .go .l h else .go (.x (i + 1)) h) else .no h := rfl
    cases e1 : (b == minH i) with
    | true =>
      rw [e1, if_pos rfl] at hs
      rw [if_pos rfl]
      cases e2 : (i == 3) with
      | true =>
        rw [e2, if_pos rfl] at hs
        rw [if_pos rfl, runH_go hs]
        exact line_ok D h l
      | false =>
        rw [e2, if_neg (by decide)] at hs
        rw [if_neg (by decide), runH_go hs]
        exact less_ok D h l (i + 1)
    | false =>
      rw [e1, if_neg (by decide)] at hs
      rw [if_neg (by decide), runH_no hs]
      rfl
def signO (D : Nat) (h : Hs) (b : UInt8) (l : List UInt8) : Ho := match sigH D (pcH h) b with
  | .go (.g _ _) h' => graveO D h' l
  | .go _ h' => .on h' l
  | .no h' => .bad h' (b :: l)
theorem sig_kind (D : Nat) (h : Hs) (b : UInt8) : (∃ h', sigH D h b = .go .z h') ∨ (∃ h', sigH D h b = .go (.g false false) h') ∨ (∃ h', sigH D h b = .no h') := by
  unfold sigH
  repeat' split
  all_goals first
    | exact Or.inl ⟨_, rfl⟩
    | exact Or.inr (Or.inl ⟨_, rfl⟩)
    | exact Or.inr (Or.inr ⟨_, rfl⟩)
theorem sign_ok {D : Nat} {p : Hp} {h h2 : Hs} {b : UInt8} {l : List UInt8} (e : stepH D p h2 b = sigH D (pcH h) b) : telH (runH D p h2 (b :: l)) = telO D (signO D h b l) := by
  unfold signO
  rcases sig_kind D (pcH h) b with ⟨h', e2⟩ | ⟨h', e2⟩ | ⟨h', e2⟩
  · rw [e2, runH_go (e.trans e2)]
    rfl
  · rw [e2, runH_go (e.trans e2)]
    exact (grave_ok D h' l).1
  · rw [e2, runH_no (e.trans e2)]
    rfl
/-! What stands at a place; all of it. -/
def nextO (D : Nat) (h : Hs) (b : UInt8) (l : List UInt8) : Ho :=
  if blkB b then .on (brH h b) l
  else if innB b then (if joiH h then .bad h (b :: l) else .on (worH (pcH h) (b :: l.takeWhile (wpB (digB b)))) (l.dropWhile (wpB (digB b))))
  else if b == 34 || b == 39 then (if joiH h then .bad h (b :: l) else quoteO b (pcH h) l)
  else if b == 96 then graveO D (pcH h) l
  else if b == 47 then slashO h l
  else if b == 60 && h.pc == 0 then lessO h 1 l
  else if sgnH b then signO D h b l
  else .bad h (b :: l)
theorem nextO_ok (D : Nat) (h : Hs) (b : UInt8) (l : List UInt8) : telH (runH D .z h (b :: l)) = telO D (nextO D h b l) := by
  have hs : stepH D .z h b = begH D h b := rfl
  unfold begH at hs
  unfold nextO
  cases e1 : blkB b with
  | true =>
    rw [e1, if_pos rfl] at hs
    rw [if_pos rfl, runH_go hs]
    rfl
  | false =>
    rw [e1, if_neg (by decide)] at hs
    rw [if_neg (by decide)]
    cases e2 : innB b with
    | true =>
      rw [e2, if_pos rfl] at hs
      rw [if_pos rfl]
      cases e : joiH h with
      | true =>
        rw [e, if_pos rfl] at hs
        rw [if_pos rfl, runH_no hs]
        rfl
      | false =>
        rw [e, if_neg (by decide)] at hs
        rw [if_neg (by decide), runH_go hs]
        exact word_ok D (digB b) (pcH h) l [b]
    | false =>
      rw [e2, if_neg (by decide)] at hs
      rw [if_neg (by decide)]
      cases e3 : (b == 34 || b == 39) with
      | true =>
        rw [e3, if_pos rfl] at hs
        rw [if_pos rfl]
        cases e : joiH h with
        | true =>
          rw [e, if_pos rfl] at hs
          rw [if_pos rfl, runH_no hs]
          rfl
        | false =>
          rw [e, if_neg (by decide)] at hs
          rw [if_neg (by decide), runH_go hs]
          exact quote_ok D b (pcH h) l
      | false =>
        rw [e3, if_neg (by decide)] at hs
        rw [if_neg (by decide)]
        cases e4 : (b == 96) with
        | true =>
          rw [e4, if_pos rfl] at hs
          rw [if_pos rfl, runH_go hs]
          exact (grave_ok D (pcH h) l).1
        | false =>
          rw [e4, if_neg (by decide)] at hs
          rw [if_neg (by decide)]
          cases e5 : (b == 47) with
          | true =>
            rw [e5, if_pos rfl] at hs
            rw [if_pos rfl, runH_go hs]
            exact slash_ok D h l
          | false =>
            rw [e5, if_neg (by decide)] at hs
            rw [if_neg (by decide)]
            cases e6 : (b == 60 && h.pc == 0) with
            | true =>
              rw [e6, if_pos rfl] at hs
              rw [if_pos rfl, runH_go hs]
              exact less_ok D h l 1
            | false =>
              rw [e6, if_neg (by decide)] at hs
              rw [if_neg (by decide)]
              cases e7 : sgnH b with
              | true =>
                rw [e7, if_pos rfl] at hs
                rw [if_pos rfl]
                exact sign_ok hs
              | false =>
                rw [e7, if_neg (by decide)] at hs
                rw [if_neg (by decide), runH_no hs]
                rfl
end Go.Proofs.Ytbojbkpplejdmaa
