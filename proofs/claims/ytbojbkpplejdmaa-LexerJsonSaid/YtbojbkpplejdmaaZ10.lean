/-
  What package json's Feed does: a machine behind all bytes that came (MacB), its state, its place, whether something came; New, Whole, Valid and lives. Conditions: the texts are no longer than a length can be.
  Plain facts on the number whose digits a text is. No condition.
  Plain facts on layer 24's texts: where a run of bytes ends, the unit, what is asked for (askO). No condition.
-/
import Derived.Test.YtbojbkpplejdmaaZ9
import Derived.Test.YtbojbkpplejdmaaZ3
import Derived.Test.YtbojbkpplejdmaaZ1
import Derived.Test.YtbojbkpplejdmaaZ6
import Derived.Lib.Hide
namespace Go.Proofs.Ytbojbkpplejdmaa
open Go.RowKit

/-- A machine behind bytes l, sn of which are told as seen. -/
def MacB (w : World) (mb D : Nat) (sn : Int) (l : List UInt8) : Prop :=
  ∃ (pl sp tn lf : Int) (rs : ByteArray) (dp : Nat) (E : List Value), Mac w mb D sn pl sp tn lf rs dp E ∧ E.length = 200 ∧ dp ≤ D ∧ D ≤ 200 ∧ match runJ D .v [] l with
    | .ok (p, st) => Reg p st sp tn lf rs ∧ dp = st.length ∧ EndsIs st E ∧ fewW p = true
    | .error (x, r) => sp = (if x == 0 then 19 else 20) ∧ pl = (l.length : Int) - (r.length : Int)
theorem MacB.s1 {w : World} {mb D : Nat} {sn : Int} {l : List UInt8} (h : MacB w mb D sn l) (x : Int) : MacB (w.setCell ⟨mb, 1, none⟩ (.int .i64 x)) mb D x l := by
  obtain ⟨pl, sp, tn, lf, rs, dp, E, h1, h2⟩ := h
  exact ⟨pl, sp, tn, lf, rs, dp, E, Mac.s1 h1 x, h2⟩
theorem MacB.same {w w' : World} {mb D : Nat} {sn : Int} {l : List UInt8} (h : MacB w mb D sn l) (e : w'.heap[mb]? = w.heap[mb]?) : MacB w' mb D sn l := by
  obtain ⟨pl, sp, tn, lf, rs, dp, E, h1, h2⟩ := h
  exact ⟨pl, sp, tn, lf, rs, dp, E, e.trans h1, h2⟩
theorem MacB.block {w : World} {mb D : Nat} {sn : Int} {l : List UInt8} (h : MacB w mb D sn l) : mb < w.heap.size := by
  obtain ⟨pl, sp, tn, lf, rs, dp, E, h1, h2⟩ := h
  exact Blk.lt h1

/-! The step's number: whether it stopped. -/
def endN : Pj → Bool
  | .e => true
  | .n i => i == 1 || i == 2 || i == 4 || decide (7 ≤ i)
  | _ => false
theorem end_is (p : Pj) (st : List Bool) : endJ p st = (st.isEmpty && endN p) := by cases p <;> rfl
theorem reg_on {p : Pj} {st : List Bool} {sp tn lf : Int} {rs : ByteArray} (h : Reg p st sp tn lf rs) : 0 ≤ sp ∧ sp ≤ 18 ∧ (sp = 0 ↔ p = .v ∧ st = []) ∧ (sp == 6 || fulZ sp) = endN p := by
  cases p with
  | v =>
    have hr' : sp = if st.isEmpty then 0 else 1 := h
    cases st with
    | nil =>
      have e : sp = 0 := hr'
      subst e
      exact ⟨by decide, by decide, ⟨fun _ => ⟨rfl, rfl⟩, fun _ => rfl⟩, rfl⟩
    | cons a r =>
      have e : sp = 1 := hr'
      subst e
      exact ⟨by decide, by decide, ⟨fun e => absurd e (by decide), fun e => (by cases e.2)⟩, rfl⟩
  | a => obtain ⟨rfl, _⟩ := h; exact ⟨by decide, by decide, ⟨fun e => absurd e (by decide), fun e => (by cases e.1)⟩, rfl⟩
  | o => obtain ⟨rfl, _⟩ := h; exact ⟨by decide, by decide, ⟨fun e => absurd e (by decide), fun e => (by cases e.1)⟩, rfl⟩
  | k => obtain ⟨rfl, _⟩ := h; exact ⟨by decide, by decide, ⟨fun e => absurd e (by decide), fun e => (by cases e.1)⟩, rfl⟩
  | c => obtain ⟨rfl, _⟩ := h; exact ⟨by decide, by decide, ⟨fun e => absurd e (by decide), fun e => (by cases e.1)⟩, rfl⟩
  | e =>
    have e : sp = 6 := h
    subst e
    exact ⟨by decide, by decide, ⟨fun e => absurd e (by decide), fun e => (by cases e.1)⟩, rfl⟩
  | q key n =>
    match n, h with
    | 0, ⟨_, _, e⟩ => subst e; exact ⟨by decide, by decide, ⟨fun e => absurd e (by decide), fun e => (by cases e.1)⟩, rfl⟩
    | 1, ⟨_, _, e⟩ => subst e; exact ⟨by decide, by decide, ⟨fun e => absurd e (by decide), fun e => (by cases e.1)⟩, rfl⟩
    | m + 2, ⟨_, _, e, _⟩ => subst e; exact ⟨by decide, by decide, ⟨fun e => absurd e (by decide), fun e => (by cases e.1)⟩, rfl⟩
  | n i =>
    obtain ⟨rfl, hi⟩ := reg_num h
    clear h
    match i, hi with
    | 0, _ => exact ⟨by decide, by decide, ⟨fun e => absurd e (by decide), fun e => (by cases e.1)⟩, rfl⟩
    | 1, _ => exact ⟨by decide, by decide, ⟨fun e => absurd e (by decide), fun e => (by cases e.1)⟩, rfl⟩
    | 2, _ => exact ⟨by decide, by decide, ⟨fun e => absurd e (by decide), fun e => (by cases e.1)⟩, rfl⟩
    | 3, _ => exact ⟨by decide, by decide, ⟨fun e => absurd e (by decide), fun e => (by cases e.1)⟩, rfl⟩
    | 4, _ => exact ⟨by decide, by decide, ⟨fun e => absurd e (by decide), fun e => (by cases e.1)⟩, rfl⟩
    | 5, _ => exact ⟨by decide, by decide, ⟨fun e => absurd e (by decide), fun e => (by cases e.1)⟩, rfl⟩
    | 6, _ => exact ⟨by decide, by decide, ⟨fun e => absurd e (by decide), fun e => (by cases e.1)⟩, rfl⟩
    | 7, _ => exact ⟨by decide, by decide, ⟨fun e => absurd e (by decide), fun e => (by cases e.1)⟩, rfl⟩
  | w x l =>
    obtain ⟨rfl, _⟩ := h
    exact ⟨by decide, by decide, ⟨fun e => absurd e (by decide), fun e => (by cases e.1)⟩, rfl⟩
theorem sta_ok {p : Pj} {st : List Bool} {sp tn lf : Int} {rs : ByteArray} (h : Reg p st sp tn lf rs) : staZ sp (st.length : Nat) = if endJ p st then 2 else 1 := by
  obtain ⟨h0, h1, _, h3⟩ := reg_on h
  rw [end_is]
  unfold staZ
  have e1 : (sp == 19) = false := by rw [beq_eq_false_iff_ne]; omega
  have e2 : (sp == 20) = false := by rw [beq_eq_false_iff_ne]; omega
  rw [e1, e2, h3]
  cases st with
  | nil => cases p <;> rfl
  | cons a r =>
    have e3 : (((a :: r).length : Int) == 0) = false := by rw [beq_eq_false_iff_ne, List.length_cons]; omega
    rw [e3]
    rfl

/-! Whether something came but what parts. -/
def offJ : Pj → List Bool → Bool
  | .v, st => !st.isEmpty
  | .a, st => !st.isEmpty
  | .o, st => !st.isEmpty
  | .k, st => !st.isEmpty
  | .c, st => !st.isEmpty
  | .q true _, st => !st.isEmpty
  | _, _ => true
theorem off_beg {D : Nat} {st st' : List Bool} {p' : Pj} {b : UInt8} (h : begJ D st b = .go p' st') : offJ p' st' = true := by
  unfold begJ at h
  repeat' split at h
  all_goals first
    | (cases h; done)
    | (injection h with h1 h2; subst h1 h2; rfl)
theorem off_beh {st st' : List Bool} {p' : Pj} {b : UInt8} (h : behJ st b = .go p' st') : offJ p' st' = true := by
  unfold behJ at h
  repeat' split at h
  all_goals first
    | (cases h; done)
    | (injection h with h1 h2; subst h1 h2; first | rfl | (split <;> rfl))
theorem off_step {D : Nat} {p p' : Pj} {st st' : List Bool} {b : UInt8} (ho : offJ p st = true) (h : stepJ D p st b = .go p' st') : offJ p' st' = true := by
  cases p with
  | v =>
    have e : stepJ D .v st b = if whiB b then .go .v st else begJ D st b := rfl
    rw [e] at h
    cases hw : whiB b <;> rw [hw] at h
    · exact off_beg h
    · injection h with h1 h2; subst h1 h2; exact ho
  | a =>
    have e : stepJ D .a st b = if whiB b then .go .a st else if b == 93 then .go .e st.tail else begJ D st b := rfl
    rw [e] at h
    cases hw : whiB b <;> rw [hw] at h
    · cases h9 : (b == 93) <;> rw [h9] at h
      · exact off_beg h
      · injection h with h1 h2; subst h1 h2; rfl
    · injection h with h1 h2; subst h1 h2; exact ho
  | o =>
    have e : stepJ D .o st b = if whiB b then .go .o st else if b == 125 then .go .e st.tail else if b == 34 then .go (.q true 0) st else .no := rfl
    rw [e] at h
    cases hw : whiB b <;> rw [hw] at h
    · cases h9 : (b == 125) <;> rw [h9] at h
      · cases h8 : (b == 34) <;> rw [h8] at h
        · cases h
        · injection h with h1 h2; subst h1 h2; exact ho
      · injection h with h1 h2; subst h1 h2; rfl
    · injection h with h1 h2; subst h1 h2; exact ho
  | k =>
    have e : stepJ D .k st b = if whiB b then .go .k st else if b == 34 then .go (.q true 0) st else .no := rfl
    rw [e] at h
    cases hw : whiB b <;> rw [hw] at h
    · cases h8 : (b == 34) <;> rw [h8] at h
      · cases h
      · injection h with h1 h2; subst h1 h2; exact ho
    · injection h with h1 h2; subst h1 h2; exact ho
  | c =>
    have e : stepJ D .c st b = if whiB b then .go .c st else if b == 58 then .go .v st else .no := rfl
    rw [e] at h
    cases hw : whiB b <;> rw [hw] at h
    · cases h8 : (b == 58) <;> rw [h8] at h
      · cases h
      · injection h with h1 h2; subst h1 h2; exact ho
    · injection h with h1 h2; subst h1 h2; exact ho
  | e => exact off_beh h
  | q key n =>
    cases hq : (n == 0 && b == 34) with
    | true =>
      rw [quo_end D key st hq] at h
      injection h with h1 h2
      subst h1 h2
      cases key with
      | true => exact ho
      | false => rfl
    | false =>
      rw [quo_in D key st hq] at h
      cases hm : quoN n b with
      | none => rw [hm] at h; cases h
      | some m =>
        rw [hm] at h
        injection h with h1 h2
        subst h1 h2
        cases key with
        | true => exact ho
        | false => rfl
  | n i =>
    unfold stepJ at h
    repeat' split at h
    all_goals first
      | contradiction
      | (cases h; done)
      | exact off_beh h
      | (injection h with h1 h2; subst h1 h2; rfl)
  | w x l =>
    have e : stepJ D (.w x l) st b = if b == x then .go (worP l) st else .no := rfl
    rw [e] at h
    cases h8 : (b == x) <;> rw [h8] at h
    · cases h
    · injection h with h1 h2
      subst h1 h2
      cases l <;> rfl
theorem off_run {D : Nat} : ∀ (l : List UInt8) {p p' : Pj} {st st' : List Bool}, offJ p st = true → runJ D p st l = .ok (p', st') → offJ p' st' = true
  | [], _, _, _, _, ho, h => by cases h; exact ho
  | b :: l, p, p', st, st', ho, h => by
    rw [runJ] at h
    cases h2 : stepJ D p st b with
    | go q su =>
      rw [h2] at h
      exact off_run l (off_step ho h2) h
    | no => rw [h2] at h; cases h
    | de => rw [h2] at h; cases h
theorem run_white {D : Nat} : ∀ (l : List UInt8), l.all whiB = true → runJ D .v [] l = .ok (.v, [])
  | [], _ => rfl
  | b :: l, h => by
    rw [List.all_cons, Bool.and_eq_true] at h
    rw [runJ, show stepJ D .v [] b = .go .v [] from if_pos h.1]
    exact run_white l h.2
theorem run_begun {D : Nat} : ∀ (l : List UInt8), l.all whiB = false → ∀ {p : Pj} {st : List Bool}, runJ D .v [] l = .ok (p, st) → offJ p st = true
  | [], h, _, _, _ => by cases h
  | b :: l, h, p, st, hr => by
    rw [runJ] at hr
    cases hw : whiB b with
    | true =>
      rw [show stepJ D .v [] b = .go .v [] from if_pos hw] at hr
      rw [List.all_cons, hw, Bool.true_and] at h
      exact run_begun l h hr
    | false =>
      rw [show stepJ D .v [] b = begJ D [] b from by show (if whiB b then _ else _) = _; rw [hw]; exact if_neg (by decide)] at hr
      cases h2 : begJ D [] b with
      | go q su =>
        rw [h2] at hr
        exact off_run l (off_beg h2) hr
      | no => rw [h2] at hr; cases hr
      | de => rw [h2] at hr; cases hr

/-! What is told of a machine behind l. -/
theorem MacB.told {w : World} {mb D : Nat} {sn : Int} {s : ByteArray} (h : MacB w mb D sn s.data.toList) :
    ∃ (pl sp tn lf : Int) (rs : ByteArray) (dp : Nat) (E : List Value), Mac w mb D sn pl sp tn lf rs dp E ∧ dp ≤ D ∧ D ≤ 200 ∧ staZ sp dp = (whoJ D s).1 ∧ (if sp == 19 || sp == 20 then pl else -1) = (whoJ D s).2 ∧ (sp != 0) = !s.data.toList.all whiB := by
  obtain ⟨pl, sp, tn, lf, rs, dp, E, h1, h2, h3, h4, h5⟩ := h
  refine ⟨pl, sp, tn, lf, rs, dp, E, h1, h3, h4, ?_⟩
  cases hr : runJ D .v [] s.data.toList with
  | ok q =>
    obtain ⟨p, st⟩ := q
    rw [hr] at h5
    obtain ⟨r1, rfl, r3, r4⟩ := h5
    obtain ⟨g0, g1, g2, _⟩ := reg_on r1
    rw [who_ok hr]
    have e1 : (sp == 19) = false := by rw [beq_eq_false_iff_ne]; omega
    have e2 : (sp == 20) = false := by rw [beq_eq_false_iff_ne]; omega
    refine ⟨sta_ok r1, by rw [e1, e2]; rfl, ?_⟩
    cases hw : s.data.toList.all whiB with
    | true =>
      rw [run_white _ hw] at hr
      injection hr with hr
      injection hr with ha hb
      rw [g2.2 ⟨ha.symm, hb.symm⟩]
      rfl
    | false =>
      have ho := run_begun _ hw hr
      show (sp != 0) = true
      rw [bne_iff_ne]
      intro e0
      obtain ⟨rfl, rfl⟩ := g2.1 e0
      cases ho
  | error q =>
    obtain ⟨x, r⟩ := q
    rw [hr] at h5
    obtain ⟨r1, r2⟩ := h5
    rw [who_bad hr]
    have hb := run_bad D _ _ _ _ _ hr
    have hw : s.data.toList.all whiB = false := by
      cases hw : s.data.toList.all whiB with
      | false => rfl
      | true => rw [run_white _ hw] at hr; cases hr
    have hz : s.data.toList.length = s.size := by simp
    rw [hz] at r2
    rw [hw]
    rcases hb.1 with rfl | rfl
    · have e : sp = 19 := r1
      subst e
      exact ⟨rfl, r2, rfl⟩
    · have e : sp = 20 := r1
      subst e
      exact ⟨rfl, r2, rfl⟩

/-! One byte more, and what stops it. -/
theorem run_snoc {D : Nat} {l : List UInt8} {b : UInt8} {p : Pj} {st : List Bool} (h : runJ D .v [] l = .ok (p, st)) : runJ D .v [] (l ++ [b]) = match stepJ D p st b with
    | .go p' st' => .ok (p', st')
    | .no => .error (0, [b])
    | .de => .error (3, [b]) := by
  rw [run_app, h]
  show runJ D p st [b] = _
  rw [runJ]
  cases stepJ D p st b <;> rfl
theorem MacB.next {w' : World} {mb D : Nat} {sn pl : Int} {l : List UInt8} {b : UInt8} {p : Pj} {st : List Bool} (hD : D ≤ 200) (h : runJ D .v [] l = .ok (p, st)) (hf : fewW p = true) (hm : MacS w' mb D sn pl (stepJ D p st b)) :
    MacB (w'.setCell ⟨mb, 2, none⟩ (.int .i64 (l.length : Nat))) mb D sn (l ++ [b]) := by
  obtain ⟨sp, tn, lf, rs, dp, E, h1, h2, h3, h4⟩ := hm
  refine ⟨_, sp, tn, lf, rs, dp, E, Mac.s2 h1 _, h2, h3, hD, ?_⟩
  rw [run_snoc h]
  cases hs : stepJ D p st b with
  | go p' st' =>
    rw [hs] at h4
    exact ⟨h4.1, h4.2.1, h4.2.2, few_step hf hs⟩
  | no =>
    rw [hs] at h4
    exact ⟨h4, by simp⟩
  | de =>
    rw [hs] at h4
    exact ⟨h4, by simp⟩
theorem MacB.stop {w : World} {mb D : Nat} {sn : Int} {l m : List UInt8} {x : Int} {r : List UInt8} (h : MacB w mb D sn l) (hr : runJ D .v [] l = .error (x, r)) : MacB w mb D sn (l ++ m) := by
  obtain ⟨pl, sp, tn, lf, rs, dp, E, h1, h2, h3, h4, h5⟩ := h
  refine ⟨pl, sp, tn, lf, rs, dp, E, h1, h2, h3, h4, ?_⟩
  rw [hr] at h5
  rw [run_app, hr]
  exact ⟨h5.1, by rw [h5.2, List.length_append, List.length_append]; omega⟩
end Go.Proofs.Ytbojbkpplejdmaa
namespace Go.Proofs.Ytbojbkpplejdmaa

theorem scan_all {p : UInt8 → Bool} {s : ByteArray} : ∀ (n i j : Nat), j = i + n → j < scan p s i → (hj : j < s.size) → p s[j] = true
  | 0, i, j, e, h, hj => by
    obtain rfl : j = i := by omega
    cases hp : p s[j]
    · rw [scan_stop hj hp] at h; omega
    · rfl
  | n + 1, i, j, e, h, hj => by
    have hi : i < s.size := by omega
    cases hp : p s[i]
    · rw [scan_stop hi hp] at h; omega
    · exact scan_all n (i + 1) j (by omega) (by rw [scan_step hi hp]; exact h) hj

end Go.Proofs.Ytbojbkpplejdmaa
namespace Go.Proofs.Ytbojbkpplejdmaa

theorem ext_at {s : ByteArray} {a b i : Nat} (hb : b ≤ s.size) (h : a + i < b) : (s.extract a b)[i]'(by simp; omega) = s[a + i]'(by omega) := ByteArray.getElem_extract (by simp; omega)
/-- Whether a sign stands at a place. -/
def atB (s : ByteArray) (k : Nat) (c : UInt8) : Bool := decide (k < s.size) && s[k]! == c
theorem atB_at {s : ByteArray} {k : Nat} {c : UInt8} (h : k < s.size) : atB s k c = (s[k] == c) := by
  unfold atB
  rw [getElem!_pos s k h, decide_eq_true h, Bool.true_and]
theorem atB_out {s : ByteArray} {k : Nat} {c : UInt8} (h : s.size ≤ k) : atB s k c = false := by
  unfold atB
  rw [decide_eq_false (by omega), Bool.false_and]
end Go.Proofs.Ytbojbkpplejdmaa
