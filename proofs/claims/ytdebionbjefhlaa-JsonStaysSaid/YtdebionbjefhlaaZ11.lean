/-
  What package json's Feed does: a machine behind all bytes that came (MacB), its state, its place, whether something came; New, Whole, Valid and lives. Conditions: the texts are no longer than a length can be.
  What package json's Feed does, and what New, Whole, Valid and lives answer. Conditions: the texts are no longer than a length can be.
  What package json's New, Whole, Valid and lives answer. Conditions: the texts are no longer than a length can be.
-/
import Derived.Test.YtdebionbjefhlaaZ10
import Derived.LoopTactic
import Derived.Test.YtdebionbjefhlaaZ6
namespace Go.Proofs.Ytdebionbjefhlaa
open Go.RowKit

/-- A machine behind bytes l, sn of which are told as seen. -/
def MacB (w : World) (mb D : Nat) (sn : Int) (l : List UInt8) : Prop :=
  ∃ (pl sp tn lf : Int) (rs : ByteArray) (dp : Nat) (E : List Value), Mac w mb D sn pl sp tn lf rs dp E ∧ E.length = 200 ∧ dp ≤ D ∧ D ≤ 200 ∧ match runJ D .v [] l with
    | .ok (p, st) => Reg p st sp tn lf rs ∧ dp = st.length ∧ EndsIs st E ∧ fewW p = true
    | .error (x, r) => sp = (if x == 0 then 19 else 20) ∧ pl = (l.length : Int) - (r.length : Int)
theorem MacB.s1 {w : World} {mb D : Nat} {sn : Int} {l : List UInt8} (h : MacB w mb D sn l) (x : Int) : MacB (w.setCell ⟨mb, 1, none⟩ (.int .i64 x)) mb D x l := by
  obtain ⟨pl, sp, tn, lf, rs, dp, E, h1, h2⟩ := h
  exact ⟨pl, sp, tn, lf, rs, dp, E, Mac.s1 h1 x, h2⟩
theorem MacB.same {w w' : World} {mb D : Nat} {sn : Int} {l : List UInt8} (h : MacB w mb D sn l) (e : w'.heap[mb]? = w.heap[mb]?) : MacB w' mb D sn l := by
  obtain ⟨pl, sp, tn, lf, rs, dp, E, h1, h2⟩ := h
  exact ⟨pl, sp, tn, lf, rs, dp, E, e.trans h1, h2⟩
theorem MacB.block {w : World} {mb D : Nat} {sn : Int} {l : List UInt8} (h : MacB w mb D sn l) : mb < w.heap.size := by
  obtain ⟨pl, sp, tn, lf, rs, dp, E, h1, h2⟩ := h
  exact Blk.lt h1

/-! The step's number: whether it stopped. -/
def endN : Pj → Bool
  | .e => true
  | .n i => i == 1 || i == 2 || i == 4 || decide (7 ≤ i)
  | _ => false
theorem end_is (p : Pj) (st : List Bool) : endJ p st = (st.isEmpty && endN p) := by cases p <;> rfl
theorem reg_on {p : Pj} {st : List Bool} {sp tn lf : Int} {rs : ByteArray} (h : Reg p st sp tn lf rs) : 0 ≤ sp ∧ sp ≤ 18 ∧ (sp = 0 ↔ p = .v ∧ st = []) ∧ (sp == 6 || fulZ sp) = endN p := by
  cases p with
  | v =>
    have hr' : sp = if st.isEmpty then 0 else 1 := h
    cases st with
    | nil =>
      have e : sp = 0 := hr'
      subst e
      exact ⟨by decide, by decide, ⟨fun _ => ⟨rfl, rfl⟩, fun _ => rfl⟩, rfl⟩
    | cons a r =>
      have e : sp = 1 := hr'
      subst e
      exact ⟨by decide, by decide, ⟨fun e => absurd e (by decide), fun e => (by cases e.2)⟩, rfl⟩
  | a => obtain ⟨rfl, _⟩ := h; exact ⟨by decide, by decide, ⟨fun e => absurd e (by decide), fun e => (by cases e.1)⟩, rfl⟩
  | o => obtain ⟨rfl, _⟩ := h; exact ⟨by decide, by decide, ⟨fun e => absurd e (by decide), fun e => (by cases e.1)⟩, rfl⟩
  | k => obtain ⟨rfl, _⟩ := h; exact ⟨by decide, by decide, ⟨fun e => absurd e (by decide), fun e => (by cases e.1)⟩, rfl⟩
  | c => obtain ⟨rfl, _⟩ := h; exact ⟨by decide, by decide, ⟨fun e => absurd e (by decide), fun e => (by cases e.1)⟩, rfl⟩
  | e =>
    have e : sp = 6 := h
    subst e
    exact ⟨by decide, by decide, ⟨fun e => absurd e (by decide), fun e => (by cases e.1)⟩, rfl⟩
  | q key n =>
    match n, h with
    | 0, ⟨_, _, e⟩ => subst e; exact ⟨by decide, by decide, ⟨fun e => absurd e (by decide), fun e => (by cases e.1)⟩, rfl⟩
    | 1, ⟨_, _, e⟩ => subst e; exact ⟨by decide, by decide, ⟨fun e => absurd e (by decide), fun e => (by cases e.1)⟩, rfl⟩
    | m + 2, ⟨_, _, e, _⟩ => subst e; exact ⟨by decide, by decide, ⟨fun e => absurd e (by decide), fun e => (by cases e.1)⟩, rfl⟩
  | n i =>
    obtain ⟨rfl, hi⟩ := reg_num h
    clear h
    match i, hi with
    | 0, _ => exact ⟨by decide, by decide, ⟨fun e => absurd e (by decide), fun e => (by cases e.1)⟩, rfl⟩
    | 1, _ => exact ⟨by decide, by decide, ⟨fun e => absurd e (by decide), fun e => (by cases e.1)⟩, rfl⟩
    | 2, _ => exact ⟨by decide, by decide, ⟨fun e => absurd e (by decide), fun e => (by cases e.1)⟩, rfl⟩
    | 3, _ => exact ⟨by decide, by decide, ⟨fun e => absurd e (by decide), fun e => (by cases e.1)⟩, rfl⟩
    | 4, _ => exact ⟨by decide, by decide, ⟨fun e => absurd e (by decide), fun e => (by cases e.1)⟩, rfl⟩
    | 5, _ => exact ⟨by decide, by decide, ⟨fun e => absurd e (by decide), fun e => (by cases e.1)⟩, rfl⟩
    | 6, _ => exact ⟨by decide, by decide, ⟨fun e => absurd e (by decide), fun e => (by cases e.1)⟩, rfl⟩
    | 7, _ => exact ⟨by decide, by decide, ⟨fun e => absurd e (by decide), fun e => (by cases e.1)⟩, rfl⟩
  | w x l =>
    obtain ⟨rfl, _⟩ := h
    exact ⟨by decide, by decide, ⟨fun e => absurd e (by decide), fun e => (by cases e.1)⟩, rfl⟩
theorem sta_ok {p : Pj} {st : List Bool} {sp tn lf : Int} {rs : ByteArray} (h : Reg p st sp tn lf rs) : staZ sp (st.length : Nat) = if endJ p st then 2 else 1 := by
  obtain ⟨h0, h1, _, h3⟩ := reg_on h
  rw [end_is]
  unfold staZ
  have e1 : (sp == 19) = false := by rw [beq_eq_false_iff_ne]; omega
  have e2 : (sp == 20) = false := by rw [beq_eq_false_iff_ne]; omega
  rw [e1, e2, h3]
  cases st with
  | nil => cases p <;> rfl
  | cons a r =>
    have e3 : (((a :: r).length : Int) == 0) = false := by rw [beq_eq_false_iff_ne, List.length_cons]; omega
    rw [e3]
    rfl

/-! Whether something came but what parts. -/
def offJ : Pj → List Bool → Bool
  | .v, st => !st.isEmpty
  | .a, st => !st.isEmpty
  | .o, st => !st.isEmpty
  | .k, st => !st.isEmpty
  | .c, st => !st.isEmpty
  | .q true _, st => !st.isEmpty
  | _, _ => true
theorem off_beg {D : Nat} {st st' : List Bool} {p' : Pj} {b : UInt8} (h : begJ D st b = .go p' st') : offJ p' st' = true := by
  unfold begJ at h
  repeat' split at h
  all_goals first
    | (cases h; done)
    | (injection h with h1 h2; subst h1 h2; rfl)
theorem off_beh {st st' : List Bool} {p' : Pj} {b : UInt8} (h : behJ st b = .go p' st') : offJ p' st' = true := by
  unfold behJ at h
  repeat' split at h
  all_goals first
    | (cases h; done)
    | (injection h with h1 h2; subst h1 h2; first | rfl | (split <;> rfl))
theorem off_step {D : Nat} {p p' : Pj} {st st' : List Bool} {b : UInt8} (ho : offJ p st = true) (h : stepJ D p st b = .go p' st') : offJ p' st' = true := by
  cases p with
  | v =>
    have e : stepJ D .v st b = if whiB b then .go .v st else begJ D st b := rfl
    rw [e] at h
    cases hw : whiB b <;> rw [hw] at h
    · exact off_beg h
    · injection h with h1 h2; subst h1 h2; exact ho
  | a =>
    have e : stepJ D .a st b = if whiB b then .go .a st else if b == 93 then .go .e st.tail else begJ D st b := rfl
    rw [e] at h
    cases hw : whiB b <;> rw [hw] at h
    · cases h9 : (b == 93) <;> rw [h9] at h
      · exact off_beg h
      · injection h with h1 h2; subst h1 h2; rfl
    · injection h with h1 h2; subst h1 h2; exact ho
  | o =>
    have e : stepJ D .o st b = if whiB b then .go .o st else if b == 125 then .go .e st.tail else if b == 34 then .go (.q true 0) st else .no := rfl
    rw [e] at h
    cases hw : whiB b <;> rw [hw] at h
    · cases h9 : (b == 125) <;> rw [h9] at h
      · cases h8 : (b == 34) <;> rw [h8] at h
        · cases h
        · injection h with h1 h2; subst h1 h2; exact ho
      · injection h with h1 h2; subst h1 h2; rfl
    · injection h with h1 h2; subst h1 h2; exact ho
  | k =>
    have e : stepJ D .k st b = if whiB b then .go .k st else if b == 34 then .go (.q true 0) st else .no := rfl
    rw [e] at h
    cases hw : whiB b <;> rw [hw] at h
    · cases h8 : (b == 34) <;> rw [h8] at h
      · cases h
      · injection h with h1 h2; subst h1 h2; exact ho
    · injection h with h1 h2; subst h1 h2; exact ho
  | c =>
    have e : stepJ D .c st b = if whiB b then .go .c st else if b == 58 then .go .v st else .no := rfl
    rw [e] at h
    cases hw : whiB b <;> rw [hw] at h
    · cases h8 : (b == 58) <;> rw [h8] at h
      · cases h
      · injection h with h1 h2; subst h1 h2; exact ho
    · injection h with h1 h2; subst h1 h2; exact ho
  | e => exact off_beh h
  | q key n =>
    cases hq : (n == 0 && b == 34) with
    | true =>
      rw [quo_end D key st hq] at h
      injection h with h1 h2
      subst h1 h2
      cases key with
      | true => exact ho
      | false => rfl
    | false =>
      rw [quo_in D key st hq] at h
      cases hm : quoN n b with
      | none => rw [hm] at h; cases h
      | some m =>
        rw [hm] at h
        injection h with h1 h2
        subst h1 h2
        cases key with
        | true => exact ho
        | false => rfl
  | n i =>
    unfold stepJ at h
    repeat' split at h
    all_goals first
      | contradiction
      | (cases h; done)
      | exact off_beh h
      | (injection h with h1 h2; subst h1 h2; rfl)
  | w x l =>
    have e : stepJ D (.w x l) st b = if b == x then .go (worP l) st else .no := rfl
    rw [e] at h
    cases h8 : (b == x) <;> rw [h8] at h
    · cases h
    · injection h with h1 h2
      subst h1 h2
      cases l <;> rfl
theorem off_run {D : Nat} : ∀ (l : List UInt8) {p p' : Pj} {st st' : List Bool}, offJ p st = true → runJ D p st l = .ok (p', st') → offJ p' st' = true
  | [], _, _, _, _, ho, h => by cases h; exact ho
  | b :: l, p, p', st, st', ho, h => by
    rw [runJ] at h
    cases h2 : stepJ D p st b with
    | go q su =>
      rw [h2] at h
      exact off_run l (off_step ho h2) h
    | no => rw [h2] at h; cases h
    | de => rw [h2] at h; cases h
theorem run_white {D : Nat} : ∀ (l : List UInt8), l.all whiB = true → runJ D .v [] l = .ok (.v, [])
  | [], _ => rfl
  | b :: l, h => by
    rw [List.all_cons, Bool.and_eq_true] at h
    rw [runJ, show stepJ D .v [] b = .go .v [] from if_pos h.1]
    exact run_white l h.2
theorem run_begun {D : Nat} : ∀ (l : List UInt8), l.all whiB = false → ∀ {p : Pj} {st : List Bool}, runJ D .v [] l = .ok (p, st) → offJ p st = true
  | [], h, _, _, _ => by cases h
  | b :: l, h, p, st, hr => by
    rw [runJ] at hr
    cases hw : whiB b with
    | true =>
      rw [show stepJ D .v [] b = .go .v [] from if_pos hw] at hr
      rw [List.all_cons, hw, Bool.true_and] at h
      exact run_begun l h hr
    | false =>
      rw [show stepJ D .v [] b = begJ D [] b from by show (if whiB b then _ else _) = _; rw [hw]; exact if_neg (by decide)] at hr
      cases h2 : begJ D [] b with
      | go q su =>
        rw [h2] at hr
        exact off_run l (off_beg h2) hr
      | no => rw [h2] at hr; cases hr
      | de => rw [h2] at hr; cases hr

/-! What is told of a machine behind l. -/
theorem MacB.told {w : World} {mb D : Nat} {sn : Int} {s : ByteArray} (h : MacB w mb D sn s.data.toList) :
    ∃ (pl sp tn lf : Int) (rs : ByteArray) (dp : Nat) (E : List Value), Mac w mb D sn pl sp tn lf rs dp E ∧ dp ≤ D ∧ D ≤ 200 ∧ staZ sp dp = (whoJ D s).1 ∧ (if sp == 19 || sp == 20 then pl else -1) = (whoJ D s).2 ∧ (sp != 0) = !s.data.toList.all whiB := by
  obtain ⟨pl, sp, tn, lf, rs, dp, E, h1, h2, h3, h4, h5⟩ := h
  refine ⟨pl, sp, tn, lf, rs, dp, E, h1, h3, h4, ?_⟩
  cases hr : runJ D .v [] s.data.toList with
  | ok q =>
    obtain ⟨p, st⟩ := q
    rw [hr] at h5
    obtain ⟨r1, rfl, r3, r4⟩ := h5
    obtain ⟨g0, g1, g2, _⟩ := reg_on r1
    rw [who_ok hr]
    have e1 : (sp == 19) = false := by rw [beq_eq_false_iff_ne]; omega
    have e2 : (sp == 20) = false := by rw [beq_eq_false_iff_ne]; omega
    refine ⟨sta_ok r1, by rw [e1, e2]; rfl, ?_⟩
    cases hw : s.data.toList.all whiB with
    | true =>
      rw [run_white _ hw] at hr
      injection hr with hr
      injection hr with ha hb
      rw [g2.2 ⟨ha.symm, hb.symm⟩]
      rfl
    | false =>
      have ho := run_begun _ hw hr
      show (sp != 0) = true
      rw [bne_iff_ne]
      intro e0
      obtain ⟨rfl, rfl⟩ := g2.1 e0
      cases ho
  | error q =>
    obtain ⟨x, r⟩ := q
    rw [hr] at h5
    obtain ⟨r1, r2⟩ := h5
    rw [who_bad hr]
    have hb := run_bad D _ _ _ _ _ hr
    have hw : s.data.toList.all whiB = false := by
      cases hw : s.data.toList.all whiB with
      | false => rfl
      | true => rw [run_white _ hw] at hr; cases hr
    have hz : s.data.toList.length = s.size := by simp
    rw [hz] at r2
    rw [hw]
    rcases hb.1 with rfl | rfl
    · have e : sp = 19 := r1
      subst e
      exact ⟨rfl, r2, rfl⟩
    · have e : sp = 20 := r1
      subst e
      exact ⟨rfl, r2, rfl⟩

/-! One byte more, and what stops it. -/
theorem run_snoc {D : Nat} {l : List UInt8} {b : UInt8} {p : Pj} {st : List Bool} (h : runJ D .v [] l = .ok (p, st)) : runJ D .v [] (l ++ [b]) = match stepJ D p st b with
    | .go p' st' => .ok (p', st')
    | .no => .error (0, [b])
    | .de => .error (3, [b]) := by
  rw [run_app, h]
  show runJ D p st [b] = _
  rw [runJ]
  cases stepJ D p st b <;> rfl
theorem MacB.next {w' : World} {mb D : Nat} {sn pl : Int} {l : List UInt8} {b : UInt8} {p : Pj} {st : List Bool} (hD : D ≤ 200) (h : runJ D .v [] l = .ok (p, st)) (hf : fewW p = true) (hm : MacS w' mb D sn pl (stepJ D p st b)) :
    MacB (w'.setCell ⟨mb, 2, none⟩ (.int .i64 (l.length : Nat))) mb D sn (l ++ [b]) := by
  obtain ⟨sp, tn, lf, rs, dp, E, h1, h2, h3, h4⟩ := hm
  refine ⟨_, sp, tn, lf, rs, dp, E, Mac.s2 h1 _, h2, h3, hD, ?_⟩
  rw [run_snoc h]
  cases hs : stepJ D p st b with
  | go p' st' =>
    rw [hs] at h4
    exact ⟨h4.1, h4.2.1, h4.2.2, few_step hf hs⟩
  | no =>
    rw [hs] at h4
    exact ⟨h4, by simp⟩
  | de =>
    rw [hs] at h4
    exact ⟨h4, by simp⟩
theorem MacB.stop {w : World} {mb D : Nat} {sn : Int} {l m : List UInt8} {x : Int} {r : List UInt8} (h : MacB w mb D sn l) (hr : runJ D .v [] l = .error (x, r)) : MacB w mb D sn (l ++ m) := by
  obtain ⟨pl, sp, tn, lf, rs, dp, E, h1, h2, h3, h4, h5⟩ := h
  refine ⟨pl, sp, tn, lf, rs, dp, E, h1, h2, h3, h4, ?_⟩
  rw [hr] at h5
  rw [run_app, hr]
  exact ⟨h5.1, by rw [h5.2, List.length_append, List.length_append]; omega⟩
end Go.Proofs.Ytdebionbjefhlaa
namespace Go.Proofs.Ytdebionbjefhlaa
open Go.RowKit

theorem take_byte27 {t : ByteArray} {k : Nat} (h : k < t.size) : t.data.toList.take (k + 1) = t.data.toList.take k ++ [t[k]] := by
  have hk : k < t.data.toList.length := by simpa using h
  rw [List.take_succ_eq_append_getElem hk]
  rfl
theorem take_full27 (t : ByteArray) : t.data.toList.take t.size = t.data.toList := List.take_of_length_le (by simp)

set_option maxHeartbeats 4000000 in
set_option maxRecDepth 10000 in
theorem feed_any {w : World} {mb D : Nat} {s : ByteArray} (t : ByteArray) (h : MacB w mb D (s.size : Nat) s.data.toList) (hz : s.size + t.size ≤ 4611686018427387904) :
    Calls Try.prog 13 #[mptr mb, .string t] w fun e w' => e = .returned (.int .i64 (whoJ D (s ++ t)).1) ∧ Mv w.heap.size [mb] w w' ∧ MacB w' mb D ((s ++ t).size : Nat) (s ++ t).data.toList := by
  obtain ⟨v, hv⟩ : ∃ v, v = (whoJ D (s ++ t)).1 := ⟨_, rfl⟩
  rw [← hv]
  have HV := Lib.hid hv
  clear hv
  have hs63 : s.size ≤ 4611686018427387904 := by omega
  have ht63 : t.size ≤ 4611686018427387904 := by omega
  have H := Lib.hid h
  have HL := Lib.hid (show s.data.toList.length = s.size by simp)
  have HA := Lib.hid (app_list s t)
  have HZ := Lib.hid (show (s ++ t).size = s.size + t.size from ByteArray.size_append)
  have HT : ∀ wr, MacB wr mb D (s.size : Nat) (s.data.toList ++ t.data.toList) → ∃ (pl sp tn lf : Int) (rs : ByteArray) (dp : Nat) (E : List Value), Hid (Mac wr mb D (s.size : Nat) pl sp tn lf rs dp E) ∧
      Hid (Calls Try.prog 14 #[mptr mb] (wr.setCell ⟨mb, 1, none⟩ (.int .i64 ((s.size : Int) + (t.size : Int)))) fun e w' => e = .returned (.int .i64 v) ∧ wr.setCell ⟨mb, 1, none⟩ (.int .i64 ((s.size : Int) + (t.size : Int))) = w') := fun wr hw => by
    rw [← HA.out] at hw
    obtain ⟨pl, sp, tn, lf, rs, dp, E, h1, _, _, h2, _⟩ := hw.told
    refine ⟨pl, sp, tn, lf, rs, dp, E, Lib.hid h1, Lib.hid ?_⟩
    rw [HV.out, ← h2]
    exact jstate_any (Mac.s1 h1 _)
  have HT2 := Lib.hid HT
  have HE : ∀ wr, MacB wr mb D (s.size : Nat) (s.data.toList ++ t.data.toList) → MacB (wr.setCell ⟨mb, 1, none⟩ (.int .i64 ((s.size : Int) + (t.size : Int)))) mb D ((s ++ t).size : Nat) (s ++ t).data.toList := fun wr hw => by
    rw [HA.out, HZ.out]
    exact hw.s1 _
  have HE2 := Lib.hid HE
  clear h HT HE HV
  go_enter Try.func13, Try.ntmps13
  go_wp2
  go_loopw [10] (fun i wr => ∃ k : Nat, k ≤ t.size ∧ i = .int .i64 k ∧ Hid (MacB wr mb D (s.size : Nat) (s.data.toList ++ t.data.toList.take k)) ∧ Hid (Mv w.heap.size [mb] w wr)) (fun i _ => t.size - (intOf i).toNat)
  case atStart => exact ⟨0, by omega, rfl, Lib.hid (by rw [List.take_zero, List.append_nil]; exact H.out), Lib.hid (mv0 w mb)⟩
  case round =>
    obtain ⟨k, hk, rfl, HM, HX⟩ := hrel
    by_cases hlt : k < t.size
    · cases hr : runJ D .v [] (s.data.toList ++ t.data.toList.take k) with
      | error q =>
        obtain ⟨x, r⟩ := q
        have HM2 := Lib.hid (show MacB wr mb D (s.size : Nat) (s.data.toList ++ t.data.toList) by
          have := HM.out.stop (m := t.data.toList.drop k) hr
          rwa [List.append_assoc, List.take_append_drop] at this)
        obtain ⟨pl, sp, tn, lf, rs, dp, E, HW, HS⟩ := HT2.out wr HM2.out
        have HQ : Hid (Calls Try.prog 22 #[mptr mb] wr fun e w' => e = .returned (.bool true) ∧ wr = w') := by
          have hm := HM.out
          obtain ⟨pl', sp', tn', lf', rs', dp', E', h1, h2, h3, h4, h5⟩ := hm
          rw [hr] at h5
          have hx := (run_bad D _ _ _ _ _ hr).1
          have hs := stopped_any h1
          have e : (sp' == 19 || sp' == 20) = true := by
            rw [h5.1]
            rcases hx with rfl | rfl <;> rfl
          rw [e] at hs
          exact Lib.hid hs
        have c1 := HW.out.c1
        have z1 := Blk.frozen HW.out 1
        clear hr
        go_wp2_with (first
          | (go_at_call 22; (with_reducible refine HQ.out.mono ?_); rintro e w1 ⟨rfl, rfl⟩)
          | (go_at_call 14; (with_reducible refine HS.out.mono ?_); rintro e w1 ⟨rfl, rfl⟩))
        go_ret
        exact ⟨rfl, HX.out.put1 _ _, HE2.out _ HM2.out⟩
      | ok q =>
        obtain ⟨p, st⟩ := q
        have hm := HM.out
        obtain ⟨pl, sp, tn, lf, rs, dp, E, h1, h2, h3, h4, h5⟩ := hm
        rw [hr] at h5
        obtain ⟨h5, rfl, h6, h7⟩ := h5
        have hw : Was wr mb D (s.size : Nat) pl sp tn lf rs st E := ⟨h1, h2, h6, h3, h4⟩
        have HQ : Hid (Calls Try.prog 22 #[mptr mb] wr fun e w' => e = .returned (.bool false) ∧ wr = w') := by
          have hs := stopped_any h1
          obtain ⟨g0, g1, _⟩ := reg_on h5
          have e : (sp == 19 || sp == 20) = false := by
            rw [Bool.or_eq_false_iff, beq_eq_false_iff_ne, beq_eq_false_iff_ne]
            omega
          rw [e] at hs
          exact Lib.hid hs
        have HK := Lib.hid (take_any hw h5 h7 t[k])
        have HN : ∀ w1, Ste wr w1 mb D (s.size : Nat) pl (stepJ D p st t[k]) → Hid (∃ pl, w1.cell? ⟨mb, 2, none⟩ = some (.int .i64 pl)) ∧ Hid (w1.cell? ⟨mb, 1, none⟩ = some (.int .i64 (s.size : Nat))) ∧ Hid (w1.frozen? ⟨mb, 2, none⟩ = false) ∧
            Hid (MacB (w1.setCell ⟨mb, 2, none⟩ (.int .i64 ((s.size : Int) + (k : Int)))) mb D (s.size : Nat) (s.data.toList ++ t.data.toList.take (k + 1))) ∧ Hid (Mv w.heap.size [mb] w w1) := fun w1 hq => by
          have hn := MacB.next h4 hr h7 hq.2
          obtain ⟨sp', tn', lf', rs', dp', E', g1, _⟩ := hq.2
          have el : (((s.data.toList ++ t.data.toList.take k).length : Nat) : Int) = (s.size : Int) + (k : Int) := by
            have hkl : k ≤ t.data.toList.length := by simpa using hk
            rw [List.length_append, HL.out, List.length_take, Nat.min_eq_left hkl]
            omega
          rw [el, List.append_assoc, ← take_byte27 hlt] at hn
          exact ⟨Lib.hid ⟨_, g1.c2⟩, Lib.hid g1.c1, Lib.hid (Blk.frozen g1 2), Lib.hid hn, Lib.hid (HX.out.trans (hq.1.mono HX.out.size (fun x hx => Or.inl hx)))⟩
        have HN2 := Lib.hid HN
        clear hr h1 h2 h3 h4 h5 h6 h7 hw HN
        go_wp2_with (first
          | (go_at_call 22; (with_reducible refine HQ.out.mono ?_); rintro e w1 ⟨rfl, rfl⟩)
          | (go_at_call 23; (with_reducible refine HK.out.mono ?_); rintro e w1 ⟨rfl, hq⟩; obtain ⟨H1, H2, H3, HG, HF⟩ := HN2.out _ hq; clear hq; obtain ⟨p2, c2⟩ := H1.out; have c1 := H2.out; have z2 := H3.out))
        go_roundw
        case rel => exact ⟨k + 1, by omega, by go_num, HG, Lib.hid (HF.out.put1 _ _)⟩
        case measure => simp [intOf]; omega
    · obtain rfl : k = t.size := by omega
      have HM2 := Lib.hid (show MacB wr mb D (s.size : Nat) (s.data.toList ++ t.data.toList) by
        have := HM.out
        rwa [take_full27] at this)
      obtain ⟨pl, sp, tn, lf, rs, dp, E, HW, HS⟩ := HT2.out wr HM2.out
      have c1 := HW.out.c1
      have z1 := Blk.frozen HW.out 1
      go_wp2_with (go_at_call 14; (with_reducible refine HS.out.mono ?_); rintro e w1 ⟨rfl, rfl⟩)
      go_ret
      exact ⟨rfl, HX.out.put1 _ _, HE2.out _ HM2.out⟩
end Go.Proofs.Ytdebionbjefhlaa
namespace Go.Proofs.Ytdebionbjefhlaa
open Go.RowKit

set_option maxHeartbeats 1000000 in
theorem new_bad (n : Int) (w : World) (h : n < 0 ∨ 200 < n) :
    Calls Try.prog 12 #[.int .i64 n] w fun e w' => e = .returned (.tuple #[.pointer none, .int .i64 1]) ∧ w = w' := by
  have hc : decide (n < 0) = true ∨ (decide (n < 0) = false ∧ decide ((200 : Int) < n) = true) := by
    rw [decide_eq_true_iff, decide_eq_false_iff_not, decide_eq_true_iff]
    omega
  clear h
  rcases hc with h0 | ⟨h0, h1⟩
  all_goals
    go_enter Try.func12, Try.ntmps12
    go_wp2
    go_ret2
    exact ⟨rfl, rfl⟩
def zeroE : List Value := List.replicate 200 (.int .u8 0)
theorem Try.zeroMachine (w : World) : (zeroValue 43).run Try.prog w = .ok (.agg (mcC 0 0 0 0 0 0 ⟨#[]⟩ 0 zeroE)) w := by kernel_rfl
theorem zero_ne : (mcC 0 0 0 0 0 0 ⟨#[]⟩ 0 zeroE = #[]) = False := by
  rw [eq_iff_iff, iff_false]
  intro h
  have := congrArg Array.size h
  simp [mcC] at this
theorem zero_set (x : Int) : (mcC 0 0 0 0 0 0 ⟨#[]⟩ 0 zeroE).setIfInBounds 0 (.int .i64 x) = mcC x 0 0 0 0 0 ⟨#[]⟩ 0 zeroE := by
  unfold mcC
  rw [List.setIfInBounds_toArray]
  rfl
set_option maxHeartbeats 1000000 in
theorem new_ok (n : Nat) (w : World) (h : n ≤ 200) :
    Calls Try.prog 12 #[.int .i64 (n : Nat)] w fun e w' => e = .returned (.tuple #[mptr w.heap.size, .int .i64 0]) ∧ Below w.heap.size w w' ∧ MacB w' w.heap.size n 0 [] := by
  have h0 : decide (((n : Nat) : Int) < 0) = false := by rw [decide_eq_false_iff_not]; omega
  have h1 : decide ((200 : Int) < ((n : Nat) : Int)) = false := by rw [decide_eq_false_iff_not]; omega
  have HN := Lib.hid h
  have hz := Try.zeroMachine w
  have hne := zero_ne
  have hset := zero_set n
  have HB := Lib.hid (Blk.new w 43 (mcC n 0 0 0 0 0 ⟨#[]⟩ 0 zeroE))
  clear h
  generalize mcC 0 0 0 0 0 0 ⟨#[]⟩ 0 zeroE = Z at *
  go_enter Try.func12, Try.ntmps12
  go_wp2
  go_ret2
  refine ⟨rfl, (Below.refl _ _).alloc (Nat.le_refl _) _, 0, 0, 0, 0, ⟨#[]⟩, 0, zeroE, HB.out, ?_, Nat.zero_le _, HN.out, ?_, rfl, trivial, rfl⟩
  · exact List.length_replicate ..
  · exact rfl

set_option maxHeartbeats 1000000 in
set_option maxRecDepth 10000 in
theorem jwhole_any (s : ByteArray) (d : Nat) (w : World) (hs : s.size ≤ 4611686018427387904) :
    Calls Try.prog 8 #[.string s, .int .i64 (d : Nat)] w fun e w' => e = .returned (.tuple #[.int .i64 (whoJ (min d 200) s).1, .int .i64 (whoJ (min d 200) s).2]) ∧ Below w.heap.size w w' := by
  obtain ⟨n, hn⟩ : ∃ n, n = min d 200 := ⟨_, rfl⟩
  rw [← hn]
  have hn200 : n ≤ 200 := by omega
  obtain ⟨a, ha⟩ : ∃ a, a = (whoJ n s).1 := ⟨_, rfl⟩
  obtain ⟨b, hb⟩ : ∃ b, b = (whoJ n s).2 := ⟨_, rfl⟩
  rw [← ha, ← hb]
  have HA := Lib.hid ha
  have HB := Lib.hid hb
  have HN : Hid (∀ x : Int, x = (n : Nat) → Calls Try.prog 12 #[.int .i64 x] w fun e w' => e = .returned (.tuple #[mptr w.heap.size, .int .i64 0]) ∧ Hid (Below w.heap.size w w' ∧ MacB w' w.heap.size n 0 [])) := Lib.hid fun x hx => by
    subst hx
    exact (new_ok n w hn200).mono fun _ _ h => ⟨h.1, Lib.hid h.2⟩
  have HF : ∀ w1, Below w.heap.size w w1 → MacB w1 w.heap.size n 0 [] → Hid (Calls Try.prog 13 #[mptr w.heap.size, .string s] w1 fun e w' => e = .returned (.int .i64 a) ∧ Below w.heap.size w w' ∧ Hid (Calls Try.prog 15 #[mptr w.heap.size] w' fun e w2 => e = .returned (.int .i64 b) ∧ w' = w2)) := fun w1 hb1 hm => by
    have hf := feed_any (s := ⟨#[]⟩) s hm (by show 0 + s.size ≤ _; omega)
    rw [show (⟨#[]⟩ : ByteArray) ++ s = s from by apply ByteArray.ext; simp] at hf
    refine Lib.hid (hf.mono ?_)
    rintro e w' ⟨rfl, h2, h3⟩
    refine ⟨by rw [HA.out], hb1.trans (h2.below hb1.size (fun x hx => by rw [List.mem_singleton.1 hx]; exact Nat.le_refl _)), ?_⟩
    obtain ⟨pl, sp, tn, lf, rs, dp, E, g1, _, _, _, g2, _⟩ := h3.told
    have hp := jplace_any g1
    rw [g2, ← HB.out] at hp
    exact Lib.hid hp
  have HF2 := Lib.hid HF
  have hnd : ((n : Nat) : Int) = if (d : Int) < 200 then (d : Int) else 200 := by split <;> omega
  have HD := Lib.hid hnd
  clear ha hb HF hn200 HA HB hnd hn
  go_enter Try.func8, Try.ntmps8
  go_wp2_with (first
    | (go_at_call 12; (with_reducible refine (HN.out _ (by have hx := HD.out; split at hx <;> omega)).mono ?_); rintro e w1 ⟨rfl, hm⟩; have HG := HF2.out _ hm.out.1 hm.out.2)
    | (go_at_call 13; (with_reducible refine HG.out.mono ?_); rintro e w2 ⟨rfl, hb2, HP⟩; have HB2 := Lib.hid hb2; clear hb2)
    | (go_at_call 15; (with_reducible refine HP.out.mono ?_); rintro e w3 ⟨rfl, rfl⟩))
  all_goals
    go_ret2
    exact ⟨rfl, HB2.out⟩

theorem jvalid_any (s : ByteArray) (w : World) (hs : s.size ≤ 4611686018427387904) :
    Calls Try.prog 10 #[.string s] w fun e w' => e = .returned (.bool ((whoJ 200 s).1 == 2)) ∧ Below w.heap.size w w' := by
  have HW : Hid (Calls Try.prog 8 #[.string s, .int .i64 200] w fun e w' => e = .returned (.tuple #[.int .i64 (whoJ 200 s).1, .int .i64 (whoJ 200 s).2]) ∧ Below w.heap.size w w') := Lib.hid (jwhole_any s 200 w hs)
  generalize (whoJ 200 s).1 = a at *
  generalize (whoJ 200 s).2 = b at *
  go_enter Try.func10, Try.ntmps10
  go_wp2_with (go_at_call 8; (with_reducible refine HW.out.mono ?_); rintro e w1 ⟨rfl, hb⟩)
  go_ret
  exact ⟨rfl, hb⟩

def cutA : ByteArray := ⟨#[91, 49, 44]⟩
def cutB2 : ByteArray := ⟨#[91, 49, 32, 50]⟩
def cutC : ByteArray := ⟨#[91, 49, 93]⟩
theorem cutA_who : whoJ 5 cutA = (1, -1) := by kernel_rfl
theorem cutB_who : whoJ 5 cutB2 = (0, 3) := by kernel_rfl
theorem cutC_who : whoJ 200 cutC = (2, -1) := by kernel_rfl
set_option maxHeartbeats 1000000 in
theorem jlives_any (w : World) : Calls Try.prog 11 #[] w fun e w' => e = .returned (.bool true) ∧ Below w.heap.size w w' := by
  have HA : Hid (∀ W, Calls Try.prog 8 #[.string ⟨#[91, 49, 44]⟩, .int .i64 5] W fun e w' => e = .returned (.tuple #[.int .i64 1, .int .i64 (-1)]) ∧ Below W.heap.size W w') := Lib.hid fun W => by
    have h := jwhole_any cutA 5 W (by decide)
    rw [show min 5 200 = 5 from rfl, cutA_who] at h
    exact h
  have HB : Hid (∀ W, Calls Try.prog 8 #[.string ⟨#[91, 49, 32, 50]⟩, .int .i64 5] W fun e w' => e = .returned (.tuple #[.int .i64 0, .int .i64 3]) ∧ Below W.heap.size W w') := Lib.hid fun W => by
    have h := jwhole_any cutB2 5 W (by decide)
    rw [show min 5 200 = 5 from rfl, cutB_who] at h
    exact h
  have HC : Hid (∀ W, Calls Try.prog 10 #[.string ⟨#[91, 49, 93]⟩] W fun e w' => e = .returned (.bool true) ∧ Below W.heap.size W w') := Lib.hid fun W => by
    have h := jvalid_any cutC W (by decide)
    rw [cutC_who] at h
    exact h
  go_enter Try.func11, Try.ntmps11
  go_wp2_with (first
    | (go_at_call 8; (with_reducible refine (HA.out _).mono ?_); rintro e w1 ⟨rfl, hb1⟩)
    | (go_at_call 8; (with_reducible refine (HB.out _).mono ?_); rintro e w2 ⟨rfl, hb2⟩)
    | (go_at_call 10; (with_reducible refine (HC.out _).mono ?_); rintro e w3 ⟨rfl, hb3⟩))
  go_ret
  exact ⟨rfl, (hb1.trans (hb2.mono hb1.size)).trans (hb3.mono (Nat.le_trans hb1.size hb2.size))⟩
end Go.Proofs.Ytdebionbjefhlaa
