/-
  What package jscript's inWord and take do with a machine of layer 28: what one byte makes of where reading stands (stepH). Conditions: where reading stands is told of in the machine's registers (RegH); the counts are no greater than a length can be.
  What package jscript's take does with a machine of layer 28: what one byte makes of where reading stands (stepH). Conditions: where reading stands is told of in the machine's registers (RegH); the counts are no greater than a length can be.
  What package jscript's Feed does: a machine of layer 28 behind all bytes that came (MacBH), and what is told of it. Conditions: the texts are no longer than a length can be.
-/
import Derived.Test.YtbojbkpplejdmaaGreatZ12
import Derived.LoopTactic
import Derived.Test.YtbojbkpplejdmaaGreatZ9
namespace Go.Proofs.YtbojbkpplejdmaaGreat
open Go.RowKit

theorem beg_more {acc : List UInt8} {B : List Value} {b : UInt8} (h : BegIs acc B) (hB : B.length = 11) (hl : acc.length < 11) : BegIs (acc ++ [b]) (B.set acc.length (.int .u8 (b.toNat : Int))) := fun i x hx hi => by
  by_cases he : i = acc.length
  · subst he
    rw [List.getElem?_append_right (Nat.le_refl _), Nat.sub_self] at hx
    have hx' : b = x := by simpa using hx
    subst hx'
    exact List.getElem?_set_self (by omega)
  · have hlt : i < acc.length := by
      have := (List.getElem?_eq_some_iff.1 hx).1
      rw [List.length_append, List.length_singleton] at this
      omega
    rw [List.getElem?_append_left hlt] at hx
    rw [List.getElem?_set_ne (fun e => he e.symm)]
    exact h i x hx hi
theorem beg_full {acc : List UInt8} {B : List Value} {b : UInt8} (h : BegIs acc B) (hl : 11 ≤ acc.length) : BegIs (acc ++ [b]) B := fun i x hx hi => by
  rw [List.getElem?_append_left (by omega)] at hx
  exact h i x hx hi

set_option maxHeartbeats 2000000 in
set_option maxRecDepth 10000 in
theorem hinWord_any {w : World} {mb D : Nat} {sn pl : Int} {h : Hs} {r : Rg} (m : WasH w mb D sn pl h r) {dig : Bool} {acc : List UInt8} (hr : RegH (.w dig acc) r) (b : UInt8) (hp : h.pc + 1 ≤ 4611686018427387904) (hf : h.en + 1 ≤ 4611686018427387904) :
    Calls Tryz.prog 69 #[mptr mb, .int .u8 (b.toNat : Int)] w fun e w' => e = .returned (.tuple #[]) ∧ SteH w w' mb D sn pl (stepH D (.w dig acc) h b) := by
  have HEW := Lib.hid (endWord_any m hr)
  obtain ⟨h1, h2, h3, x0, h4, h5⟩ := hr
  have c5 := m.mac.c5
  have c11 := m.mac.c11
  rw [h2] at c11
  have c12 : w.cell? ⟨mb, 12, none⟩ = some (.int .u8 (x0.toNat : Int)) := (m.mac.cB 0 (by rw [m.lenB]; omega)).trans (h3 0 x0 h4 (by omega))
  have z11 := Blk.frozen m.mac 11
  have HI := Lib.hid (fun W => inWords_any b W)
  have HD : Hid (∀ W, Calls Tryz.prog 86 #[.int .u8 (x0.toNat : Int)] W fun e w' => e = .returned (.bool dig) ∧ W = w') := Lib.hid (fun W => by rw [h5]; exact digit_any x0 W)
  obtain ⟨q, hq⟩ : ∃ q, q = begH D (worH h acc) b := ⟨_, rfl⟩
  have HB : Hid (∀ w1, Mv w.heap.size [mb] w w1 → WasH w1 mb D sn pl (worH h acc) { r with sp := 0 } → Hid (Calls Tryz.prog 77 #[mptr mb, .int .u8 (b.toNat : Int)] w1 fun e w' => e = .returned (.tuple #[]) ∧ SteH w w' mb D sn pl q)) := Lib.hid fun w1 g1 g2 => Lib.hid (by
    refine (hbetween_any g2 rfl b hp hf).mono ?_
    rintro e w' ⟨rfl, g3⟩
    rw [hq]
    exact ⟨rfl, SteH.pre g1 g3⟩)
  have hne : ((b.toNat : Int) != 46) = !((b.toNat : Int) == 46) := rfl
  have hw : (innB b = true ∧ stepH D (.w dig acc) h b = .go (.w dig (acc ++ [b])) h) ∨ (innB b = false ∧ ((b.toNat : Int) == 46) = true ∧ dig = true ∧ stepH D (.w dig acc) h b = .go (.w dig (acc ++ [b])) h)
      ∨ (innB b = false ∧ ((b.toNat : Int) == 46) = true ∧ dig = false ∧ stepH D (.w dig acc) h b = q) ∨ (innB b = false ∧ ((b.toNat : Int) == 46) = false ∧ stepH D (.w dig acc) h b = q) := by
    cases e : innB b
    case true => exact Or.inl ⟨rfl, by simp [stepH, e]⟩
    by_cases h46 : b = 46
    · subst h46
      cases dig
      · exact Or.inr (Or.inr (Or.inl ⟨rfl, rfl, rfl, by rw [hq]; rfl⟩))
      · exact Or.inr (Or.inl ⟨rfl, rfl, rfl, rfl⟩)
    · exact Or.inr (Or.inr (Or.inr ⟨rfl, iE (x := 46) rfl h46, by simp [stepH, e, h46, hq]⟩))
  have h4' : (acc ++ [b])[0]? = some x0 := by
    rw [List.getElem?_append_left (List.getElem?_eq_some_iff.1 h4).1]
    exact h4
  by_cases hl : acc.length < 11
  · have hm : min acc.length 11 = acc.length := by omega
    rw [hm] at c11
    have HP : ∀ n, Hid (SteH w (((w.drewN n).setCell ⟨mb, 12 + acc.length, none⟩ (.int .u8 (b.toNat : Int))).setCell ⟨mb, 11, none⟩ (.int .i64 ((acc.length : Int) + 1))) mb D sn pl (.go (.w dig (acc ++ [b])) h)) := fun n => Lib.hid
      ⟨((((mv0 w mb).drewN _).put1 _ _).put1 _ _), _, ((m.drewN n).sB acc.length hl (.int .u8 (b.toNat : Int))).s11 _, h1, by
        show (acc.length : Int) + 1 = _
        rw [List.length_append, List.length_singleton, Nat.min_eq_left (by omega)]
        omega, beg_more h3 m.lenB hl, x0, h4', h5⟩
    have zB := Blk.frozen m.mac (12 + acc.length)
    obtain ⟨y, hy⟩ : ∃ y, r.B[acc.length]? = some y := ⟨_, List.getElem?_eq_getElem (by rw [m.lenB]; exact hl)⟩
    have cB := (m.mac.cB acc.length (by rw [m.lenB]; exact hl)).trans hy
    have b0 : decide ((acc.length : Nat) < 11) = true := by rw [decide_eq_true_iff]; exact hl
    have b1 : (acc.length : Int) < 11 := by omega
    have b2 : (0 : Int) ≤ (acc.length : Int) := by omega
    clear m h1 h2 h3 h4 h4' h5 hq hp hf hy hl hm
    generalize acc.length = n at *
    generalize stepH D (.w dig acc) h b = s at *
    rcases hw with ⟨h0, e⟩ | ⟨h0, h1, rfl, e⟩ | ⟨h0, h1, rfl, e⟩ | ⟨h0, h1, e⟩
    all_goals
      rw [e]
      clear e
      rw [h0] at HI
      clear h0
      generalize (b.toNat : Int) = x at *
      generalize (x0.toNat : Int) = x1 at *
    case' inl => skip
    all_goals try rw [h1] at hne
    all_goals
      go_enter Tryz.func69, Tryz.ntmps69
      go_wp2_with (first
        | (go_at_call 85; (with_reducible refine (HI.out _).mono ?_); rintro e w1 ⟨rfl, rfl⟩)
        | (go_at_call 86; (with_reducible refine (HD.out _).mono ?_); rintro e w1 ⟨rfl, rfl⟩)
        | (go_at_call 87; (with_reducible refine HEW.out.mono ?_); rintro e w1 ⟨rfl, g1, g2⟩; have HBB := HB.out _ g1 g2; clear g1 g2)
        | (go_at_call 77; (with_reducible refine HBB.out.mono ?_); rintro e w2 ⟨rfl, hs⟩))
    · go_region
      go_wp2
      go_end0
      exact ⟨rfl, (HP _).out⟩
    · go_region
      go_wp2
      go_end0
      exact ⟨rfl, (HP _).out⟩
    · refine bodyPost_ret (results_none rfl _ _ _) rfl ?_
      exact ⟨rfl, hs⟩
    · refine bodyPost_ret (results_none rfl _ _ _) rfl ?_
      exact ⟨rfl, hs⟩
  · have hm : min acc.length 11 = 11 := by omega
    rw [hm] at c11
    have HP : Hid (SteH w w mb D sn pl (.go (.w dig (acc ++ [b])) h)) := Lib.hid
      ⟨mv0 w mb, _, m, h1, by
        rw [h2, hm, List.length_append, List.length_singleton, Nat.min_eq_right (by omega)], beg_full h3 (by omega), x0, h4', h5⟩
    have c11 : w.cell? ⟨mb, 11, none⟩ = some (.int .i64 11) := c11
    clear m h1 h2 h3 h4 h4' h5 hq hp hf hl hm
    generalize stepH D (.w dig acc) h b = s at *
    rcases hw with ⟨h0, e⟩ | ⟨h0, h1, rfl, e⟩ | ⟨h0, h1, rfl, e⟩ | ⟨h0, h1, e⟩
    all_goals
      rw [e]
      clear e
      rw [h0] at HI
      clear h0
      generalize (b.toNat : Int) = x at *
      generalize (x0.toNat : Int) = x1 at *
    all_goals try rw [h1] at hne
    all_goals
      go_enter Tryz.func69, Tryz.ntmps69
      go_wp2_with (first
        | (go_at_call 85; (with_reducible refine (HI.out _).mono ?_); rintro e w1 ⟨rfl, rfl⟩)
        | (go_at_call 86; (with_reducible refine (HD.out _).mono ?_); rintro e w1 ⟨rfl, rfl⟩)
        | (go_at_call 87; (with_reducible refine HEW.out.mono ?_); rintro e w1 ⟨rfl, g1, g2⟩; have HBB := HB.out _ g1 g2; clear g1 g2)
        | (go_at_call 77; (with_reducible refine HBB.out.mono ?_); rintro e w2 ⟨rfl, hs⟩))
    · go_end0
      exact ⟨rfl, HP.out⟩
    · go_end0
      exact ⟨rfl, HP.out⟩
    · refine bodyPost_ret (results_none rfl _ _ _) rfl ?_
      exact ⟨rfl, hs⟩
    · refine bodyPost_ret (results_none rfl _ _ _) rfl ?_
      exact ⟨rfl, hs⟩
end Go.Proofs.YtbojbkpplejdmaaGreat
namespace Go.Proofs.YtbojbkpplejdmaaGreat
open Go.RowKit

set_option maxHeartbeats 2000000 in
set_option maxRecDepth 10000 in
theorem take_esc {w : World} {mb D : Nat} {sn pl : Int} {h : Hs} {r : Rg} (m : WasH w mb D sn pl h r) (hr : r.sp = 8) (b : UInt8) :
    Calls Tryz.prog 51 #[mptr mb, .int .u8 (b.toNat : Int)] w fun e w' => e = .returned (.tuple #[]) ∧ Mv w.heap.size [mb] w w' ∧ WasH w' mb D sn pl h { r with sp := r.tn } := by
  have c5 := m.mac.c5
  have c6 := m.mac.c6
  rw [hr] at c5
  have z5 := Blk.frozen m.mac 5
  have HP := Lib.hid (m.s5 r.tn)
  clear m hr
  generalize r.tn = tn at *
  go_enter Tryz.func51, Tryz.ntmps51
  go_wp2
  go_end0
  exact ⟨rfl, (mv0 w mb).put1 _ _, HP.out⟩

set_option maxHeartbeats 4000000 in
set_option maxRecDepth 10000 in
theorem take_calls {w : World} {mb D : Nat} {sn pl : Int} {h : Hs} {r : Rg} (m : WasH w mb D sn pl h r) (b : UInt8) {s : Sh}
    (hs : (r.sp = 0 ∧ Calls Tryz.prog 77 #[mptr mb, .int .u8 (b.toNat : Int)] w fun e w' => e = .returned (.tuple #[]) ∧ SteH w w' mb D sn pl s)
      ∨ (r.sp = 1 ∧ Calls Tryz.prog 69 #[mptr mb, .int .u8 (b.toNat : Int)] w fun e w' => e = .returned (.tuple #[]) ∧ SteH w w' mb D sn pl s)
      ∨ ((r.sp = 2 ∨ r.sp = 3) ∧ Calls Tryz.prog 70 #[mptr mb, .int .u8 (b.toNat : Int)] w fun e w' => e = .returned (.tuple #[]) ∧ SteH w w' mb D sn pl s)
      ∨ (r.sp = 4 ∧ Calls Tryz.prog 71 #[mptr mb, .int .u8 (b.toNat : Int)] w fun e w' => e = .returned (.tuple #[]) ∧ SteH w w' mb D sn pl s)
      ∨ ((r.sp = 5 ∨ r.sp = 6) ∧ Calls Tryz.prog 72 #[mptr mb, .int .u8 (b.toNat : Int)] w fun e w' => e = .returned (.tuple #[]) ∧ SteH w w' mb D sn pl s)
      ∨ (r.sp = 7 ∧ Calls Tryz.prog 73 #[mptr mb, .int .u8 (b.toNat : Int)] w fun e w' => e = .returned (.tuple #[]) ∧ SteH w w' mb D sn pl s)
      ∨ (r.sp = 9 ∧ Calls Tryz.prog 74 #[mptr mb, .int .u8 (b.toNat : Int)] w fun e w' => e = .returned (.tuple #[]) ∧ SteH w w' mb D sn pl s)
      ∨ ((r.sp = 10 ∨ r.sp = 11) ∧ Calls Tryz.prog 75 #[mptr mb, .int .u8 (b.toNat : Int)] w fun e w' => e = .returned (.tuple #[]) ∧ SteH w w' mb D sn pl s)
      ∨ (r.sp = 12 ∧ Calls Tryz.prog 76 #[mptr mb, .int .u8 (b.toNat : Int)] w fun e w' => e = .returned (.tuple #[]) ∧ SteH w w' mb D sn pl s)) :
    Calls Tryz.prog 51 #[mptr mb, .int .u8 (b.toNat : Int)] w fun e w' => e = .returned (.tuple #[]) ∧ SteH w w' mb D sn pl s := by
  have c5 := m.mac.c5
  clear m
  rcases hs with ⟨h0, hc⟩ | ⟨h0, hc⟩ | ⟨h0 | h0, hc⟩ | ⟨h0, hc⟩ | ⟨h0 | h0, hc⟩ | ⟨h0, hc⟩ | ⟨h0, hc⟩ | ⟨h0 | h0, hc⟩ | ⟨h0, hc⟩
  all_goals
    rw [h0] at c5
    clear h0
    have HC := Lib.hid hc
    clear hc
    go_enter Tryz.func51, Tryz.ntmps51
    go_wp2_with (first
      | (go_at_call 77; (with_reducible refine HC.out.mono ?_); rintro e w1 ⟨rfl, hs⟩)
      | (go_at_call 69; (with_reducible refine HC.out.mono ?_); rintro e w1 ⟨rfl, hs⟩)
      | (go_at_call 70; (with_reducible refine HC.out.mono ?_); rintro e w1 ⟨rfl, hs⟩)
      | (go_at_call 71; (with_reducible refine HC.out.mono ?_); rintro e w1 ⟨rfl, hs⟩)
      | (go_at_call 72; (with_reducible refine HC.out.mono ?_); rintro e w1 ⟨rfl, hs⟩)
      | (go_at_call 73; (with_reducible refine HC.out.mono ?_); rintro e w1 ⟨rfl, hs⟩)
      | (go_at_call 74; (with_reducible refine HC.out.mono ?_); rintro e w1 ⟨rfl, hs⟩)
      | (go_at_call 75; (with_reducible refine HC.out.mono ?_); rintro e w1 ⟨rfl, hs⟩)
      | (go_at_call 76; (with_reducible refine HC.out.mono ?_); rintro e w1 ⟨rfl, hs⟩))
    go_end0
    exact ⟨rfl, hs⟩

/-- One byte. -/
theorem htake_any {w : World} {mb D : Nat} {sn pl : Int} {h : Hs} {r : Rg} {p : Hp} (m : WasH w mb D sn pl h r) (hr : RegH p r) (b : UInt8) (hp : h.pc + 2 ≤ 4611686018427387904) (hf : h.en + 2 ≤ 4611686018427387904) :
    Calls Tryz.prog 51 #[mptr mb, .int .u8 (b.toNat : Int)] w fun e w' => e = .returned (.tuple #[]) ∧ SteH w w' mb D sn pl (stepH D p h b) := by
  cases p with
  | z => exact take_calls m b (Or.inl ⟨hr, hbetween_any m hr b (Nat.le_of_succ_le hp) (Nat.le_of_succ_le hf)⟩)
  | w dig acc => exact take_calls m b (Or.inr (Or.inl ⟨hr.1, hinWord_any m hr b (Nat.le_of_succ_le hp) (Nat.le_of_succ_le hf)⟩))
  | t y esc =>
    cases esc with
    | false => exact take_calls m b (Or.inr (Or.inr (Or.inl ⟨Or.inl hr.2.2, inText_quote m hr b⟩)))
    | true =>
      obtain ⟨h1, h2, h3, h4⟩ := hr
      refine (take_esc m h3 b).mono ?_
      rintro e w' ⟨rfl, g1, g2⟩
      exact ⟨rfl, g1, _, g2, h1, h2, h4⟩
  | g esc dol =>
    cases esc with
    | false =>
      refine take_calls m b (Or.inr (Or.inr (Or.inl ⟨?_, inText_grave m hr b⟩)))
      have h2 : r.sp = if dol then 3 else 2 := hr.2
      cases dol
      · exact Or.inl h2
      · exact Or.inr h2
    | true =>
      obtain ⟨h1, h2, h3, h4⟩ := hr
      subst h2
      refine (take_esc m h3 b).mono ?_
      rintro e w' ⟨rfl, g1, g2⟩
      exact ⟨rfl, g1, _, g2, h1, h4⟩
  | p esc inb =>
    cases esc with
    | false =>
      have h2 : r.sp = if inb then 6 else 5 := hr
      refine take_calls m b (Or.inr (Or.inr (Or.inr (Or.inr (Or.inl ⟨?_, inPattern_any m inb h2 b⟩)))))
      cases inb
      · exact Or.inl h2
      · exact Or.inr h2
    | true =>
      obtain ⟨h3, h4⟩ : r.sp = 8 ∧ r.tn = (if inb then 6 else 5) := hr
      refine (take_esc m h3 b).mono ?_
      rintro e w' ⟨rfl, g1, g2⟩
      exact ⟨rfl, g1, _, g2, h4⟩
  | f => exact take_calls m b (Or.inr (Or.inr (Or.inr (Or.inr (Or.inr (Or.inl ⟨hr, inFlags_any m hr b (Nat.le_of_succ_le hp) (Nat.le_of_succ_le hf)⟩))))))
  | s => exact take_calls m b (Or.inr (Or.inr (Or.inr (Or.inl ⟨hr, behindSlash_any m hr b hp hf⟩))))
  | l => exact take_calls m b (Or.inr (Or.inr (Or.inr (Or.inr (Or.inr (Or.inr (Or.inl ⟨hr, inLine_any m hr b⟩)))))))
  | k star =>
    have h2 : r.sp = if star then 11 else 10 := hr
    refine take_calls m b (Or.inr (Or.inr (Or.inr (Or.inr (Or.inr (Or.inr (Or.inr (Or.inl ⟨?_, inRemark_any m star h2 b⟩))))))))
    cases star
    · exact Or.inl h2
    · exact Or.inr h2
  | x i => exact take_calls m b (Or.inr (Or.inr (Or.inr (Or.inr (Or.inr (Or.inr (Or.inr (Or.inr ⟨hr.1, inMark_any m hr b⟩))))))))
end Go.Proofs.YtbojbkpplejdmaaGreat
namespace Go.Proofs.YtbojbkpplejdmaaGreat
open Go.RowKit

/-- A machine behind bytes l, sn of which are told as seen. -/
def MacBH (w : World) (mb D : Nat) (sn : Int) (l : List UInt8) : Prop :=
  ∃ pl : Int, match runH D .z newH l with
    | .ok p h => ∃ r, WasH w mb D sn pl h r ∧ RegH p r
    | .bad h q => ∃ r, WasH w mb D sn pl h r ∧ r.sp = 13 ∧ pl = (l.length : Int) - (q.length : Int)
theorem MacBH.s1 {w : World} {mb D : Nat} {sn : Int} {l : List UInt8} (m : MacBH w mb D sn l) (x : Int) : MacBH (w.setCell ⟨mb, 1, none⟩ (.int .i64 x)) mb D x l := by
  obtain ⟨pl, m⟩ := m
  refine ⟨pl, ?_⟩
  cases hr : runH D .z newH l with
  | ok p h =>
    rw [hr] at m
    obtain ⟨r, h1, h2⟩ := m
    exact ⟨r, h1.s1 x, h2⟩
  | bad h q =>
    rw [hr] at m
    obtain ⟨r, h1, h2⟩ := m
    exact ⟨r, h1.s1 x, h2⟩
theorem MacBH.same {w w' : World} {mb D : Nat} {sn : Int} {l : List UInt8} (m : MacBH w mb D sn l) (e : w'.heap[mb]? = w.heap[mb]?) : MacBH w' mb D sn l := by
  obtain ⟨pl, m⟩ := m
  refine ⟨pl, ?_⟩
  cases hr : runH D .z newH l with
  | ok p h =>
    rw [hr] at m
    obtain ⟨r, h1, h2⟩ := m
    exact ⟨r, h1.same e, h2⟩
  | bad h q =>
    rw [hr] at m
    obtain ⟨r, h1, h2⟩ := m
    exact ⟨r, h1.same e, h2⟩
theorem reg_sp {p : Hp} {r : Rg} (h : RegH p r) : r.sp ≠ 13 ∧ (r.sp == 0 || r.sp == 1 || r.sp == 7 || r.sp == 9) = !winH p := by
  cases p with
  | z => have e : r.sp = 0 := h; rw [e]; exact ⟨by decide, rfl⟩
  | w dig acc => have e : r.sp = 1 := h.1; rw [e]; exact ⟨by decide, rfl⟩
  | t y esc =>
    cases esc
    · have e : r.sp = 2 := h.2.2; rw [e]; exact ⟨by decide, rfl⟩
    · have e : r.sp = 8 := h.2.2.1; rw [e]; exact ⟨by decide, rfl⟩
  | g esc dol =>
    cases esc
    · have e : r.sp = if dol then 3 else 2 := h.2
      rw [e]
      cases dol <;> exact ⟨by decide, rfl⟩
    · have e : r.sp = 8 := h.2.2.1; rw [e]; exact ⟨by decide, rfl⟩
  | p esc inb =>
    cases esc
    · have e : r.sp = if inb then 6 else 5 := h
      rw [e]
      cases inb <;> exact ⟨by decide, rfl⟩
    · have e : r.sp = 8 := h.1
      rw [e]
      exact ⟨by decide, rfl⟩
  | f => have e : r.sp = 7 := h; rw [e]; exact ⟨by decide, rfl⟩
  | s => have e : r.sp = 4 := h; rw [e]; exact ⟨by decide, rfl⟩
  | l => have e : r.sp = 9 := h; rw [e]; exact ⟨by decide, rfl⟩
  | k star =>
    have e : r.sp = if star then 11 else 10 := h
    rw [e]
    cases star <;> exact ⟨by decide, rfl⟩
  | x i => have e : r.sp = 12 := h.1; rw [e]; exact ⟨by decide, rfl⟩
/-- What is told of a machine behind all bytes. -/
theorem MacBH.told {w : World} {mb D : Nat} {sn : Int} {l : List UInt8} (m : MacBH w mb D sn l) :
    ∃ (pl : Int) (h : Hs) (r : Rg), WasH w mb D sn pl h r ∧ stzH r.sp (h.op.length : Nat) = staH (telH (runH D .z newH l)) ∧ (if r.sp == 13 then pl else -1) = plaH l.length (telH (runH D .z newH l)) ∧ h = ofR (runH D .z newH l) := by
  obtain ⟨pl, m⟩ := m
  cases hr : runH D .z newH l with
  | ok p h =>
    rw [hr] at m
    obtain ⟨r, h1, h2⟩ := m
    obtain ⟨g1, g2⟩ := reg_sp h2
    have e13 : (r.sp == 13) = false := by rw [beq_eq_false_iff_ne]; exact g1
    refine ⟨pl, h, r, h1, ?_, ?_, rfl⟩
    · unfold stzH
      rw [e13, if_neg (by decide), g2]
      show _ = if winH p || !h.op.isEmpty then (1 : Int) else 2
      cases ho : h.op with
      | nil => cases winH p <;> rfl
      | cons a t =>
        rw [if_pos (by rw [decide_eq_true_iff, List.length_cons]; omega)]
        cases winH p <;> rfl
    · rw [e13]
      rfl
  | bad h q =>
    rw [hr] at m
    obtain ⟨r, h1, h2, h3⟩ := m
    refine ⟨pl, h, r, h1, ?_, ?_, rfl⟩
    · unfold stzH
      rw [h2]
      rfl
    · rw [h2]
      exact h3
theorem MacBH.next {w : World} {mb D : Nat} {sn pl : Int} {l : List UInt8} {b : UInt8} {p : Hp} {h : Hs} (hr : runH D .z newH l = .ok p h) (m : MacSH w mb D sn pl (stepH D p h b)) :
    MacBH (w.setCell ⟨mb, 2, none⟩ (.int .i64 (l.length : Nat))) mb D sn (l ++ [b]) := by
  refine ⟨(l.length : Nat), ?_⟩
  rw [runH_app, hr]
  show match runH D p h [b] with
    | .ok p h => _
    | .bad h q => _
  rw [runH]
  cases hs : stepH D p h b with
  | go p' h' =>
    rw [hs] at m
    obtain ⟨r, h1, h2⟩ := m
    exact ⟨r, h1.s2 _, h2⟩
  | no h' =>
    rw [hs] at m
    obtain ⟨r, h1, h2⟩ := m
    refine ⟨r, h1.s2 _, h2, ?_⟩
    rw [List.length_append, List.length_singleton]
    show ((l.length : Nat) : Int) = (l.length + 1 : Nat) - (1 : Int)
    omega
theorem MacBH.stop {w : World} {mb D : Nat} {sn : Int} {l x : List UInt8} (m : MacBH w mb D sn l) {h : Hs} {q : List UInt8} (hr : runH D .z newH l = .bad h q) : MacBH w mb D sn (l ++ x) := by
  obtain ⟨pl, m⟩ := m
  rw [hr] at m
  obtain ⟨r, h1, h2, h3⟩ := m
  refine ⟨pl, ?_⟩
  rw [runH_app, hr]
  refine ⟨r, h1, h2, ?_⟩
  rw [h3, List.length_append, List.length_append]
  omega

set_option maxHeartbeats 4000000 in
set_option maxRecDepth 10000 in
theorem hfeed_any {w : World} {mb D : Nat} {s : ByteArray} (t : ByteArray) (h : MacBH w mb D (s.size : Nat) s.data.toList) (hz : s.size + t.size ≤ 1152921504606846976) :
    Calls Tryz.prog 28 #[mptr mb, .string t] w fun e w' => e = .returned (.int .i64 (staH (tolH D (s ++ t)))) ∧ Mv w.heap.size [mb] w w' ∧ MacBH w' mb D ((s ++ t).size : Nat) (s ++ t).data.toList := by
  obtain ⟨v, hv⟩ : ∃ v, v = staH (tolH D (s ++ t)) := ⟨_, rfl⟩
  rw [← hv]
  have HV := Lib.hid hv
  clear hv
  have hs63 : s.size ≤ 4611686018427387904 := by omega
  have ht63 : t.size ≤ 4611686018427387904 := by omega
  have H := Lib.hid h
  have HL := Lib.hid (show s.data.toList.length = s.size by simp)
  have HA := Lib.hid (app_list s t)
  have HZ := Lib.hid (show (s ++ t).size = s.size + t.size from ByteArray.size_append)
  have HT : ∀ wr, MacBH wr mb D (s.size : Nat) (s.data.toList ++ t.data.toList) → ∃ (pl : Int) (h : Hs) (r : Rg), Hid (WasH wr mb D (s.size : Nat) pl h r) ∧
      Hid (Calls Tryz.prog 32 #[mptr mb] (wr.setCell ⟨mb, 1, none⟩ (.int .i64 ((s.size : Int) + (t.size : Int)))) fun e w' => e = .returned (.int .i64 v) ∧ wr.setCell ⟨mb, 1, none⟩ (.int .i64 ((s.size : Int) + (t.size : Int))) = w') := fun wr hw => by
    rw [← HA.out] at hw
    obtain ⟨pl, h, r, h1, h2, _, _⟩ := hw.told
    refine ⟨pl, h, r, Lib.hid h1, Lib.hid ?_⟩
    rw [HV.out]
    show Calls _ _ _ _ fun e w' => e = .returned (.int .i64 (staH (telH (runH D .z newH (s ++ t).data.toList)))) ∧ _
    rw [← h2]
    exact hstate_any (MaH.s1 h1.mac _) h1.lenB
  have HT2 := Lib.hid HT
  have HE : ∀ wr, MacBH wr mb D (s.size : Nat) (s.data.toList ++ t.data.toList) → MacBH (wr.setCell ⟨mb, 1, none⟩ (.int .i64 ((s.size : Int) + (t.size : Int)))) mb D ((s ++ t).size : Nat) (s ++ t).data.toList := fun wr hw => by
    rw [HA.out, HZ.out]
    exact hw.s1 _
  have HE2 := Lib.hid HE
  clear h HT HE HV
  go_enter Tryz.func28, Tryz.ntmps28
  go_wp2
  go_loopw [10] (fun i wr => ∃ k : Nat, k ≤ t.size ∧ i = .int .i64 k ∧ Hid (MacBH wr mb D (s.size : Nat) (s.data.toList ++ t.data.toList.take k)) ∧ Hid (Mv w.heap.size [mb] w wr)) (fun i _ => t.size - (intOf i).toNat)
  case atStart => exact ⟨0, by omega, rfl, Lib.hid (by rw [List.take_zero, List.append_nil]; exact H.out), Lib.hid (mv0 w mb)⟩
  case round =>
    obtain ⟨k, hk, rfl, HM, HX⟩ := hrel
    by_cases hlt : k < t.size
    · cases hr : runH D .z newH (s.data.toList ++ t.data.toList.take k) with
      | bad h0 q =>
        have HM2 := Lib.hid (show MacBH wr mb D (s.size : Nat) (s.data.toList ++ t.data.toList) by
          have := HM.out.stop (x := t.data.toList.drop k) hr
          rwa [List.append_assoc, List.take_append_drop] at this)
        obtain ⟨pl, h, r, HW, HS⟩ := HT2.out wr HM2.out
        have c5 : wr.cell? ⟨mb, 5, none⟩ = some (.int .i64 13) := by
          have hm := HM.out
          obtain ⟨pl', hm⟩ := hm
          rw [hr] at hm
          obtain ⟨r', g1, g2, _⟩ := hm
          rw [← g2]
          exact g1.mac.c5
        have c1 := HW.out.mac.c1
        have z1 := Blk.frozen HW.out.mac 1
        clear hr
        go_wp2_with (go_at_call 32; (with_reducible refine HS.out.mono ?_); rintro e w1 ⟨rfl, rfl⟩)
        go_ret
        exact ⟨rfl, HX.out.put1 _ _, HE2.out _ HM2.out⟩
      | ok p h0 =>
        have hm := HM.out
        obtain ⟨pl, hm⟩ := hm
        rw [hr] at hm
        obtain ⟨r, h1, h2⟩ := hm
        have c5 := h1.mac.c5
        have n5 : (r.sp == 13) = false := by rw [beq_eq_false_iff_ne]; exact (reg_sp h2).1
        have hfew : h0.pc ≤ 0 + 2 * (s.data.toList ++ t.data.toList.take k).length ∧ h0.en ≤ 0 + 2 * (s.data.toList ++ t.data.toList.take k).length := by
          have := run_few D (s.data.toList ++ t.data.toList.take k) .z newH
          rw [hr] at this
          exact this
        have hkl : k ≤ t.data.toList.length := by simpa using hk
        have hll : (s.data.toList ++ t.data.toList.take k).length = s.size + k := by
          rw [List.length_append, HL.out, List.length_take, Nat.min_eq_left hkl]
        have HK := Lib.hid (htake_any h1 h2 t[k] (by omega) (by omega))
        have HN : ∀ w1, SteH wr w1 mb D (s.size : Nat) pl (stepH D p h0 t[k]) → Hid (∃ pl, w1.cell? ⟨mb, 2, none⟩ = some (.int .i64 pl)) ∧ Hid (w1.cell? ⟨mb, 1, none⟩ = some (.int .i64 (s.size : Nat))) ∧ Hid (w1.frozen? ⟨mb, 2, none⟩ = false) ∧
            Hid (MacBH (w1.setCell ⟨mb, 2, none⟩ (.int .i64 ((s.size : Int) + (k : Int)))) mb D (s.size : Nat) (s.data.toList ++ t.data.toList.take (k + 1))) ∧ Hid (Mv w.heap.size [mb] w w1) := fun w1 hq => by
          have hn := MacBH.next hr hq.2
          have hg : ∃ h r, WasH w1 mb D (s.size : Nat) pl h r := by
            have h3 := hq.2
            cases hs : stepH D p h0 t[k] with
            | go p' h' => rw [hs] at h3; obtain ⟨r', g, _⟩ := h3; exact ⟨_, _, g⟩
            | no h' => rw [hs] at h3; obtain ⟨r', g, _⟩ := h3; exact ⟨_, _, g⟩
          obtain ⟨h', r', g1⟩ := hg
          have el : (((s.data.toList ++ t.data.toList.take k).length : Nat) : Int) = (s.size : Int) + (k : Int) := by
            rw [hll]
            omega
          rw [el, List.append_assoc, ← take_byte27 hlt] at hn
          exact ⟨Lib.hid ⟨_, g1.mac.c2⟩, Lib.hid g1.mac.c1, Lib.hid (Blk.frozen g1.mac 2), Lib.hid hn, Lib.hid (HX.out.then1 hq.1)⟩
        have HN2 := Lib.hid HN
        clear hr h1 h2 hfew hll hkl HN
        generalize r.sp = sp at *
        go_wp2_with (go_at_call 51; (with_reducible refine HK.out.mono ?_); rintro e w1 ⟨rfl, hq⟩; obtain ⟨H1, H2, H3, HG, HF⟩ := HN2.out _ hq; clear hq; obtain ⟨p2, c2⟩ := H1.out; have c1 := H2.out; have z2 := H3.out)
        go_roundw
        case rel => exact ⟨k + 1, by omega, by go_num, HG, Lib.hid (HF.out.put1 _ _)⟩
        case measure => simp [intOf]; omega
    · obtain rfl : k = t.size := by omega
      have HM2 := Lib.hid (show MacBH wr mb D (s.size : Nat) (s.data.toList ++ t.data.toList) by
        have := HM.out
        rwa [take_full27] at this)
      obtain ⟨pl, h, r, HW, HS⟩ := HT2.out wr HM2.out
      have c1 := HW.out.mac.c1
      have z1 := Blk.frozen HW.out.mac 1
      go_wp2_with (go_at_call 32; (with_reducible refine HS.out.mono ?_); rintro e w1 ⟨rfl, rfl⟩)
      go_ret
      exact ⟨rfl, HX.out.put1 _ _, HE2.out _ HM2.out⟩
end Go.Proofs.YtbojbkpplejdmaaGreat
