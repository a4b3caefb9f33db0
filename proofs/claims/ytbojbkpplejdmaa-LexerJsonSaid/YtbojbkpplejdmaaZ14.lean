/-
  What package jscript's inFlags, behindSlash and inText do with a machine of layer 28. Conditions: where reading stands is told of in the machine's registers (RegH); the counts are no greater than a length can be.
  What package jscript's endWord, inWord and take do with a machine of layer 28: what one byte makes of where reading stands (stepH). Conditions: where reading stands is told of in the machine's registers (RegH); the counts are no greater than a length can be.
  What package jscript's inWord and take do with a machine of layer 28: what one byte makes of where reading stands (stepH). Conditions: where reading stands is told of in the machine's registers (RegH); the counts are no greater than a length can be.
-/
import Derived.Test.YtbojbkpplejdmaaZ13
import Derived.Laws.IdiomStrings
namespace Go.Proofs.Ytbojbkpplejdmaa
open Go.RowKit

set_option maxHeartbeats 1000000 in
theorem inFlags_any {w : World} {mb D : Nat} {sn pl : Int} {h : Hs} {r : Rg} (m : WasH w mb D sn pl h r) (hr : r.sp = 7) (b : UInt8) (hp : h.pc + 1 ≤ 4611686018427387904) (hf : h.en + 1 ≤ 4611686018427387904) :
    Calls Try.prog 51 #[mptr mb, .int .u8 (b.toNat : Int)] w fun e w' => e = .returned (.tuple #[]) ∧ SteH w w' mb D sn pl (if innB b then .go .f h else begH D h b) := by
  have c5 := m.mac.c5
  have z5 := Blk.frozen m.mac 5
  have HI := Lib.hid (fun W => inWords_any b W)
  have HK : Hid (SteH w w mb D sn pl (.go .f h)) := Lib.hid ⟨mv0 w mb, _, m, hr⟩
  obtain ⟨q, hq⟩ : ∃ q, q = begH D h b := ⟨_, rfl⟩
  have HB : Hid (Calls Try.prog 55 #[mptr mb, .int .u8 (b.toNat : Int)] (w.setCell ⟨mb, 5, none⟩ (.int .i64 0)) fun e w' => e = .returned (.tuple #[]) ∧ SteH w w' mb D sn pl q) := Lib.hid (by
    refine (hbetween_any (m.s5 0) rfl b hp hf).mono ?_
    rintro e w' ⟨rfl, h2⟩
    rw [hq]
    exact ⟨rfl, SteH.pre ((mv0 w mb).put1 _ _) h2⟩)
  rw [← hq]
  clear m hq hr
  cases h0 : innB b
  all_goals
    rw [h0] at HI
    simp only [if_true, if_false, Bool.false_eq_true]
    go_enter Try.func51, Try.ntmps51
    go_wp2_with (first
      | (go_at_call 63; (with_reducible refine (HI.out _).mono ?_); rintro e w1 ⟨rfl, rfl⟩)
      | (go_at_call 55; (with_reducible refine HB.out.mono ?_); rintro e w1 ⟨rfl, hs⟩))
    go_end0
    first
      | exact ⟨rfl, HK.out⟩
      | exact ⟨rfl, hs⟩

set_option maxHeartbeats 2000000 in
set_option maxRecDepth 10000 in
theorem behindSlash_any {w : World} {mb D : Nat} {sn pl : Int} {h : Hs} {r : Rg} (m : WasH w mb D sn pl h r) (_hr : r.sp = 4) (b : UInt8) (hp : h.pc + 2 ≤ 4611686018427387904) (hf : h.en + 2 ≤ 4611686018427387904) :
    Calls Try.prog 49 #[mptr mb, .int .u8 (b.toNat : Int)] w fun e w' => e = .returned (.tuple #[]) ∧ SteH w w' mb D sn pl (stepH D .s h b) := by
  have c3 := m.mac.c3
  have c5 := m.mac.c5
  have c7 := m.mac.c7
  have z3 := Blk.frozen m.mac 3
  have z5 := Blk.frozen m.mac 5
  have HL : Hid (SteH w (w.setCell ⟨mb, 5, none⟩ (.int .i64 9)) mb D sn pl (.go .l h)) := Lib.hid ⟨(mv0 w mb).put1 _ _, _, m.s5 9, rfl⟩
  have HK : Hid (SteH w (w.setCell ⟨mb, 5, none⟩ (.int .i64 10)) mb D sn pl (.go (.k false) h)) := Lib.hid ⟨(mv0 w mb).put1 _ _, _, m.s5 10, rfl⟩
  have HP : Hid (Calls Try.prog 50 #[mptr mb, .int .u8 (b.toNat : Int)] ((w.setCell ⟨mb, 3, none⟩ (.int .i64 ((h.pc : Int) + 1))).setCell ⟨mb, 5, none⟩ (.int .i64 5)) fun e w' => e = .returned (.tuple #[]) ∧ SteH w w' mb D sn pl (patH (pcH h) false b)) := Lib.hid (by
    refine (inPattern_any (m.s3.s5 5) false rfl b).mono ?_
    rintro e w' ⟨rfl, h2⟩
    exact ⟨rfl, SteH.pre (((mv0 w mb).put1 _ _).put1 _ _) h2⟩)
  have HS : Hid (Calls Try.prog 69 #[mptr mb, .int .u8 47] (w.setCell ⟨mb, 5, none⟩ (.int .i64 0)) fun e w1 => e = .returned (.tuple #[]) ∧ Hid (Calls Try.prog 55 #[mptr mb, .int .u8 (b.toNat : Int)] w1 fun e w' => e = .returned (.tuple #[]) ∧ SteH w w' mb D sn pl (begH D (endH (pcH h) 0) b))) := Lib.hid (by
    refine (hsign_any (m.s5 0) 47 rfl (Nat.le_of_succ_le hp) (Nat.le_of_succ_le hf)).mono ?_
    rintro e w1 ⟨rfl, h1, h2⟩
    obtain ⟨r1, h3, h4⟩ : MacSH w1 mb D sn pl (.go .z (endH (pcH h) 0)) := h2
    refine ⟨rfl, Lib.hid ((hbetween_any h3 h4 b hp (Nat.le_of_succ_le hf)).mono ?_)⟩
    rintro e w' ⟨rfl, h5⟩
    exact ⟨rfl, SteH.pre (((mv0 w mb).put1 _ _).then1 h1) h5⟩)
  have hw : (((b.toNat : Int) == 47) = true ∧ stepH D .s h b = .go .l h) ∨ (((b.toNat : Int) == 47) = false ∧ ((b.toNat : Int) == 42) = true ∧ stepH D .s h b = .go (.k false) h)
      ∨ (((b.toNat : Int) == 47) = false ∧ ((b.toNat : Int) == 42) = false ∧ (((h.last : Nat) : Int) == 0) = true ∧ stepH D .s h b = patH (pcH h) false b)
      ∨ (((b.toNat : Int) == 47) = false ∧ ((b.toNat : Int) == 42) = false ∧ (((h.last : Nat) : Int) == 0) = false ∧ stepH D .s h b = begH D (endH (pcH h) 0) b) := by
    by_cases h1 : b = 47; · subst h1; exact Or.inl ⟨rfl, rfl⟩
    by_cases h2 : b = 42; · subst h2; exact Or.inr (Or.inl ⟨rfl, rfl, rfl⟩)
    have q1 := iE (x := 47) rfl h1
    have q2 := iE (x := 42) rfl h2
    by_cases h3 : h.last = 0
    · exact Or.inr (Or.inr (Or.inl ⟨q1, q2, by rw [h3]; rfl, by simp [stepH, h1, h2, h3]⟩))
    · exact Or.inr (Or.inr (Or.inr ⟨q1, q2, by rw [beq_eq_false_iff_ne]; omega, by simp [stepH, h1, h2, h3]⟩))
  clear m _hr
  generalize stepH D .s h b = s at *
  generalize begH D (endH (pcH h) 0) b = s1 at *
  generalize patH (pcH h) false b = s2 at *
  rcases hw with ⟨h0, e⟩ | ⟨h0, h1, e⟩ | ⟨h0, h1, h2, e⟩ | ⟨h0, h1, h2, e⟩
  all_goals
    rw [e]
    clear e
    generalize h.pc = pc at *
    generalize ((h.last : Nat) : Int) = ls at *
    generalize (b.toNat : Int) = x at *
    go_enter Try.func49, Try.ntmps49
    go_wp2_with (first
      | (go_at_call 50; (with_reducible refine HP.out.mono ?_); rintro e w1 ⟨rfl, hs⟩)
      | (go_at_call 69; (with_reducible refine HS.out.mono ?_); rintro e w1 ⟨rfl, HB⟩)
      | (go_at_call 55; (with_reducible refine HB.out.mono ?_); rintro e w2 ⟨rfl, hs⟩))
    go_end0
    first
      | exact ⟨rfl, hs⟩
      | exact ⟨rfl, HL.out⟩
      | exact ⟨rfl, HK.out⟩

/-! Texts. -/
set_option maxHeartbeats 2000000 in
set_option maxRecDepth 10000 in
theorem inText_quote {w : World} {mb D : Nat} {sn pl : Int} {h : Hs} {r : Rg} (m : WasH w mb D sn pl h r) {y : UInt8} (hr : RegH (.t y false) r) (b : UInt8) :
    Calls Try.prog 48 #[mptr mb, .int .u8 (b.toNat : Int)] w fun e w' => e = .returned (.tuple #[]) ∧ SteH w w' mb D sn pl (texH h y b) := by
  obtain ⟨hq, hy, hs2⟩ := hr
  have hs2 : r.sp = 2 := hs2
  have c5 := m.mac.c5
  have c6 := m.mac.c6
  have c9 := m.mac.c9
  rw [hs2] at c5
  rw [hq] at c9
  have z5 := Blk.frozen m.mac 5
  have z6 := Blk.frozen m.mac 6
  have HE := Lib.hid (fun W => endsLine_any b W)
  have HK : Hid (SteH w (w.setCell ⟨mb, 5, none⟩ (.int .i64 2)) mb D sn pl (.go (.t y false) h)) := Lib.hid ⟨(mv0 w mb).put1 _ _, _, m.s5 2, hq, hy, rfl⟩
  have HX : Hid (SteH w (((w.setCell ⟨mb, 5, none⟩ (.int .i64 2)).setCell ⟨mb, 5, none⟩ (.int .i64 8)).setCell ⟨mb, 6, none⟩ (.int .i64 2)) mb D sn pl (.go (.t y true) h)) := Lib.hid ⟨(((mv0 w mb).put1 _ _).put1 _ _).put1 _ _, _, ((m.s5 2).s5 8).s6 2, hq, hy, rfl, rfl⟩
  have HN : Hid (SteH w ((w.setCell ⟨mb, 5, none⟩ (.int .i64 2)).setCell ⟨mb, 5, none⟩ (.int .i64 13)) mb D sn pl (.no h)) := Lib.hid ⟨((mv0 w mb).put1 _ _).put1 _ _, _, (m.s5 2).s5 13, rfl⟩
  have HL : Hid (Calls Try.prog 66 #[mptr mb, .int .i64 1] ((w.setCell ⟨mb, 5, none⟩ (.int .i64 2)).setCell ⟨mb, 5, none⟩ (.int .i64 0)) fun e w' => e = .returned (.tuple #[]) ∧ SteH w w' mb D sn pl (.go .z (endH h 1))) := Lib.hid (by
    refine (lay_any ((m.s5 2).s5 0) 1 rfl).mono ?_
    rintro e w' ⟨rfl, h1, h2⟩
    exact ⟨rfl, (((mv0 w mb).put1 _ _).put1 _ _).then1 h1, _, h2, rfl⟩)
  have hw : (((b.toNat : Int) == (y.toNat : Int)) = true ∧ texH h y b = .go .z (endH h 1)) ∨ (((b.toNat : Int) == (y.toNat : Int)) = false ∧ ((b.toNat : Int) == 92) = true ∧ texH h y b = .go (.t y true) h)
      ∨ (((b.toNat : Int) == (y.toNat : Int)) = false ∧ ((b.toNat : Int) == 92) = false ∧ lineB b = true ∧ texH h y b = .no h)
      ∨ (((b.toNat : Int) == (y.toNat : Int)) = false ∧ ((b.toNat : Int) == 92) = false ∧ lineB b = false ∧ texH h y b = .go (.t y false) h) := by
    by_cases h1 : b = y
    · subst h1
      exact Or.inl ⟨by rw [beq_iff_eq], by rcases hy with rfl | rfl <;> rfl⟩
    have q1 := iE (c := y) rfl h1
    by_cases h2 : b = 92; · subst h2; exact Or.inr (Or.inl ⟨q1, rfl, rfl⟩)
    have q2 := iE (x := 92) rfl h2
    cases e : lineB b
    · exact Or.inr (Or.inr (Or.inr ⟨q1, q2, rfl, by simp [texH, e, h1, h2]⟩))
    · exact Or.inr (Or.inr (Or.inl ⟨q1, q2, rfl, by simp [texH, e, h2]⟩))
  have g0 : ((y.toNat : Int) != 96) = true := by rcases hy with rfl | rfl <;> rfl
  clear m hs2 hq hy
  generalize texH h y b = s at *
  rcases hw with ⟨h0, e⟩ | ⟨h0, h1, e⟩ | ⟨h0, h1, h2, e⟩ | ⟨h0, h1, h2, e⟩
  all_goals
    rw [e]
    clear e
    generalize lineB b = lb at *
    generalize (b.toNat : Int) = x at *
    generalize (y.toNat : Int) = yy at *
    go_enter Try.func48, Try.ntmps48
    go_wp2_with (first
      | (go_at_call 67; (with_reducible refine (HE.out _).mono ?_); rintro e w1 ⟨rfl, rfl⟩)
      | (go_at_call 66; (with_reducible refine HL.out.mono ?_); rintro e w1 ⟨rfl, hs⟩))
    go_end0
    first
      | exact ⟨rfl, hs⟩
      | exact ⟨rfl, HK.out⟩
      | exact ⟨rfl, HX.out⟩
      | exact ⟨rfl, HN.out⟩
set_option maxHeartbeats 2000000 in
set_option maxRecDepth 10000 in
theorem inText_grave {w : World} {mb D : Nat} {sn pl : Int} {h : Hs} {r : Rg} (m : WasH w mb D sn pl h r) {dol : Bool} (hr : RegH (.g false dol) r) (b : UInt8) :
    Calls Try.prog 48 #[mptr mb, .int .u8 (b.toNat : Int)] w fun e w' => e = .returned (.tuple #[]) ∧ SteH w w' mb D sn pl (stepH D (.g false dol) h b) := by
  obtain ⟨hq, hs2⟩ := hr
  have hs2 : r.sp = if dol then 3 else 2 := hs2
  have c5 := m.mac.c5
  have c6 := m.mac.c6
  have c9 := m.mac.c9
  rw [hq] at c9
  have c9 : w.cell? ⟨mb, 9, none⟩ = some (.int .u8 96) := c9
  have z5 := Blk.frozen m.mac 5
  have z6 := Blk.frozen m.mac 6
  have HK : Hid (SteH w (w.setCell ⟨mb, 5, none⟩ (.int .i64 2)) mb D sn pl (.go (.g false false) h)) := Lib.hid ⟨(mv0 w mb).put1 _ _, _, m.s5 2, hq, rfl⟩
  have HX : Hid (SteH w (((w.setCell ⟨mb, 5, none⟩ (.int .i64 2)).setCell ⟨mb, 5, none⟩ (.int .i64 8)).setCell ⟨mb, 6, none⟩ (.int .i64 2)) mb D sn pl (.go (.g true false) h)) := Lib.hid ⟨(((mv0 w mb).put1 _ _).put1 _ _).put1 _ _, _, ((m.s5 2).s5 8).s6 2, hq, rfl, rfl, rfl⟩
  have HD : Hid (SteH w ((w.setCell ⟨mb, 5, none⟩ (.int .i64 2)).setCell ⟨mb, 5, none⟩ (.int .i64 3)) mb D sn pl (.go (.g false true) h)) := Lib.hid ⟨((mv0 w mb).put1 _ _).put1 _ _, _, (m.s5 2).s5 3, hq, rfl⟩
  have HL : Hid (Calls Try.prog 66 #[mptr mb, .int .i64 1] ((w.setCell ⟨mb, 5, none⟩ (.int .i64 2)).setCell ⟨mb, 5, none⟩ (.int .i64 0)) fun e w' => e = .returned (.tuple #[]) ∧ SteH w w' mb D sn pl (.go .z (endH h 1))) := Lib.hid (by
    refine (lay_any ((m.s5 2).s5 0) 1 rfl).mono ?_
    rintro e w' ⟨rfl, h1, h2⟩
    exact ⟨rfl, (((mv0 w mb).put1 _ _).put1 _ _).then1 h1, _, h2, rfl⟩)
  obtain ⟨s1, hs1⟩ : ∃ s1, s1 = if h.op.length == D then Sh.no h else .go .z (endH { h with op := 36 :: h.op } 0) := ⟨_, rfl⟩
  have HN : Hid (Calls Try.prog 68 #[mptr mb, .int .u8 96] (w.setCell ⟨mb, 5, none⟩ (.int .i64 2)) fun e w' => e = .returned (.tuple #[]) ∧ SteH w w' mb D sn pl s1) := Lib.hid (by
    refine (enter_any (m.s5 2) 36 rfl rfl).mono ?_
    rintro e w' ⟨rfl, h2⟩
    rw [hs1]
    exact ⟨rfl, SteH.pre ((mv0 w mb).put1 _ _) h2⟩)
  have hd : (r.sp == 3) = dol := by rw [hs2]; cases dol <;> rfl
  have hw : (((b.toNat : Int) == 96) = true ∧ stepH D (.g false dol) h b = .go .z (endH h 1)) ∨ (((b.toNat : Int) == 96) = false ∧ ((b.toNat : Int) == 92) = true ∧ stepH D (.g false dol) h b = .go (.g true false) h)
      ∨ (((b.toNat : Int) == 96) = false ∧ ((b.toNat : Int) == 92) = false ∧ ((b.toNat : Int) == 36) = true ∧ stepH D (.g false dol) h b = .go (.g false true) h)
      ∨ (((b.toNat : Int) == 96) = false ∧ ((b.toNat : Int) == 92) = false ∧ ((b.toNat : Int) == 36) = false ∧ ((b.toNat : Int) == 123) = true ∧ dol = true ∧ stepH D (.g false dol) h b = s1)
      ∨ (((b.toNat : Int) == 96) = false ∧ ((b.toNat : Int) == 92) = false ∧ ((b.toNat : Int) == 36) = false ∧ ((b.toNat : Int) == 123) = true ∧ dol = false ∧ stepH D (.g false dol) h b = .go (.g false false) h)
      ∨ (((b.toNat : Int) == 96) = false ∧ ((b.toNat : Int) == 92) = false ∧ ((b.toNat : Int) == 36) = false ∧ ((b.toNat : Int) == 123) = false ∧ stepH D (.g false dol) h b = .go (.g false false) h) := by
    by_cases h1 : b = 96; · subst h1; exact Or.inl ⟨rfl, by cases dol <;> rfl⟩
    have q1 := iE (x := 96) rfl h1
    by_cases h2 : b = 92; · subst h2; exact Or.inr (Or.inl ⟨q1, rfl, by cases dol <;> rfl⟩)
    have q2 := iE (x := 92) rfl h2
    by_cases h3 : b = 36; · subst h3; exact Or.inr (Or.inr (Or.inl ⟨q1, q2, rfl, by cases dol <;> rfl⟩))
    have q3 := iE (x := 36) rfl h3
    by_cases h4 : b = 123
    · subst h4
      cases dol
      · exact Or.inr (Or.inr (Or.inr (Or.inr (Or.inl ⟨q1, q2, q3, rfl, rfl, rfl⟩))))
      · exact Or.inr (Or.inr (Or.inr (Or.inl ⟨q1, q2, q3, rfl, rfl, by rw [hs1]; rfl⟩)))
    · exact Or.inr (Or.inr (Or.inr (Or.inr (Or.inr ⟨q1, q2, q3, iE (x := 123) rfl h4, by simp [stepH, graH, h1, h2, h3, h4]⟩))))
  clear m hs2 hq hs1
  generalize stepH D (.g false dol) h b = s at *
  rcases hw with ⟨h0, e⟩ | ⟨h0, h1, e⟩ | ⟨h0, h1, h2, e⟩ | ⟨h0, h1, h2, h3, rfl, e⟩ | ⟨h0, h1, h2, h3, rfl, e⟩ | ⟨h0, h1, h2, h3, e⟩
  all_goals
    rw [e]
    clear e
    generalize r.sp = sp at *
    generalize (b.toNat : Int) = x at *
    go_enter Try.func48, Try.ntmps48
    go_wp2_with (first
      | (go_at_call 68; (with_reducible refine HN.out.mono ?_); rintro e w1 ⟨rfl, hs⟩)
      | (go_at_call 66; (with_reducible refine HL.out.mono ?_); rintro e w1 ⟨rfl, hs⟩))
    go_end0
    first
      | exact ⟨rfl, hs⟩
      | exact ⟨rfl, HK.out⟩
      | exact ⟨rfl, HX.out⟩
      | exact ⟨rfl, HD.out⟩
end Go.Proofs.Ytbojbkpplejdmaa
namespace Go.Proofs.Ytbojbkpplejdmaa
open Go.RowKit

theorem kwd_long {l : List UInt8} (h : 10 < l.length) : kwdH l = false := by
  have hk : ∀ k ∈ kwdL, k.length ≤ 10 := by decide
  unfold kwdH
  rw [List.any_eq_false]
  intro k hm e
  rw [beq_iff_eq] at e
  have := hk k hm
  rw [e] at this
  omega
theorem kwd_take (l : List UInt8) : kwdH (l.take 11) = kwdH l := by
  by_cases h : l.length ≤ 11
  · rw [List.take_of_length_le h]
  · rw [kwd_long (l := l) (by omega), kwd_long (by rw [List.length_take]; omega)]

set_option maxHeartbeats 2000000 in
set_option maxRecDepth 10000 in
theorem endWord_any {w : World} {mb D : Nat} {sn pl : Int} {h : Hs} {r : Rg} (m : WasH w mb D sn pl h r) {dig : Bool} {acc : List UInt8} (hr : RegH (.w dig acc) r) :
    Calls Try.prog 65 #[mptr mb] w fun e w' => e = .returned (.tuple #[]) ∧ Mv w.heap.size [mb] w w' ∧ WasH w' mb D sn pl (worH h acc) { r with sp := 0 } := by
  obtain ⟨h1, h2, h3, _⟩ := hr
  have c5 := m.mac.c5
  have c11 := m.mac.c11
  rw [h2] at c11
  have z5 := Blk.frozen m.mac 5
  obtain ⟨n, hn⟩ : ∃ n, n = min acc.length 11 := ⟨_, rfl⟩
  have hl : (acc.take 11).length = n := by rw [List.length_take, hn, Nat.min_comm]
  rw [← hn] at c11
  have hcell : ∀ k j, j < n → ((w.setCell ⟨mb, 5, none⟩ (.int .i64 0)).drewN k).cell? ⟨mb, 12 + j, none⟩ = w.cell? ⟨mb, 12 + j, none⟩ := fun k j hj => by
    have hw := (m.s5 0).drewN k
    rw [(MaH.cB hw.mac j (by show j < r.B.length; rw [m.lenB]; omega)), MaH.cB m.mac j (by rw [m.lenB]; omega)]
  have HC : Hid (∀ k, (convert 73 9 (.slice (some ⟨mb, 12, none⟩) n 11)).run Try.prog ((w.setCell ⟨mb, 5, none⟩ (.int .i64 0)).drewN k) = .ok (.string ⟨(acc.take 11).toArray⟩) ((w.setCell ⟨mb, 5, none⟩ (.int .i64 0)).drewN k)) := Lib.hid fun k => by
    have := run_convert_bytes_back (P := Try.prog) ((w.setCell ⟨mb, 5, none⟩ (.int .i64 0)).drewN k) 73 9 5 ⟨mb, 12, none⟩ 11 (acc.take 11) Try.underlying73 Try.underlying5 Try.underlying9 (fun j hj => by
      have hj' : j < n := by omega
      have e : (⟨mb, 12, none⟩ : Addr).add j = ⟨mb, 12 + j, none⟩ := by cases j <;> simp [Addr.add]
      rw [e, hcell k j hj', MaH.cB m.mac j (by rw [m.lenB]; omega), h3 j ((acc.take 11)[j]) (by rw [List.getElem_take, List.getElem?_eq_getElem]) (by omega)])
    rw [hl] at this
    exact this
  obtain ⟨kb, hkb⟩ : ∃ kb, kb = kwdH acc := ⟨_, rfl⟩
  have HK : Hid (∀ W, Calls Try.prog 79 #[.string ⟨(acc.take 11).toArray⟩] W fun e w' => e = .returned (.bool kb) ∧ W = w') := Lib.hid fun W => by
    have := keyword_any ⟨(acc.take 11).toArray⟩ W
    rw [show (⟨(acc.take 11).toArray⟩ : ByteArray).data.toList = acc.take 11 from rfl, kwd_take, ← hkb] at this
    exact this
  have HL : Hid (∀ k, Calls Try.prog 66 #[mptr mb, .int .i64 (if kb then 0 else 1)] ((w.setCell ⟨mb, 5, none⟩ (.int .i64 0)).drewN k) fun e w' => e = .returned (.tuple #[]) ∧ Mv w.heap.size [mb] w w' ∧ WasH w' mb D sn pl (worH h acc) { r with sp := 0 }) := Lib.hid fun k => by
    refine (lay_any ((m.s5 0).drewN k) (if kb then 0 else 1) (by split <;> rfl)).mono ?_
    rintro e w' ⟨rfl, g1, g2⟩
    refine ⟨rfl, (((mv0 w mb).put1 _ _).drewN _).then1 g1, ?_⟩
    unfold worH
    rw [← hkb]
    exact g2
  have hn11 : n ≤ 11 := by omega
  have b0 : (0 : Int) ≤ (n : Int) := by omega
  have b1 : (n : Int) ≤ 11 := by omega
  have hC := HC.out
  generalize (⟨(acc.take 11).toArray⟩ : ByteArray) = kept at *
  clear m h1 h2 h3 hl hcell hkb hn
  cases kb
  all_goals
    simp only [if_true, if_false, Bool.false_eq_true] at HL
    go_enter Try.func65, Try.ntmps65
    go_wp2
    go_quiet ((go_at_call 79; exact Calls.quiet_of_same ((HK.out _).mono fun _ _ h => ⟨h.1, h.2.symm⟩)))
    go_wp2_with (go_at_call 66; (with_reducible refine (HL.out _).mono ?_); rintro e w1 ⟨rfl, hs⟩)
    first
      | (refine bodyPost_ret (results_none rfl _ _ _) rfl ?_; exact ⟨rfl, hs⟩)
      | (go_end0; exact ⟨rfl, hs⟩)
end Go.Proofs.Ytbojbkpplejdmaa
namespace Go.Proofs.Ytbojbkpplejdmaa
open Go.RowKit

theorem beg_more {acc : List UInt8} {B : List Value} {b : UInt8} (h : BegIs acc B) (hB : B.length = 11) (hl : acc.length < 11) : BegIs (acc ++ [b]) (B.set acc.length (.int .u8 (b.toNat : Int))) := fun i x hx hi => by
  by_cases he : i = acc.length
  · subst he
    rw [List.getElem?_append_right (Nat.le_refl _), Nat.sub_self] at hx
    have hx' : b = x := by simpa using hx
    subst hx'
    exact List.getElem?_set_self (by omega)
  · have hlt : i < acc.length := by
      have := (List.getElem?_eq_some_iff.1 hx).1
      rw [List.length_append, List.length_singleton] at this
      omega
    rw [List.getElem?_append_left hlt] at hx
    rw [List.getElem?_set_ne (fun e => he e.symm)]
    exact h i x hx hi
theorem beg_full {acc : List UInt8} {B : List Value} {b : UInt8} (h : BegIs acc B) (hl : 11 ≤ acc.length) : BegIs (acc ++ [b]) B := fun i x hx hi => by
  rw [List.getElem?_append_left (by omega)] at hx
  exact h i x hx hi

set_option maxHeartbeats 2000000 in
set_option maxRecDepth 10000 in
theorem hinWord_any {w : World} {mb D : Nat} {sn pl : Int} {h : Hs} {r : Rg} (m : WasH w mb D sn pl h r) {dig : Bool} {acc : List UInt8} (hr : RegH (.w dig acc) r) (b : UInt8) (hp : h.pc + 1 ≤ 4611686018427387904) (hf : h.en + 1 ≤ 4611686018427387904) :
    Calls Try.prog 47 #[mptr mb, .int .u8 (b.toNat : Int)] w fun e w' => e = .returned (.tuple #[]) ∧ SteH w w' mb D sn pl (stepH D (.w dig acc) h b) := by
  have HEW := Lib.hid (endWord_any m hr)
  obtain ⟨h1, h2, h3, x0, h4, h5⟩ := hr
  have c5 := m.mac.c5
  have c11 := m.mac.c11
  rw [h2] at c11
  have c12 : w.cell? ⟨mb, 12, none⟩ = some (.int .u8 (x0.toNat : Int)) := (m.mac.cB 0 (by rw [m.lenB]; omega)).trans (h3 0 x0 h4 (by omega))
  have z11 := Blk.frozen m.mac 11
  have HI := Lib.hid (fun W => inWords_any b W)
  have HD : Hid (∀ W, Calls Try.prog 64 #[.int .u8 (x0.toNat : Int)] W fun e w' => e = .returned (.bool dig) ∧ W = w') := Lib.hid (fun W => by rw [h5]; exact digit_any x0 W)
  obtain ⟨q, hq⟩ : ∃ q, q = begH D (worH h acc) b := ⟨_, rfl⟩
  have HB : Hid (∀ w1, Mv w.heap.size [mb] w w1 → WasH w1 mb D sn pl (worH h acc) { r with sp := 0 } → Hid (Calls Try.prog 55 #[mptr mb, .int .u8 (b.toNat : Int)] w1 fun e w' => e = .returned (.tuple #[]) ∧ SteH w w' mb D sn pl q)) := Lib.hid fun w1 g1 g2 => Lib.hid (by
    refine (hbetween_any g2 rfl b hp hf).mono ?_
    rintro e w' ⟨rfl, g3⟩
    rw [hq]
    exact ⟨rfl, SteH.pre g1 g3⟩)
  have hne : ((b.toNat : Int) != 46) = !((b.toNat : Int) == 46) := rfl
  have hw : (innB b = true ∧ stepH D (.w dig acc) h b = .go (.w dig (acc ++ [b])) h) ∨ (innB b = false ∧ ((b.toNat : Int) == 46) = true ∧ dig = true ∧ stepH D (.w dig acc) h b = .go (.w dig (acc ++ [b])) h)
      ∨ (innB b = false ∧ ((b.toNat : Int) == 46) = true ∧ dig = false ∧ stepH D (.w dig acc) h b = q) ∨ (innB b = false ∧ ((b.toNat : Int) == 46) = false ∧ stepH D (.w dig acc) h b = q) := by
    cases e : innB b
    case true => exact Or.inl ⟨rfl, by simp [stepH, e]⟩
    by_cases h46 : b = 46
    · subst h46
      cases dig
      · exact Or.inr (Or.inr (Or.inl ⟨rfl, rfl, rfl, by rw [hq]; rfl⟩))
      · exact Or.inr (Or.inl ⟨rfl, rfl, rfl, rfl⟩)
    · exact Or.inr (Or.inr (Or.inr ⟨rfl, iE (x := 46) rfl h46, by simp [stepH, e, h46, hq]⟩))
  have h4' : (acc ++ [b])[0]? = some x0 := by
    rw [List.getElem?_append_left (List.getElem?_eq_some_iff.1 h4).1]
    exact h4
  by_cases hl : acc.length < 11
  · have hm : min acc.length 11 = acc.length := by omega
    rw [hm] at c11
    have HP : ∀ n, Hid (SteH w (((w.drewN n).setCell ⟨mb, 12 + acc.length, none⟩ (.int .u8 (b.toNat : Int))).setCell ⟨mb, 11, none⟩ (.int .i64 ((acc.length : Int) + 1))) mb D sn pl (.go (.w dig (acc ++ [b])) h)) := fun n => Lib.hid
      ⟨((((mv0 w mb).drewN _).put1 _ _).put1 _ _), _, ((m.drewN n).sB acc.length hl (.int .u8 (b.toNat : Int))).s11 _, h1, by
        show (acc.length : Int) + 1 = _
        rw [List.length_append, List.length_singleton, Nat.min_eq_left (by omega)]
        omega, beg_more h3 m.lenB hl, x0, h4', h5⟩
    have zB := Blk.frozen m.mac (12 + acc.length)
    obtain ⟨y, hy⟩ : ∃ y, r.B[acc.length]? = some y := ⟨_, List.getElem?_eq_getElem (by rw [m.lenB]; exact hl)⟩
    have cB := (m.mac.cB acc.length (by rw [m.lenB]; exact hl)).trans hy
    have b0 : decide ((acc.length : Nat) < 11) = true := by rw [decide_eq_true_iff]; exact hl
    have b1 : (acc.length : Int) < 11 := by omega
    have b2 : (0 : Int) ≤ (acc.length : Int) := by omega
    clear m h1 h2 h3 h4 h4' h5 hq hp hf hy hl hm
    generalize acc.length = n at *
    generalize stepH D (.w dig acc) h b = s at *
    rcases hw with ⟨h0, e⟩ | ⟨h0, h1, rfl, e⟩ | ⟨h0, h1, rfl, e⟩ | ⟨h0, h1, e⟩
    all_goals
      rw [e]
      clear e
      rw [h0] at HI
      clear h0
      generalize (b.toNat : Int) = x at *
      generalize (x0.toNat : Int) = x1 at *
    case' inl => skip
    all_goals try rw [h1] at hne
    all_goals
      go_enter Try.func47, Try.ntmps47
      go_wp2_with (first
        | (go_at_call 63; (with_reducible refine (HI.out _).mono ?_); rintro e w1 ⟨rfl, rfl⟩)
        | (go_at_call 64; (with_reducible refine (HD.out _).mono ?_); rintro e w1 ⟨rfl, rfl⟩)
        | (go_at_call 65; (with_reducible refine HEW.out.mono ?_); rintro e w1 ⟨rfl, g1, g2⟩; have HBB := HB.out _ g1 g2; clear g1 g2)
        | (go_at_call 55; (with_reducible refine HBB.out.mono ?_); rintro e w2 ⟨rfl, hs⟩))
    · go_region
      go_wp2
      go_end0
      exact ⟨rfl, (HP _).out⟩
    · go_region
      go_wp2
      go_end0
      exact ⟨rfl, (HP _).out⟩
    · refine bodyPost_ret (results_none rfl _ _ _) rfl ?_
      exact ⟨rfl, hs⟩
    · refine bodyPost_ret (results_none rfl _ _ _) rfl ?_
      exact ⟨rfl, hs⟩
  · have hm : min acc.length 11 = 11 := by omega
    rw [hm] at c11
    have HP : Hid (SteH w w mb D sn pl (.go (.w dig (acc ++ [b])) h)) := Lib.hid
      ⟨mv0 w mb, _, m, h1, by
        rw [h2, hm, List.length_append, List.length_singleton, Nat.min_eq_right (by omega)], beg_full h3 (by omega), x0, h4', h5⟩
    have c11 : w.cell? ⟨mb, 11, none⟩ = some (.int .i64 11) := c11
    clear m h1 h2 h3 h4 h4' h5 hq hp hf hl hm
    generalize stepH D (.w dig acc) h b = s at *
    rcases hw with ⟨h0, e⟩ | ⟨h0, h1, rfl, e⟩ | ⟨h0, h1, rfl, e⟩ | ⟨h0, h1, e⟩
    all_goals
      rw [e]
      clear e
      rw [h0] at HI
      clear h0
      generalize (b.toNat : Int) = x at *
      generalize (x0.toNat : Int) = x1 at *
    all_goals try rw [h1] at hne
    all_goals
      go_enter Try.func47, Try.ntmps47
      go_wp2_with (first
        | (go_at_call 63; (with_reducible refine (HI.out _).mono ?_); rintro e w1 ⟨rfl, rfl⟩)
        | (go_at_call 64; (with_reducible refine (HD.out _).mono ?_); rintro e w1 ⟨rfl, rfl⟩)
        | (go_at_call 65; (with_reducible refine HEW.out.mono ?_); rintro e w1 ⟨rfl, g1, g2⟩; have HBB := HB.out _ g1 g2; clear g1 g2)
        | (go_at_call 55; (with_reducible refine HBB.out.mono ?_); rintro e w2 ⟨rfl, hs⟩))
    · go_end0
      exact ⟨rfl, HP.out⟩
    · go_end0
      exact ⟨rfl, HP.out⟩
    · refine bodyPost_ret (results_none rfl _ _ _) rfl ?_
      exact ⟨rfl, hs⟩
    · refine bodyPost_ret (results_none rfl _ _ _) rfl ?_
      exact ⟨rfl, hs⟩
end Go.Proofs.Ytbojbkpplejdmaa
