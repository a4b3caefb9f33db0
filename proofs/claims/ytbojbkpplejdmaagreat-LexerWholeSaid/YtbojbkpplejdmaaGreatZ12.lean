/-
  What package jscript's between, inFlags, behindSlash and inText do with a machine of layer 28. Conditions: where reading stands is told of in the machine's registers (RegH); the counts are no greater than a length can be.
  What package jscript's inFlags, behindSlash and inText do with a machine of layer 28. Conditions: where reading stands is told of in the machine's registers (RegH); the counts are no greater than a length can be.
  What package jscript's endWord, inWord and take do with a machine of layer 28: what one byte makes of where reading stands (stepH). Conditions: where reading stands is told of in the machine's registers (RegH); the counts are no greater than a length can be.
-/
import Derived.Test.YtbojbkpplejdmaaGreatZ11
import Derived.Laws.IdiomStrings
namespace Go.Proofs.YtbojbkpplejdmaaGreat
open Go.RowKit

theorem signs_first (b : UInt8) : decide ((0 : Int) ≤ Go.firstIdx ⟨#[123, 125, 40, 41, 91, 93, 59, 44, 60, 62, 61, 33, 43, 45, 42, 37, 38, 124, 94, 126, 63, 58, 46]⟩ b) = sgnH b := by
  have := bytes_all (p := fun b => decide ((0 : Int) ≤ Go.firstIdx ⟨#[123, 125, 40, 41, 91, 93, 59, 44, 60, 62, 61, 33, 43, 45, 42, 37, 38, 124, 94, 126, 63, 58, 46]⟩ b) == sgnH b) (by kernel_rfl) b
  exact beq_iff_eq.1 this
theorem beg_ways (D : Nat) (h : Hs) (b : UInt8) {x : Int} (hx : x = (b.toNat : Int)) :
    (blkB b = true ∧ begH D h b = .go .z (brH h b))
    ∨ (blkB b = false ∧ innB b = true ∧ begH D h b = if joiH h then .no h else .go (.w (digB b) [b]) (pcH h))
    ∨ (blkB b = false ∧ innB b = false ∧ (x == 39) = true ∧ (b = 34 ∨ b = 39) ∧ begH D h b = if joiH h then .no h else .go (.t b false) (pcH h))
    ∨ (blkB b = false ∧ innB b = false ∧ (x == 39) = false ∧ (x == 34) = true ∧ (b = 34 ∨ b = 39) ∧ begH D h b = if joiH h then .no h else .go (.t b false) (pcH h))
    ∨ (blkB b = false ∧ innB b = false ∧ (x == 39) = false ∧ (x == 34) = false ∧ (x == 96) = true ∧ begH D h b = .go (.g false false) (pcH h))
    ∨ (blkB b = false ∧ innB b = false ∧ (x == 39) = false ∧ (x == 34) = false ∧ (x == 96) = false ∧ (x == 47) = true ∧ begH D h b = .go .s h)
    ∨ (blkB b = false ∧ innB b = false ∧ (x == 39) = false ∧ (x == 34) = false ∧ (x == 96) = false ∧ (x == 47) = false ∧ (x == 60) = true ∧ (h.pc == 0) = true ∧ begH D h b = .go (.x 1) h)
    ∨ (blkB b = false ∧ innB b = false ∧ (x == 39) = false ∧ (x == 34) = false ∧ (x == 96) = false ∧ (x == 47) = false ∧ (x == 60) = true ∧ (h.pc == 0) = false ∧ sgnH b = true ∧ begH D h b = sigH D (pcH h) b)
    ∨ (blkB b = false ∧ innB b = false ∧ (x == 39) = false ∧ (x == 34) = false ∧ (x == 96) = false ∧ (x == 47) = false ∧ (x == 60) = false ∧ sgnH b = true ∧ begH D h b = sigH D (pcH h) b)
    ∨ (blkB b = false ∧ innB b = false ∧ (x == 39) = false ∧ (x == 34) = false ∧ (x == 96) = false ∧ (x == 47) = false ∧ (x == 60) = false ∧ sgnH b = false ∧ begH D h b = .no h) := by
  subst hx
  cases e1 : blkB b
  case true => exact Or.inl ⟨rfl, by unfold begH; rw [e1]; rfl⟩
  cases e2 : innB b
  case true => exact Or.inr (Or.inl ⟨rfl, rfl, by unfold begH; rw [e1, e2]; rfl⟩)
  by_cases h1 : b = 39; · subst h1; exact Or.inr (Or.inr (Or.inl ⟨rfl, rfl, rfl, Or.inr rfl, rfl⟩))
  by_cases h2 : b = 34; · subst h2; exact Or.inr (Or.inr (Or.inr (Or.inl ⟨rfl, rfl, rfl, rfl, Or.inl rfl, rfl⟩)))
  by_cases h3 : b = 96; · subst h3; exact Or.inr (Or.inr (Or.inr (Or.inr (Or.inl ⟨rfl, rfl, rfl, rfl, rfl, rfl⟩))))
  by_cases h4 : b = 47; · subst h4; exact Or.inr (Or.inr (Or.inr (Or.inr (Or.inr (Or.inl ⟨rfl, rfl, rfl, rfl, rfl, rfl, rfl⟩)))))
  have q1 := iE (x := 39) rfl h1
  have q2 := iE (x := 34) rfl h2
  have q3 := iE (x := 96) rfl h3
  have q4 := iE (x := 47) rfl h4
  by_cases h5 : b = 60
  · subst h5
    cases hp : (h.pc == 0)
    · exact Or.inr (Or.inr (Or.inr (Or.inr (Or.inr (Or.inr (Or.inr (Or.inl ⟨rfl, rfl, q1, q2, q3, q4, rfl, rfl, rfl, by unfold begH; rw [hp]; rfl⟩)))))))
    · exact Or.inr (Or.inr (Or.inr (Or.inr (Or.inr (Or.inr (Or.inl ⟨rfl, rfl, q1, q2, q3, q4, rfl, rfl, by unfold begH; rw [hp]; rfl⟩))))))
  · have q5 := iE (x := 60) rfl h5
    cases e3 : sgnH b
    · exact Or.inr (Or.inr (Or.inr (Or.inr (Or.inr (Or.inr (Or.inr (Or.inr (Or.inr ⟨rfl, rfl, q1, q2, q3, q4, q5, rfl, by simp [begH, e1, e2, e3, h1, h2, h3, h4, h5]⟩))))))))
    · exact Or.inr (Or.inr (Or.inr (Or.inr (Or.inr (Or.inr (Or.inr (Or.inr (Or.inl ⟨rfl, rfl, q1, q2, q3, q4, q5, rfl, by simp [begH, e1, e2, e3, h1, h2, h3, h4, h5]⟩))))))))

set_option maxHeartbeats 4000000 in
set_option maxRecDepth 10000 in
theorem hbetween_any {w : World} {mb D : Nat} {sn pl : Int} {h : Hs} {r : Rg} (m : WasH w mb D sn pl h r) (hr : r.sp = 0) (b : UInt8) (hp : h.pc + 1 ≤ 4611686018427387904) (hf : h.en + 1 ≤ 4611686018427387904) :
    Calls Tryz.prog 77 #[mptr mb, .int .u8 (b.toNat : Int)] w fun e w' => e = .returned (.tuple #[]) ∧ SteH w w' mb D sn pl (begH D h b) := by
  have c3 := m.mac.c3
  have c5 := m.mac.c5
  have c8 := m.mac.c8
  have c10 := m.mac.c10
  have z5 := Blk.frozen m.mac 5
  have z8 := Blk.frozen m.mac 8
  have z10 := Blk.frozen m.mac 10
  have HE := Lib.hid (fun W => endsLine_any b W)
  have HT := Lib.hid (fun W => hparts_any b W)
  have HI := Lib.hid (fun W => inWords_any b W)
  have HX : Hid (∀ W, Calls Tryz.prog 95 #[.string ⟨#[123, 125, 40, 41, 91, 93, 59, 44, 60, 62, 61, 33, 43, 45, 42, 37, 38, 124, 94, 126, 63, 58, 46]⟩, .int .u8 (b.toNat : Int)] W fun e w' => e = .returned (.int .i64 (firstIdx ⟨#[123, 125, 40, 41, 91, 93, 59, 44, 60, 62, 61, 33, 43, 45, 42, 37, 38, 124, 94, 126, 63, 58, 46]⟩ b)) ∧ W = w') := Lib.hid (fun W => indexByte_any _ b W)
  have hsg := signs_first b
  have HB : Hid (SteH w (w.setCell ⟨mb, 8, none⟩ (.bool (h.br || lineB b))) mb D sn pl (.go .z (brH h b))) := Lib.hid ⟨(mv0 w mb).put1 _ _, _, m.s8 (h.br || lineB b), hr⟩
  have HN : Hid (SteH w (w.setCell ⟨mb, 5, none⟩ (.int .i64 13)) mb D sn pl (.no h)) := Lib.hid ⟨(mv0 w mb).put1 _ _, _, m.s5 13, rfl⟩
  have HS : Hid (SteH w (w.setCell ⟨mb, 5, none⟩ (.int .i64 4)) mb D sn pl (.go .s h)) := Lib.hid ⟨(mv0 w mb).put1 _ _, _, m.s5 4, rfl⟩
  have HM : Hid (SteH w ((w.setCell ⟨mb, 5, none⟩ (.int .i64 12)).setCell ⟨mb, 10, none⟩ (.string ⟨#[33, 45, 45]⟩)) mb D sn pl (.go (.x 1) h)) := Lib.hid ⟨((mv0 w mb).put1 _ _).put1 _ _, _, (m.s5 12).s10 ⟨#[33, 45, 45]⟩, rfl, Or.inl ⟨rfl, rfl⟩⟩
  have HW := Lib.hid (beginWord_any m b hp)
  have HQ : Hid ((b = 34 ∨ b = 39) → _) := Lib.hid (fun hb => beginText_any m b hb hp)
  have HG := Lib.hid (beginText_grave m hp)
  have HSg := Lib.hid (hsign_any m b hr hp hf)
  have hpc : (((h.pc : Nat) : Int) == 0) = (h.pc == 0) := by
    rw [Bool.eq_iff_iff, beq_iff_eq, beq_iff_eq]
    omega
  have hw := beg_ways D h b (x := (b.toNat : Int)) rfl
  obtain ⟨q, hq⟩ : ∃ q, q = begH D h b := ⟨_, rfl⟩
  rw [← hq] at hw ⊢
  clear m hr hq hp hf
  generalize firstIdx ⟨#[123, 125, 40, 41, 91, 93, 59, 44, 60, 62, 61, 33, 43, 45, 42, 37, 38, 124, 94, 126, 63, 58, 46]⟩ b = ix at *
  obtain ⟨q1, hq1⟩ : ∃ q1, q1 = if joiH h then Sh.no h else .go (.w (digB b) [b]) (pcH h) := ⟨_, rfl⟩
  rw [← hq1] at hw HW
  obtain ⟨q2, hq2⟩ : ∃ q2, q2 = if joiH h then Sh.no h else .go (.t b false) (pcH h) := ⟨_, rfl⟩
  rw [← hq2] at hw HQ
  obtain ⟨q3, hq3⟩ : ∃ q3, q3 = sigH D (pcH h) b := ⟨_, rfl⟩
  rw [← hq3] at hw HSg
  clear hq1 hq2 hq3
  rcases hw with ⟨h0, e⟩ | ⟨h0, h1, e⟩ | ⟨h0, h1, h2, hb, e⟩ | ⟨h0, h1, h2, h3, hb, e⟩ | ⟨h0, h1, h2, h3, h4, e⟩ | ⟨h0, h1, h2, h3, h4, h5, e⟩ | ⟨h0, h1, h2, h3, h4, h5, h6, h7, e⟩ | ⟨h0, h1, h2, h3, h4, h5, h6, h7, h8, e⟩ | ⟨h0, h1, h2, h3, h4, h5, h6, h8, e⟩ | ⟨h0, h1, h2, h3, h4, h5, h6, h8, e⟩
  case' inr.inr.inl => have HQ := Lib.hid (HQ.out hb); clear hb
  case' inr.inr.inr.inl => have HQ := Lib.hid (HQ.out hb); clear hb
  case' inr.inr.inr.inr.inl => have e96 : (b.toNat : Int) = 96 := by rw [beq_iff_eq] at h4; exact h4
  all_goals
    rw [e]
    clear e
    rw [h0] at HT
  case' inr.inr.inr.inr.inr.inr.inl => rw [h7] at hpc
  case' inr.inr.inr.inr.inr.inr.inr.inl => rw [h7] at hpc
  case' inr.inr.inr.inr.inr.inr.inr.inl => rw [h8] at hsg
  case' inr.inr.inr.inr.inr.inr.inr.inr.inl => rw [h8] at hsg
  case' inr.inr.inr.inr.inr.inr.inr.inr.inr => rw [h8] at hsg
  case inl =>
    generalize lineB b = lb at *
    generalize h.br = br at *
    cases br
    all_goals
      go_enter Tryz.func77, Tryz.ntmps77
      go_wp2_with (first
        | (go_at_call 92; (with_reducible refine (HT.out _).mono ?_); rintro e w1 ⟨rfl, rfl⟩)
        | (go_at_call 89; (with_reducible refine (HE.out _).mono ?_); rintro e w1 ⟨rfl, rfl⟩))
      go_end0
      exact ⟨rfl, HB.out⟩
  case' inr.inr.inr.inr.inl => simp only [e96] at HT HI ⊢; clear e96 h4
  all_goals
    rw [h1] at HI
    generalize (h.pc == 0) = pz at *
    generalize h.pc = pc at *
    generalize sgnH b = sg at *
    clear h1 h0
  all_goals
    go_enter Tryz.func77, Tryz.ntmps77
    go_wp2_with (first
      | (go_at_call 92; (with_reducible refine (HT.out _).mono ?_); rintro e w1 ⟨rfl, rfl⟩)
      | (go_at_call 85; (with_reducible refine (HI.out _).mono ?_); rintro e w1 ⟨rfl, rfl⟩)
      | (go_at_call 95; (with_reducible refine (HX.out _).mono ?_); rintro e w1 ⟨rfl, rfl⟩)
      | (go_at_call 93; (with_reducible refine HW.out.mono ?_); rintro e w1 ⟨rfl, hs⟩)
      | (go_at_call 94; (with_reducible refine HG.out.mono ?_); rintro e w1 ⟨rfl, hs⟩)
      | (go_at_call 94; (with_reducible refine HQ.out.mono ?_); rintro e w1 ⟨rfl, hs⟩)
      | (go_at_call 91; (with_reducible refine HSg.out.mono ?_); rintro e w1 ⟨rfl, hs⟩))
    go_end0
    first
      | exact ⟨rfl, hs⟩
      | exact ⟨rfl, HS.out⟩
      | exact ⟨rfl, HM.out⟩
      | exact ⟨rfl, HN.out⟩
end Go.Proofs.YtbojbkpplejdmaaGreat
namespace Go.Proofs.YtbojbkpplejdmaaGreat
open Go.RowKit

set_option maxHeartbeats 1000000 in
theorem inFlags_any {w : World} {mb D : Nat} {sn pl : Int} {h : Hs} {r : Rg} (m : WasH w mb D sn pl h r) (hr : r.sp = 7) (b : UInt8) (hp : h.pc + 1 ≤ 4611686018427387904) (hf : h.en + 1 ≤ 4611686018427387904) :
    Calls Tryz.prog 73 #[mptr mb, .int .u8 (b.toNat : Int)] w fun e w' => e = .returned (.tuple #[]) ∧ SteH w w' mb D sn pl (if innB b then .go .f h else begH D h b) := by
  have c5 := m.mac.c5
  have z5 := Blk.frozen m.mac 5
  have HI := Lib.hid (fun W => inWords_any b W)
  have HK : Hid (SteH w w mb D sn pl (.go .f h)) := Lib.hid ⟨mv0 w mb, _, m, hr⟩
  obtain ⟨q, hq⟩ : ∃ q, q = begH D h b := ⟨_, rfl⟩
  have HB : Hid (Calls Tryz.prog 77 #[mptr mb, .int .u8 (b.toNat : Int)] (w.setCell ⟨mb, 5, none⟩ (.int .i64 0)) fun e w' => e = .returned (.tuple #[]) ∧ SteH w w' mb D sn pl q) := Lib.hid (by
    refine (hbetween_any (m.s5 0) rfl b hp hf).mono ?_
    rintro e w' ⟨rfl, h2⟩
    rw [hq]
    exact ⟨rfl, SteH.pre ((mv0 w mb).put1 _ _) h2⟩)
  rw [← hq]
  clear m hq hr
  cases h0 : innB b
  all_goals
    rw [h0] at HI
    simp only [if_true, if_false, Bool.false_eq_true]
    go_enter Tryz.func73, Tryz.ntmps73
    go_wp2_with (first
      | (go_at_call 85; (with_reducible refine (HI.out _).mono ?_); rintro e w1 ⟨rfl, rfl⟩)
      | (go_at_call 77; (with_reducible refine HB.out.mono ?_); rintro e w1 ⟨rfl, hs⟩))
    go_end0
    first
      | exact ⟨rfl, HK.out⟩
      | exact ⟨rfl, hs⟩

set_option maxHeartbeats 2000000 in
set_option maxRecDepth 10000 in
theorem behindSlash_any {w : World} {mb D : Nat} {sn pl : Int} {h : Hs} {r : Rg} (m : WasH w mb D sn pl h r) (_hr : r.sp = 4) (b : UInt8) (hp : h.pc + 2 ≤ 4611686018427387904) (hf : h.en + 2 ≤ 4611686018427387904) :
    Calls Tryz.prog 71 #[mptr mb, .int .u8 (b.toNat : Int)] w fun e w' => e = .returned (.tuple #[]) ∧ SteH w w' mb D sn pl (stepH D .s h b) := by
  have c3 := m.mac.c3
  have c5 := m.mac.c5
  have c7 := m.mac.c7
  have z3 := Blk.frozen m.mac 3
  have z5 := Blk.frozen m.mac 5
  have HL : Hid (SteH w (w.setCell ⟨mb, 5, none⟩ (.int .i64 9)) mb D sn pl (.go .l h)) := Lib.hid ⟨(mv0 w mb).put1 _ _, _, m.s5 9, rfl⟩
  have HK : Hid (SteH w (w.setCell ⟨mb, 5, none⟩ (.int .i64 10)) mb D sn pl (.go (.k false) h)) := Lib.hid ⟨(mv0 w mb).put1 _ _, _, m.s5 10, rfl⟩
  have HP : Hid (Calls Tryz.prog 72 #[mptr mb, .int .u8 (b.toNat : Int)] ((w.setCell ⟨mb, 3, none⟩ (.int .i64 ((h.pc : Int) + 1))).setCell ⟨mb, 5, none⟩ (.int .i64 5)) fun e w' => e = .returned (.tuple #[]) ∧ SteH w w' mb D sn pl (patH (pcH h) false b)) := Lib.hid (by
    refine (inPattern_any (m.s3.s5 5) false rfl b).mono ?_
    rintro e w' ⟨rfl, h2⟩
    exact ⟨rfl, SteH.pre (((mv0 w mb).put1 _ _).put1 _ _) h2⟩)
  have HS : Hid (Calls Tryz.prog 91 #[mptr mb, .int .u8 47] (w.setCell ⟨mb, 5, none⟩ (.int .i64 0)) fun e w1 => e = .returned (.tuple #[]) ∧ Hid (Calls Tryz.prog 77 #[mptr mb, .int .u8 (b.toNat : Int)] w1 fun e w' => e = .returned (.tuple #[]) ∧ SteH w w' mb D sn pl (begH D (endH (pcH h) 0) b))) := Lib.hid (by
    refine (hsign_any (m.s5 0) 47 rfl (Nat.le_of_succ_le hp) (Nat.le_of_succ_le hf)).mono ?_
    rintro e w1 ⟨rfl, h1, h2⟩
    obtain ⟨r1, h3, h4⟩ : MacSH w1 mb D sn pl (.go .z (endH (pcH h) 0)) := h2
    refine ⟨rfl, Lib.hid ((hbetween_any h3 h4 b hp (Nat.le_of_succ_le hf)).mono ?_)⟩
    rintro e w' ⟨rfl, h5⟩
    exact ⟨rfl, SteH.pre (((mv0 w mb).put1 _ _).then1 h1) h5⟩)
  have hw : (((b.toNat : Int) == 47) = true ∧ stepH D .s h b = .go .l h) ∨ (((b.toNat : Int) == 47) = false ∧ ((b.toNat : Int) == 42) = true ∧ stepH D .s h b = .go (.k false) h)
      ∨ (((b.toNat : Int) == 47) = false ∧ ((b.toNat : Int) == 42) = false ∧ (((h.last : Nat) : Int) == 0) = true ∧ stepH D .s h b = patH (pcH h) false b)
      ∨ (((b.toNat : Int) == 47) = false ∧ ((b.toNat : Int) == 42) = false ∧ (((h.last : Nat) : Int) == 0) = false ∧ stepH D .s h b = begH D (endH (pcH h) 0) b) := by
    by_cases h1 : b = 47; · subst h1; exact Or.inl ⟨rfl, rfl⟩
    by_cases h2 : b = 42; · subst h2; exact Or.inr (Or.inl ⟨rfl, rfl, rfl⟩)
    have q1 := iE (x := 47) rfl h1
    have q2 := iE (x := 42) rfl h2
    by_cases h3 : h.last = 0
    · exact Or.inr (Or.inr (Or.inl ⟨q1, q2, by rw [h3]; rfl, by simp [stepH, h1, h2, h3]⟩))
    · exact Or.inr (Or.inr (Or.inr ⟨q1, q2, by rw [beq_eq_false_iff_ne]; omega, by simp [stepH, h1, h2, h3]⟩))
  clear m _hr
  generalize stepH D .s h b = s at *
  generalize begH D (endH (pcH h) 0) b = s1 at *
  generalize patH (pcH h) false b = s2 at *
  rcases hw with ⟨h0, e⟩ | ⟨h0, h1, e⟩ | ⟨h0, h1, h2, e⟩ | ⟨h0, h1, h2, e⟩
  all_goals
    rw [e]
    clear e
    generalize h.pc = pc at *
    generalize ((h.last : Nat) : Int) = ls at *
    generalize (b.toNat : Int) = x at *
    go_enter Tryz.func71, Tryz.ntmps71
    go_wp2_with (first
      | (go_at_call 72; (with_reducible refine HP.out.mono ?_); rintro e w1 ⟨rfl, hs⟩)
      | (go_at_call 91; (with_reducible refine HS.out.mono ?_); rintro e w1 ⟨rfl, HB⟩)
      | (go_at_call 77; (with_reducible refine HB.out.mono ?_); rintro e w2 ⟨rfl, hs⟩))
    go_end0
    first
      | exact ⟨rfl, hs⟩
      | exact ⟨rfl, HL.out⟩
      | exact ⟨rfl, HK.out⟩

/-! Texts. -/
set_option maxHeartbeats 2000000 in
set_option maxRecDepth 10000 in
theorem inText_quote {w : World} {mb D : Nat} {sn pl : Int} {h : Hs} {r : Rg} (m : WasH w mb D sn pl h r) {y : UInt8} (hr : RegH (.t y false) r) (b : UInt8) :
    Calls Tryz.prog 70 #[mptr mb, .int .u8 (b.toNat : Int)] w fun e w' => e = .returned (.tuple #[]) ∧ SteH w w' mb D sn pl (texH h y b) := by
  obtain ⟨hq, hy, hs2⟩ := hr
  have hs2 : r.sp = 2 := hs2
  have c5 := m.mac.c5
  have c6 := m.mac.c6
  have c9 := m.mac.c9
  rw [hs2] at c5
  rw [hq] at c9
  have z5 := Blk.frozen m.mac 5
  have z6 := Blk.frozen m.mac 6
  have HE := Lib.hid (fun W => endsLine_any b W)
  have HK : Hid (SteH w (w.setCell ⟨mb, 5, none⟩ (.int .i64 2)) mb D sn pl (.go (.t y false) h)) := Lib.hid ⟨(mv0 w mb).put1 _ _, _, m.s5 2, hq, hy, rfl⟩
  have HX : Hid (SteH w (((w.setCell ⟨mb, 5, none⟩ (.int .i64 2)).setCell ⟨mb, 5, none⟩ (.int .i64 8)).setCell ⟨mb, 6, none⟩ (.int .i64 2)) mb D sn pl (.go (.t y true) h)) := Lib.hid ⟨(((mv0 w mb).put1 _ _).put1 _ _).put1 _ _, _, ((m.s5 2).s5 8).s6 2, hq, hy, rfl, rfl⟩
  have HN : Hid (SteH w ((w.setCell ⟨mb, 5, none⟩ (.int .i64 2)).setCell ⟨mb, 5, none⟩ (.int .i64 13)) mb D sn pl (.no h)) := Lib.hid ⟨((mv0 w mb).put1 _ _).put1 _ _, _, (m.s5 2).s5 13, rfl⟩
  have HL : Hid (Calls Tryz.prog 88 #[mptr mb, .int .i64 1] ((w.setCell ⟨mb, 5, none⟩ (.int .i64 2)).setCell ⟨mb, 5, none⟩ (.int .i64 0)) fun e w' => e = .returned (.tuple #[]) ∧ SteH w w' mb D sn pl (.go .z (endH h 1))) := Lib.hid (by
    refine (lay_any ((m.s5 2).s5 0) 1 rfl).mono ?_
    rintro e w' ⟨rfl, h1, h2⟩
    exact ⟨rfl, (((mv0 w mb).put1 _ _).put1 _ _).then1 h1, _, h2, rfl⟩)
  have hw : (((b.toNat : Int) == (y.toNat : Int)) = true ∧ texH h y b = .go .z (endH h 1)) ∨ (((b.toNat : Int) == (y.toNat : Int)) = false ∧ ((b.toNat : Int) == 92) = true ∧ texH h y b = .go (.t y true) h)
      ∨ (((b.toNat : Int) == (y.toNat : Int)) = false ∧ ((b.toNat : Int) == 92) = false ∧ lineB b = true ∧ texH h y b = .no h)
      ∨ (((b.toNat : Int) == (y.toNat : Int)) = false ∧ ((b.toNat : Int) == 92) = false ∧ lineB b = false ∧ texH h y b = .go (.t y false) h) := by
    by_cases h1 : b = y
    · subst h1
      exact Or.inl ⟨by rw [beq_iff_eq], by rcases hy with rfl | rfl <;> rfl⟩
    have q1 := iE (c := y) rfl h1
    by_cases h2 : b = 92; · subst h2; exact Or.inr (Or.inl ⟨q1, rfl, rfl⟩)
    have q2 := iE (x := 92) rfl h2
    cases e : lineB b
    · exact Or.inr (Or.inr (Or.inr ⟨q1, q2, rfl, by simp [texH, e, h1, h2]⟩))
    · exact Or.inr (Or.inr (Or.inl ⟨q1, q2, rfl, by simp [texH, e, h2]⟩))
  have g0 : ((y.toNat : Int) != 96) = true := by rcases hy with rfl | rfl <;> rfl
  clear m hs2 hq hy
  generalize texH h y b = s at *
  rcases hw with ⟨h0, e⟩ | ⟨h0, h1, e⟩ | ⟨h0, h1, h2, e⟩ | ⟨h0, h1, h2, e⟩
  all_goals
    rw [e]
    clear e
    generalize lineB b = lb at *
    generalize (b.toNat : Int) = x at *
    generalize (y.toNat : Int) = yy at *
    go_enter Tryz.func70, Tryz.ntmps70
    go_wp2_with (first
      | (go_at_call 89; (with_reducible refine (HE.out _).mono ?_); rintro e w1 ⟨rfl, rfl⟩)
      | (go_at_call 88; (with_reducible refine HL.out.mono ?_); rintro e w1 ⟨rfl, hs⟩))
    go_end0
    first
      | exact ⟨rfl, hs⟩
      | exact ⟨rfl, HK.out⟩
      | exact ⟨rfl, HX.out⟩
      | exact ⟨rfl, HN.out⟩
set_option maxHeartbeats 2000000 in
set_option maxRecDepth 10000 in
theorem inText_grave {w : World} {mb D : Nat} {sn pl : Int} {h : Hs} {r : Rg} (m : WasH w mb D sn pl h r) {dol : Bool} (hr : RegH (.g false dol) r) (b : UInt8) :
    Calls Tryz.prog 70 #[mptr mb, .int .u8 (b.toNat : Int)] w fun e w' => e = .returned (.tuple #[]) ∧ SteH w w' mb D sn pl (stepH D (.g false dol) h b) := by
  obtain ⟨hq, hs2⟩ := hr
  have hs2 : r.sp = if dol then 3 else 2 := hs2
  have c5 := m.mac.c5
  have c6 := m.mac.c6
  have c9 := m.mac.c9
  rw [hq] at c9
  have c9 : w.cell? ⟨mb, 9, none⟩ = some (.int .u8 96) := c9
  have z5 := Blk.frozen m.mac 5
  have z6 := Blk.frozen m.mac 6
  have HK : Hid (SteH w (w.setCell ⟨mb, 5, none⟩ (.int .i64 2)) mb D sn pl (.go (.g false false) h)) := Lib.hid ⟨(mv0 w mb).put1 _ _, _, m.s5 2, hq, rfl⟩
  have HX : Hid (SteH w (((w.setCell ⟨mb, 5, none⟩ (.int .i64 2)).setCell ⟨mb, 5, none⟩ (.int .i64 8)).setCell ⟨mb, 6, none⟩ (.int .i64 2)) mb D sn pl (.go (.g true false) h)) := Lib.hid ⟨(((mv0 w mb).put1 _ _).put1 _ _).put1 _ _, _, ((m.s5 2).s5 8).s6 2, hq, rfl, rfl, rfl⟩
  have HD : Hid (SteH w ((w.setCell ⟨mb, 5, none⟩ (.int .i64 2)).setCell ⟨mb, 5, none⟩ (.int .i64 3)) mb D sn pl (.go (.g false true) h)) := Lib.hid ⟨((mv0 w mb).put1 _ _).put1 _ _, _, (m.s5 2).s5 3, hq, rfl⟩
  have HL : Hid (Calls Tryz.prog 88 #[mptr mb, .int .i64 1] ((w.setCell ⟨mb, 5, none⟩ (.int .i64 2)).setCell ⟨mb, 5, none⟩ (.int .i64 0)) fun e w' => e = .returned (.tuple #[]) ∧ SteH w w' mb D sn pl (.go .z (endH h 1))) := Lib.hid (by
    refine (lay_any ((m.s5 2).s5 0) 1 rfl).mono ?_
    rintro e w' ⟨rfl, h1, h2⟩
    exact ⟨rfl, (((mv0 w mb).put1 _ _).put1 _ _).then1 h1, _, h2, rfl⟩)
  obtain ⟨s1, hs1⟩ : ∃ s1, s1 = if h.op.length == D then Sh.no h else .go .z (endH { h with op := 36 :: h.op } 0) := ⟨_, rfl⟩
  have HN : Hid (Calls Tryz.prog 90 #[mptr mb, .int .u8 96] (w.setCell ⟨mb, 5, none⟩ (.int .i64 2)) fun e w' => e = .returned (.tuple #[]) ∧ SteH w w' mb D sn pl s1) := Lib.hid (by
    refine (enter_any (m.s5 2) 36 rfl rfl).mono ?_
    rintro e w' ⟨rfl, h2⟩
    rw [hs1]
    exact ⟨rfl, SteH.pre ((mv0 w mb).put1 _ _) h2⟩)
  have hd : (r.sp == 3) = dol := by rw [hs2]; cases dol <;> rfl
  have hw : (((b.toNat : Int) == 96) = true ∧ stepH D (.g false dol) h b = .go .z (endH h 1)) ∨ (((b.toNat : Int) == 96) = false ∧ ((b.toNat : Int) == 92) = true ∧ stepH D (.g false dol) h b = .go (.g true false) h)
      ∨ (((b.toNat : Int) == 96) = false ∧ ((b.toNat : Int) == 92) = false ∧ ((b.toNat : Int) == 36) = true ∧ stepH D (.g false dol) h b = .go (.g false true) h)
      ∨ (((b.toNat : Int) == 96) = false ∧ ((b.toNat : Int) == 92) = false ∧ ((b.toNat : Int) == 36) = false ∧ ((b.toNat : Int) == 123) = true ∧ dol = true ∧ stepH D (.g false dol) h b = s1)
      ∨ (((b.toNat : Int) == 96) = false ∧ ((b.toNat : Int) == 92) = false ∧ ((b.toNat : Int) == 36) = false ∧ ((b.toNat : Int) == 123) = true ∧ dol = false ∧ stepH D (.g false dol) h b = .go (.g false false) h)
      ∨ (((b.toNat : Int) == 96) = false ∧ ((b.toNat : Int) == 92) = false ∧ ((b.toNat : Int) == 36) = false ∧ ((b.toNat : Int) == 123) = false ∧ stepH D (.g false dol) h b = .go (.g false false) h) := by
    by_cases h1 : b = 96; · subst h1; exact Or.inl ⟨rfl, by cases dol <;> rfl⟩
    have q1 := iE (x := 96) rfl h1
    by_cases h2 : b = 92; · subst h2; exact Or.inr (Or.inl ⟨q1, rfl, by cases dol <;> rfl⟩)
    have q2 := iE (x := 92) rfl h2
    by_cases h3 : b = 36; · subst h3; exact Or.inr (Or.inr (Or.inl ⟨q1, q2, rfl, by cases dol <;> rfl⟩))
    have q3 := iE (x := 36) rfl h3
    by_cases h4 : b = 123
    · subst h4
      cases dol
      · exact Or.inr (Or.inr (Or.inr (Or.inr (Or.inl ⟨q1, q2, q3, rfl, rfl, rfl⟩))))
      · exact Or.inr (Or.inr (Or.inr (Or.inl ⟨q1, q2, q3, rfl, rfl, by rw [hs1]; rfl⟩)))
    · exact Or.inr (Or.inr (Or.inr (Or.inr (Or.inr ⟨q1, q2, q3, iE (x := 123) rfl h4, by simp [stepH, graH, h1, h2, h3, h4]⟩))))
  clear m hs2 hq hs1
  generalize stepH D (.g false dol) h b = s at *
  rcases hw with ⟨h0, e⟩ | ⟨h0, h1, e⟩ | ⟨h0, h1, h2, e⟩ | ⟨h0, h1, h2, h3, rfl, e⟩ | ⟨h0, h1, h2, h3, rfl, e⟩ | ⟨h0, h1, h2, h3, e⟩
  all_goals
    rw [e]
    clear e
    generalize r.sp = sp at *
    generalize (b.toNat : Int) = x at *
    go_enter Tryz.func70, Tryz.ntmps70
    go_wp2_with (first
      | (go_at_call 90; (with_reducible refine HN.out.mono ?_); rintro e w1 ⟨rfl, hs⟩)
      | (go_at_call 88; (with_reducible refine HL.out.mono ?_); rintro e w1 ⟨rfl, hs⟩))
    go_end0
    first
      | exact ⟨rfl, hs⟩
      | exact ⟨rfl, HK.out⟩
      | exact ⟨rfl, HX.out⟩
      | exact ⟨rfl, HD.out⟩
end Go.Proofs.YtbojbkpplejdmaaGreat
namespace Go.Proofs.YtbojbkpplejdmaaGreat
open Go.RowKit

theorem kwd_long {l : List UInt8} (h : 10 < l.length) : kwdH l = false := by
  have hk : ∀ k ∈ kwdL, k.length ≤ 10 := by decide
  unfold kwdH
  rw [List.any_eq_false]
  intro k hm e
  rw [beq_iff_eq] at e
  have := hk k hm
  rw [e] at this
  omega
theorem kwd_take (l : List UInt8) : kwdH (l.take 11) = kwdH l := by
  by_cases h : l.length ≤ 11
  · rw [List.take_of_length_le h]
  · rw [kwd_long (l := l) (by omega), kwd_long (by rw [List.length_take]; omega)]

set_option maxHeartbeats 2000000 in
set_option maxRecDepth 10000 in
theorem endWord_any {w : World} {mb D : Nat} {sn pl : Int} {h : Hs} {r : Rg} (m : WasH w mb D sn pl h r) {dig : Bool} {acc : List UInt8} (hr : RegH (.w dig acc) r) :
    Calls Tryz.prog 87 #[mptr mb] w fun e w' => e = .returned (.tuple #[]) ∧ Mv w.heap.size [mb] w w' ∧ WasH w' mb D sn pl (worH h acc) { r with sp := 0 } := by
  obtain ⟨h1, h2, h3, _⟩ := hr
  have c5 := m.mac.c5
  have c11 := m.mac.c11
  rw [h2] at c11
  have z5 := Blk.frozen m.mac 5
  obtain ⟨n, hn⟩ : ∃ n, n = min acc.length 11 := ⟨_, rfl⟩
  have hl : (acc.take 11).length = n := by rw [List.length_take, hn, Nat.min_comm]
  rw [← hn] at c11
  have hcell : ∀ k j, j < n → ((w.setCell ⟨mb, 5, none⟩ (.int .i64 0)).drewN k).cell? ⟨mb, 12 + j, none⟩ = w.cell? ⟨mb, 12 + j, none⟩ := fun k j hj => by
    have hw := (m.s5 0).drewN k
    rw [(MaH.cB hw.mac j (by show j < r.B.length; rw [m.lenB]; omega)), MaH.cB m.mac j (by rw [m.lenB]; omega)]
  have HC : Hid (∀ k, (convert 82 9 (.slice (some ⟨mb, 12, none⟩) n 11)).run Tryz.prog ((w.setCell ⟨mb, 5, none⟩ (.int .i64 0)).drewN k) = .ok (.string ⟨(acc.take 11).toArray⟩) ((w.setCell ⟨mb, 5, none⟩ (.int .i64 0)).drewN k)) := Lib.hid fun k => by
    have := run_convert_bytes_back (P := Tryz.prog) ((w.setCell ⟨mb, 5, none⟩ (.int .i64 0)).drewN k) 82 9 5 ⟨mb, 12, none⟩ 11 (acc.take 11) Tryz.underlying82 Tryz.underlying5 Tryz.underlying9 (fun j hj => by
      have hj' : j < n := by omega
      have e : (⟨mb, 12, none⟩ : Addr).add j = ⟨mb, 12 + j, none⟩ := by cases j <;> simp [Addr.add]
      rw [e, hcell k j hj', MaH.cB m.mac j (by rw [m.lenB]; omega), h3 j ((acc.take 11)[j]) (by rw [List.getElem_take, List.getElem?_eq_getElem]) (by omega)])
    rw [hl] at this
    exact this
  obtain ⟨kb, hkb⟩ : ∃ kb, kb = kwdH acc := ⟨_, rfl⟩
  have HK : Hid (∀ W, Calls Tryz.prog 101 #[.string ⟨(acc.take 11).toArray⟩] W fun e w' => e = .returned (.bool kb) ∧ W = w') := Lib.hid fun W => by
    have := keyword_any ⟨(acc.take 11).toArray⟩ W
    rw [show (⟨(acc.take 11).toArray⟩ : ByteArray).data.toList = acc.take 11 from rfl, kwd_take, ← hkb] at this
    exact this
  have HL : Hid (∀ k, Calls Tryz.prog 88 #[mptr mb, .int .i64 (if kb then 0 else 1)] ((w.setCell ⟨mb, 5, none⟩ (.int .i64 0)).drewN k) fun e w' => e = .returned (.tuple #[]) ∧ Mv w.heap.size [mb] w w' ∧ WasH w' mb D sn pl (worH h acc) { r with sp := 0 }) := Lib.hid fun k => by
    refine (lay_any ((m.s5 0).drewN k) (if kb then 0 else 1) (by split <;> rfl)).mono ?_
    rintro e w' ⟨rfl, g1, g2⟩
    refine ⟨rfl, (((mv0 w mb).put1 _ _).drewN _).then1 g1, ?_⟩
    unfold worH
    rw [← hkb]
    exact g2
  have hn11 : n ≤ 11 := by omega
  have b0 : (0 : Int) ≤ (n : Int) := by omega
  have b1 : (n : Int) ≤ 11 := by omega
  have hC := HC.out
  generalize (⟨(acc.take 11).toArray⟩ : ByteArray) = kept at *
  clear m h1 h2 h3 hl hcell hkb hn
  cases kb
  all_goals
    simp only [if_true, if_false, Bool.false_eq_true] at HL
    go_enter Tryz.func87, Tryz.ntmps87
    go_wp2
    go_quiet ((go_at_call 101; exact Calls.quiet_of_same ((HK.out _).mono fun _ _ h => ⟨h.1, h.2.symm⟩)))
    go_wp2_with (go_at_call 88; (with_reducible refine (HL.out _).mono ?_); rintro e w1 ⟨rfl, hs⟩)
    first
      | (refine bodyPost_ret (results_none rfl _ _ _) rfl ?_; exact ⟨rfl, hs⟩)
      | (go_end0; exact ⟨rfl, hs⟩)
end Go.Proofs.YtbojbkpplejdmaaGreat
