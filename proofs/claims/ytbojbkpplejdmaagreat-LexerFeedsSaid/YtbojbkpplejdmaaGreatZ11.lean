/-
  What package jscript's leave and sign do with a machine of layer 28. Conditions: what is open is told of in the machine's cells, and is no deeper than it may be; the counts are no greater than a length can be.
  What package jscript's beginWord, beginText, inPattern, inLine, inRemark and inMark do with a machine of layer 28. Conditions: where reading stands is told of in the machine's registers (RegH); the counts are no greater than a length can be.
  What package jscript's Keyword answers: whether the text is one of the 39 words (kwdH). No condition.
-/
import Derived.Test.YtbojbkpplejdmaaGreatZ10
import Derived.Test.YtbojbkpplejdmaaGreatZ5
namespace Go.Proofs.YtbojbkpplejdmaaGreat
open Go.RowKit

set_option maxHeartbeats 1000000 in
set_option maxRecDepth 10000 in
theorem leave_one {w : World} {mb D : Nat} {sn pl : Int} {h : Hs} {r : Rg} (m : WasH w mb D sn pl h r) {o : UInt8} {l : List UInt8} (h0 : h.op = o :: l) (hs : r.sp = 0) (h1 : o = 40 ∨ o = 91) :
    Calls Tryz.prog 102 #[mptr mb, .int .u8 ((cloZ (opZ o)).toNat : Int)] w fun e w' => e = .returned (.tuple #[]) ∧ SteH w w' mb D sn pl (.go .z (endH { h with op := l } 1)) := by
  have c5 := m.mac.c5
  have c23 := m.mac.cd m.lenB
  have ho := m.ops
  have hd := m.deep
  have hD := m.most
  rw [h0] at ho hd
  rw [h0, show ((o :: l).length : Int) = (l.length : Int) + 1 from by simp] at c23
  rw [List.length_cons] at hd
  have cE := (m.mac.cE m.lenB l.length).trans ho.1
  have z23 := Blk.frozen m.mac 23
  have HC := Lib.hid (fun W => closing_any (opZ o) W)
  have b0 : (((l.length : Nat) : Int) + 1 == 0) = false := by rw [beq_eq_false_iff_ne]; omega
  have b1 : (l.length : Int) < 200 := by omega
  have b2 : (0 : Int) ≤ (l.length : Int) := by omega
  have b3 : (((opZ o).toNat : Int) == 96) = false := by rcases h1 with rfl | rfl <;> rfl
  have b4 : (((opZ o).toNat : Int) == 123) = false := by rcases h1 with rfl | rfl <;> rfl
  have HL : Hid (∀ n k, Calls Tryz.prog 88 #[mptr mb, .int .i64 1] (((w.drewN n).setCell ⟨mb, 23, none⟩ (.int .i64 (l.length : Int))).drewN k) fun e w' => e = .returned (.tuple #[]) ∧ SteH w w' mb D sn pl (.go .z (endH { h with op := l } 1))) := Lib.hid fun n k => by
    refine (lay_any (((m.drewN n).pop h0 rfl).drewN k) 1 rfl).mono ?_
    rintro e w' ⟨rfl, h1, h2⟩
    exact ⟨rfl, ((((mv0 w mb).drewN _).put1 _ _).drewN _).then1 h1, _, h2, hs⟩
  clear m h0 ho hd hD hs h1
  generalize l.length = d at *
  generalize ((cloZ (opZ o)).toNat : Int) = x at *
  generalize ((opZ o).toNat : Int) = y at *
  go_enter Tryz.func102, Tryz.ntmps102
  go_wp2
  go_quiet ((go_at_call 105; exact Calls.quiet_of_same ((HC.out _).mono fun _ _ h => ⟨h.1, h.2.symm⟩)))
  go_wp2
  go_quiet (fail)
  go_wp2_with (go_at_call 88; (with_reducible refine (HL.out _ _).mono ?_); rintro e w1 ⟨rfl, hs⟩)
  go_end0
  exact ⟨rfl, hs⟩

set_option maxHeartbeats 1000000 in
set_option maxRecDepth 10000 in
theorem leave_brace {w : World} {mb D : Nat} {sn pl : Int} {h : Hs} {r : Rg} (m : WasH w mb D sn pl h r) {l : List UInt8} (h0 : h.op = 123 :: l) (hs : r.sp = 0) (hf : h.en + 1 ≤ 4611686018427387904) :
    Calls Tryz.prog 102 #[mptr mb, .int .u8 125] w fun e w' => e = .returned (.tuple #[]) ∧ SteH w w' mb D sn pl (.go .z (endH { h with op := l, en := h.en + (if l.isEmpty then 1 else 0) } 2)) := by
  have c4 := m.mac.c4
  have c5 := m.mac.c5
  have c23 := m.mac.cd m.lenB
  have ho := m.ops
  have hd := m.deep
  have hD := m.most
  rw [h0] at ho hd
  rw [h0, show ((123 :: l).length : Int) = (l.length : Int) + 1 from by simp] at c23
  rw [List.length_cons] at hd
  have cE : w.cell? ⟨mb, 24 + l.length, none⟩ = some (.int .u8 123) := (m.mac.cE m.lenB l.length).trans ho.1
  have z4 := Blk.frozen m.mac 4
  have z23 := Blk.frozen m.mac 23
  have HC : Hid (∀ W, Calls Tryz.prog 105 #[.int .u8 123] W fun e w' => e = .returned (.int .u8 125) ∧ W = w') := Lib.hid (fun W => closing_any 123 W)
  have b0 : (((l.length : Nat) : Int) + 1 == 0) = false := by rw [beq_eq_false_iff_ne]; omega
  have b1 : (l.length : Int) < 200 := by omega
  have b2 : (0 : Int) ≤ (l.length : Int) := by omega
  cases hl : l.isEmpty with
  | true =>
    have b5 : (((l.length : Nat) : Int) == 0) = true := by
      rw [List.isEmpty_iff] at hl
      rw [hl]
      rfl
    have HL : Hid (∀ n k, Calls Tryz.prog 88 #[mptr mb, .int .i64 2] ((((w.drewN n).setCell ⟨mb, 23, none⟩ (.int .i64 (l.length : Int))).drewN k).setCell ⟨mb, 4, none⟩ (.int .i64 ((h.en : Int) + 1))) fun e w' => e = .returned (.tuple #[]) ∧ SteH w w' mb D sn pl (.go .z (endH { h with op := l, en := h.en + 1 } 2))) := Lib.hid fun n k => by
      refine (lay_any (((m.drewN n).pop h0 rfl).drewN k).s4 2 rfl).mono ?_
      rintro e w' ⟨rfl, h1, h2⟩
      exact ⟨rfl, (((((mv0 w mb).drewN _).put1 _ _).drewN _).put1 _ _).then1 h1, _, h2, hs⟩
    show Calls _ _ _ _ fun e w' => e = _ ∧ SteH w w' mb D sn pl (.go .z (endH { h with op := l, en := h.en + 1 } 2))
    clear m h0 ho hd hD hs hl
    generalize l.length = d at *
    generalize h.en = en at *
    go_enter Tryz.func102, Tryz.ntmps102
    go_wp2
    go_quiet ((go_at_call 105; exact Calls.quiet_of_same ((HC.out _).mono fun _ _ h => ⟨h.1, h.2.symm⟩)))
    go_wp2
    go_quiet (fail)
    go_wp2_with (go_at_call 88; (with_reducible refine (HL.out _ _).mono ?_); rintro e w1 ⟨rfl, hs⟩)
    go_end0
    exact ⟨rfl, hs⟩
  | false =>
    have b5 : (((l.length : Nat) : Int) == 0) = false := by
      rw [beq_eq_false_iff_ne]
      intro e
      have e2 : l = [] := List.eq_nil_of_length_eq_zero (by omega)
      rw [e2] at hl
      cases hl
    have HL : Hid (∀ n k, Calls Tryz.prog 88 #[mptr mb, .int .i64 2] (((w.drewN n).setCell ⟨mb, 23, none⟩ (.int .i64 (l.length : Int))).drewN k) fun e w' => e = .returned (.tuple #[]) ∧ SteH w w' mb D sn pl (.go .z (endH { h with op := l, en := h.en } 2))) := Lib.hid fun n k => by
      refine (lay_any (((m.drewN n).pop h0 rfl).drewN k) 2 rfl).mono ?_
      rintro e w' ⟨rfl, h1, h2⟩
      exact ⟨rfl, ((((mv0 w mb).drewN _).put1 _ _).drewN _).then1 h1, _, h2, hs⟩
    show Calls _ _ _ _ fun e w' => e = _ ∧ SteH w w' mb D sn pl (.go .z (endH { h with op := l, en := h.en } 2))
    clear m h0 ho hd hD hs hl
    generalize l.length = d at *
    generalize h.en = en at *
    go_enter Tryz.func102, Tryz.ntmps102
    go_wp2
    go_quiet ((go_at_call 105; exact Calls.quiet_of_same ((HC.out _).mono fun _ _ h => ⟨h.1, h.2.symm⟩)))
    go_wp2
    go_quiet (fail)
    go_wp2_with (go_at_call 88; (with_reducible refine (HL.out _ _).mono ?_); rintro e w1 ⟨rfl, hs⟩)
    go_end0
    exact ⟨rfl, hs⟩

set_option maxHeartbeats 1000000 in
set_option maxRecDepth 10000 in
theorem leave_grave {w : World} {mb D : Nat} {sn pl : Int} {h : Hs} {r : Rg} (m : WasH w mb D sn pl h r) {l : List UInt8} (h0 : h.op = 36 :: l) :
    Calls Tryz.prog 102 #[mptr mb, .int .u8 125] w fun e w' => e = .returned (.tuple #[]) ∧ SteH w w' mb D sn pl (.go (.g false false) { h with op := l }) := by
  have c5 := m.mac.c5
  have c9 := m.mac.c9
  have c23 := m.mac.cd m.lenB
  have ho := m.ops
  have hd := m.deep
  have hD := m.most
  rw [h0] at ho hd
  rw [h0, show ((36 :: l).length : Int) = (l.length : Int) + 1 from by simp] at c23
  rw [List.length_cons] at hd
  have cE : w.cell? ⟨mb, 24 + l.length, none⟩ = some (.int .u8 96) := (m.mac.cE m.lenB l.length).trans ho.1
  have z5 := Blk.frozen m.mac 5
  have z9 := Blk.frozen m.mac 9
  have z23 := Blk.frozen m.mac 23
  have HC : Hid (∀ W, Calls Tryz.prog 105 #[.int .u8 96] W fun e w' => e = .returned (.int .u8 125) ∧ W = w') := Lib.hid (fun W => closing_any 96 W)
  have b0 : (((l.length : Nat) : Int) + 1 == 0) = false := by rw [beq_eq_false_iff_ne]; omega
  have b1 : (l.length : Int) < 200 := by omega
  have b2 : (0 : Int) ≤ (l.length : Int) := by omega
  have HP : ∀ n k, Hid (SteH w (((((w.drewN n).setCell ⟨mb, 23, none⟩ (.int .i64 (l.length : Int))).drewN k).setCell ⟨mb, 5, none⟩ (.int .i64 2)).setCell ⟨mb, 9, none⟩ (.int .u8 96)) mb D sn pl (.go (.g false false) { h with op := l })) := fun n k => Lib.hid
    ⟨((((((mv0 w mb).drewN _).put1 _ _).drewN _).put1 _ _).put1 _ _), _, ((((m.drewN n).pop h0 rfl).drewN k).s5 2).s9 96, rfl, rfl⟩
  clear m h0 ho hd hD
  generalize l.length = d at *
  go_enter Tryz.func102, Tryz.ntmps102
  go_wp2
  go_quiet ((go_at_call 105; exact Calls.quiet_of_same ((HC.out _).mono fun _ _ h => ⟨h.1, h.2.symm⟩)))
  go_wp2
  go_quiet (fail)
  go_wp2
  go_end0
  exact ⟨rfl, (HP _ _).out⟩

theorem leave_any {w : World} {mb D : Nat} {sn pl : Int} {h : Hs} {r : Rg} (m : WasH w mb D sn pl h r) (b : UInt8) (hs : r.sp = 0) (hf : h.en + 1 ≤ 4611686018427387904) :
    Calls Tryz.prog 102 #[mptr mb, .int .u8 (b.toNat : Int)] w fun e w' => e = .returned (.tuple #[]) ∧ SteH w w' mb D sn pl (levH h b) := by
  cases ho : h.op with
  | nil => exact leave_none m b ho
  | cons o l =>
    by_cases hb : b = cloZ (opZ o)
    · subst hb
      have hg := m.good
      rw [ho, List.all_cons, Bool.and_eq_true] at hg
      rw [lev_yes ho hg.1]
      rcases okO_ways hg.1 with rfl | rfl | rfl | rfl
      · exact leave_one m ho hs (Or.inl rfl)
      · exact leave_one m ho hs (Or.inr rfl)
      · exact leave_brace m ho hs hf
      · exact leave_grave m ho
    · exact leave_other m b ho hb

/-! A sign. -/
theorem sgn_ways (b : UInt8) : b = 40 ∨ b = 91 ∨ b = 123 ∨ b = 41 ∨ b = 93 ∨ b = 125 ∨ (opnH b = false ∧ cloB b = false ∧ ((b.toNat : Int) == 40) = false ∧ ((b.toNat : Int) == 91) = false ∧ ((b.toNat : Int) == 123) = false ∧ ((b.toNat : Int) == 41) = false ∧ ((b.toNat : Int) == 93) = false ∧ ((b.toNat : Int) == 125) = false) := by
  by_cases h1 : b = 40; · exact Or.inl h1
  by_cases h2 : b = 91; · exact Or.inr (Or.inl h2)
  by_cases h3 : b = 123; · exact Or.inr (Or.inr (Or.inl h3))
  by_cases h4 : b = 41; · exact Or.inr (Or.inr (Or.inr (Or.inl h4)))
  by_cases h5 : b = 93; · exact Or.inr (Or.inr (Or.inr (Or.inr (Or.inl h5))))
  by_cases h6 : b = 125; · exact Or.inr (Or.inr (Or.inr (Or.inr (Or.inr (Or.inl h6)))))
  refine Or.inr (Or.inr (Or.inr (Or.inr (Or.inr (Or.inr ⟨?_, ?_, ?_, ?_, ?_, ?_, ?_, ?_⟩)))))
  · simp [opnH, h1, h2, h3]
  · simp [cloB, h4, h5, h6]
  · exact (bE b 40).symm.trans (by simpa using h1)
  · exact (bE b 91).symm.trans (by simpa using h2)
  · exact (bE b 123).symm.trans (by simpa using h3)
  · exact (bE b 41).symm.trans (by simpa using h4)
  · exact (bE b 93).symm.trans (by simpa using h5)
  · exact (bE b 125).symm.trans (by simpa using h6)
theorem sig_lev (D : Nat) (h : Hs) (b : UInt8) : sigH D h b = if opnH b then (if h.op.length == D then .no h else .go .z (endH { h with op := b :: h.op } 0)) else if !cloB b then .go .z (endH { h with en := h.en + (if b == 59 && h.op.isEmpty then 1 else 0) } 0) else levH h b := rfl

set_option maxHeartbeats 1000000 in
set_option maxRecDepth 10000 in
theorem sign_open {w : World} {mb D : Nat} {sn pl : Int} {h : Hs} {r : Rg} (m : WasH w mb D sn pl h r) (b : UInt8) (hp : h.pc + 1 ≤ 4611686018427387904) (hb : b = 40 ∨ b = 91 ∨ b = 123) :
    Calls Tryz.prog 91 #[mptr mb, .int .u8 (b.toNat : Int)] w fun e w' => e = .returned (.tuple #[]) ∧ SteH w w' mb D sn pl (sigH D (pcH h) b) := by
  have c3 := m.mac.c3
  have z3 := Blk.frozen m.mac 3
  have hk : okO b = true := by rcases hb with rfl | rfl | rfl <;> rfl
  have hz : (b.toNat : Int) = ((opZ b).toNat : Int) := by rcases hb with rfl | rfl | rfl <;> rfl
  have ho : opnH b = true := by rcases hb with rfl | rfl | rfl <;> rfl
  obtain ⟨q, hq⟩ : ∃ q, q = sigH D (pcH h) b := ⟨_, rfl⟩
  have HE : Hid (Calls Tryz.prog 90 #[mptr mb, .int .u8 (b.toNat : Int)] (w.setCell ⟨mb, 3, none⟩ (.int .i64 ((h.pc : Int) + 1))) fun e w' => e = .returned (.tuple #[]) ∧ SteH w w' mb D sn pl q) := Lib.hid (by
    refine (enter_any m.s3 b hk hz).mono ?_
    rintro e w' ⟨rfl, h2⟩
    refine ⟨rfl, ?_⟩
    rw [hq, sig_lev, if_pos ho]
    exact SteH.pre ((mv0 w mb).put1 _ _) h2)
  rw [← hq]
  have hc : ((b.toNat : Int) == 40) = true ∨ (((b.toNat : Int) == 40) = false ∧ ((b.toNat : Int) == 91) = true) ∨ (((b.toNat : Int) == 40) = false ∧ ((b.toNat : Int) == 91) = false ∧ ((b.toNat : Int) == 123) = true) := by
    rcases hb with rfl | rfl | rfl
    · exact Or.inl rfl
    · exact Or.inr (Or.inl ⟨rfl, rfl⟩)
    · exact Or.inr (Or.inr ⟨rfl, rfl, rfl⟩)
  clear m hk hz ho hq hb
  generalize h.pc = pc at *
  generalize (b.toNat : Int) = x at *
  rcases hc with h0 | ⟨h0, h1⟩ | ⟨h0, h1, h2⟩
  all_goals
    go_enter Tryz.func91, Tryz.ntmps91
    go_wp2_with (go_at_call 90; (with_reducible refine HE.out.mono ?_); rintro e w1 ⟨rfl, hs⟩)
    go_end0
    exact ⟨rfl, hs⟩
set_option maxHeartbeats 1000000 in
set_option maxRecDepth 10000 in
theorem sign_close {w : World} {mb D : Nat} {sn pl : Int} {h : Hs} {r : Rg} (m : WasH w mb D sn pl h r) (b : UInt8) (hs : r.sp = 0) (hp : h.pc + 1 ≤ 4611686018427387904) (hf : h.en + 1 ≤ 4611686018427387904) (hb : b = 41 ∨ b = 93 ∨ b = 125) :
    Calls Tryz.prog 91 #[mptr mb, .int .u8 (b.toNat : Int)] w fun e w' => e = .returned (.tuple #[]) ∧ SteH w w' mb D sn pl (sigH D (pcH h) b) := by
  have c3 := m.mac.c3
  have z3 := Blk.frozen m.mac 3
  have ho : opnH b = false ∧ cloB b = true := by rcases hb with rfl | rfl | rfl <;> exact ⟨rfl, rfl⟩
  obtain ⟨q, hq⟩ : ∃ q, q = sigH D (pcH h) b := ⟨_, rfl⟩
  have HE : Hid (Calls Tryz.prog 102 #[mptr mb, .int .u8 (b.toNat : Int)] (w.setCell ⟨mb, 3, none⟩ (.int .i64 ((h.pc : Int) + 1))) fun e w' => e = .returned (.tuple #[]) ∧ SteH w w' mb D sn pl q) := Lib.hid (by
    refine (leave_any m.s3 b hs hf).mono ?_
    rintro e w' ⟨rfl, h2⟩
    refine ⟨rfl, ?_⟩
    rw [hq, sig_lev, ho.1, ho.2]
    exact SteH.pre ((mv0 w mb).put1 _ _) h2)
  rw [← hq]
  have hc : (((b.toNat : Int) == 40) = false ∧ ((b.toNat : Int) == 91) = false ∧ ((b.toNat : Int) == 123) = false) ∧ (((b.toNat : Int) == 41) = true ∨ (((b.toNat : Int) == 41) = false ∧ ((b.toNat : Int) == 93) = true) ∨ (((b.toNat : Int) == 41) = false ∧ ((b.toNat : Int) == 93) = false ∧ ((b.toNat : Int) == 125) = true)) := by
    rcases hb with rfl | rfl | rfl
    · exact ⟨⟨rfl, rfl, rfl⟩, Or.inl rfl⟩
    · exact ⟨⟨rfl, rfl, rfl⟩, Or.inr (Or.inl ⟨rfl, rfl⟩)⟩
    · exact ⟨⟨rfl, rfl, rfl⟩, Or.inr (Or.inr ⟨rfl, rfl, rfl⟩)⟩
  clear m ho hq hb hs hf
  generalize h.pc = pc at *
  generalize (b.toNat : Int) = x at *
  obtain ⟨⟨g0, g1, g2⟩, hc⟩ := hc
  rcases hc with h0 | ⟨h0, h1⟩ | ⟨h0, h1, h2⟩
  all_goals
    go_enter Tryz.func91, Tryz.ntmps91
    go_wp2_with (go_at_call 102; (with_reducible refine HE.out.mono ?_); rintro e w1 ⟨rfl, hs⟩)
    go_end0
    exact ⟨rfl, hs⟩
set_option maxHeartbeats 1000000 in
set_option maxRecDepth 10000 in
theorem hsign_any {w : World} {mb D : Nat} {sn pl : Int} {h : Hs} {r : Rg} (m : WasH w mb D sn pl h r) (b : UInt8) (hs : r.sp = 0) (hp : h.pc + 1 ≤ 4611686018427387904) (hf : h.en + 1 ≤ 4611686018427387904) :
    Calls Tryz.prog 91 #[mptr mb, .int .u8 (b.toNat : Int)] w fun e w' => e = .returned (.tuple #[]) ∧ SteH w w' mb D sn pl (sigH D (pcH h) b) := by
  rcases sgn_ways b with hb | hb | hb | hb | hb | hb | ⟨g1, g2, h0, h1, h2, h3, h4, h5⟩
  · exact sign_open m b hp (Or.inl hb)
  · exact sign_open m b hp (Or.inr (Or.inl hb))
  · exact sign_open m b hp (Or.inr (Or.inr hb))
  · exact sign_close m b hs hp hf (Or.inl hb)
  · exact sign_close m b hs hp hf (Or.inr (Or.inl hb))
  · exact sign_close m b hs hp hf (Or.inr (Or.inr hb))
  have c3 := m.mac.c3
  have z3 := Blk.frozen m.mac 3
  have c4 := m.mac.c4
  have z4 := Blk.frozen m.mac 4
  have c23 := m.mac.cd m.lenB
  have e : sigH D (pcH h) b = .go .z (endH { pcH h with en := h.en + (if b == 59 && h.op.isEmpty then 1 else 0) } 0) := by
    rw [sig_lev, g1, g2]
    rfl
  rw [e, bE b 59, show (((59 : UInt8).toNat : Nat) : Int) = 59 from rfl]
  have hd : (((h.op.length : Nat) : Int) == 0) = h.op.isEmpty := by cases h.op <;> simp; omega
  have HL0 : Hid (Calls Tryz.prog 88 #[mptr mb, .int .i64 0] (w.setCell ⟨mb, 3, none⟩ (.int .i64 ((h.pc : Int) + 1))) fun e w' => e = .returned (.tuple #[]) ∧ SteH w w' mb D sn pl (.go .z (endH { pcH h with en := h.en + 0 } 0))) := Lib.hid (by
    refine (lay_any m.s3 0 rfl).mono ?_
    rintro e w' ⟨rfl, h1, h2⟩
    exact ⟨rfl, ((mv0 w mb).put1 _ _).then1 h1, _, h2, hs⟩)
  have HL1 : Hid (Calls Tryz.prog 88 #[mptr mb, .int .i64 0] ((w.setCell ⟨mb, 3, none⟩ (.int .i64 ((h.pc : Int) + 1))).setCell ⟨mb, 4, none⟩ (.int .i64 ((h.en : Int) + 1))) fun e w' => e = .returned (.tuple #[]) ∧ SteH w w' mb D sn pl (.go .z (endH { pcH h with en := h.en + 1 } 0))) := Lib.hid (by
    refine (lay_any m.s3.s4 0 rfl).mono ?_
    rintro e w' ⟨rfl, h1, h2⟩
    exact ⟨rfl, (((mv0 w mb).put1 _ _).put1 _ _).then1 h1, _, h2, hs⟩)
  clear m g1 g2 e hs
  cases g1 : ((b.toNat : Int) == 59) <;> cases g2 : h.op.isEmpty
  all_goals
    rw [g2] at hd
    clear g2
    simp only [Bool.true_and, Bool.false_and, if_true, if_false, Bool.false_eq_true]
    generalize h.pc = pc at *
    generalize h.op.length = dp at *
    generalize h.en = en at *
    generalize (b.toNat : Int) = x at *
    go_enter Tryz.func91, Tryz.ntmps91
    go_wp2_with (first
      | (go_at_call 88; (with_reducible refine HL0.out.mono ?_); rintro e w1 ⟨rfl, hs⟩)
      | (go_at_call 88; (with_reducible refine HL1.out.mono ?_); rintro e w1 ⟨rfl, hs⟩))
    go_end0
    exact ⟨rfl, hs⟩
end Go.Proofs.YtbojbkpplejdmaaGreat
namespace Go.Proofs.YtbojbkpplejdmaaGreat
open Go.RowKit

set_option maxHeartbeats 1000000 in
set_option maxRecDepth 10000 in
theorem beginWord_any {w : World} {mb D : Nat} {sn pl : Int} {h : Hs} {r : Rg} (m : WasH w mb D sn pl h r) (b : UInt8) (hp : h.pc + 1 ≤ 4611686018427387904) :
    Calls Tryz.prog 93 #[mptr mb, .int .u8 (b.toNat : Int)] w fun e w' => e = .returned (.tuple #[]) ∧ SteH w w' mb D sn pl (if joiH h then .no h else .go (.w (digB b) [b]) (pcH h)) := by
  have c3 := m.mac.c3
  have c5 := m.mac.c5
  have c11 := m.mac.c11
  have z3 := Blk.frozen m.mac 3
  have z5 := Blk.frozen m.mac 5
  have z11 := Blk.frozen m.mac 11
  have z12 := Blk.frozen m.mac 12
  obtain ⟨y, hy⟩ : ∃ y, r.B[0]? = some y := ⟨_, List.getElem?_eq_getElem (by rw [m.lenB]; omega)⟩
  have c12 : w.cell? ⟨mb, 12, none⟩ = some y := (m.mac.cB 0 (by rw [m.lenB]; omega)).trans hy
  have HJ := Lib.hid (joins_any m)
  cases hj : joiH h with
  | true =>
    rw [hj] at HJ
    have HP : Hid (SteH w (w.setCell ⟨mb, 5, none⟩ (.int .i64 13)) mb D sn pl (.no h)) := Lib.hid ⟨(mv0 w mb).put1 _ _, _, m.s5 13, rfl⟩
    show Calls _ _ _ _ fun e w' => e = _ ∧ SteH w w' mb D sn pl (.no h)
    clear m hj hy
    go_enter Tryz.func93, Tryz.ntmps93
    go_wp2_with (go_at_call 103; (with_reducible refine HJ.out.mono ?_); rintro e w1 ⟨rfl, rfl⟩)
    refine bodyPost_ret (results_none rfl _ _ _) rfl ?_
    exact ⟨rfl, HP.out⟩
  | false =>
    rw [hj] at HJ
    have HP : Hid (SteH w ((((w.setCell ⟨mb, 3, none⟩ (.int .i64 ((h.pc : Int) + 1))).setCell ⟨mb, 5, none⟩ (.int .i64 1)).setCell ⟨mb, 12, none⟩ (.int .u8 (b.toNat : Int))).setCell ⟨mb, 11, none⟩ (.int .i64 1)) mb D sn pl (.go (.w (digB b) [b]) (pcH h))) := Lib.hid
      ⟨((((mv0 w mb).put1 _ _).put1 _ _).put1 _ _).put1 _ _, _, (((m.s3.s5 1).sB 0 (by omega) (.int .u8 (b.toNat : Int))).s11 1), rfl, rfl, fun i x hx hi => by
        match i, hx with
        | 0, hx =>
          have hx' : b = x := by simpa using hx
          subst hx'
          exact List.getElem?_set_self (by show 0 < r.B.length; rw [m.lenB]; omega), b, rfl, rfl⟩
    show Calls _ _ _ _ fun e w' => e = _ ∧ SteH w w' mb D sn pl (.go (.w (digB b) [b]) (pcH h))
    clear m hj hy
    generalize h.pc = pc at *
    go_enter Tryz.func93, Tryz.ntmps93
    go_wp2_with (go_at_call 103; (with_reducible refine HJ.out.mono ?_); rintro e w1 ⟨rfl, rfl⟩)
    go_end0
    exact ⟨rfl, HP.out⟩

set_option maxHeartbeats 1000000 in
set_option maxRecDepth 10000 in
theorem beginText_grave {w : World} {mb D : Nat} {sn pl : Int} {h : Hs} {r : Rg} (m : WasH w mb D sn pl h r) (hp : h.pc + 1 ≤ 4611686018427387904) :
    Calls Tryz.prog 94 #[mptr mb, .int .u8 96] w fun e w' => e = .returned (.tuple #[]) ∧ SteH w w' mb D sn pl (.go (.g false false) (pcH h)) := by
  have c3 := m.mac.c3
  have c5 := m.mac.c5
  have c9 := m.mac.c9
  have z3 := Blk.frozen m.mac 3
  have z5 := Blk.frozen m.mac 5
  have z9 := Blk.frozen m.mac 9
  have HP : Hid (SteH w (((w.setCell ⟨mb, 3, none⟩ (.int .i64 ((h.pc : Int) + 1))).setCell ⟨mb, 5, none⟩ (.int .i64 2)).setCell ⟨mb, 9, none⟩ (.int .u8 96)) mb D sn pl (.go (.g false false) (pcH h))) := Lib.hid
    ⟨(((mv0 w mb).put1 _ _).put1 _ _).put1 _ _, _, (m.s3.s5 2).s9 96, rfl, rfl⟩
  clear m
  generalize h.pc = pc at *
  go_enter Tryz.func94, Tryz.ntmps94
  go_wp2
  go_end0
  exact ⟨rfl, HP.out⟩
set_option maxHeartbeats 1000000 in
set_option maxRecDepth 10000 in
theorem beginText_any {w : World} {mb D : Nat} {sn pl : Int} {h : Hs} {r : Rg} (m : WasH w mb D sn pl h r) (b : UInt8) (hb : b = 34 ∨ b = 39) (hp : h.pc + 1 ≤ 4611686018427387904) :
    Calls Tryz.prog 94 #[mptr mb, .int .u8 (b.toNat : Int)] w fun e w' => e = .returned (.tuple #[]) ∧ SteH w w' mb D sn pl (if joiH h then .no h else .go (.t b false) (pcH h)) := by
  have c3 := m.mac.c3
  have c5 := m.mac.c5
  have c9 := m.mac.c9
  have z3 := Blk.frozen m.mac 3
  have z5 := Blk.frozen m.mac 5
  have z9 := Blk.frozen m.mac 9
  have HJ := Lib.hid (joins_any m)
  have g0 : ((b.toNat : Int) != 96) = true := by rcases hb with rfl | rfl <;> rfl
  cases hj : joiH h with
  | true =>
    rw [hj] at HJ
    have HP : Hid (SteH w (w.setCell ⟨mb, 5, none⟩ (.int .i64 13)) mb D sn pl (.no h)) := Lib.hid ⟨(mv0 w mb).put1 _ _, _, m.s5 13, rfl⟩
    show Calls _ _ _ _ fun e w' => e = _ ∧ SteH w w' mb D sn pl (.no h)
    clear m hj hb
    go_enter Tryz.func94, Tryz.ntmps94
    go_wp2_with (go_at_call 103; (with_reducible refine HJ.out.mono ?_); rintro e w1 ⟨rfl, rfl⟩)
    refine bodyPost_ret (results_none rfl _ _ _) rfl ?_
    exact ⟨rfl, HP.out⟩
  | false =>
    rw [hj] at HJ
    have HP : Hid (SteH w (((w.setCell ⟨mb, 3, none⟩ (.int .i64 ((h.pc : Int) + 1))).setCell ⟨mb, 5, none⟩ (.int .i64 2)).setCell ⟨mb, 9, none⟩ (.int .u8 (b.toNat : Int))) mb D sn pl (.go (.t b false) (pcH h))) := Lib.hid
      ⟨(((mv0 w mb).put1 _ _).put1 _ _).put1 _ _, _, (m.s3.s5 2).s9 b, rfl, hb, rfl⟩
    show Calls _ _ _ _ fun e w' => e = _ ∧ SteH w w' mb D sn pl (.go (.t b false) (pcH h))
    clear m hj hb
    generalize h.pc = pc at *
    go_enter Tryz.func94, Tryz.ntmps94
    go_wp2_with (go_at_call 103; (with_reducible refine HJ.out.mono ?_); rintro e w1 ⟨rfl, rfl⟩)
    go_end0
    exact ⟨rfl, HP.out⟩

/-! A pattern. -/
theorem iE {b c : UInt8} {x : Int} (hx : (c.toNat : Int) = x) (h : b ≠ c) : ((b.toNat : Int) == x) = false := by
  subst hx
  rw [← bE]
  simpa using h
theorem pat_ways (h : Hs) (inb : Bool) (b : UInt8) :
    (lineB b = true ∧ patH h inb b = .no h)
    ∨ (lineB b = false ∧ ((b.toNat : Int) == 92) = true ∧ patH h inb b = .go (.p true inb) h)
    ∨ (lineB b = false ∧ ((b.toNat : Int) == 92) = false ∧ ((b.toNat : Int) == 91) = true ∧ patH h inb b = .go (.p false true) h)
    ∨ (lineB b = false ∧ ((b.toNat : Int) == 92) = false ∧ ((b.toNat : Int) == 91) = false ∧ ((b.toNat : Int) == 93) = true ∧ patH h inb b = .go (.p false false) h)
    ∨ (lineB b = false ∧ ((b.toNat : Int) == 92) = false ∧ ((b.toNat : Int) == 91) = false ∧ ((b.toNat : Int) == 93) = false ∧ ((b.toNat : Int) == 47) = true ∧ patH h inb b = if inb then .go (.p false true) h else .go .f (endH h 1))
    ∨ (lineB b = false ∧ ((b.toNat : Int) == 92) = false ∧ ((b.toNat : Int) == 91) = false ∧ ((b.toNat : Int) == 93) = false ∧ ((b.toNat : Int) == 47) = false ∧ patH h inb b = .go (.p false inb) h) := by
  by_cases h1 : b = 10; · subst h1; exact Or.inl ⟨rfl, rfl⟩
  by_cases h2 : b = 13; · subst h2; exact Or.inl ⟨rfl, rfl⟩
  have e0 : lineB b = false := by simp [lineB, h1, h2]
  by_cases h3 : b = 92; · subst h3; exact Or.inr (Or.inl ⟨rfl, rfl, rfl⟩)
  by_cases h4 : b = 91; · subst h4; exact Or.inr (Or.inr (Or.inl ⟨rfl, rfl, rfl, rfl⟩))
  by_cases h5 : b = 93; · subst h5; exact Or.inr (Or.inr (Or.inr (Or.inl ⟨rfl, rfl, rfl, rfl, rfl⟩)))
  by_cases h6 : b = 47; · subst h6; exact Or.inr (Or.inr (Or.inr (Or.inr (Or.inl ⟨rfl, rfl, rfl, rfl, rfl, by cases inb <;> rfl⟩))))
  exact Or.inr (Or.inr (Or.inr (Or.inr (Or.inr ⟨e0, iE rfl h3, iE rfl h4, iE rfl h5, iE rfl h6, by simp [patH, e0, h3, h4, h5, h6]⟩))))

set_option maxHeartbeats 2000000 in
set_option maxRecDepth 10000 in
theorem inPattern_any {w : World} {mb D : Nat} {sn pl : Int} {h : Hs} {r : Rg} (m : WasH w mb D sn pl h r) (inb : Bool) (hr : r.sp = if inb then 6 else 5) (b : UInt8) :
    Calls Tryz.prog 72 #[mptr mb, .int .u8 (b.toNat : Int)] w fun e w' => e = .returned (.tuple #[]) ∧ SteH w w' mb D sn pl (patH h inb b) := by
  have c5 := m.mac.c5
  have c6 := m.mac.c6
  have z5 := Blk.frozen m.mac 5
  have z6 := Blk.frozen m.mac 6
  have HE := Lib.hid (fun W => endsLine_any b W)
  have HK : Hid (SteH w w mb D sn pl (.go (.p false inb) h)) := Lib.hid ⟨mv0 w mb, _, m, hr⟩
  have HN : Hid (SteH w (w.setCell ⟨mb, 5, none⟩ (.int .i64 13)) mb D sn pl (.no h)) := Lib.hid ⟨(mv0 w mb).put1 _ _, _, m.s5 13, rfl⟩
  have HX : Hid (SteH w ((w.setCell ⟨mb, 5, none⟩ (.int .i64 8)).setCell ⟨mb, 6, none⟩ (.int .i64 r.sp)) mb D sn pl (.go (.p true inb) h)) := Lib.hid ⟨((mv0 w mb).put1 _ _).put1 _ _, _, (m.s5 8).s6 r.sp, rfl, hr⟩
  have H6 : Hid (SteH w (w.setCell ⟨mb, 5, none⟩ (.int .i64 6)) mb D sn pl (.go (.p false true) h)) := Lib.hid ⟨(mv0 w mb).put1 _ _, _, m.s5 6, rfl⟩
  have H5 : Hid (SteH w (w.setCell ⟨mb, 5, none⟩ (.int .i64 5)) mb D sn pl (.go (.p false false) h)) := Lib.hid ⟨(mv0 w mb).put1 _ _, _, m.s5 5, rfl⟩
  have HL : Hid (Calls Tryz.prog 88 #[mptr mb, .int .i64 1] (w.setCell ⟨mb, 5, none⟩ (.int .i64 7)) fun e w' => e = .returned (.tuple #[]) ∧ SteH w w' mb D sn pl (.go .f (endH h 1))) := Lib.hid (by
    refine (lay_any (m.s5 7) 1 rfl).mono ?_
    rintro e w' ⟨rfl, h1, h2⟩
    exact ⟨rfl, ((mv0 w mb).put1 _ _).then1 h1, _, h2, rfl⟩)
  have hs : (r.sp == 5) = !inb := by rw [hr]; cases inb <;> rfl
  clear m hr
  rcases pat_ways h inb b with ⟨h0, e⟩ | ⟨h0, h1, e⟩ | ⟨h0, h1, h2, e⟩ | ⟨h0, h1, h2, h3, e⟩ | ⟨h0, h1, h2, h3, h4, e⟩ | ⟨h0, h1, h2, h3, h4, e⟩
  case' inr.inr.inr.inr.inl => cases inb
  all_goals
    rw [e]
    clear e
    rw [h0] at HE
    clear h0
    generalize r.sp = sp at *
    generalize (b.toNat : Int) = x at *
    go_enter Tryz.func72, Tryz.ntmps72
    go_wp2_with (first
      | (go_at_call 89; (with_reducible refine (HE.out _).mono ?_); rintro e w1 ⟨rfl, rfl⟩)
      | (go_at_call 88; (with_reducible refine HL.out.mono ?_); rintro e w1 ⟨rfl, hs⟩))
    go_end0
    first
      | exact ⟨rfl, HK.out⟩
      | exact ⟨rfl, HN.out⟩
      | exact ⟨rfl, HX.out⟩
      | exact ⟨rfl, H6.out⟩
      | exact ⟨rfl, H5.out⟩
      | exact ⟨rfl, hs⟩

/-! Remarks. -/
set_option maxHeartbeats 1000000 in
theorem inLine_any {w : World} {mb D : Nat} {sn pl : Int} {h : Hs} {r : Rg} (m : WasH w mb D sn pl h r) (hr : r.sp = 9) (b : UInt8) :
    Calls Tryz.prog 74 #[mptr mb, .int .u8 (b.toNat : Int)] w fun e w' => e = .returned (.tuple #[]) ∧ SteH w w' mb D sn pl (if lineB b then .go .z { h with br := true } else .go .l h) := by
  have c5 := m.mac.c5
  have c8 := m.mac.c8
  have z5 := Blk.frozen m.mac 5
  have z8 := Blk.frozen m.mac 8
  have HE := Lib.hid (fun W => endsLine_any b W)
  have HK : Hid (SteH w w mb D sn pl (.go .l h)) := Lib.hid ⟨mv0 w mb, _, m, hr⟩
  have HN : Hid (SteH w ((w.setCell ⟨mb, 5, none⟩ (.int .i64 0)).setCell ⟨mb, 8, none⟩ (.bool true)) mb D sn pl (.go .z { h with br := true })) := Lib.hid ⟨((mv0 w mb).put1 _ _).put1 _ _, _, (m.s5 0).s8 true, rfl⟩
  clear m
  cases h0 : lineB b
  all_goals
    rw [h0] at HE
    simp only [if_true, if_false, Bool.false_eq_true]
    go_enter Tryz.func74, Tryz.ntmps74
    go_wp2_with (go_at_call 89; (with_reducible refine (HE.out _).mono ?_); rintro e w1 ⟨rfl, rfl⟩)
    go_end0
    first
      | exact ⟨rfl, HK.out⟩
      | exact ⟨rfl, HN.out⟩
theorem rem_ways (h : Hs) (star : Bool) (b : UInt8) {s : Sh} (hs : s = if star && b == 47 then .go .z h else .go (.k (b == 42)) (brH h b)) :
    (((b.toNat : Int) == 42) = true ∧ s = .go (.k true) (brH h b))
    ∨ (((b.toNat : Int) == 42) = false ∧ ((b.toNat : Int) == 47) = true ∧ s = if star then .go .z (brH h b) else .go (.k false) (brH h b))
    ∨ (((b.toNat : Int) == 42) = false ∧ ((b.toNat : Int) == 47) = false ∧ s = .go (.k false) (brH h b)) := by
  subst hs
  by_cases h1 : b = 42; · subst h1; exact Or.inl ⟨rfl, by cases star <;> rfl⟩
  by_cases h2 : b = 47
  · subst h2
    refine Or.inr (Or.inl ⟨rfl, rfl, ?_⟩)
    rw [brH_no (h := h) (b := 47) rfl]
    cases star <;> rfl
  · exact Or.inr (Or.inr ⟨iE rfl h1, iE rfl h2, by simp [h1, h2]⟩)
set_option maxHeartbeats 2000000 in
set_option maxRecDepth 10000 in
theorem inRemark_any {w : World} {mb D : Nat} {sn pl : Int} {h : Hs} {r : Rg} (m : WasH w mb D sn pl h r) (star : Bool) (hr : r.sp = if star then 11 else 10) (b : UInt8) :
    Calls Tryz.prog 75 #[mptr mb, .int .u8 (b.toNat : Int)] w fun e w' => e = .returned (.tuple #[]) ∧ SteH w w' mb D sn pl (if star && b == 47 then .go .z h else .go (.k (b == 42)) (brH h b)) := by
  have c5 := m.mac.c5
  have c8 := m.mac.c8
  have z5 := Blk.frozen m.mac 5
  have z8 := Blk.frozen m.mac 8
  have HE := Lib.hid (fun W => endsLine_any b W)
  have HP : ∀ x, Hid (WasH ((w.setCell ⟨mb, 8, none⟩ (.bool (h.br || lineB b))).setCell ⟨mb, 5, none⟩ (.int .i64 x)) mb D sn pl (brH h b) { r with sp := x }) := fun x => Lib.hid ((m.s8 (h.br || lineB b)).s5 x)
  have H11 : Hid (SteH w ((w.setCell ⟨mb, 8, none⟩ (.bool (h.br || lineB b))).setCell ⟨mb, 5, none⟩ (.int .i64 11)) mb D sn pl (.go (.k true) (brH h b))) := Lib.hid ⟨((mv0 w mb).put1 _ _).put1 _ _, _, (HP 11).out, rfl⟩
  have H10 : Hid (SteH w ((w.setCell ⟨mb, 8, none⟩ (.bool (h.br || lineB b))).setCell ⟨mb, 5, none⟩ (.int .i64 10)) mb D sn pl (.go (.k false) (brH h b))) := Lib.hid ⟨((mv0 w mb).put1 _ _).put1 _ _, _, (HP 10).out, rfl⟩
  have H0 : Hid (SteH w ((w.setCell ⟨mb, 8, none⟩ (.bool (h.br || lineB b))).setCell ⟨mb, 5, none⟩ (.int .i64 0)) mb D sn pl (.go .z (brH h b))) := Lib.hid ⟨((mv0 w mb).put1 _ _).put1 _ _, _, (HP 0).out, rfl⟩
  obtain ⟨s, hs⟩ : ∃ s, s = if star && b == 47 then Sh.go .z h else .go (.k (b == 42)) (brH h b) := ⟨_, rfl⟩
  rw [← hs]
  have hw := rem_ways h star b hs
  have hq : (r.sp == 11) = star := by rw [hr]; cases star <;> rfl
  clear m hr hs HP
  generalize (brH h b) = h' at *
  generalize r.sp = sp at *
  generalize (b.toNat : Int) = x at *
  generalize lineB b = lb at *
  generalize h.br = br at *
  rcases hw with ⟨h0, e⟩ | ⟨h0, h1, e⟩ | ⟨h0, h1, e⟩
  case' inr.inl => cases star
  all_goals
    rw [e]
    clear e
    cases br
  all_goals
    go_enter Tryz.func75, Tryz.ntmps75
    go_wp2_with (go_at_call 89; (with_reducible refine (HE.out _).mono ?_); rintro e w1 ⟨rfl, rfl⟩)
    go_end0
    first
      | exact ⟨rfl, H11.out⟩
      | exact ⟨rfl, H10.out⟩
      | exact ⟨rfl, H0.out⟩
set_option maxHeartbeats 2000000 in
set_option maxRecDepth 10000 in
theorem inMark_no {w : World} {mb D : Nat} {sn pl : Int} {h : Hs} {r : Rg} (m : WasH w mb D sn pl h r) (s : ByteArray) (hs : r.rs = s) (hz : 0 < s.size) (b : UInt8) (hx : ((b.toNat : Int) != (s[0].toNat : Int)) = true) :
    Calls Tryz.prog 76 #[mptr mb, .int .u8 (b.toNat : Int)] w fun e w' => e = .returned (.tuple #[]) ∧ SteH w w' mb D sn pl (.no h) := by
  have c5 := m.mac.c5
  have c10 := m.mac.c10
  have z5 := Blk.frozen m.mac 5
  rw [hs] at c10
  have HN : Hid (SteH w (w.setCell ⟨mb, 5, none⟩ (.int .i64 13)) mb D sn pl (.no h)) := Lib.hid ⟨(mv0 w mb).put1 _ _, _, m.s5 13, rfl⟩
  clear m hs
  generalize (b.toNat : Int) = x at *
  go_enter Tryz.func76, Tryz.ntmps76
  go_wp2
  refine bodyPost_ret (results_none rfl _ _ _) rfl ?_
  exact ⟨rfl, HN.out⟩
set_option maxHeartbeats 2000000 in
set_option maxRecDepth 10000 in
theorem inMark_yes {w : World} {mb D : Nat} {sn pl : Int} {h : Hs} {r : Rg} (m : WasH w mb D sn pl h r) (s t : ByteArray) (hs : r.rs = s) (hz : 0 < s.size) (b : UInt8) (hx : ((b.toNat : Int) != (s[0].toNat : Int)) = false) (ht : s.extract 1 s.size = t) (he : t.toList.isEmpty = false) :
    Calls Tryz.prog 76 #[mptr mb, .int .u8 (b.toNat : Int)] w fun e w' => e = .returned (.tuple #[]) ∧ Mv w.heap.size [mb] w w' ∧ WasH w' mb D sn pl h { r with rs := t } := by
  have c5 := m.mac.c5
  have c10 := m.mac.c10
  have z5 := Blk.frozen m.mac 5
  have z10 := Blk.frozen m.mac 10
  rw [hs] at c10
  have HN := Lib.hid (m.s10 t)
  clear m hs
  generalize (b.toNat : Int) = x at *
  go_enter Tryz.func76, Tryz.ntmps76
  go_wp2
  go_end0
  exact ⟨rfl, (mv0 w mb).put1 _ _, HN.out⟩
set_option maxHeartbeats 2000000 in
set_option maxRecDepth 10000 in
theorem inMark_end {w : World} {mb D : Nat} {sn pl : Int} {h : Hs} {r : Rg} (m : WasH w mb D sn pl h r) (s t : ByteArray) (hs : r.rs = s) (hz : 0 < s.size) (b : UInt8) (hx : ((b.toNat : Int) != (s[0].toNat : Int)) = false) (ht : s.extract 1 s.size = t) (he : t.toList.isEmpty = true) :
    Calls Tryz.prog 76 #[mptr mb, .int .u8 (b.toNat : Int)] w fun e w' => e = .returned (.tuple #[]) ∧ SteH w w' mb D sn pl (.go .l h) := by
  have c5 := m.mac.c5
  have c10 := m.mac.c10
  have z5 := Blk.frozen m.mac 5
  have z10 := Blk.frozen m.mac 10
  rw [hs] at c10
  have HN : Hid (SteH w ((w.setCell ⟨mb, 10, none⟩ (.string t)).setCell ⟨mb, 5, none⟩ (.int .i64 9)) mb D sn pl (.go .l h)) := Lib.hid ⟨((mv0 w mb).put1 _ _).put1 _ _, _, (m.s10 t).s5 9, rfl⟩
  clear m hs
  generalize (b.toNat : Int) = x at *
  go_enter Tryz.func76, Tryz.ntmps76
  go_wp2
  go_end0
  exact ⟨rfl, HN.out⟩
theorem inMark_any {w : World} {mb D : Nat} {sn pl : Int} {h : Hs} {r : Rg} (m : WasH w mb D sn pl h r) {i : Nat} (hr : RegH (.x i) r) (b : UInt8) :
    Calls Tryz.prog 76 #[mptr mb, .int .u8 (b.toNat : Int)] w fun e w' => e = .returned (.tuple #[]) ∧ SteH w w' mb D sn pl (if b == minH i then (if i == 3 then .go .l h else .go (.x (i + 1)) h) else .no h) := by
  obtain ⟨hsp, hr⟩ := hr
  by_cases hb : b = minH i
  · rw [if_pos (by rw [beq_iff_eq]; exact hb)]
    subst hb
    rcases hr with ⟨rfl, h1⟩ | ⟨rfl, h1⟩ | ⟨rfl, h1⟩
    · refine (inMark_yes m ⟨#[33, 45, 45]⟩ ⟨#[45, 45]⟩ h1 (by decide) (minH 1) rfl rfl (by kernel_rfl)).mono ?_
      rintro e w' ⟨rfl, h2, h3⟩
      exact ⟨rfl, h2, _, h3, hsp, Or.inr (Or.inl ⟨rfl, rfl⟩)⟩
    · refine (inMark_yes m ⟨#[45, 45]⟩ ⟨#[45]⟩ h1 (by decide) (minH 2) rfl rfl (by kernel_rfl)).mono ?_
      rintro e w' ⟨rfl, h2, h3⟩
      exact ⟨rfl, h2, _, h3, hsp, Or.inr (Or.inr ⟨rfl, rfl⟩)⟩
    · exact inMark_end m ⟨#[45]⟩ ⟨#[]⟩ h1 (by decide) (minH 3) rfl rfl (by kernel_rfl)
  · rw [if_neg (by rw [beq_iff_eq]; exact hb)]
    have hn : ∀ c : UInt8, minH i = c → ((b.toNat : Int) != (c.toNat : Int)) = true := fun c hc => by
      rw [bne_iff_ne]
      intro e
      exact hb (by rw [hc]; exact UInt8.toNat_inj.1 (by omega))
    rcases hr with ⟨rfl, h1⟩ | ⟨rfl, h1⟩ | ⟨rfl, h1⟩
    · exact inMark_no m ⟨#[33, 45, 45]⟩ h1 (by decide) b (hn 33 rfl)
    · exact inMark_no m ⟨#[45, 45]⟩ h1 (by decide) b (hn 45 rfl)
    · exact inMark_no m ⟨#[45]⟩ h1 (by decide) b (hn 45 rfl)
end Go.Proofs.YtbojbkpplejdmaaGreat
namespace Go.Proofs.YtbojbkpplejdmaaGreat
open Go.RowKit

theorem kw_of {s : ByteArray} {L : List UInt8} (h : (s.toList == L) = true) (hL : kwdL.any (fun k => k == L) = true) : kwdH s.data.toList = true := by
  rw [beq_iff_eq] at h
  rw [← Lib.toList_data, h]
  exact hL
theorem kwd_flip (l : List UInt8) : kwdH l = kwdL.any (fun k => l == k) := by
  unfold kwdH
  induction kwdL with
  | nil => rfl
  | cons k r ih => rw [List.any_cons, List.any_cons, ih, Bool.beq_comm (a := k)]
set_option maxHeartbeats 8000000 in
set_option maxRecDepth 10000 in
theorem keyword_any (s : ByteArray) (w : World) :
    Calls Tryz.prog 101 #[.string s] w fun e w' => e = .returned (.bool (kwdH s.data.toList)) ∧ w = w' := by
  obtain ⟨v, hv⟩ : ∃ v, v = kwdH s.data.toList := ⟨_, rfl⟩
  rw [← hv]
  have HV := Lib.hid hv
  have HF : Hid (∀ L, (s.toList == L) = true → kwdL.any (fun k => k == L) = true → v = true) := Lib.hid fun L h hL => by rw [hv]; exact kw_of h hL
  clear hv
  go_enter Tryz.func101, Tryz.ntmps101
  go_wp2
  all_goals
    go_ret
    refine ⟨?_, rfl⟩
    first
      | (rw [HF.out _ (by assumption) (by rfl)]; rfl)
      | (rename_i h1 h2; rw [h1] at h2; cases h2; done)
      | (rw [HV.out, ← Lib.toList_data, kwd_flip]; unfold kwdL; simp only [*, List.any_cons, List.any_nil, Bool.or_false]; rfl)
end Go.Proofs.YtbojbkpplejdmaaGreat
