/-
  What package jscript's beginWord, beginText, inPattern, inLine, inRemark and inMark do with a machine of layer 28. Conditions: where reading stands is told of in the machine's registers (RegH); the counts are no greater than a length can be.
  What package jscript's Keyword answers: whether the text is one of the 39 words (kwdH). No condition.
  What package jscript's between, inFlags, behindSlash and inText do with a machine of layer 28. Conditions: where reading stands is told of in the machine's registers (RegH); the counts are no greater than a length can be.
-/
import Derived.Test.YtbojbkpplejdmaaZ12
import Derived.Test.YtbojbkpplejdmaaZ6
namespace Go.Proofs.Ytbojbkpplejdmaa
open Go.RowKit

set_option maxHeartbeats 1000000 in
set_option maxRecDepth 10000 in
theorem beginWord_any {w : World} {mb D : Nat} {sn pl : Int} {h : Hs} {r : Rg} (m : WasH w mb D sn pl h r) (b : UInt8) (hp : h.pc + 1 ≤ 4611686018427387904) :
    Calls Try.prog 71 #[mptr mb, .int .u8 (b.toNat : Int)] w fun e w' => e = .returned (.tuple #[]) ∧ SteH w w' mb D sn pl (if joiH h then .no h else .go (.w (digB b) [b]) (pcH h)) := by
  have c3 := m.mac.c3
  have c5 := m.mac.c5
  have c11 := m.mac.c11
  have z3 := Blk.frozen m.mac 3
  have z5 := Blk.frozen m.mac 5
  have z11 := Blk.frozen m.mac 11
  have z12 := Blk.frozen m.mac 12
  obtain ⟨y, hy⟩ : ∃ y, r.B[0]? = some y := ⟨_, List.getElem?_eq_getElem (by rw [m.lenB]; omega)⟩
  have c12 : w.cell? ⟨mb, 12, none⟩ = some y := (m.mac.cB 0 (by rw [m.lenB]; omega)).trans hy
  have HJ := Lib.hid (joins_any m)
  cases hj : joiH h with
  | true =>
    rw [hj] at HJ
    have HP : Hid (SteH w (w.setCell ⟨mb, 5, none⟩ (.int .i64 13)) mb D sn pl (.no h)) := Lib.hid ⟨(mv0 w mb).put1 _ _, _, m.s5 13, rfl⟩
    show Calls _ _ _ _ fun e w' => e = _ ∧ SteH w w' mb D sn pl (.no h)
    clear m hj hy
    go_enter Try.func71, Try.ntmps71
    go_wp2_with (go_at_call 81; (with_reducible refine HJ.out.mono ?_); rintro e w1 ⟨rfl, rfl⟩)
    refine bodyPost_ret (results_none rfl _ _ _) rfl ?_
    exact ⟨rfl, HP.out⟩
  | false =>
    rw [hj] at HJ
    have HP : Hid (SteH w ((((w.setCell ⟨mb, 3, none⟩ (.int .i64 ((h.pc : Int) + 1))).setCell ⟨mb, 5, none⟩ (.int .i64 1)).setCell ⟨mb, 12, none⟩ (.int .u8 (b.toNat : Int))).setCell ⟨mb, 11, none⟩ (.int .i64 1)) mb D sn pl (.go (.w (digB b) [b]) (pcH h))) := Lib.hid
      ⟨((((mv0 w mb).put1 _ _).put1 _ _).put1 _ _).put1 _ _, _, (((m.s3.s5 1).sB 0 (by omega) (.int .u8 (b.toNat : Int))).s11 1), rfl, rfl, fun i x hx hi => by
        match i, hx with
        | 0, hx =>
          have hx' : b = x := by simpa using hx
          subst hx'
          exact List.getElem?_set_self (by show 0 < r.B.length; rw [m.lenB]; omega), b, rfl, rfl⟩
    show Calls _ _ _ _ fun e w' => e = _ ∧ SteH w w' mb D sn pl (.go (.w (digB b) [b]) (pcH h))
    clear m hj hy
    generalize h.pc = pc at *
    go_enter Try.func71, Try.ntmps71
    go_wp2_with (go_at_call 81; (with_reducible refine HJ.out.mono ?_); rintro e w1 ⟨rfl, rfl⟩)
    go_end0
    exact ⟨rfl, HP.out⟩

set_option maxHeartbeats 1000000 in
set_option maxRecDepth 10000 in
theorem beginText_grave {w : World} {mb D : Nat} {sn pl : Int} {h : Hs} {r : Rg} (m : WasH w mb D sn pl h r) (hp : h.pc + 1 ≤ 4611686018427387904) :
    Calls Try.prog 72 #[mptr mb, .int .u8 96] w fun e w' => e = .returned (.tuple #[]) ∧ SteH w w' mb D sn pl (.go (.g false false) (pcH h)) := by
  have c3 := m.mac.c3
  have c5 := m.mac.c5
  have c9 := m.mac.c9
  have z3 := Blk.frozen m.mac 3
  have z5 := Blk.frozen m.mac 5
  have z9 := Blk.frozen m.mac 9
  have HP : Hid (SteH w (((w.setCell ⟨mb, 3, none⟩ (.int .i64 ((h.pc : Int) + 1))).setCell ⟨mb, 5, none⟩ (.int .i64 2)).setCell ⟨mb, 9, none⟩ (.int .u8 96)) mb D sn pl (.go (.g false false) (pcH h))) := Lib.hid
    ⟨(((mv0 w mb).put1 _ _).put1 _ _).put1 _ _, _, (m.s3.s5 2).s9 96, rfl, rfl⟩
  clear m
  generalize h.pc = pc at *
  go_enter Try.func72, Try.ntmps72
  go_wp2
  go_end0
  exact ⟨rfl, HP.out⟩
set_option maxHeartbeats 1000000 in
set_option maxRecDepth 10000 in
theorem beginText_any {w : World} {mb D : Nat} {sn pl : Int} {h : Hs} {r : Rg} (m : WasH w mb D sn pl h r) (b : UInt8) (hb : b = 34 ∨ b = 39) (hp : h.pc + 1 ≤ 4611686018427387904) :
    Calls Try.prog 72 #[mptr mb, .int .u8 (b.toNat : Int)] w fun e w' => e = .returned (.tuple #[]) ∧ SteH w w' mb D sn pl (if joiH h then .no h else .go (.t b false) (pcH h)) := by
  have c3 := m.mac.c3
  have c5 := m.mac.c5
  have c9 := m.mac.c9
  have z3 := Blk.frozen m.mac 3
  have z5 := Blk.frozen m.mac 5
  have z9 := Blk.frozen m.mac 9
  have HJ := Lib.hid (joins_any m)
  have g0 : ((b.toNat : Int) != 96) = true := by rcases hb with rfl | rfl <;> rfl
  cases hj : joiH h with
  | true =>
    rw [hj] at HJ
    have HP : Hid (SteH w (w.setCell ⟨mb, 5, none⟩ (.int .i64 13)) mb D sn pl (.no h)) := Lib.hid ⟨(mv0 w mb).put1 _ _, _, m.s5 13, rfl⟩
    show Calls _ _ _ _ fun e w' => e = _ ∧ SteH w w' mb D sn pl (.no h)
    clear m hj hb
    go_enter Try.func72, Try.ntmps72
    go_wp2_with (go_at_call 81; (with_reducible refine HJ.out.mono ?_); rintro e w1 ⟨rfl, rfl⟩)
    refine bodyPost_ret (results_none rfl _ _ _) rfl ?_
    exact ⟨rfl, HP.out⟩
  | false =>
    rw [hj] at HJ
    have HP : Hid (SteH w (((w.setCell ⟨mb, 3, none⟩ (.int .i64 ((h.pc : Int) + 1))).setCell ⟨mb, 5, none⟩ (.int .i64 2)).setCell ⟨mb, 9, none⟩ (.int .u8 (b.toNat : Int))) mb D sn pl (.go (.t b false) (pcH h))) := Lib.hid
      ⟨(((mv0 w mb).put1 _ _).put1 _ _).put1 _ _, _, (m.s3.s5 2).s9 b, rfl, hb, rfl⟩
    show Calls _ _ _ _ fun e w' => e = _ ∧ SteH w w' mb D sn pl (.go (.t b false) (pcH h))
    clear m hj hb
    generalize h.pc = pc at *
    go_enter Try.func72, Try.ntmps72
    go_wp2_with (go_at_call 81; (with_reducible refine HJ.out.mono ?_); rintro e w1 ⟨rfl, rfl⟩)
    go_end0
    exact ⟨rfl, HP.out⟩

/-! A pattern. -/
theorem iE {b c : UInt8} {x : Int} (hx : (c.toNat : Int) = x) (h : b ≠ c) : ((b.toNat : Int) == x) = false := by
  subst hx
  rw [← bE]
  simpa using h
theorem pat_ways (h : Hs) (inb : Bool) (b : UInt8) :
    (lineB b = true ∧ patH h inb b = .no h)
    ∨ (lineB b = false ∧ ((b.toNat : Int) == 92) = true ∧ patH h inb b = .go (.p true inb) h)
    ∨ (lineB b = false ∧ ((b.toNat : Int) == 92) = false ∧ ((b.toNat : Int) == 91) = true ∧ patH h inb b = .go (.p false true) h)
    ∨ (lineB b = false ∧ ((b.toNat : Int) == 92) = false ∧ ((b.toNat : Int) == 91) = false ∧ ((b.toNat : Int) == 93) = true ∧ patH h inb b = .go (.p false false) h)
    ∨ (lineB b = false ∧ ((b.toNat : Int) == 92) = false ∧ ((b.toNat : Int) == 91) = false ∧ ((b.toNat : Int) == 93) = false ∧ ((b.toNat : Int) == 47) = true ∧ patH h inb b = if inb then .go (.p false true) h else .go .f (endH h 1))
    ∨ (lineB b = false ∧ ((b.toNat : Int) == 92) = false ∧ ((b.toNat : Int) == 91) = false ∧ ((b.toNat : Int) == 93) = false ∧ ((b.toNat : Int) == 47) = false ∧ patH h inb b = .go (.p false inb) h) := by
  by_cases h1 : b = 10; · subst h1; exact Or.inl ⟨rfl, rfl⟩
  by_cases h2 : b = 13; · subst h2; exact Or.inl ⟨rfl, rfl⟩
  have e0 : lineB b = false := by simp [lineB, h1, h2]
  by_cases h3 : b = 92; · subst h3; exact Or.inr (Or.inl ⟨rfl, rfl, rfl⟩)
  by_cases h4 : b = 91; · subst h4; exact Or.inr (Or.inr (Or.inl ⟨rfl, rfl, rfl, rfl⟩))
  by_cases h5 : b = 93; · subst h5; exact Or.inr (Or.inr (Or.inr (Or.inl ⟨rfl, rfl, rfl, rfl, rfl⟩)))
  by_cases h6 : b = 47; · subst h6; exact Or.inr (Or.inr (Or.inr (Or.inr (Or.inl ⟨rfl, rfl, rfl, rfl, rfl, by cases inb <;> rfl⟩))))
  exact Or.inr (Or.inr (Or.inr (Or.inr (Or.inr ⟨e0, iE rfl h3, iE rfl h4, iE rfl h5, iE rfl h6, by simp [patH, e0, h3, h4, h5, h6]⟩))))

set_option maxHeartbeats 2000000 in
set_option maxRecDepth 10000 in
theorem inPattern_any {w : World} {mb D : Nat} {sn pl : Int} {h : Hs} {r : Rg} (m : WasH w mb D sn pl h r) (inb : Bool) (hr : r.sp = if inb then 6 else 5) (b : UInt8) :
    Calls Try.prog 50 #[mptr mb, .int .u8 (b.toNat : Int)] w fun e w' => e = .returned (.tuple #[]) ∧ SteH w w' mb D sn pl (patH h inb b) := by
  have c5 := m.mac.c5
  have c6 := m.mac.c6
  have z5 := Blk.frozen m.mac 5
  have z6 := Blk.frozen m.mac 6
  have HE := Lib.hid (fun W => endsLine_any b W)
  have HK : Hid (SteH w w mb D sn pl (.go (.p false inb) h)) := Lib.hid ⟨mv0 w mb, _, m, hr⟩
  have HN : Hid (SteH w (w.setCell ⟨mb, 5, none⟩ (.int .i64 13)) mb D sn pl (.no h)) := Lib.hid ⟨(mv0 w mb).put1 _ _, _, m.s5 13, rfl⟩
  have HX : Hid (SteH w ((w.setCell ⟨mb, 5, none⟩ (.int .i64 8)).setCell ⟨mb, 6, none⟩ (.int .i64 r.sp)) mb D sn pl (.go (.p true inb) h)) := Lib.hid ⟨((mv0 w mb).put1 _ _).put1 _ _, _, (m.s5 8).s6 r.sp, rfl, hr⟩
  have H6 : Hid (SteH w (w.setCell ⟨mb, 5, none⟩ (.int .i64 6)) mb D sn pl (.go (.p false true) h)) := Lib.hid ⟨(mv0 w mb).put1 _ _, _, m.s5 6, rfl⟩
  have H5 : Hid (SteH w (w.setCell ⟨mb, 5, none⟩ (.int .i64 5)) mb D sn pl (.go (.p false false) h)) := Lib.hid ⟨(mv0 w mb).put1 _ _, _, m.s5 5, rfl⟩
  have HL : Hid (Calls Try.prog 66 #[mptr mb, .int .i64 1] (w.setCell ⟨mb, 5, none⟩ (.int .i64 7)) fun e w' => e = .returned (.tuple #[]) ∧ SteH w w' mb D sn pl (.go .f (endH h 1))) := Lib.hid (by
    refine (lay_any (m.s5 7) 1 rfl).mono ?_
    rintro e w' ⟨rfl, h1, h2⟩
    exact ⟨rfl, ((mv0 w mb).put1 _ _).then1 h1, _, h2, rfl⟩)
  have hs : (r.sp == 5) = !inb := by rw [hr]; cases inb <;> rfl
  clear m hr
  rcases pat_ways h inb b with ⟨h0, e⟩ | ⟨h0, h1, e⟩ | ⟨h0, h1, h2, e⟩ | ⟨h0, h1, h2, h3, e⟩ | ⟨h0, h1, h2, h3, h4, e⟩ | ⟨h0, h1, h2, h3, h4, e⟩
  case' inr.inr.inr.inr.inl => cases inb
  all_goals
    rw [e]
    clear e
    rw [h0] at HE
    clear h0
    generalize r.sp = sp at *
    generalize (b.toNat : Int) = x at *
    go_enter Try.func50, Try.ntmps50
    go_wp2_with (first
      | (go_at_call 67; (with_reducible refine (HE.out _).mono ?_); rintro e w1 ⟨rfl, rfl⟩)
      | (go_at_call 66; (with_reducible refine HL.out.mono ?_); rintro e w1 ⟨rfl, hs⟩))
    go_end0
    first
      | exact ⟨rfl, HK.out⟩
      | exact ⟨rfl, HN.out⟩
      | exact ⟨rfl, HX.out⟩
      | exact ⟨rfl, H6.out⟩
      | exact ⟨rfl, H5.out⟩
      | exact ⟨rfl, hs⟩

/-! Remarks. -/
set_option maxHeartbeats 1000000 in
theorem inLine_any {w : World} {mb D : Nat} {sn pl : Int} {h : Hs} {r : Rg} (m : WasH w mb D sn pl h r) (hr : r.sp = 9) (b : UInt8) :
    Calls Try.prog 52 #[mptr mb, .int .u8 (b.toNat : Int)] w fun e w' => e = .returned (.tuple #[]) ∧ SteH w w' mb D sn pl (if lineB b then .go .z { h with br := true } else .go .l h) := by
  have c5 := m.mac.c5
  have c8 := m.mac.c8
  have z5 := Blk.frozen m.mac 5
  have z8 := Blk.frozen m.mac 8
  have HE := Lib.hid (fun W => endsLine_any b W)
  have HK : Hid (SteH w w mb D sn pl (.go .l h)) := Lib.hid ⟨mv0 w mb, _, m, hr⟩
  have HN : Hid (SteH w ((w.setCell ⟨mb, 5, none⟩ (.int .i64 0)).setCell ⟨mb, 8, none⟩ (.bool true)) mb D sn pl (.go .z { h with br := true })) := Lib.hid ⟨((mv0 w mb).put1 _ _).put1 _ _, _, (m.s5 0).s8 true, rfl⟩
  clear m
  cases h0 : lineB b
  all_goals
    rw [h0] at HE
    simp only [if_true, if_false, Bool.false_eq_true]
    go_enter Try.func52, Try.ntmps52
    go_wp2_with (go_at_call 67; (with_reducible refine (HE.out _).mono ?_); rintro e w1 ⟨rfl, rfl⟩)
    go_end0
    first
      | exact ⟨rfl, HK.out⟩
      | exact ⟨rfl, HN.out⟩
theorem rem_ways (h : Hs) (star : Bool) (b : UInt8) {s : Sh} (hs : s = if star && b == 47 then .go .z h else .go (.k (b == 42)) (brH h b)) :
    (((b.toNat : Int) == 42) = true ∧ s = .go (.k true) (brH h b))
    ∨ (((b.toNat : Int) == 42) = false ∧ ((b.toNat : Int) == 47) = true ∧ s = if star then .go .z (brH h b) else .go (.k false) (brH h b))
    ∨ (((b.toNat : Int) == 42) = false ∧ ((b.toNat : Int) == 47) = false ∧ s = .go (.k false) (brH h b)) := by
  subst hs
  by_cases h1 : b = 42; · subst h1; exact Or.inl ⟨rfl, by cases star <;> rfl⟩
  by_cases h2 : b = 47
  · subst h2
    refine Or.inr (Or.inl ⟨rfl, rfl, ?_⟩)
    rw [brH_no (h := h) (b := 47) rfl]
    cases star <;> rfl
  · exact Or.inr (Or.inr ⟨iE rfl h1, iE rfl h2, by simp [h1, h2]⟩)
set_option maxHeartbeats 2000000 in
set_option maxRecDepth 10000 in
theorem inRemark_any {w : World} {mb D : Nat} {sn pl : Int} {h : Hs} {r : Rg} (m : WasH w mb D sn pl h r) (star : Bool) (hr : r.sp = if star then 11 else 10) (b : UInt8) :
    Calls Try.prog 53 #[mptr mb, .int .u8 (b.toNat : Int)] w fun e w' => e = .returned (.tuple #[]) ∧ SteH w w' mb D sn pl (if star && b == 47 then .go .z h else .go (.k (b == 42)) (brH h b)) := by
  have c5 := m.mac.c5
  have c8 := m.mac.c8
  have z5 := Blk.frozen m.mac 5
  have z8 := Blk.frozen m.mac 8
  have HE := Lib.hid (fun W => endsLine_any b W)
  have HP : ∀ x, Hid (WasH ((w.setCell ⟨mb, 8, none⟩ (.bool (h.br || lineB b))).setCell ⟨mb, 5, none⟩ (.int .i64 x)) mb D sn pl (brH h b) { r with sp := x }) := fun x => Lib.hid ((m.s8 (h.br || lineB b)).s5 x)
  have H11 : Hid (SteH w ((w.setCell ⟨mb, 8, none⟩ (.bool (h.br || lineB b))).setCell ⟨mb, 5, none⟩ (.int .i64 11)) mb D sn pl (.go (.k true) (brH h b))) := Lib.hid ⟨((mv0 w mb).put1 _ _).put1 _ _, _, (HP 11).out, rfl⟩
  have H10 : Hid (SteH w ((w.setCell ⟨mb, 8, none⟩ (.bool (h.br || lineB b))).setCell ⟨mb, 5, none⟩ (.int .i64 10)) mb D sn pl (.go (.k false) (brH h b))) := Lib.hid ⟨((mv0 w mb).put1 _ _).put1 _ _, _, (HP 10).out, rfl⟩
  have H0 : Hid (SteH w ((w.setCell ⟨mb, 8, none⟩ (.bool (h.br || lineB b))).setCell ⟨mb, 5, none⟩ (.int .i64 0)) mb D sn pl (.go .z (brH h b))) := Lib.hid ⟨((mv0 w mb).put1 _ _).put1 _ _, _, (HP 0).out, rfl⟩
  obtain ⟨s, hs⟩ : ∃ s, s = if star && b == 47 then Sh.go .z h else .go (.k (b == 42)) (brH h b) := ⟨_, rfl⟩
  rw [← hs]
  have hw := rem_ways h star b hs
  have hq : (r.sp == 11) = star := by rw [hr]; cases star <;> rfl
  clear m hr hs HP
  generalize (brH h b) = h' at *
  generalize r.sp = sp at *
  generalize (b.toNat : Int) = x at *
  generalize lineB b = lb at *
  generalize h.br = br at *
  rcases hw with ⟨h0, e⟩ | ⟨h0, h1, e⟩ | ⟨h0, h1, e⟩
  case' inr.inl => cases star
  all_goals
    rw [e]
    clear e
    cases br
  all_goals
    go_enter Try.func53, Try.ntmps53
    go_wp2_with (go_at_call 67; (with_reducible refine (HE.out _).mono ?_); rintro e w1 ⟨rfl, rfl⟩)
    go_end0
    first
      | exact ⟨rfl, H11.out⟩
      | exact ⟨rfl, H10.out⟩
      | exact ⟨rfl, H0.out⟩
set_option maxHeartbeats 2000000 in
set_option maxRecDepth 10000 in
theorem inMark_no {w : World} {mb D : Nat} {sn pl : Int} {h : Hs} {r : Rg} (m : WasH w mb D sn pl h r) (s : ByteArray) (hs : r.rs = s) (hz : 0 < s.size) (b : UInt8) (hx : ((b.toNat : Int) != (s[0].toNat : Int)) = true) :
    Calls Try.prog 54 #[mptr mb, .int .u8 (b.toNat : Int)] w fun e w' => e = .returned (.tuple #[]) ∧ SteH w w' mb D sn pl (.no h) := by
  have c5 := m.mac.c5
  have c10 := m.mac.c10
  have z5 := Blk.frozen m.mac 5
  rw [hs] at c10
  have HN : Hid (SteH w (w.setCell ⟨mb, 5, none⟩ (.int .i64 13)) mb D sn pl (.no h)) := Lib.hid ⟨(mv0 w mb).put1 _ _, _, m.s5 13, rfl⟩
  clear m hs
  generalize (b.toNat : Int) = x at *
  go_enter Try.func54, Try.ntmps54
  go_wp2
  refine bodyPost_ret (results_none rfl _ _ _) rfl ?_
  exact ⟨rfl, HN.out⟩
set_option maxHeartbeats 2000000 in
set_option maxRecDepth 10000 in
theorem inMark_yes {w : World} {mb D : Nat} {sn pl : Int} {h : Hs} {r : Rg} (m : WasH w mb D sn pl h r) (s t : ByteArray) (hs : r.rs = s) (hz : 0 < s.size) (b : UInt8) (hx : ((b.toNat : Int) != (s[0].toNat : Int)) = false) (ht : s.extract 1 s.size = t) (he : t.toList.isEmpty = false) :
    Calls Try.prog 54 #[mptr mb, .int .u8 (b.toNat : Int)] w fun e w' => e = .returned (.tuple #[]) ∧ Mv w.heap.size [mb] w w' ∧ WasH w' mb D sn pl h { r with rs := t } := by
  have c5 := m.mac.c5
  have c10 := m.mac.c10
  have z5 := Blk.frozen m.mac 5
  have z10 := Blk.frozen m.mac 10
  rw [hs] at c10
  have HN := Lib.hid (m.s10 t)
  clear m hs
  generalize (b.toNat : Int) = x at *
  go_enter Try.func54, Try.ntmps54
  go_wp2
  go_end0
  exact ⟨rfl, (mv0 w mb).put1 _ _, HN.out⟩
set_option maxHeartbeats 2000000 in
set_option maxRecDepth 10000 in
theorem inMark_end {w : World} {mb D : Nat} {sn pl : Int} {h : Hs} {r : Rg} (m : WasH w mb D sn pl h r) (s t : ByteArray) (hs : r.rs = s) (hz : 0 < s.size) (b : UInt8) (hx : ((b.toNat : Int) != (s[0].toNat : Int)) = false) (ht : s.extract 1 s.size = t) (he : t.toList.isEmpty = true) :
    Calls Try.prog 54 #[mptr mb, .int .u8 (b.toNat : Int)] w fun e w' => e = .returned (.tuple #[]) ∧ SteH w w' mb D sn pl (.go .l h) := by
  have c5 := m.mac.c5
  have c10 := m.mac.c10
  have z5 := Blk.frozen m.mac 5
  have z10 := Blk.frozen m.mac 10
  rw [hs] at c10
  have HN : Hid (SteH w ((w.setCell ⟨mb, 10, none⟩ (.string t)).setCell ⟨mb, 5, none⟩ (.int .i64 9)) mb D sn pl (.go .l h)) := Lib.hid ⟨((mv0 w mb).put1 _ _).put1 _ _, _, (m.s10 t).s5 9, rfl⟩
  clear m hs
  generalize (b.toNat : Int) = x at *
  go_enter Try.func54, Try.ntmps54
  go_wp2
  go_end0
  exact ⟨rfl, HN.out⟩
theorem inMark_any {w : World} {mb D : Nat} {sn pl : Int} {h : Hs} {r : Rg} (m : WasH w mb D sn pl h r) {i : Nat} (hr : RegH (.x i) r) (b : UInt8) :
    Calls Try.prog 54 #[mptr mb, .int .u8 (b.toNat : Int)] w fun e w' => e = .returned (.tuple #[]) ∧ SteH w w' mb D sn pl (if b == minH i then (if i == 3 then .go .l h else .go (.x (i + 1)) h) else .no h) := by
  obtain ⟨hsp, hr⟩ := hr
  by_cases hb : b = minH i
  · rw [if_pos (by rw [beq_iff_eq]; exact hb)]
    subst hb
    rcases hr with ⟨rfl, h1⟩ | ⟨rfl, h1⟩ | ⟨rfl, h1⟩
    · refine (inMark_yes m ⟨#[33, 45, 45]⟩ ⟨#[45, 45]⟩ h1 (by decide) (minH 1) rfl rfl (by kernel_rfl)).mono ?_
      rintro e w' ⟨rfl, h2, h3⟩
      exact ⟨rfl, h2, _, h3, hsp, Or.inr (Or.inl ⟨rfl, rfl⟩)⟩
    · refine (inMark_yes m ⟨#[45, 45]⟩ ⟨#[45]⟩ h1 (by decide) (minH 2) rfl rfl (by kernel_rfl)).mono ?_
      rintro e w' ⟨rfl, h2, h3⟩
      exact ⟨rfl, h2, _, h3, hsp, Or.inr (Or.inr ⟨rfl, rfl⟩)⟩
    · exact inMark_end m ⟨#[45]⟩ ⟨#[]⟩ h1 (by decide) (minH 3) rfl rfl (by kernel_rfl)
  · rw [if_neg (by rw [beq_iff_eq]; exact hb)]
    have hn : ∀ c : UInt8, minH i = c → ((b.toNat : Int) != (c.toNat : Int)) = true := fun c hc => by
      rw [bne_iff_ne]
      intro e
      exact hb (by rw [hc]; exact UInt8.toNat_inj.1 (by omega))
    rcases hr with ⟨rfl, h1⟩ | ⟨rfl, h1⟩ | ⟨rfl, h1⟩
    · exact inMark_no m ⟨#[33, 45, 45]⟩ h1 (by decide) b (hn 33 rfl)
    · exact inMark_no m ⟨#[45, 45]⟩ h1 (by decide) b (hn 45 rfl)
    · exact inMark_no m ⟨#[45]⟩ h1 (by decide) b (hn 45 rfl)
end Go.Proofs.Ytbojbkpplejdmaa
namespace Go.Proofs.Ytbojbkpplejdmaa
open Go.RowKit

theorem kw_of {s : ByteArray} {L : List UInt8} (h : (s.toList == L) = true) (hL : kwdL.any (fun k => k == L) = true) : kwdH s.data.toList = true := by
  rw [beq_iff_eq] at h
  rw [← Lib.toList_data, h]
  exact hL
theorem kwd_flip (l : List UInt8) : kwdH l = kwdL.any (fun k => l == k) := by
  unfold kwdH
  induction kwdL with
  | nil => rfl
  | cons k r ih => rw [List.any_cons, List.any_cons, ih, Bool.beq_comm (a := k)]
set_option maxHeartbeats 8000000 in
set_option maxRecDepth 10000 in
theorem keyword_any (s : ByteArray) (w : World) :
    Calls Try.prog 79 #[.string s] w fun e w' => e = .returned (.bool (kwdH s.data.toList)) ∧ w = w' := by
  obtain ⟨v, hv⟩ : ∃ v, v = kwdH s.data.toList := ⟨_, rfl⟩
  rw [← hv]
  have HV := Lib.hid hv
  have HF : Hid (∀ L, (s.toList == L) = true → kwdL.any (fun k => k == L) = true → v = true) := Lib.hid fun L h hL => by rw [hv]; exact kw_of h hL
  clear hv
  go_enter Try.func79, Try.ntmps79
  go_wp2
  all_goals
    go_ret
    refine ⟨?_, rfl⟩
    first
      | (rw [HF.out _ (by assumption) (by rfl)]; rfl)
      | (rename_i h1 h2; rw [h1] at h2; cases h2; done)
      | (rw [HV.out, ← Lib.toList_data, kwd_flip]; unfold kwdL; simp only [*, List.any_cons, List.any_nil, Bool.or_false]; rfl)
end Go.Proofs.Ytbojbkpplejdmaa
namespace Go.Proofs.Ytbojbkpplejdmaa
open Go.RowKit

theorem signs_first (b : UInt8) : decide ((0 : Int) ≤ Go.firstIdx ⟨#[123, 125, 40, 41, 91, 93, 59, 44, 60, 62, 61, 33, 43, 45, 42, 37, 38, 124, 94, 126, 63, 58, 46]⟩ b) = sgnH b := by
  have := bytes_all (p := fun b => decide ((0 : Int) ≤ Go.firstIdx ⟨#[123, 125, 40, 41, 91, 93, 59, 44, 60, 62, 61, 33, 43, 45, 42, 37, 38, 124, 94, 126, 63, 58, 46]⟩ b) == sgnH b) (by kernel_rfl) b
  exact beq_iff_eq.1 this
theorem beg_ways (D : Nat) (h : Hs) (b : UInt8) {x : Int} (hx : x = (b.toNat : Int)) :
    (blkB b = true ∧ begH D h b = .go .z (brH h b))
    ∨ (blkB b = false ∧ innB b = true ∧ begH D h b = if joiH h then .no h else .go (.w (digB b) [b]) (pcH h))
    ∨ (blkB b = false ∧ innB b = false ∧ (x == 39) = true ∧ (b = 34 ∨ b = 39) ∧ begH D h b = if joiH h then .no h else .go (.t b false) (pcH h))
    ∨ (blkB b = false ∧ innB b = false ∧ (x == 39) = false ∧ (x == 34) = true ∧ (b = 34 ∨ b = 39) ∧ begH D h b = if joiH h then .no h else .go (.t b false) (pcH h))
    ∨ (blkB b = false ∧ innB b = false ∧ (x == 39) = false ∧ (x == 34) = false ∧ (x == 96) = true ∧ begH D h b = .go (.g false false) (pcH h))
    ∨ (blkB b = false ∧ innB b = false ∧ (x == 39) = false ∧ (x == 34) = false ∧ (x == 96) = false ∧ (x == 47) = true ∧ begH D h b = .go .s h)
    ∨ (blkB b = false ∧ innB b = false ∧ (x == 39) = false ∧ (x == 34) = false ∧ (x == 96) = false ∧ (x == 47) = false ∧ (x == 60) = true ∧ (h.pc == 0) = true ∧ begH D h b = .go (.x 1) h)
    ∨ (blkB b = false ∧ innB b = false ∧ (x == 39) = false ∧ (x == 34) = false ∧ (x == 96) = false ∧ (x == 47) = false ∧ (x == 60) = true ∧ (h.pc == 0) = false ∧ sgnH b = true ∧ begH D h b = sigH D (pcH h) b)
    ∨ (blkB b = false ∧ innB b = false ∧ (x == 39) = false ∧ (x == 34) = false ∧ (x == 96) = false ∧ (x == 47) = false ∧ (x == 60) = false ∧ sgnH b = true ∧ begH D h b = sigH D (pcH h) b)
    ∨ (blkB b = false ∧ innB b = false ∧ (x == 39) = false ∧ (x == 34) = false ∧ (x == 96) = false ∧ (x == 47) = false ∧ (x == 60) = false ∧ sgnH b = false ∧ begH D h b = .no h) := by
  subst hx
  cases e1 : blkB b
  case true => exact Or.inl ⟨rfl, by unfold begH; rw [e1]; rfl⟩
  cases e2 : innB b
  case true => exact Or.inr (Or.inl ⟨rfl, rfl, by unfold begH; rw [e1, e2]; rfl⟩)
  by_cases h1 : b = 39; · subst h1; exact Or.inr (Or.inr (Or.inl ⟨rfl, rfl, rfl, Or.inr rfl, rfl⟩))
  by_cases h2 : b = 34; · subst h2; exact Or.inr (Or.inr (Or.inr (Or.inl ⟨rfl, rfl, rfl, rfl, Or.inl rfl, rfl⟩)))
  by_cases h3 : b = 96; · subst h3; exact Or.inr (Or.inr (Or.inr (Or.inr (Or.inl ⟨rfl, rfl, rfl, rfl, rfl, rfl⟩))))
  by_cases h4 : b = 47; · subst h4; exact Or.inr (Or.inr (Or.inr (Or.inr (Or.inr (Or.inl ⟨rfl, rfl, rfl, rfl, rfl, rfl, rfl⟩)))))
  have q1 := iE (x := 39) rfl h1
  have q2 := iE (x := 34) rfl h2
  have q3 := iE (x := 96) rfl h3
  have q4 := iE (x := 47) rfl h4
  by_cases h5 : b = 60
  · subst h5
    cases hp : (h.pc == 0)
    · exact Or.inr (Or.inr (Or.inr (Or.inr (Or.inr (Or.inr (Or.inr (Or.inl ⟨rfl, rfl, q1, q2, q3, q4, rfl, rfl, rfl, by unfold begH; rw [hp]; rfl⟩)))))))
    · exact Or.inr (Or.inr (Or.inr (Or.inr (Or.inr (Or.inr (Or.inl ⟨rfl, rfl, q1, q2, q3, q4, rfl, rfl, by unfold begH; rw [hp]; rfl⟩))))))
  · have q5 := iE (x := 60) rfl h5
    cases e3 : sgnH b
    · exact Or.inr (Or.inr (Or.inr (Or.inr (Or.inr (Or.inr (Or.inr (Or.inr (Or.inr ⟨rfl, rfl, q1, q2, q3, q4, q5, rfl, by simp [begH, e1, e2, e3, h1, h2, h3, h4, h5]⟩))))))))
    · exact Or.inr (Or.inr (Or.inr (Or.inr (Or.inr (Or.inr (Or.inr (Or.inr (Or.inl ⟨rfl, rfl, q1, q2, q3, q4, q5, rfl, by simp [begH, e1, e2, e3, h1, h2, h3, h4, h5]⟩))))))))

set_option maxHeartbeats 4000000 in
set_option maxRecDepth 10000 in
theorem hbetween_any {w : World} {mb D : Nat} {sn pl : Int} {h : Hs} {r : Rg} (m : WasH w mb D sn pl h r) (hr : r.sp = 0) (b : UInt8) (hp : h.pc + 1 ≤ 4611686018427387904) (hf : h.en + 1 ≤ 4611686018427387904) :
    Calls Try.prog 55 #[mptr mb, .int .u8 (b.toNat : Int)] w fun e w' => e = .returned (.tuple #[]) ∧ SteH w w' mb D sn pl (begH D h b) := by
  have c3 := m.mac.c3
  have c5 := m.mac.c5
  have c8 := m.mac.c8
  have c10 := m.mac.c10
  have z5 := Blk.frozen m.mac 5
  have z8 := Blk.frozen m.mac 8
  have z10 := Blk.frozen m.mac 10
  have HE := Lib.hid (fun W => endsLine_any b W)
  have HT := Lib.hid (fun W => hparts_any b W)
  have HI := Lib.hid (fun W => inWords_any b W)
  have HX : Hid (∀ W, Calls Try.prog 73 #[.string ⟨#[123, 125, 40, 41, 91, 93, 59, 44, 60, 62, 61, 33, 43, 45, 42, 37, 38, 124, 94, 126, 63, 58, 46]⟩, .int .u8 (b.toNat : Int)] W fun e w' => e = .returned (.int .i64 (firstIdx ⟨#[123, 125, 40, 41, 91, 93, 59, 44, 60, 62, 61, 33, 43, 45, 42, 37, 38, 124, 94, 126, 63, 58, 46]⟩ b)) ∧ W = w') := Lib.hid (fun W => indexByte_any _ b W)
  have hsg := signs_first b
  have HB : Hid (SteH w (w.setCell ⟨mb, 8, none⟩ (.bool (h.br || lineB b))) mb D sn pl (.go .z (brH h b))) := Lib.hid ⟨(mv0 w mb).put1 _ _, _, m.s8 (h.br || lineB b), hr⟩
  have HN : Hid (SteH w (w.setCell ⟨mb, 5, none⟩ (.int .i64 13)) mb D sn pl (.no h)) := Lib.hid ⟨(mv0 w mb).put1 _ _, _, m.s5 13, rfl⟩
  have HS : Hid (SteH w (w.setCell ⟨mb, 5, none⟩ (.int .i64 4)) mb D sn pl (.go .s h)) := Lib.hid ⟨(mv0 w mb).put1 _ _, _, m.s5 4, rfl⟩
  have HM : Hid (SteH w ((w.setCell ⟨mb, 5, none⟩ (.int .i64 12)).setCell ⟨mb, 10, none⟩ (.string ⟨#[33, 45, 45]⟩)) mb D sn pl (.go (.x 1) h)) := Lib.hid ⟨((mv0 w mb).put1 _ _).put1 _ _, _, (m.s5 12).s10 ⟨#[33, 45, 45]⟩, rfl, Or.inl ⟨rfl, rfl⟩⟩
  have HW := Lib.hid (beginWord_any m b hp)
  have HQ : Hid ((b = 34 ∨ b = 39) → _) := Lib.hid (fun hb => beginText_any m b hb hp)
  have HG := Lib.hid (beginText_grave m hp)
  have HSg := Lib.hid (hsign_any m b hr hp hf)
  have hpc : (((h.pc : Nat) : Int) == 0) = (h.pc == 0) := by
    rw [Bool.eq_iff_iff, beq_iff_eq, beq_iff_eq]
    omega
  have hw := beg_ways D h b (x := (b.toNat : Int)) rfl
  obtain ⟨q, hq⟩ : ∃ q, q = begH D h b := ⟨_, rfl⟩
  rw [← hq] at hw ⊢
  clear m hr hq hp hf
  generalize firstIdx ⟨#[123, 125, 40, 41, 91, 93, 59, 44, 60, 62, 61, 33, 43, 45, 42, 37, 38, 124, 94, 126, 63, 58, 46]⟩ b = ix at *
  obtain ⟨q1, hq1⟩ : ∃ q1, q1 = if joiH h then Sh.no h else .go (.w (digB b) [b]) (pcH h) := ⟨_, rfl⟩
  rw [← hq1] at hw HW
  obtain ⟨q2, hq2⟩ : ∃ q2, q2 = if joiH h then Sh.no h else .go (.t b false) (pcH h) := ⟨_, rfl⟩
  rw [← hq2] at hw HQ
  obtain ⟨q3, hq3⟩ : ∃ q3, q3 = sigH D (pcH h) b := ⟨_, rfl⟩
  rw [← hq3] at hw HSg
  clear hq1 hq2 hq3
  rcases hw with ⟨h0, e⟩ | ⟨h0, h1, e⟩ | ⟨h0, h1, h2, hb, e⟩ | ⟨h0, h1, h2, h3, hb, e⟩ | ⟨h0, h1, h2, h3, h4, e⟩ | ⟨h0, h1, h2, h3, h4, h5, e⟩ | ⟨h0, h1, h2, h3, h4, h5, h6, h7, e⟩ | ⟨h0, h1, h2, h3, h4, h5, h6, h7, h8, e⟩ | ⟨h0, h1, h2, h3, h4, h5, h6, h8, e⟩ | ⟨h0, h1, h2, h3, h4, h5, h6, h8, e⟩
  case' inr.inr.inl => have HQ := Lib.hid (HQ.out hb); clear hb
  case' inr.inr.inr.inl => have HQ := Lib.hid (HQ.out hb); clear hb
  case' inr.inr.inr.inr.inl => have e96 : (b.toNat : Int) = 96 := by rw [beq_iff_eq] at h4; exact h4
  all_goals
    rw [e]
    clear e
    rw [h0] at HT
  case' inr.inr.inr.inr.inr.inr.inl => rw [h7] at hpc
  case' inr.inr.inr.inr.inr.inr.inr.inl => rw [h7] at hpc
  case' inr.inr.inr.inr.inr.inr.inr.inl => rw [h8] at hsg
  case' inr.inr.inr.inr.inr.inr.inr.inr.inl => rw [h8] at hsg
  case' inr.inr.inr.inr.inr.inr.inr.inr.inr => rw [h8] at hsg
  case inl =>
    generalize lineB b = lb at *
    generalize h.br = br at *
    cases br
    all_goals
      go_enter Try.func55, Try.ntmps55
      go_wp2_with (first
        | (go_at_call 70; (with_reducible refine (HT.out _).mono ?_); rintro e w1 ⟨rfl, rfl⟩)
        | (go_at_call 67; (with_reducible refine (HE.out _).mono ?_); rintro e w1 ⟨rfl, rfl⟩))
      go_end0
      exact ⟨rfl, HB.out⟩
  case' inr.inr.inr.inr.inl => simp only [e96] at HT HI ⊢; clear e96 h4
  all_goals
    rw [h1] at HI
    generalize (h.pc == 0) = pz at *
    generalize h.pc = pc at *
    generalize sgnH b = sg at *
    clear h1 h0
  all_goals
    go_enter Try.func55, Try.ntmps55
    go_wp2_with (first
      | (go_at_call 70; (with_reducible refine (HT.out _).mono ?_); rintro e w1 ⟨rfl, rfl⟩)
      | (go_at_call 63; (with_reducible refine (HI.out _).mono ?_); rintro e w1 ⟨rfl, rfl⟩)
      | (go_at_call 73; (with_reducible refine (HX.out _).mono ?_); rintro e w1 ⟨rfl, rfl⟩)
      | (go_at_call 71; (with_reducible refine HW.out.mono ?_); rintro e w1 ⟨rfl, hs⟩)
      | (go_at_call 72; (with_reducible refine HG.out.mono ?_); rintro e w1 ⟨rfl, hs⟩)
      | (go_at_call 72; (with_reducible refine HQ.out.mono ?_); rintro e w1 ⟨rfl, hs⟩)
      | (go_at_call 69; (with_reducible refine HSg.out.mono ?_); rintro e w1 ⟨rfl, hs⟩))
    go_end0
    first
      | exact ⟨rfl, hs⟩
      | exact ⟨rfl, HS.out⟩
      | exact ⟨rfl, HM.out⟩
      | exact ⟨rfl, HN.out⟩
end Go.Proofs.Ytbojbkpplejdmaa
