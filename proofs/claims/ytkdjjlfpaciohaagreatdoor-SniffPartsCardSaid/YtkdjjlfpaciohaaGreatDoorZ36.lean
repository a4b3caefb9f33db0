/-
  The laws SniffTypes, SniffStays and SniffParts. Condition: what an argument's reading gives.
  From a walk to the statement of a law that lists variables as they are laid: as Lift, with that condition handed on. Conditions: those of the lemma's hypotheses.
-/
import Derived.Test.YtkdjjlfpaciohaaGreatDoorZ35
import Derived.Test.YtkdjjlfpaciohaaGreatDoorZ11
import Derived.Deep.RegionHeld3
import Derived.Deep.DeepCutAuto
import Derived.Test.YtkdjjlfpaciohaaGreatDoorZ12
import Derived.LaidMore
import Derived.MakeChecks
import Derived.Stop.LaidErr
import Derived.Stop.Joined
namespace Go.Proofs.YtkdjjlfpaciohaaGreatDoor
open Go.RowKit

theorem sai_keep {w w2 W : World} {a0 a1 a2 a3 a4 a5 : Value} (h : SaiAt w #[a0, a1, a2, a3, a4, a5] w2) (hb : Below w2.heap.size w2 W) :
    W.cell? ⟨w.heap.size, 0, none⟩ = some a0 ∧ W.cell? ⟨w.heap.size, 1, none⟩ = some a1 ∧ W.cell? ⟨w.heap.size, 2, none⟩ = some a2 ∧ W.cell? ⟨w.heap.size, 3, none⟩ = some a3 ∧ W.cell? ⟨w.heap.size, 4, none⟩ = some a4 ∧ W.cell? ⟨w.heap.size, 5, none⟩ = some a5 := by
  have h2 := h.2.below hb h.2.lt
  exact ⟨h2.cell 0, h2.cell 1, h2.cell 2, h2.cell 3, h2.cell 4, h2.cell 5⟩

set_option maxHeartbeats 4000000 in
set_option maxRecDepth 100000 in
theorem sniffTypes_any (t u : ByteArray) (A : Option Addr) (n c : Nat) (lp : Nat → Prm) (has ns bug : Bool) (s : ByteArray) (w : World) (h : Came w A n lp) (ht : t.size ≤ 9223372036854775807) (hu : u.size ≤ 9223372036854775807) (hn : n ≤ 9223372036854775807) (hs : s.size ≤ 9223372036854775807) :
    Calls Tryz.prog 3 #[saidV t u A n c has ns bug, .string s] w fun e w' => e = .returned (.bool true) ∧ Below w.heap.size w w' := by
  obtain ⟨w0, hw0⟩ : ∃ w0, w0 = w.alloc (.cells #[.string t, .string u, .slice A n c, .bool has, .bool ns, .bool bug] 26) := ⟨_, rfl⟩
  have HX := Lib.hid (show SaiAt w #[.string t, .string u, .slice A n c, .bool has, .bool ns, .bool bug] w0 from ⟨by rw [hw0]; exact (Below.refl w.heap.size w).alloc (Nat.le_refl _) _, by rw [hw0]; exact Blk.new _ _ _⟩)
  have c0 := HX.out.2.cell 0
  have c1 := HX.out.2.cell 1
  have c2 := HX.out.2.cell 2
  have c3 := HX.out.2.cell 3
  have c4 := HX.out.2.cell 4
  have c5 := HX.out.2.cell 5
  have HF := Lib.hid (few21_first t u A n c lp has ns bug w0 (h.below (by rw [hw0]; exact (Below.refl w.heap.size w).alloc (Nat.le_refl _) _)) ht hu hn)
  have HCS : Hid (∀ W, Calls Tryz.prog 7 #[.string s, .int .i64 2000] W fun e w' => e = .returned (.string (cutB s 2000)) ∧ W = w') := Lib.hid fun W => cut_any s 2000 W hs
  have hcs := cutB_size s 2000
  have HW := Lib.hid (fewIs t u lp n)
  generalize cutB t 30 = t' at *
  generalize cutB u 30 = u' at *
  generalize fewK lp (min n 6) = ps at *
  generalize cutB s 2000 = z at *
  have h30 : t'.size ≤ 1048576 := Nat.le_trans HW.out.t (by decide)
  have h31 : u'.size ≤ 1048576 := Nat.le_trans HW.out.u (by decide)
  have hz : z.size ≤ 9223372036854775807 := by omega
  obtain ⟨x, hx⟩ : ∃ x, cutB z 1445 = x := ⟨_, rfl⟩
  obtain ⟨r1, r2, r3, r4, hr⟩ := Sgs.some x
  have HLV := Lib.hid lives21_any
  have HU := Lib.hid (fun W A c => sunknown_any t' u' A ps.length c has ns bug W h30 h31)
  have HE := Lib.hid (fun W A c => ressence_any t' u' A ps.length c W h30 h31)
  have HT := Lib.hid (fun W A c => stype21_any t' u' A ps.length c has ns bug z x r1 r2 r3 r4 W h30 h31 hz hx hr)
  have HRT := Lib.hid (fun W A c => rtype21_any t' u' A ps.length c has ns bug z x r1 r2 r3 r4 W h30 h31 hz hx hr)
  have HA := Lib.hid (fun W A c => sagrees_any t' u' A ps.length c has ns bug z x r1 r2 r3 r4 W h30 h31 hz hx hr)
  have HRU := Lib.hid (fun W A c => runknown_any t' u' A ps.length c has ns bug W h30 h31)
  have HFM := Lib.hid (fun W A c (hp : PsIn W A ps) => few21_again HW.out A c has ns bug W hp)
  generalize sniS t' u' has ns bug x r1 r2 r3 r4 = T at *
  generalize gEss t' u' = E at *
  generalize unkB t' u' has = k at *
  clear hr hx hz hcs h30 h31 h ht hu hn hs
  have e1 : (T.toList == T.toList) = true := by simp
  cases k <;> cases hq : (T.toList == E.toList)
  all_goals
    rw [hq] at HA
  all_goals
    as_aux_lemma =>
    go_enter Tryz.func3, Tryz.ntmps3
    go_wp2_with fail
    rw [← hw0]
    clear hw0
    refine HF.out.mono ?_
    rintro e w1 ⟨A', c', rfl, hp, b1⟩
    have hlt : w.heap.size < w0.heap.size := HX.out.2.lt
    have HX := Lib.hid (HX.out.step b1)
    have HO := Lib.hid hp
    clear hp b1 c0 c1 c2 c3 c4 c5 HF
    have c0 := HX.out.2.cell 0
    have c1 := HX.out.2.cell 1
    have c2 := HX.out.2.cell 2
    have c3 := HX.out.2.cell 3
    have c4 := HX.out.2.cell 4
    have c5 := HX.out.2.cell 5
    have z0 := HX.out.2.frozen 0
    have z1 := HX.out.2.frozen 1
    have z2 := HX.out.2.frozen 2
    have z3 := HX.out.2.frozen 3
    have z4 := HX.out.2.frozen 4
    have z5 := HX.out.2.frozen 5
    obtain ⟨w2, hw2⟩ : ∃ w2, w2 = ((((((w1.setCell ⟨w.heap.size, 0, none⟩ (.string t')).setCell ⟨w.heap.size, 1, none⟩ (.string u')).setCell ⟨w.heap.size, 2, none⟩ (.slice A' ps.length c')).setCell ⟨w.heap.size, 3, none⟩ (.bool has)).setCell ⟨w.heap.size, 4, none⟩ (.bool ns)).setCell ⟨w.heap.size, 5, none⟩ (.bool bug)) := ⟨_, rfl⟩
    have HX2 := Lib.hid (show SaiAt w #[.string t', .string u', .slice A' ps.length c', .bool has, .bool ns, .bool bug] w2 from ⟨by rw [hw2]; exact below_set6 HX.out.1 (Nat.le_refl _) _ _ _ _ _ _, by rw [hw2]; exact HX.out.2.set6 _ _ _ _ _ _⟩)
    have HPA := Lib.hid (show PsIn w2 A' ps from by
      have hm : Mv w1.heap.size [w.heap.size] w1 ((((((w1.setCell ⟨w.heap.size, 0, none⟩ (.string t')).setCell ⟨w.heap.size, 1, none⟩ (.string u')).setCell ⟨w.heap.size, 2, none⟩ (.slice A' ps.length c')).setCell ⟨w.heap.size, 3, none⟩ (.bool has)).setCell ⟨w.heap.size, 4, none⟩ (.bool ns)).setCell ⟨w.heap.size, 5, none⟩ (.bool bug)) := ((((((Mv.refl _ _ _).setCell (.inl (by simp)) _).setCell (.inl (by simp)) _).setCell (.inl (by simp)) _).setCell (.inl (by simp)) _).setCell (.inl (by simp)) _).setCell (.inl (by simp)) _
      obtain ⟨A2, c2, e2, p2⟩ := PsIn.of_own (own_keep HO.out hm (fun x hx => by simp at hx; omega))
      cases e2
      rw [hw2]
      exact p2)
    go_upto_region 2 with (go_at_call 7; (with_reducible refine (HCS.out _).mono ?_); rintro e w3 ⟨rfl, rfl⟩)
    rw [← hw2]
    clear hw2 HX HO c0 c1 c2 c3 c4 c5 z0 z1 z2 z3 z4 z5
    have HX := HX2
    clear HX2
    have c0 := HX.out.2.cell 0
    have c1 := HX.out.2.cell 1
    have c2 := HX.out.2.cell 2
    have c3 := HX.out.2.cell 3
    have c4 := HX.out.2.cell 4
    have c5 := HX.out.2.cell 5
    go_wp2_with fail
    refine (HRT.out _ _ _).mono ?_
    rintro e w9 ⟨rfl, b3⟩
    have HPA := Lib.hid (HPA.out.below b3)
    have HX := Lib.hid (HX.out.step b3)
    clear b3 c0 c1 c2 c3 c4 c5
    have c0 := HX.out.2.cell 0
    have c1 := HX.out.2.cell 1
    have c2 := HX.out.2.cell 2
    have c3 := HX.out.2.cell 3
    have c4 := HX.out.2.cell 4
    have c5 := HX.out.2.cell 5
    go_upto_region 3 with fail
    have HB := Lib.hid (Below.refl _ _ : Below w9.heap.size w9 w9)
    go_region_held3 (fun w' => w'.cell? ⟨w.heap.size, 0, none⟩ = some (.string t') ∧ w'.cell? ⟨w.heap.size, 1, none⟩ = some (.string u') ∧ w'.cell? ⟨w.heap.size, 2, none⟩ = some (.slice A' ps.length c') ∧ w'.cell? ⟨w.heap.size, 3, none⟩ = some (.bool has) ∧ w'.cell? ⟨w.heap.size, 4, none⟩ = some (.bool ns) ∧ w'.cell? ⟨w.heap.size, 5, none⟩ = some (.bool bug))
      (first | go_keep | exact sai_keep HX.out HB.out)
      (first
        | (go_at_call 6; (with_reducible refine (HFM.out _ A' c' (HPA.out.below (by first | exact HB.out | exact HB.out.drew))).mono ?_); rintro e w3 ⟨A3, c3', rfl, hp3, b3⟩
           have HB := Lib.hid (below_on (w := _) (by first | exact HB.out | exact HB.out.drew) b3)
           clear b3 hp3)
        | (go_at_call 9; (with_reducible refine (HT.out _ _ _).mono ?_); rintro e w3 ⟨rfl, b3⟩
           have HB := Lib.hid (below_on (w := _) (by first | exact HB.out | exact HB.out.drew) b3)
           clear b3)
        | (go_at_call 10; (with_reducible refine (HA.out _ _ _).mono ?_); rintro e w3 ⟨rfl, b3⟩
           have HB := Lib.hid (below_on (w := _) (by first | exact HB.out | exact HB.out.drew) b3)
           clear b3)
        | (go_at_call 12; (with_reducible refine (HU.out _ _ _).mono ?_); rintro e w3 ⟨rfl, b3⟩
           have HB := Lib.hid (below_on (w := _) (by first | exact HB.out | exact HB.out.drew) b3)
           clear b3)
        | (go_at_call 11; (with_reducible refine (HE.out _ _ _).mono ?_); rintro e w3 ⟨rfl, b3⟩
           have HB := Lib.hid (below_on (w := _) (by first | exact HB.out | exact HB.out.drew) b3)
           clear b3)
        | (go_at_call 13; (with_reducible refine (HRU.out _ _ _).mono ?_); rintro e w3 ⟨rfl, b3⟩
           have HB := Lib.hid (below_on (w := _) (by first | exact HB.out | exact HB.out.drew) b3)
           clear b3)
        | (go_at_call 14; (with_reducible refine (HLV.out _).mono ?_); rintro e w3 ⟨rfl, b3⟩
           have HB := Lib.hid (below_on (w := _) (by first | exact HB.out | exact HB.out.drew) b3)
           clear b3))
    all_goals
      go_wp2
      go_ret
      exact ⟨rfl, below_on HX.out.1 HB.out⟩

set_option maxHeartbeats 4000000 in
set_option maxRecDepth 100000 in
theorem sniffStays_any (t u : ByteArray) (A : Option Addr) (n c : Nat) (lp : Nat → Prm) (has ns bug : Bool) (s : ByteArray) (w : World) (h : Came w A n lp) (ht : t.size ≤ 9223372036854775807) (hu : u.size ≤ 9223372036854775807) (hn : n ≤ 9223372036854775807) (hs : s.size ≤ 9223372036854775807) :
    Calls Tryz.prog 5 #[saidV t u A n c has ns bug, .string s] w fun e w' => e = .returned (.bool true) ∧ Below w.heap.size w w' := by
  obtain ⟨w0, hw0⟩ : ∃ w0, w0 = w.alloc (.cells #[.string t, .string u, .slice A n c, .bool has, .bool ns, .bool bug] 26) := ⟨_, rfl⟩
  have HX := Lib.hid (show SaiAt w #[.string t, .string u, .slice A n c, .bool has, .bool ns, .bool bug] w0 from ⟨by rw [hw0]; exact (Below.refl w.heap.size w).alloc (Nat.le_refl _) _, by rw [hw0]; exact Blk.new _ _ _⟩)
  have c0 := HX.out.2.cell 0
  have c1 := HX.out.2.cell 1
  have c2 := HX.out.2.cell 2
  have c3 := HX.out.2.cell 3
  have c4 := HX.out.2.cell 4
  have c5 := HX.out.2.cell 5
  have HF := Lib.hid (few21_first t u A n c lp has ns bug w0 (h.below (by rw [hw0]; exact (Below.refl w.heap.size w).alloc (Nat.le_refl _) _)) ht hu hn)
  have HCS : Hid (∀ W, Calls Tryz.prog 7 #[.string s, .int .i64 2000] W fun e w' => e = .returned (.string (cutB s 2000)) ∧ W = w') := Lib.hid fun W => cut_any s 2000 W hs
  have hcs := cutB_size s 2000
  have HW := Lib.hid (fewIs t u lp n)
  generalize cutB t 30 = t' at *
  generalize cutB u 30 = u' at *
  generalize fewK lp (min n 6) = ps at *
  generalize cutB s 2000 = z at *
  have h30 : t'.size ≤ 1048576 := Nat.le_trans HW.out.t (by decide)
  have h31 : u'.size ≤ 1048576 := Nat.le_trans HW.out.u (by decide)
  have hz : z.size ≤ 9223372036854775807 := by omega
  obtain ⟨x, hx⟩ : ∃ x, cutB z 1445 = x := ⟨_, rfl⟩
  obtain ⟨r1, r2, r3, r4, hr⟩ := Sgs.some x
  have HLV := Lib.hid lives21_any
  have HU := Lib.hid (fun W A c => sunknown_any t' u' A ps.length c has ns bug W h30 h31)
  have HE := Lib.hid (fun W A c => ressence_any t' u' A ps.length c W h30 h31)
  have HT := Lib.hid (fun W A c => stype21_any t' u' A ps.length c has ns bug z x r1 r2 r3 r4 W h30 h31 hz hx hr)
  have HHH := Lib.hid (fun W A c => rgHtml_any t' u' A ps.length c W h30 h31)
  have HXX := Lib.hid (fun W A c => rgXml_any t' u' A ps.length c W h30 h31)
  have HFM := Lib.hid (fun W A c (hp : PsIn W A ps) => few21_again HW.out A c has ns bug W hp)
  have hst : unkB t' u' has = false → (htmlG t' u' || (xmlG t' u' || ns)) = true → sniS t' u' has ns bug x r1 r2 r3 r4 = gEss t' u' := fun a b => sniA_stays a b
  generalize sniS t' u' has ns bug x r1 r2 r3 r4 = T at *
  generalize gEss t' u' = E at *
  generalize unkB t' u' has = k at *
  generalize htmlG t' u' = bh at *
  generalize xmlG t' u' = bx at *
  clear hr hx hz hcs h30 h31 h ht hu hn hs
  have e1 : (E.toList == E.toList) = true := by simp
  have hway : k = true ∨ (k = false ∧ bh = false ∧ bx = false ∧ ns = false) ∨ (k = false ∧ bh = true ∧ T = E) ∨ (k = false ∧ bh = false ∧ bx = true ∧ T = E) ∨ (k = false ∧ bh = false ∧ bx = false ∧ ns = true ∧ T = E) := by
    cases k
    · cases bh
      · cases bx
        · cases ns
          · exact .inr (.inl ⟨rfl, rfl, rfl, rfl⟩)
          · exact .inr (.inr (.inr (.inr ⟨rfl, rfl, rfl, rfl, hst rfl rfl⟩)))
        · exact .inr (.inr (.inr (.inl ⟨rfl, rfl, rfl, hst rfl (by simp)⟩)))
      · exact .inr (.inr (.inl ⟨rfl, rfl, hst rfl (by simp)⟩))
    · exact .inl rfl
  clear hst
  rcases hway with rfl | ⟨rfl, rfl, rfl, rfl⟩ | ⟨rfl, rfl, rfl⟩ | ⟨rfl, rfl, rfl, rfl⟩ | ⟨rfl, rfl, rfl, rfl, rfl⟩
  · as_aux_lemma =>
    go_enter Tryz.func5, Tryz.ntmps5
    go_wp2_with fail
    rw [← hw0]
    clear hw0
    refine HF.out.mono ?_
    rintro e w1 ⟨A', c', rfl, hp, b1⟩
    have hlt : w.heap.size < w0.heap.size := HX.out.2.lt
    have HX := Lib.hid (HX.out.step b1)
    have HO := Lib.hid hp
    clear hp b1 c0 c1 c2 c3 c4 c5 HF
    have c0 := HX.out.2.cell 0
    have c1 := HX.out.2.cell 1
    have c2 := HX.out.2.cell 2
    have c3 := HX.out.2.cell 3
    have c4 := HX.out.2.cell 4
    have c5 := HX.out.2.cell 5
    have z0 := HX.out.2.frozen 0
    have z1 := HX.out.2.frozen 1
    have z2 := HX.out.2.frozen 2
    have z3 := HX.out.2.frozen 3
    have z4 := HX.out.2.frozen 4
    have z5 := HX.out.2.frozen 5
    obtain ⟨w2, hw2⟩ : ∃ w2, w2 = ((((((w1.setCell ⟨w.heap.size, 0, none⟩ (.string t')).setCell ⟨w.heap.size, 1, none⟩ (.string u')).setCell ⟨w.heap.size, 2, none⟩ (.slice A' ps.length c')).setCell ⟨w.heap.size, 3, none⟩ (.bool has)).setCell ⟨w.heap.size, 4, none⟩ (.bool ns)).setCell ⟨w.heap.size, 5, none⟩ (.bool bug)) := ⟨_, rfl⟩
    have HX2 := Lib.hid (show SaiAt w #[.string t', .string u', .slice A' ps.length c', .bool has, .bool ns, .bool bug] w2 from ⟨by rw [hw2]; exact below_set6 HX.out.1 (Nat.le_refl _) _ _ _ _ _ _, by rw [hw2]; exact HX.out.2.set6 _ _ _ _ _ _⟩)
    have HPA := Lib.hid (show PsIn w2 A' ps from by
      have hm : Mv w1.heap.size [w.heap.size] w1 ((((((w1.setCell ⟨w.heap.size, 0, none⟩ (.string t')).setCell ⟨w.heap.size, 1, none⟩ (.string u')).setCell ⟨w.heap.size, 2, none⟩ (.slice A' ps.length c')).setCell ⟨w.heap.size, 3, none⟩ (.bool has)).setCell ⟨w.heap.size, 4, none⟩ (.bool ns)).setCell ⟨w.heap.size, 5, none⟩ (.bool bug)) := ((((((Mv.refl _ _ _).setCell (.inl (by simp)) _).setCell (.inl (by simp)) _).setCell (.inl (by simp)) _).setCell (.inl (by simp)) _).setCell (.inl (by simp)) _).setCell (.inl (by simp)) _
      obtain ⟨A2, c2, e2, p2⟩ := PsIn.of_own (own_keep HO.out hm (fun x hx => by simp at hx; omega))
      cases e2
      rw [hw2]
      exact p2)
    go_upto_region 2 with (go_at_call 7; (with_reducible refine (HCS.out _).mono ?_); rintro e w3 ⟨rfl, rfl⟩)
    rw [← hw2]
    clear hw2 HX HO c0 c1 c2 c3 c4 c5 z0 z1 z2 z3 z4 z5
    have HX := HX2
    clear HX2
    have c0 := HX.out.2.cell 0
    have c1 := HX.out.2.cell 1
    have c2 := HX.out.2.cell 2
    have c3 := HX.out.2.cell 3
    have c4 := HX.out.2.cell 4
    have c5 := HX.out.2.cell 5
    go_wp2_with (first
      | (go_at_call 6; (with_reducible refine (HFM.out _ A' c' HPA.out).mono ?_); rintro e w3 ⟨A3, c3', rfl, hp3, b3⟩; have HPA := Lib.hid (HPA.out.below b3); have HX := Lib.hid (HX.out.step b3); clear b3 hp3 c0 c1 c2 c3 c4 c5; have c0 := HX.out.2.cell 0; have c1 := HX.out.2.cell 1; have c2 := HX.out.2.cell 2; have c3 := HX.out.2.cell 3; have c4 := HX.out.2.cell 4; have c5 := HX.out.2.cell 5)
      | (go_at_call 12; (with_reducible refine (HU.out _ _ _).mono ?_); rintro e w3 ⟨rfl, b3⟩; have HPA := Lib.hid (HPA.out.below b3); have HX := Lib.hid (HX.out.step b3); clear b3 c0 c1 c2 c3 c4 c5; have c0 := HX.out.2.cell 0; have c1 := HX.out.2.cell 1; have c2 := HX.out.2.cell 2; have c3 := HX.out.2.cell 3; have c4 := HX.out.2.cell 4; have c5 := HX.out.2.cell 5)
      | (go_at_call 21; (with_reducible refine (HHH.out _ _ _).mono ?_); rintro e w3 ⟨rfl, b3⟩; have HPA := Lib.hid (HPA.out.below b3); have HX := Lib.hid (HX.out.step b3); clear b3 c0 c1 c2 c3 c4 c5; have c0 := HX.out.2.cell 0; have c1 := HX.out.2.cell 1; have c2 := HX.out.2.cell 2; have c3 := HX.out.2.cell 3; have c4 := HX.out.2.cell 4; have c5 := HX.out.2.cell 5)
      | (go_at_call 22; (with_reducible refine (HXX.out _ _ _).mono ?_); rintro e w3 ⟨rfl, b3⟩; have HPA := Lib.hid (HPA.out.below b3); have HX := Lib.hid (HX.out.step b3); clear b3 c0 c1 c2 c3 c4 c5; have c0 := HX.out.2.cell 0; have c1 := HX.out.2.cell 1; have c2 := HX.out.2.cell 2; have c3 := HX.out.2.cell 3; have c4 := HX.out.2.cell 4; have c5 := HX.out.2.cell 5)
      | (go_at_call 14; (with_reducible refine (HLV.out _).mono ?_); rintro e w3 ⟨rfl, b3⟩; have HPA := Lib.hid (HPA.out.below b3); have HX := Lib.hid (HX.out.step b3); clear b3 c0 c1 c2 c3 c4 c5; have c0 := HX.out.2.cell 0; have c1 := HX.out.2.cell 1; have c2 := HX.out.2.cell 2; have c3 := HX.out.2.cell 3; have c4 := HX.out.2.cell 4; have c5 := HX.out.2.cell 5))
    go_ret
    exact ⟨rfl, HX.out.1⟩
  · as_aux_lemma =>
    go_enter Tryz.func5, Tryz.ntmps5
    go_wp2_with fail
    rw [← hw0]
    clear hw0
    refine HF.out.mono ?_
    rintro e w1 ⟨A', c', rfl, hp, b1⟩
    have hlt : w.heap.size < w0.heap.size := HX.out.2.lt
    have HX := Lib.hid (HX.out.step b1)
    have HO := Lib.hid hp
    clear hp b1 c0 c1 c2 c3 c4 c5 HF
    have c0 := HX.out.2.cell 0
    have c1 := HX.out.2.cell 1
    have c2 := HX.out.2.cell 2
    have c3 := HX.out.2.cell 3
    have c4 := HX.out.2.cell 4
    have c5 := HX.out.2.cell 5
    have z0 := HX.out.2.frozen 0
    have z1 := HX.out.2.frozen 1
    have z2 := HX.out.2.frozen 2
    have z3 := HX.out.2.frozen 3
    have z4 := HX.out.2.frozen 4
    have z5 := HX.out.2.frozen 5
    obtain ⟨w2, hw2⟩ : ∃ w2, w2 = ((((((w1.setCell ⟨w.heap.size, 0, none⟩ (.string t')).setCell ⟨w.heap.size, 1, none⟩ (.string u')).setCell ⟨w.heap.size, 2, none⟩ (.slice A' ps.length c')).setCell ⟨w.heap.size, 3, none⟩ (.bool has)).setCell ⟨w.heap.size, 4, none⟩ (.bool false)).setCell ⟨w.heap.size, 5, none⟩ (.bool bug)) := ⟨_, rfl⟩
    have HX2 := Lib.hid (show SaiAt w #[.string t', .string u', .slice A' ps.length c', .bool has, .bool false, .bool bug] w2 from ⟨by rw [hw2]; exact below_set6 HX.out.1 (Nat.le_refl _) _ _ _ _ _ _, by rw [hw2]; exact HX.out.2.set6 _ _ _ _ _ _⟩)
    have HPA := Lib.hid (show PsIn w2 A' ps from by
      have hm : Mv w1.heap.size [w.heap.size] w1 ((((((w1.setCell ⟨w.heap.size, 0, none⟩ (.string t')).setCell ⟨w.heap.size, 1, none⟩ (.string u')).setCell ⟨w.heap.size, 2, none⟩ (.slice A' ps.length c')).setCell ⟨w.heap.size, 3, none⟩ (.bool has)).setCell ⟨w.heap.size, 4, none⟩ (.bool false)).setCell ⟨w.heap.size, 5, none⟩ (.bool bug)) := ((((((Mv.refl _ _ _).setCell (.inl (by simp)) _).setCell (.inl (by simp)) _).setCell (.inl (by simp)) _).setCell (.inl (by simp)) _).setCell (.inl (by simp)) _).setCell (.inl (by simp)) _
      obtain ⟨A2, c2, e2, p2⟩ := PsIn.of_own (own_keep HO.out hm (fun x hx => by simp at hx; omega))
      cases e2
      rw [hw2]
      exact p2)
    go_upto_region 2 with (go_at_call 7; (with_reducible refine (HCS.out _).mono ?_); rintro e w3 ⟨rfl, rfl⟩)
    rw [← hw2]
    clear hw2 HX HO c0 c1 c2 c3 c4 c5 z0 z1 z2 z3 z4 z5
    have HX := HX2
    clear HX2
    have c0 := HX.out.2.cell 0
    have c1 := HX.out.2.cell 1
    have c2 := HX.out.2.cell 2
    have c3 := HX.out.2.cell 3
    have c4 := HX.out.2.cell 4
    have c5 := HX.out.2.cell 5
    go_wp2_with (first
      | (go_at_call 6; (with_reducible refine (HFM.out _ A' c' HPA.out).mono ?_); rintro e w3 ⟨A3, c3', rfl, hp3, b3⟩; have HPA := Lib.hid (HPA.out.below b3); have HX := Lib.hid (HX.out.step b3); clear b3 hp3 c0 c1 c2 c3 c4 c5; have c0 := HX.out.2.cell 0; have c1 := HX.out.2.cell 1; have c2 := HX.out.2.cell 2; have c3 := HX.out.2.cell 3; have c4 := HX.out.2.cell 4; have c5 := HX.out.2.cell 5)
      | (go_at_call 12; (with_reducible refine (HU.out _ _ _).mono ?_); rintro e w3 ⟨rfl, b3⟩; have HPA := Lib.hid (HPA.out.below b3); have HX := Lib.hid (HX.out.step b3); clear b3 c0 c1 c2 c3 c4 c5; have c0 := HX.out.2.cell 0; have c1 := HX.out.2.cell 1; have c2 := HX.out.2.cell 2; have c3 := HX.out.2.cell 3; have c4 := HX.out.2.cell 4; have c5 := HX.out.2.cell 5)
      | (go_at_call 21; (with_reducible refine (HHH.out _ _ _).mono ?_); rintro e w3 ⟨rfl, b3⟩; have HPA := Lib.hid (HPA.out.below b3); have HX := Lib.hid (HX.out.step b3); clear b3 c0 c1 c2 c3 c4 c5; have c0 := HX.out.2.cell 0; have c1 := HX.out.2.cell 1; have c2 := HX.out.2.cell 2; have c3 := HX.out.2.cell 3; have c4 := HX.out.2.cell 4; have c5 := HX.out.2.cell 5)
      | (go_at_call 22; (with_reducible refine (HXX.out _ _ _).mono ?_); rintro e w3 ⟨rfl, b3⟩; have HPA := Lib.hid (HPA.out.below b3); have HX := Lib.hid (HX.out.step b3); clear b3 c0 c1 c2 c3 c4 c5; have c0 := HX.out.2.cell 0; have c1 := HX.out.2.cell 1; have c2 := HX.out.2.cell 2; have c3 := HX.out.2.cell 3; have c4 := HX.out.2.cell 4; have c5 := HX.out.2.cell 5)
      | (go_at_call 14; (with_reducible refine (HLV.out _).mono ?_); rintro e w3 ⟨rfl, b3⟩; have HPA := Lib.hid (HPA.out.below b3); have HX := Lib.hid (HX.out.step b3); clear b3 c0 c1 c2 c3 c4 c5; have c0 := HX.out.2.cell 0; have c1 := HX.out.2.cell 1; have c2 := HX.out.2.cell 2; have c3 := HX.out.2.cell 3; have c4 := HX.out.2.cell 4; have c5 := HX.out.2.cell 5))
    go_ret
    exact ⟨rfl, HX.out.1⟩
  · as_aux_lemma =>
    go_enter Tryz.func5, Tryz.ntmps5
    go_wp2_with fail
    rw [← hw0]
    clear hw0
    refine HF.out.mono ?_
    rintro e w1 ⟨A', c', rfl, hp, b1⟩
    have hlt : w.heap.size < w0.heap.size := HX.out.2.lt
    have HX := Lib.hid (HX.out.step b1)
    have HO := Lib.hid hp
    clear hp b1 c0 c1 c2 c3 c4 c5 HF
    have c0 := HX.out.2.cell 0
    have c1 := HX.out.2.cell 1
    have c2 := HX.out.2.cell 2
    have c3 := HX.out.2.cell 3
    have c4 := HX.out.2.cell 4
    have c5 := HX.out.2.cell 5
    have z0 := HX.out.2.frozen 0
    have z1 := HX.out.2.frozen 1
    have z2 := HX.out.2.frozen 2
    have z3 := HX.out.2.frozen 3
    have z4 := HX.out.2.frozen 4
    have z5 := HX.out.2.frozen 5
    obtain ⟨w2, hw2⟩ : ∃ w2, w2 = ((((((w1.setCell ⟨w.heap.size, 0, none⟩ (.string t')).setCell ⟨w.heap.size, 1, none⟩ (.string u')).setCell ⟨w.heap.size, 2, none⟩ (.slice A' ps.length c')).setCell ⟨w.heap.size, 3, none⟩ (.bool has)).setCell ⟨w.heap.size, 4, none⟩ (.bool ns)).setCell ⟨w.heap.size, 5, none⟩ (.bool bug)) := ⟨_, rfl⟩
    have HX2 := Lib.hid (show SaiAt w #[.string t', .string u', .slice A' ps.length c', .bool has, .bool ns, .bool bug] w2 from ⟨by rw [hw2]; exact below_set6 HX.out.1 (Nat.le_refl _) _ _ _ _ _ _, by rw [hw2]; exact HX.out.2.set6 _ _ _ _ _ _⟩)
    have HPA := Lib.hid (show PsIn w2 A' ps from by
      have hm : Mv w1.heap.size [w.heap.size] w1 ((((((w1.setCell ⟨w.heap.size, 0, none⟩ (.string t')).setCell ⟨w.heap.size, 1, none⟩ (.string u')).setCell ⟨w.heap.size, 2, none⟩ (.slice A' ps.length c')).setCell ⟨w.heap.size, 3, none⟩ (.bool has)).setCell ⟨w.heap.size, 4, none⟩ (.bool ns)).setCell ⟨w.heap.size, 5, none⟩ (.bool bug)) := ((((((Mv.refl _ _ _).setCell (.inl (by simp)) _).setCell (.inl (by simp)) _).setCell (.inl (by simp)) _).setCell (.inl (by simp)) _).setCell (.inl (by simp)) _).setCell (.inl (by simp)) _
      obtain ⟨A2, c2, e2, p2⟩ := PsIn.of_own (own_keep HO.out hm (fun x hx => by simp at hx; omega))
      cases e2
      rw [hw2]
      exact p2)
    go_upto_region 2 with (go_at_call 7; (with_reducible refine (HCS.out _).mono ?_); rintro e w3 ⟨rfl, rfl⟩)
    rw [← hw2]
    clear hw2 HX HO c0 c1 c2 c3 c4 c5 z0 z1 z2 z3 z4 z5
    have HX := HX2
    clear HX2
    have c0 := HX.out.2.cell 0
    have c1 := HX.out.2.cell 1
    have c2 := HX.out.2.cell 2
    have c3 := HX.out.2.cell 3
    have c4 := HX.out.2.cell 4
    have c5 := HX.out.2.cell 5
    go_upto_region 4 with (first
      | (go_at_call 6; (with_reducible refine (HFM.out _ A' c' HPA.out).mono ?_); rintro e w3 ⟨A3, c3', rfl, hp3, b3⟩; have HPA := Lib.hid (HPA.out.below b3); have HX := Lib.hid (HX.out.step b3); clear b3 hp3 c0 c1 c2 c3 c4 c5; have c0 := HX.out.2.cell 0; have c1 := HX.out.2.cell 1; have c2 := HX.out.2.cell 2; have c3 := HX.out.2.cell 3; have c4 := HX.out.2.cell 4; have c5 := HX.out.2.cell 5)
      | (go_at_call 12; (with_reducible refine (HU.out _ _ _).mono ?_); rintro e w3 ⟨rfl, b3⟩; have HPA := Lib.hid (HPA.out.below b3); have HX := Lib.hid (HX.out.step b3); clear b3 c0 c1 c2 c3 c4 c5; have c0 := HX.out.2.cell 0; have c1 := HX.out.2.cell 1; have c2 := HX.out.2.cell 2; have c3 := HX.out.2.cell 3; have c4 := HX.out.2.cell 4; have c5 := HX.out.2.cell 5)
      | (go_at_call 21; (with_reducible refine (HHH.out _ _ _).mono ?_); rintro e w3 ⟨rfl, b3⟩; have HPA := Lib.hid (HPA.out.below b3); have HX := Lib.hid (HX.out.step b3); clear b3 c0 c1 c2 c3 c4 c5; have c0 := HX.out.2.cell 0; have c1 := HX.out.2.cell 1; have c2 := HX.out.2.cell 2; have c3 := HX.out.2.cell 3; have c4 := HX.out.2.cell 4; have c5 := HX.out.2.cell 5)
      | (go_at_call 22; (with_reducible refine (HXX.out _ _ _).mono ?_); rintro e w3 ⟨rfl, b3⟩; have HPA := Lib.hid (HPA.out.below b3); have HX := Lib.hid (HX.out.step b3); clear b3 c0 c1 c2 c3 c4 c5; have c0 := HX.out.2.cell 0; have c1 := HX.out.2.cell 1; have c2 := HX.out.2.cell 2; have c3 := HX.out.2.cell 3; have c4 := HX.out.2.cell 4; have c5 := HX.out.2.cell 5)
      | (go_at_call 14; (with_reducible refine (HLV.out _).mono ?_); rintro e w3 ⟨rfl, b3⟩; have HPA := Lib.hid (HPA.out.below b3); have HX := Lib.hid (HX.out.step b3); clear b3 c0 c1 c2 c3 c4 c5; have c0 := HX.out.2.cell 0; have c1 := HX.out.2.cell 1; have c2 := HX.out.2.cell 2; have c3 := HX.out.2.cell 3; have c4 := HX.out.2.cell 4; have c5 := HX.out.2.cell 5))
    have HB := Lib.hid (Below.refl _ _ : Below w3.heap.size w3 w3)
    go_region_held3 (fun w' => w'.cell? ⟨w.heap.size, 0, none⟩ = some (.string t') ∧ w'.cell? ⟨w.heap.size, 1, none⟩ = some (.string u') ∧ w'.cell? ⟨w.heap.size, 2, none⟩ = some (.slice A' ps.length c') ∧ w'.cell? ⟨w.heap.size, 3, none⟩ = some (.bool has) ∧ w'.cell? ⟨w.heap.size, 4, none⟩ = some (.bool ns) ∧ w'.cell? ⟨w.heap.size, 5, none⟩ = some (.bool bug))
      (first | go_keep | exact sai_keep HX.out HB.out)
      (first
        | (go_at_call 6; (with_reducible refine (HFM.out _ A' c' (HPA.out.below (by first | exact HB.out | exact HB.out.drew))).mono ?_); rintro e w3 ⟨A3, c3', rfl, hp3, b3⟩
           have HB := Lib.hid (below_on (w := _) (by first | exact HB.out | exact HB.out.drew) b3)
           clear b3 hp3)
        | (go_at_call 9; (with_reducible refine (HT.out _ _ _).mono ?_); rintro e w3 ⟨rfl, b3⟩
           have HB := Lib.hid (below_on (w := _) (by first | exact HB.out | exact HB.out.drew) b3)
           clear b3)
        | (go_at_call 11; (with_reducible refine (HE.out _ _ _).mono ?_); rintro e w3 ⟨rfl, b3⟩
           have HB := Lib.hid (below_on (w := _) (by first | exact HB.out | exact HB.out.drew) b3)
           clear b3)
        | (go_at_call 14; (with_reducible refine (HLV.out _).mono ?_); rintro e w3 ⟨rfl, b3⟩
           have HB := Lib.hid (below_on (w := _) (by first | exact HB.out | exact HB.out.drew) b3)
           clear b3))
    all_goals
      go_wp2
      go_ret
      exact ⟨rfl, below_on HX.out.1 HB.out⟩
  · as_aux_lemma =>
    go_enter Tryz.func5, Tryz.ntmps5
    go_wp2_with fail
    rw [← hw0]
    clear hw0
    refine HF.out.mono ?_
    rintro e w1 ⟨A', c', rfl, hp, b1⟩
    have hlt : w.heap.size < w0.heap.size := HX.out.2.lt
    have HX := Lib.hid (HX.out.step b1)
    have HO := Lib.hid hp
    clear hp b1 c0 c1 c2 c3 c4 c5 HF
    have c0 := HX.out.2.cell 0
    have c1 := HX.out.2.cell 1
    have c2 := HX.out.2.cell 2
    have c3 := HX.out.2.cell 3
    have c4 := HX.out.2.cell 4
    have c5 := HX.out.2.cell 5
    have z0 := HX.out.2.frozen 0
    have z1 := HX.out.2.frozen 1
    have z2 := HX.out.2.frozen 2
    have z3 := HX.out.2.frozen 3
    have z4 := HX.out.2.frozen 4
    have z5 := HX.out.2.frozen 5
    obtain ⟨w2, hw2⟩ : ∃ w2, w2 = ((((((w1.setCell ⟨w.heap.size, 0, none⟩ (.string t')).setCell ⟨w.heap.size, 1, none⟩ (.string u')).setCell ⟨w.heap.size, 2, none⟩ (.slice A' ps.length c')).setCell ⟨w.heap.size, 3, none⟩ (.bool has)).setCell ⟨w.heap.size, 4, none⟩ (.bool ns)).setCell ⟨w.heap.size, 5, none⟩ (.bool bug)) := ⟨_, rfl⟩
    have HX2 := Lib.hid (show SaiAt w #[.string t', .string u', .slice A' ps.length c', .bool has, .bool ns, .bool bug] w2 from ⟨by rw [hw2]; exact below_set6 HX.out.1 (Nat.le_refl _) _ _ _ _ _ _, by rw [hw2]; exact HX.out.2.set6 _ _ _ _ _ _⟩)
    have HPA := Lib.hid (show PsIn w2 A' ps from by
      have hm : Mv w1.heap.size [w.heap.size] w1 ((((((w1.setCell ⟨w.heap.size, 0, none⟩ (.string t')).setCell ⟨w.heap.size, 1, none⟩ (.string u')).setCell ⟨w.heap.size, 2, none⟩ (.slice A' ps.length c')).setCell ⟨w.heap.size, 3, none⟩ (.bool has)).setCell ⟨w.heap.size, 4, none⟩ (.bool ns)).setCell ⟨w.heap.size, 5, none⟩ (.bool bug)) := ((((((Mv.refl _ _ _).setCell (.inl (by simp)) _).setCell (.inl (by simp)) _).setCell (.inl (by simp)) _).setCell (.inl (by simp)) _).setCell (.inl (by simp)) _).setCell (.inl (by simp)) _
      obtain ⟨A2, c2, e2, p2⟩ := PsIn.of_own (own_keep HO.out hm (fun x hx => by simp at hx; omega))
      cases e2
      rw [hw2]
      exact p2)
    go_upto_region 2 with (go_at_call 7; (with_reducible refine (HCS.out _).mono ?_); rintro e w3 ⟨rfl, rfl⟩)
    rw [← hw2]
    clear hw2 HX HO c0 c1 c2 c3 c4 c5 z0 z1 z2 z3 z4 z5
    have HX := HX2
    clear HX2
    have c0 := HX.out.2.cell 0
    have c1 := HX.out.2.cell 1
    have c2 := HX.out.2.cell 2
    have c3 := HX.out.2.cell 3
    have c4 := HX.out.2.cell 4
    have c5 := HX.out.2.cell 5
    go_upto_region 4 with (first
      | (go_at_call 6; (with_reducible refine (HFM.out _ A' c' HPA.out).mono ?_); rintro e w3 ⟨A3, c3', rfl, hp3, b3⟩; have HPA := Lib.hid (HPA.out.below b3); have HX := Lib.hid (HX.out.step b3); clear b3 hp3 c0 c1 c2 c3 c4 c5; have c0 := HX.out.2.cell 0; have c1 := HX.out.2.cell 1; have c2 := HX.out.2.cell 2; have c3 := HX.out.2.cell 3; have c4 := HX.out.2.cell 4; have c5 := HX.out.2.cell 5)
      | (go_at_call 12; (with_reducible refine (HU.out _ _ _).mono ?_); rintro e w3 ⟨rfl, b3⟩; have HPA := Lib.hid (HPA.out.below b3); have HX := Lib.hid (HX.out.step b3); clear b3 c0 c1 c2 c3 c4 c5; have c0 := HX.out.2.cell 0; have c1 := HX.out.2.cell 1; have c2 := HX.out.2.cell 2; have c3 := HX.out.2.cell 3; have c4 := HX.out.2.cell 4; have c5 := HX.out.2.cell 5)
      | (go_at_call 21; (with_reducible refine (HHH.out _ _ _).mono ?_); rintro e w3 ⟨rfl, b3⟩; have HPA := Lib.hid (HPA.out.below b3); have HX := Lib.hid (HX.out.step b3); clear b3 c0 c1 c2 c3 c4 c5; have c0 := HX.out.2.cell 0; have c1 := HX.out.2.cell 1; have c2 := HX.out.2.cell 2; have c3 := HX.out.2.cell 3; have c4 := HX.out.2.cell 4; have c5 := HX.out.2.cell 5)
      | (go_at_call 22; (with_reducible refine (HXX.out _ _ _).mono ?_); rintro e w3 ⟨rfl, b3⟩; have HPA := Lib.hid (HPA.out.below b3); have HX := Lib.hid (HX.out.step b3); clear b3 c0 c1 c2 c3 c4 c5; have c0 := HX.out.2.cell 0; have c1 := HX.out.2.cell 1; have c2 := HX.out.2.cell 2; have c3 := HX.out.2.cell 3; have c4 := HX.out.2.cell 4; have c5 := HX.out.2.cell 5)
      | (go_at_call 14; (with_reducible refine (HLV.out _).mono ?_); rintro e w3 ⟨rfl, b3⟩; have HPA := Lib.hid (HPA.out.below b3); have HX := Lib.hid (HX.out.step b3); clear b3 c0 c1 c2 c3 c4 c5; have c0 := HX.out.2.cell 0; have c1 := HX.out.2.cell 1; have c2 := HX.out.2.cell 2; have c3 := HX.out.2.cell 3; have c4 := HX.out.2.cell 4; have c5 := HX.out.2.cell 5))
    have HB := Lib.hid (Below.refl _ _ : Below w3.heap.size w3 w3)
    go_region_held3 (fun w' => w'.cell? ⟨w.heap.size, 0, none⟩ = some (.string t') ∧ w'.cell? ⟨w.heap.size, 1, none⟩ = some (.string u') ∧ w'.cell? ⟨w.heap.size, 2, none⟩ = some (.slice A' ps.length c') ∧ w'.cell? ⟨w.heap.size, 3, none⟩ = some (.bool has) ∧ w'.cell? ⟨w.heap.size, 4, none⟩ = some (.bool ns) ∧ w'.cell? ⟨w.heap.size, 5, none⟩ = some (.bool bug))
      (first | go_keep | exact sai_keep HX.out HB.out)
      (first
        | (go_at_call 6; (with_reducible refine (HFM.out _ A' c' (HPA.out.below (by first | exact HB.out | exact HB.out.drew))).mono ?_); rintro e w3 ⟨A3, c3', rfl, hp3, b3⟩
           have HB := Lib.hid (below_on (w := _) (by first | exact HB.out | exact HB.out.drew) b3)
           clear b3 hp3)
        | (go_at_call 9; (with_reducible refine (HT.out _ _ _).mono ?_); rintro e w3 ⟨rfl, b3⟩
           have HB := Lib.hid (below_on (w := _) (by first | exact HB.out | exact HB.out.drew) b3)
           clear b3)
        | (go_at_call 11; (with_reducible refine (HE.out _ _ _).mono ?_); rintro e w3 ⟨rfl, b3⟩
           have HB := Lib.hid (below_on (w := _) (by first | exact HB.out | exact HB.out.drew) b3)
           clear b3)
        | (go_at_call 14; (with_reducible refine (HLV.out _).mono ?_); rintro e w3 ⟨rfl, b3⟩
           have HB := Lib.hid (below_on (w := _) (by first | exact HB.out | exact HB.out.drew) b3)
           clear b3))
    all_goals
      go_wp2
      go_ret
      exact ⟨rfl, below_on HX.out.1 HB.out⟩
  · as_aux_lemma =>
    go_enter Tryz.func5, Tryz.ntmps5
    go_wp2_with fail
    rw [← hw0]
    clear hw0
    refine HF.out.mono ?_
    rintro e w1 ⟨A', c', rfl, hp, b1⟩
    have hlt : w.heap.size < w0.heap.size := HX.out.2.lt
    have HX := Lib.hid (HX.out.step b1)
    have HO := Lib.hid hp
    clear hp b1 c0 c1 c2 c3 c4 c5 HF
    have c0 := HX.out.2.cell 0
    have c1 := HX.out.2.cell 1
    have c2 := HX.out.2.cell 2
    have c3 := HX.out.2.cell 3
    have c4 := HX.out.2.cell 4
    have c5 := HX.out.2.cell 5
    have z0 := HX.out.2.frozen 0
    have z1 := HX.out.2.frozen 1
    have z2 := HX.out.2.frozen 2
    have z3 := HX.out.2.frozen 3
    have z4 := HX.out.2.frozen 4
    have z5 := HX.out.2.frozen 5
    obtain ⟨w2, hw2⟩ : ∃ w2, w2 = ((((((w1.setCell ⟨w.heap.size, 0, none⟩ (.string t')).setCell ⟨w.heap.size, 1, none⟩ (.string u')).setCell ⟨w.heap.size, 2, none⟩ (.slice A' ps.length c')).setCell ⟨w.heap.size, 3, none⟩ (.bool has)).setCell ⟨w.heap.size, 4, none⟩ (.bool true)).setCell ⟨w.heap.size, 5, none⟩ (.bool bug)) := ⟨_, rfl⟩
    have HX2 := Lib.hid (show SaiAt w #[.string t', .string u', .slice A' ps.length c', .bool has, .bool true, .bool bug] w2 from ⟨by rw [hw2]; exact below_set6 HX.out.1 (Nat.le_refl _) _ _ _ _ _ _, by rw [hw2]; exact HX.out.2.set6 _ _ _ _ _ _⟩)
    have HPA := Lib.hid (show PsIn w2 A' ps from by
      have hm : Mv w1.heap.size [w.heap.size] w1 ((((((w1.setCell ⟨w.heap.size, 0, none⟩ (.string t')).setCell ⟨w.heap.size, 1, none⟩ (.string u')).setCell ⟨w.heap.size, 2, none⟩ (.slice A' ps.length c')).setCell ⟨w.heap.size, 3, none⟩ (.bool has)).setCell ⟨w.heap.size, 4, none⟩ (.bool true)).setCell ⟨w.heap.size, 5, none⟩ (.bool bug)) := ((((((Mv.refl _ _ _).setCell (.inl (by simp)) _).setCell (.inl (by simp)) _).setCell (.inl (by simp)) _).setCell (.inl (by simp)) _).setCell (.inl (by simp)) _).setCell (.inl (by simp)) _
      obtain ⟨A2, c2, e2, p2⟩ := PsIn.of_own (own_keep HO.out hm (fun x hx => by simp at hx; omega))
      cases e2
      rw [hw2]
      exact p2)
    go_upto_region 2 with (go_at_call 7; (with_reducible refine (HCS.out _).mono ?_); rintro e w3 ⟨rfl, rfl⟩)
    rw [← hw2]
    clear hw2 HX HO c0 c1 c2 c3 c4 c5 z0 z1 z2 z3 z4 z5
    have HX := HX2
    clear HX2
    have c0 := HX.out.2.cell 0
    have c1 := HX.out.2.cell 1
    have c2 := HX.out.2.cell 2
    have c3 := HX.out.2.cell 3
    have c4 := HX.out.2.cell 4
    have c5 := HX.out.2.cell 5
    go_upto_region 4 with (first
      | (go_at_call 6; (with_reducible refine (HFM.out _ A' c' HPA.out).mono ?_); rintro e w3 ⟨A3, c3', rfl, hp3, b3⟩; have HPA := Lib.hid (HPA.out.below b3); have HX := Lib.hid (HX.out.step b3); clear b3 hp3 c0 c1 c2 c3 c4 c5; have c0 := HX.out.2.cell 0; have c1 := HX.out.2.cell 1; have c2 := HX.out.2.cell 2; have c3 := HX.out.2.cell 3; have c4 := HX.out.2.cell 4; have c5 := HX.out.2.cell 5)
      | (go_at_call 12; (with_reducible refine (HU.out _ _ _).mono ?_); rintro e w3 ⟨rfl, b3⟩; have HPA := Lib.hid (HPA.out.below b3); have HX := Lib.hid (HX.out.step b3); clear b3 c0 c1 c2 c3 c4 c5; have c0 := HX.out.2.cell 0; have c1 := HX.out.2.cell 1; have c2 := HX.out.2.cell 2; have c3 := HX.out.2.cell 3; have c4 := HX.out.2.cell 4; have c5 := HX.out.2.cell 5)
      | (go_at_call 21; (with_reducible refine (HHH.out _ _ _).mono ?_); rintro e w3 ⟨rfl, b3⟩; have HPA := Lib.hid (HPA.out.below b3); have HX := Lib.hid (HX.out.step b3); clear b3 c0 c1 c2 c3 c4 c5; have c0 := HX.out.2.cell 0; have c1 := HX.out.2.cell 1; have c2 := HX.out.2.cell 2; have c3 := HX.out.2.cell 3; have c4 := HX.out.2.cell 4; have c5 := HX.out.2.cell 5)
      | (go_at_call 22; (with_reducible refine (HXX.out _ _ _).mono ?_); rintro e w3 ⟨rfl, b3⟩; have HPA := Lib.hid (HPA.out.below b3); have HX := Lib.hid (HX.out.step b3); clear b3 c0 c1 c2 c3 c4 c5; have c0 := HX.out.2.cell 0; have c1 := HX.out.2.cell 1; have c2 := HX.out.2.cell 2; have c3 := HX.out.2.cell 3; have c4 := HX.out.2.cell 4; have c5 := HX.out.2.cell 5)
      | (go_at_call 14; (with_reducible refine (HLV.out _).mono ?_); rintro e w3 ⟨rfl, b3⟩; have HPA := Lib.hid (HPA.out.below b3); have HX := Lib.hid (HX.out.step b3); clear b3 c0 c1 c2 c3 c4 c5; have c0 := HX.out.2.cell 0; have c1 := HX.out.2.cell 1; have c2 := HX.out.2.cell 2; have c3 := HX.out.2.cell 3; have c4 := HX.out.2.cell 4; have c5 := HX.out.2.cell 5))
    have HB := Lib.hid (Below.refl _ _ : Below w3.heap.size w3 w3)
    go_region_held3 (fun w' => w'.cell? ⟨w.heap.size, 0, none⟩ = some (.string t') ∧ w'.cell? ⟨w.heap.size, 1, none⟩ = some (.string u') ∧ w'.cell? ⟨w.heap.size, 2, none⟩ = some (.slice A' ps.length c') ∧ w'.cell? ⟨w.heap.size, 3, none⟩ = some (.bool has) ∧ w'.cell? ⟨w.heap.size, 4, none⟩ = some (.bool true) ∧ w'.cell? ⟨w.heap.size, 5, none⟩ = some (.bool bug))
      (first | go_keep | exact sai_keep HX.out HB.out)
      (first
        | (go_at_call 6; (with_reducible refine (HFM.out _ A' c' (HPA.out.below (by first | exact HB.out | exact HB.out.drew))).mono ?_); rintro e w3 ⟨A3, c3', rfl, hp3, b3⟩
           have HB := Lib.hid (below_on (w := _) (by first | exact HB.out | exact HB.out.drew) b3)
           clear b3 hp3)
        | (go_at_call 9; (with_reducible refine (HT.out _ _ _).mono ?_); rintro e w3 ⟨rfl, b3⟩
           have HB := Lib.hid (below_on (w := _) (by first | exact HB.out | exact HB.out.drew) b3)
           clear b3)
        | (go_at_call 11; (with_reducible refine (HE.out _ _ _).mono ?_); rintro e w3 ⟨rfl, b3⟩
           have HB := Lib.hid (below_on (w := _) (by first | exact HB.out | exact HB.out.drew) b3)
           clear b3)
        | (go_at_call 14; (with_reducible refine (HLV.out _).mono ?_); rintro e w3 ⟨rfl, b3⟩
           have HB := Lib.hid (below_on (w := _) (by first | exact HB.out | exact HB.out.drew) b3)
           clear b3))
    all_goals
      go_wp2
      go_ret
      exact ⟨rfl, below_on HX.out.1 HB.out⟩

set_option maxHeartbeats 4000000 in
set_option maxRecDepth 100000 in
theorem sniffParts_any (a s : ByteArray) (w : World) (ha : a.size ≤ 9223372036854775807) (hs : s.size ≤ 9223372036854775807) :
    Calls Tryz.prog 4 #[.string a, .string s] w fun e w' => e = .returned (.bool true) ∧ Below w.heap.size w w' := by
  have HC1 : Hid (∀ W, Calls Tryz.prog 7 #[.string a, .int .i64 60] W fun e w' => e = .returned (.string (cutB a 60)) ∧ W = w') := Lib.hid fun W => cut_any a 60 W ha
  have HC2 : Hid (∀ W, Calls Tryz.prog 7 #[.string s, .int .i64 2000] W fun e w' => e = .returned (.string (cutB s 2000)) ∧ W = w') := Lib.hid fun W => cut_any s 2000 W hs
  have hcs := cutB_size s 2000
  generalize cutB a 60 = y at *
  generalize cutB s 2000 = z at *
  have hz : z.size ≤ 9223372036854775807 := by omega
  obtain ⟨x, hx⟩ : ∃ x, cutB z 1445 = x := ⟨_, rfl⟩
  obtain ⟨r1, r2, r3, r4, hr⟩ := Sgs.some x
  have HLV := Lib.hid lives21_any
  have HB1 := Lib.hid (fun W => sbug_any y W)
  have HB2 := Lib.hid (fun W => rbug_any y W)
  have HI1 := Lib.hid (fun W => simage_any z x r2 W hz hx hr.h2)
  have HI2 := Lib.hid (fun W => rimage_any z x r2 W hz hx hr.h2)
  have HM1 := Lib.hid (fun W => smedia_any z x r3 W hz hx hr.h3)
  have HM2 := Lib.hid (fun W => rmedia21_any z x r3 W hz hx hr.h3)
  generalize bugB y = b at *
  generalize typeOf imgP r2 = i at *
  generalize mdA (typeOf medP r3) (filmB x) (filW x) (isO x) = m at *
  clear hr hx hz hcs ha hs
  have e1 : (i.toList == i.toList) = true := by simp
  have e2 : (m.toList == m.toList) = true := by simp
  have HB := Lib.hid (Below.refl w.heap.size w)
  cases b
  all_goals
    go_enter Tryz.func4, Tryz.ntmps4
    go_wp2_with (first
      | (go_at_call 7; (with_reducible refine (HC1.out _).mono ?_); rintro e w1 ⟨rfl, rfl⟩)
      | (go_at_call 7; (with_reducible refine (HC2.out _).mono ?_); rintro e w1 ⟨rfl, rfl⟩)
      | (go_at_call 15; (with_reducible refine (HB1.out _).mono ?_); rintro e w1 ⟨rfl, rfl⟩)
      | (go_at_call 16; (with_reducible refine (HB2.out _).mono ?_); rintro e w1 ⟨rfl, rfl⟩)
      | (go_at_call 17; (with_reducible refine (HI1.out _).mono ?_); rintro e w1 ⟨rfl, b1⟩; have HB := Lib.hid (HB.out.trans (b1.mono HB.out.size)); clear b1)
      | (go_at_call 18; (with_reducible refine (HI2.out _).mono ?_); rintro e w1 ⟨rfl, b1⟩; have HB := Lib.hid (HB.out.trans (b1.mono HB.out.size)); clear b1)
      | (go_at_call 19; (with_reducible refine (HM1.out _).mono ?_); rintro e w1 ⟨rfl, b1⟩; have HB := Lib.hid (HB.out.trans (b1.mono HB.out.size)); clear b1)
      | (go_at_call 20; (with_reducible refine (HM2.out _).mono ?_); rintro e w1 ⟨rfl, b1⟩; have HB := Lib.hid (HB.out.trans (b1.mono HB.out.size)); clear b1)
      | (go_at_call 14; (with_reducible refine (HLV.out _).mono ?_); rintro e w1 ⟨rfl, b1⟩; have HB := Lib.hid (HB.out.trans (b1.mono HB.out.size)); clear b1))
    go_ret
    exact ⟨rfl, HB.out⟩

end Go.Proofs.YtkdjjlfpaciohaaGreatDoor
namespace Go.Proofs.YtkdjjlfpaciohaaGreatDoor
open Go.ChangeShapes Go.WideShapes Go.ChangeAt Go.RowKit Go.Joins

theorem law_lifted_laid {C : Checked} {os : Os} {f : FuncId} {fn : Func} {s : ChangeSpec} {tb : TypeId} {H : Type} {enc : TypeId × Value → H} (L : List (String × DataW Unit))
    (own : ownKnob C.prog.godebug = none) (started : os.Started) (noInit : C.prog.inits.idxOf? f = none) (hfn : C.prog.funcs[f]? = some fn) (hl : laidOutB C.prog = true)
    (hvars : s.vars = []) (hrt : fn.resultTypes = #[tb]) (htb : C.prog.underlying tb = some .bool)
    (hread : fn.params.toList.all (fun t => C.prog.readableRec t && decide (t < C.prog.types.size)) = true)
    (hs : ∀ ds : List (DataW H), ds.length = fn.params.toList.length → (s.fn H (ds ++ [])).results = [.lit (.bool true)] ∧ (s.fn H (ds ++ [])).args = ds ∧ (s.fn H (ds ++ [])).vars = [])
    (witness : ∃ (w : World) (tape : Tape) (i : Input), w.os = os ∧ (w.forCall tape i).Shaped C.prog ∧ i.vars = [] ∧ Input.okWide C.prog (w.forCall tape i) .any w.heap.size f i ∧
      ((s.pre enc C.prog fn [] false (w.forCall tape i).memory i.args ∧ laidMetH C.prog L (w.forCall tape i).memory) ∧ sizedMet enc C.prog fn (OpenSpec.ofChange s) false (w.forCall tape i).memory i.args) ∧ ({} : Assume).holds C.prog (lone (Frame.enter C.prog f i.args .normal) [] (w.forCall tape i)))
    (hcall : ∀ (W : World) (base : Nat) (args : Array Value) (ds : List (DataW H)) (p : List MemPlace),
      (∀ (j : Nat) t v, fn.params[j]? = some t → args[j]? = some v → Value.okWide C.prog W .any base t v) →
      DataW.TrodAll enc C.prog W 0 (fun _ => true) true fn.params.toList args.toList ds p → (∀ x ∈ p, x.block < W.heap.size) → laidMetH C.prog L W →
      Calls C.prog f args W fun e W' => e = .returned (.bool true) ∧ Below W.heap.size W W') :
    ReturnsInHanded {} C os f .any (fun w args => (s.pre enc C.prog fn [] false w args ∧ laidMetH C.prog L w) ∧ sizedMet enc C.prog fn (OpenSpec.ofChange s) false w args) (s.post enc C.prog fn false true false false) := by
  refine returnsInHanded_of_change_and (C := C) (X := fun w _ => laidMetH C.prog L w) (fun _ _ _ hh h => h.of_heap hh) own started noInit hfn witness ?_
  intro W base args ds gs before hval hW _ _ hL _
  have hW' := hW
  obtain ⟨p, q, hA, hV, rfl, hfz, hnd⟩ := hW
  rw [hvars] at hV
  obtain ⟨rfl, rfl⟩ := trodVars_none hV
  simp only [List.append_nil] at hW'
  have hlt : ∀ x ∈ p, x.block < W.heap.size := fun x hx => by simpa using hW'.lt x hx
  refine (hcall W base args ds p hval hA hlt hL).mono fun e W' ⟨he, hb⟩ => ?_
  subst he
  obtain ⟨e1, e2, e3⟩ := hs ds (trodAll_len _ _ _ _ hA)
  refine ⟨_, rfl, ds, [], p, [], p, [], hW', ?_, ?_, ?_, hb.frame _, fun h => by cases h⟩
  · rw [e1, hrt]
    exact trodAll_mk1 (shut_bool htb true)
  · rw [e2]
    simp only [List.all_eq_true, Bool.and_eq_true, decide_eq_true_eq] at hread
    exact trodAll_below hl hb _ _ _ _ hA (fun t ht => hread t ht) hlt
  · rw [e3, hvars]
    rfl

end Go.Proofs.YtkdjjlfpaciohaaGreatDoor
