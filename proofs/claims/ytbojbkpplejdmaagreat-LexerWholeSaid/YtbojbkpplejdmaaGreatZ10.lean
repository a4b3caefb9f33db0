/-
  What package json's Feed does, and what New, Whole, Valid and lives answer. Conditions: the texts are no longer than a length can be.
  A machine of layer 28 in memory: its registers and cells (Rg, MaH), what is open (OpIs), and what package jscript's State, Place, Pieces, Ends, Depth, Seen, endsLine, parts, inWords and closing answer. No condition.
  What package jscript's lay, joins, enter, leave and sign do with a machine of layer 28. Conditions: what is open is told of in the machine's cells, and is no deeper than it may be; the counts are no greater than a length can be.
-/
import Derived.Test.YtbojbkpplejdmaaGreatZ8
import Derived.LoopTactic
import Derived.Test.YtbojbkpplejdmaaGreatZ9
import Derived.Test.YtbojbkpplejdmaaGreatZ2
import Derived.Test.YtbojbkpplejdmaaGreatZ4
import Derived.Test.YtbojbkpplejdmaaGreatZ6
import Derived.RegionTactic
import Derived.BigRegion
import Derived.Deep.QuietTactic
import Derived.BigQuiet
import Derived.Outline
import Derived.StillTailTactics
import Derived.Lib.Hide
import Derived.IntWalk
namespace Go.Proofs.YtbojbkpplejdmaaGreat
open Go.RowKit

theorem take_byte27 {t : ByteArray} {k : Nat} (h : k < t.size) : t.data.toList.take (k + 1) = t.data.toList.take k ++ [t[k]] := by
  have hk : k < t.data.toList.length := by simpa using h
  rw [List.take_succ_eq_append_getElem hk]
  rfl
theorem take_full27 (t : ByteArray) : t.data.toList.take t.size = t.data.toList := List.take_of_length_le (by simp)

set_option maxHeartbeats 4000000 in
set_option maxRecDepth 10000 in
theorem feed_any {w : World} {mb D : Nat} {s : ByteArray} (t : ByteArray) (h : MacB w mb D (s.size : Nat) s.data.toList) (hz : s.size + t.size ≤ 4611686018427387904) :
    Calls Tryz.prog 27 #[mptr mb, .string t] w fun e w' => e = .returned (.int .i64 (whoJ D (s ++ t)).1) ∧ Mv w.heap.size [mb] w w' ∧ MacB w' mb D ((s ++ t).size : Nat) (s ++ t).data.toList := by
  obtain ⟨v, hv⟩ : ∃ v, v = (whoJ D (s ++ t)).1 := ⟨_, rfl⟩
  rw [← hv]
  have HV := Lib.hid hv
  clear hv
  have hs63 : s.size ≤ 4611686018427387904 := by omega
  have ht63 : t.size ≤ 4611686018427387904 := by omega
  have H := Lib.hid h
  have HL := Lib.hid (show s.data.toList.length = s.size by simp)
  have HA := Lib.hid (app_list s t)
  have HZ := Lib.hid (show (s ++ t).size = s.size + t.size from ByteArray.size_append)
  have HT : ∀ wr, MacB wr mb D (s.size : Nat) (s.data.toList ++ t.data.toList) → ∃ (pl sp tn lf : Int) (rs : ByteArray) (dp : Nat) (E : List Value), Hid (Mac wr mb D (s.size : Nat) pl sp tn lf rs dp E) ∧
      Hid (Calls Tryz.prog 31 #[mptr mb] (wr.setCell ⟨mb, 1, none⟩ (.int .i64 ((s.size : Int) + (t.size : Int)))) fun e w' => e = .returned (.int .i64 v) ∧ wr.setCell ⟨mb, 1, none⟩ (.int .i64 ((s.size : Int) + (t.size : Int))) = w') := fun wr hw => by
    rw [← HA.out] at hw
    obtain ⟨pl, sp, tn, lf, rs, dp, E, h1, _, _, h2, _⟩ := hw.told
    refine ⟨pl, sp, tn, lf, rs, dp, E, Lib.hid h1, Lib.hid ?_⟩
    rw [HV.out, ← h2]
    exact jstate_any (Mac.s1 h1 _)
  have HT2 := Lib.hid HT
  have HE : ∀ wr, MacB wr mb D (s.size : Nat) (s.data.toList ++ t.data.toList) → MacB (wr.setCell ⟨mb, 1, none⟩ (.int .i64 ((s.size : Int) + (t.size : Int)))) mb D ((s ++ t).size : Nat) (s ++ t).data.toList := fun wr hw => by
    rw [HA.out, HZ.out]
    exact hw.s1 _
  have HE2 := Lib.hid HE
  clear h HT HE HV
  go_enter Tryz.func27, Tryz.ntmps27
  go_wp2
  go_loopw [10] (fun i wr => ∃ k : Nat, k ≤ t.size ∧ i = .int .i64 k ∧ Hid (MacB wr mb D (s.size : Nat) (s.data.toList ++ t.data.toList.take k)) ∧ Hid (Mv w.heap.size [mb] w wr)) (fun i _ => t.size - (intOf i).toNat)
  case atStart => exact ⟨0, by omega, rfl, Lib.hid (by rw [List.take_zero, List.append_nil]; exact H.out), Lib.hid (mv0 w mb)⟩
  case round =>
    obtain ⟨k, hk, rfl, HM, HX⟩ := hrel
    by_cases hlt : k < t.size
    · cases hr : runJ D .v [] (s.data.toList ++ t.data.toList.take k) with
      | error q =>
        obtain ⟨x, r⟩ := q
        have HM2 := Lib.hid (show MacB wr mb D (s.size : Nat) (s.data.toList ++ t.data.toList) by
          have := HM.out.stop (m := t.data.toList.drop k) hr
          rwa [List.append_assoc, List.take_append_drop] at this)
        obtain ⟨pl, sp, tn, lf, rs, dp, E, HW, HS⟩ := HT2.out wr HM2.out
        have HQ : Hid (Calls Tryz.prog 49 #[mptr mb] wr fun e w' => e = .returned (.bool true) ∧ wr = w') := by
          have hm := HM.out
          obtain ⟨pl', sp', tn', lf', rs', dp', E', h1, h2, h3, h4, h5⟩ := hm
          rw [hr] at h5
          have hx := (run_bad D _ _ _ _ _ hr).1
          have hs := stopped_any h1
          have e : (sp' == 19 || sp' == 20) = true := by
            rw [h5.1]
            rcases hx with rfl | rfl <;> rfl
          rw [e] at hs
          exact Lib.hid hs
        have c1 := HW.out.c1
        have z1 := Blk.frozen HW.out 1
        clear hr
        go_wp2_with (first
          | (go_at_call 49; (with_reducible refine HQ.out.mono ?_); rintro e w1 ⟨rfl, rfl⟩)
          | (go_at_call 31; (with_reducible refine HS.out.mono ?_); rintro e w1 ⟨rfl, rfl⟩))
        go_ret
        exact ⟨rfl, HX.out.put1 _ _, HE2.out _ HM2.out⟩
      | ok q =>
        obtain ⟨p, st⟩ := q
        have hm := HM.out
        obtain ⟨pl, sp, tn, lf, rs, dp, E, h1, h2, h3, h4, h5⟩ := hm
        rw [hr] at h5
        obtain ⟨h5, rfl, h6, h7⟩ := h5
        have hw : Was wr mb D (s.size : Nat) pl sp tn lf rs st E := ⟨h1, h2, h6, h3, h4⟩
        have HQ : Hid (Calls Tryz.prog 49 #[mptr mb] wr fun e w' => e = .returned (.bool false) ∧ wr = w') := by
          have hs := stopped_any h1
          obtain ⟨g0, g1, _⟩ := reg_on h5
          have e : (sp == 19 || sp == 20) = false := by
            rw [Bool.or_eq_false_iff, beq_eq_false_iff_ne, beq_eq_false_iff_ne]
            omega
          rw [e] at hs
          exact Lib.hid hs
        have HK := Lib.hid (take_any hw h5 h7 t[k])
        have HN : ∀ w1, Ste wr w1 mb D (s.size : Nat) pl (stepJ D p st t[k]) → Hid (∃ pl, w1.cell? ⟨mb, 2, none⟩ = some (.int .i64 pl)) ∧ Hid (w1.cell? ⟨mb, 1, none⟩ = some (.int .i64 (s.size : Nat))) ∧ Hid (w1.frozen? ⟨mb, 2, none⟩ = false) ∧
            Hid (MacB (w1.setCell ⟨mb, 2, none⟩ (.int .i64 ((s.size : Int) + (k : Int)))) mb D (s.size : Nat) (s.data.toList ++ t.data.toList.take (k + 1))) ∧ Hid (Mv w.heap.size [mb] w w1) := fun w1 hq => by
          have hn := MacB.next h4 hr h7 hq.2
          obtain ⟨sp', tn', lf', rs', dp', E', g1, _⟩ := hq.2
          have el : (((s.data.toList ++ t.data.toList.take k).length : Nat) : Int) = (s.size : Int) + (k : Int) := by
            have hkl : k ≤ t.data.toList.length := by simpa using hk
            rw [List.length_append, HL.out, List.length_take, Nat.min_eq_left hkl]
            omega
          rw [el, List.append_assoc, ← take_byte27 hlt] at hn
          exact ⟨Lib.hid ⟨_, g1.c2⟩, Lib.hid g1.c1, Lib.hid (Blk.frozen g1 2), Lib.hid hn, Lib.hid (HX.out.trans (hq.1.mono HX.out.size (fun x hx => Or.inl hx)))⟩
        have HN2 := Lib.hid HN
        clear hr h1 h2 h3 h4 h5 h6 h7 hw HN
        go_wp2_with (first
          | (go_at_call 49; (with_reducible refine HQ.out.mono ?_); rintro e w1 ⟨rfl, rfl⟩)
          | (go_at_call 50; (with_reducible refine HK.out.mono ?_); rintro e w1 ⟨rfl, hq⟩; obtain ⟨H1, H2, H3, HG, HF⟩ := HN2.out _ hq; clear hq; obtain ⟨p2, c2⟩ := H1.out; have c1 := H2.out; have z2 := H3.out))
        go_roundw
        case rel => exact ⟨k + 1, by omega, by go_num, HG, Lib.hid (HF.out.put1 _ _)⟩
        case measure => simp [intOf]; omega
    · obtain rfl : k = t.size := by omega
      have HM2 := Lib.hid (show MacB wr mb D (s.size : Nat) (s.data.toList ++ t.data.toList) by
        have := HM.out
        rwa [take_full27] at this)
      obtain ⟨pl, sp, tn, lf, rs, dp, E, HW, HS⟩ := HT2.out wr HM2.out
      have c1 := HW.out.c1
      have z1 := Blk.frozen HW.out 1
      go_wp2_with (go_at_call 31; (with_reducible refine HS.out.mono ?_); rintro e w1 ⟨rfl, rfl⟩)
      go_ret
      exact ⟨rfl, HX.out.put1 _ _, HE2.out _ HM2.out⟩
end Go.Proofs.YtbojbkpplejdmaaGreat
namespace Go.Proofs.YtbojbkpplejdmaaGreat
open Go.RowKit

/-! Pieces and ends are no more than twice the bytes. -/
theorem sig_few (D : Nat) (h : Hs) (b : UInt8) : (ofS (sigH D h b)).pc ≤ h.pc ∧ (ofS (sigH D h b)).en ≤ h.en + 1 := by
  unfold sigH
  repeat' split
  all_goals first
    | exact ⟨Nat.le_refl _, Nat.le_add_right _ _⟩
    | exact ⟨Nat.le_refl _, Nat.le_refl _⟩
theorem beg_few (D : Nat) (h : Hs) (b : UInt8) : (ofS (begH D h b)).pc ≤ h.pc + 1 ∧ (ofS (begH D h b)).en ≤ h.en + 1 := by
  unfold begH
  repeat' split
  all_goals first
    | exact ⟨Nat.le_add_right _ _, Nat.le_add_right _ _⟩
    | exact ⟨Nat.le_refl _, Nat.le_add_right _ _⟩
    | exact sig_few D (pcH h) b
theorem pat_few (h : Hs) (i : Bool) (b : UInt8) : (ofS (patH h i b)).pc = h.pc ∧ (ofS (patH h i b)).en = h.en := by
  unfold patH
  repeat' split
  all_goals exact ⟨rfl, rfl⟩
theorem step_few (D : Nat) (p : Hp) (h : Hs) (b : UInt8) : (ofS (stepH D p h b)).pc ≤ h.pc + 2 ∧ (ofS (stepH D p h b)).en ≤ h.en + 2 := by
  unfold stepH texH graH
  repeat' split
  all_goals first
    | exact ⟨Nat.le_add_right _ _, Nat.le_add_right _ _⟩
    | exact ⟨Nat.le_succ_of_le (beg_few D h b).1, Nat.le_succ_of_le (beg_few D h b).2⟩
    | exact ⟨Nat.le_succ_of_le (beg_few D (worH h _) b).1, Nat.le_succ_of_le (beg_few D (worH h _) b).2⟩
    | exact ⟨(beg_few D (endH (pcH h) 0) b).1, Nat.le_succ_of_le (beg_few D (endH (pcH h) 0) b).2⟩
    | exact ⟨Nat.le_trans (Nat.le_of_eq (pat_few h _ b).1) (Nat.le_add_right _ _), Nat.le_trans (Nat.le_of_eq (pat_few h _ b).2) (Nat.le_add_right _ _)⟩
    | exact ⟨Nat.le_trans (Nat.le_of_eq (pat_few (pcH h) false b).1) (Nat.le_succ _), Nat.le_trans (Nat.le_of_eq (pat_few (pcH h) false b).2) (Nat.le_add_right _ _)⟩
theorem run_few (D : Nat) : ∀ (l : List UInt8) (p : Hp) (h : Hs), (ofR (runH D p h l)).pc ≤ h.pc + 2 * l.length ∧ (ofR (runH D p h l)).en ≤ h.en + 2 * l.length
  | [], _, _ => ⟨Nat.le_refl _, Nat.le_refl _⟩
  | b :: l, p, h => by
    have h1 := step_few D p h b
    rw [List.length_cons]
    cases e : stepH D p h b with
    | go p' h' =>
      rw [e] at h1
      have h1' : h'.pc ≤ h.pc + 2 ∧ h'.en ≤ h.en + 2 := h1
      have h2 := run_few D l p' h'
      rw [runH_go e]
      omega
    | no h' =>
      rw [e] at h1
      have h1' : h'.pc ≤ h.pc + 2 ∧ h'.en ≤ h.en + 2 := h1
      rw [runH_no e]
      show h'.pc ≤ _ ∧ h'.en ≤ _
      omega

/-- A machine's registers: its step, the one behind a backslash, what ends the text, what is left of a mark, how many bytes of a word are kept; these; what is open. -/
structure Rg where
  sp : Int
  tn : Int
  qt : UInt8
  rs : ByteArray
  sz : Int
  B : List Value
  E : List Value
/-- The cells of a machine. -/
def maC (D sn pl pc en sp tn ls : Int) (ed : Bool) (qt : Int) (rs : ByteArray) (sz : Int) (B : List Value) (dp : Int) (E : List Value) : Array Value :=
  (.int .i64 D :: .int .i64 sn :: .int .i64 pl :: .int .i64 pc :: .int .i64 en :: .int .i64 sp :: .int .i64 tn :: .int .i64 ls :: .bool ed :: .int .u8 qt :: .string rs :: .int .i64 sz :: (B ++ .int .i64 dp :: E)).toArray
abbrev MaH (w : World) (mb D : Nat) (sn pl : Int) (h : Hs) (r : Rg) : Prop :=
  Blk w mb 64 (maC D sn pl (h.pc : Nat) (h.en : Nat) r.sp r.tn (h.last : Nat) h.br (r.qt.toNat : Int) r.rs r.sz r.B (h.op.length : Nat) r.E)
section
variable {w : World} {mb D : Nat} {sn pl : Int} {h : Hs} {r : Rg}
theorem MaH.c0 (m : MaH w mb D sn pl h r) : w.cell? ⟨mb, 0, none⟩ = some (.int .i64 (D : Nat)) := m.cell 0
theorem MaH.c1 (m : MaH w mb D sn pl h r) : w.cell? ⟨mb, 1, none⟩ = some (.int .i64 sn) := m.cell 1
theorem MaH.c2 (m : MaH w mb D sn pl h r) : w.cell? ⟨mb, 2, none⟩ = some (.int .i64 pl) := m.cell 2
theorem MaH.c3 (m : MaH w mb D sn pl h r) : w.cell? ⟨mb, 3, none⟩ = some (.int .i64 (h.pc : Nat)) := m.cell 3
theorem MaH.c4 (m : MaH w mb D sn pl h r) : w.cell? ⟨mb, 4, none⟩ = some (.int .i64 (h.en : Nat)) := m.cell 4
theorem MaH.c5 (m : MaH w mb D sn pl h r) : w.cell? ⟨mb, 5, none⟩ = some (.int .i64 r.sp) := m.cell 5
theorem MaH.c6 (m : MaH w mb D sn pl h r) : w.cell? ⟨mb, 6, none⟩ = some (.int .i64 r.tn) := m.cell 6
theorem MaH.c7 (m : MaH w mb D sn pl h r) : w.cell? ⟨mb, 7, none⟩ = some (.int .i64 (h.last : Nat)) := m.cell 7
theorem MaH.c8 (m : MaH w mb D sn pl h r) : w.cell? ⟨mb, 8, none⟩ = some (.bool h.br) := m.cell 8
theorem MaH.c9 (m : MaH w mb D sn pl h r) : w.cell? ⟨mb, 9, none⟩ = some (.int .u8 (r.qt.toNat : Int)) := m.cell 9
theorem MaH.c10 (m : MaH w mb D sn pl h r) : w.cell? ⟨mb, 10, none⟩ = some (.string r.rs) := m.cell 10
theorem MaH.c11 (m : MaH w mb D sn pl h r) : w.cell? ⟨mb, 11, none⟩ = some (.int .i64 r.sz) := m.cell 11
theorem MaH.cB (m : MaH w mb D sn pl h r) (i : Nat) (hi : i < r.B.length) : w.cell? ⟨mb, 12 + i, none⟩ = r.B[i]? := by
  rw [m.cell, Nat.add_comm]
  unfold maC
  rw [List.getElem?_toArray]
  show (r.B ++ _)[i]? = _
  exact List.getElem?_append_left hi
theorem MaH.cd (m : MaH w mb D sn pl h r) (hB : r.B.length = 11) : w.cell? ⟨mb, 23, none⟩ = some (.int .i64 (h.op.length : Nat)) := by
  rw [m.cell]
  unfold maC
  rw [List.getElem?_toArray]
  show (r.B ++ _)[11]? = _
  rw [List.getElem?_append_right (by omega), hB]
  rfl
theorem MaH.cE (m : MaH w mb D sn pl h r) (hB : r.B.length = 11) (i : Nat) : w.cell? ⟨mb, 24 + i, none⟩ = r.E[i]? := by
  rw [m.cell, Nat.add_comm]
  unfold maC
  rw [List.getElem?_toArray]
  show (r.B ++ _)[i + 12]? = _
  rw [List.getElem?_append_right (by omega), hB, show i + 12 - 11 = i + 1 by omega]
  rfl
theorem MaH.s1 (m : MaH w mb D sn pl h r) (x : Int) : MaH (w.setCell ⟨mb, 1, none⟩ (.int .i64 x)) mb D x pl h r := by
  have := m.set_ 1 (.int .i64 x)
  unfold maC at this
  rw [List.setIfInBounds_toArray] at this
  exact this
theorem MaH.s2 (m : MaH w mb D sn pl h r) (x : Int) : MaH (w.setCell ⟨mb, 2, none⟩ (.int .i64 x)) mb D sn x h r := by
  have := m.set_ 2 (.int .i64 x)
  unfold maC at this
  rw [List.setIfInBounds_toArray] at this
  exact this
theorem MaH.s3 (m : MaH w mb D sn pl h r) {x : Int} {n : Nat} (hx : x = (n : Int)) : MaH (w.setCell ⟨mb, 3, none⟩ (.int .i64 x)) mb D sn pl { h with pc := n } r := by
  subst hx
  have := m.set_ 3 (.int .i64 (n : Int))
  unfold maC at this
  rw [List.setIfInBounds_toArray] at this
  exact this
theorem MaH.s4 (m : MaH w mb D sn pl h r) {x : Int} {n : Nat} (hx : x = (n : Int)) : MaH (w.setCell ⟨mb, 4, none⟩ (.int .i64 x)) mb D sn pl { h with en := n } r := by
  subst hx
  have := m.set_ 4 (.int .i64 (n : Int))
  unfold maC at this
  rw [List.setIfInBounds_toArray] at this
  exact this
theorem MaH.s5 (m : MaH w mb D sn pl h r) (x : Int) : MaH (w.setCell ⟨mb, 5, none⟩ (.int .i64 x)) mb D sn pl h { r with sp := x } := by
  have := m.set_ 5 (.int .i64 x)
  unfold maC at this
  rw [List.setIfInBounds_toArray] at this
  exact this
theorem MaH.s6 (m : MaH w mb D sn pl h r) (x : Int) : MaH (w.setCell ⟨mb, 6, none⟩ (.int .i64 x)) mb D sn pl h { r with tn := x } := by
  have := m.set_ 6 (.int .i64 x)
  unfold maC at this
  rw [List.setIfInBounds_toArray] at this
  exact this
theorem MaH.s7 (m : MaH w mb D sn pl h r) {x : Int} {n : Nat} (hx : x = (n : Int)) : MaH (w.setCell ⟨mb, 7, none⟩ (.int .i64 x)) mb D sn pl { h with last := n } r := by
  subst hx
  have := m.set_ 7 (.int .i64 (n : Int))
  unfold maC at this
  rw [List.setIfInBounds_toArray] at this
  exact this
theorem MaH.s8 (m : MaH w mb D sn pl h r) (x : Bool) : MaH (w.setCell ⟨mb, 8, none⟩ (.bool x)) mb D sn pl { h with br := x } r := by
  have := m.set_ 8 (.bool x)
  unfold maC at this
  rw [List.setIfInBounds_toArray] at this
  exact this
theorem MaH.s9 (m : MaH w mb D sn pl h r) {x : Int} {y : UInt8} (hx : x = (y.toNat : Int)) : MaH (w.setCell ⟨mb, 9, none⟩ (.int .u8 x)) mb D sn pl h { r with qt := y } := by
  subst hx
  have := m.set_ 9 (.int .u8 (y.toNat : Int))
  unfold maC at this
  rw [List.setIfInBounds_toArray] at this
  exact this
theorem MaH.s10 (m : MaH w mb D sn pl h r) (x : ByteArray) : MaH (w.setCell ⟨mb, 10, none⟩ (.string x)) mb D sn pl h { r with rs := x } := by
  have := m.set_ 10 (.string x)
  unfold maC at this
  rw [List.setIfInBounds_toArray] at this
  exact this
theorem MaH.s11 (m : MaH w mb D sn pl h r) (x : Int) : MaH (w.setCell ⟨mb, 11, none⟩ (.int .i64 x)) mb D sn pl h { r with sz := x } := by
  have := m.set_ 11 (.int .i64 x)
  unfold maC at this
  rw [List.setIfInBounds_toArray] at this
  exact this
theorem MaH.sB (m : MaH w mb D sn pl h r) (i : Nat) (hi : i < r.B.length) (x : Value) : MaH (w.setCell ⟨mb, 12 + i, none⟩ x) mb D sn pl h { r with B := r.B.set i x } := by
  have := m.set_ (12 + i) x
  unfold maC at this
  rw [List.setIfInBounds_toArray, Nat.add_comm 12 i] at this
  rw [Nat.add_comm 12 i]
  have e : ∀ T : List Value, (r.B ++ T).set i x = r.B.set i x ++ T := fun T => List.set_append_left _ _ hi
  unfold MaH maC
  rw [← e]
  exact this
theorem MaH.sd (m : MaH w mb D sn pl h r) (hB : r.B.length = 11) {x : Int} {o : List UInt8} (hx : x = (o.length : Int)) : MaH (w.setCell ⟨mb, 23, none⟩ (.int .i64 x)) mb D sn pl { h with op := o } r := by
  subst hx
  have := m.set_ 23 (.int .i64 (o.length : Int))
  unfold maC at this
  rw [List.setIfInBounds_toArray] at this
  have e : (r.B ++ .int .i64 (h.op.length : Int) :: r.E).set 11 (.int .i64 (o.length : Int)) = r.B ++ .int .i64 (o.length : Int) :: r.E := by
    rw [List.set_append_right _ _ (by omega), hB]
    rfl
  unfold MaH maC
  show Blk _ _ _ (List.toArray (_ :: _ :: _ :: _ :: _ :: _ :: _ :: _ :: _ :: _ :: _ :: _ :: (r.B ++ .int .i64 (o.length : Int) :: r.E)))
  rw [← e]
  exact this
theorem MaH.sE (m : MaH w mb D sn pl h r) (hB : r.B.length = 11) (i : Nat) (x : Value) : MaH (w.setCell ⟨mb, 24 + i, none⟩ x) mb D sn pl h { r with E := r.E.set i x } := by
  have := m.set_ (24 + i) x
  unfold maC at this
  rw [List.setIfInBounds_toArray, Nat.add_comm 24 i] at this
  rw [Nat.add_comm 24 i]
  have e : ∀ y : Value, (r.B ++ y :: r.E).set (i + 12) x = r.B ++ y :: r.E.set i x := fun y => by
    rw [List.set_append_right _ _ (by omega), hB, show i + 12 - 11 = i + 1 by omega]
    rfl
  unfold MaH maC
  rw [← e]
  exact this
end

/-! What opens: as the program keeps it. -/
def okO (b : UInt8) : Bool := b == 40 || b == 91 || b == 123 || b == 36
def opZ (b : UInt8) : UInt8 := if b == 36 then 96 else b
def OpIs : List UInt8 → List Value → Prop
  | [], _ => True
  | o :: l, E => E[l.length]? = some (.int .u8 ((opZ o).toNat : Int)) ∧ OpIs l E
theorem OpIs.set {x : Value} : ∀ {o : List UInt8} {E : List Value} {i : Nat}, OpIs o E → o.length ≤ i → OpIs o (E.set i x)
  | [], _, _, _, _ => trivial
  | t :: l, E, i, h, hi => by
    have hi' : l.length < i := hi
    exact ⟨by rw [List.getElem?_set_ne (by omega)]; exact h.1, OpIs.set h.2 (by omega)⟩
theorem OpIs.push {t : UInt8} {o : List UInt8} {E : List Value} {x : Int} (h : OpIs o E) (hl : o.length < E.length) (hx : x = ((opZ t).toNat : Int)) : OpIs (t :: o) (E.set o.length (.int .u8 x)) := by
  subst hx
  exact ⟨by rw [List.getElem?_set_self hl], h.set (Nat.le_refl _)⟩
def cloZ (o : UInt8) : UInt8 := if o == 40 then 41 else if o == 91 then 93 else 125

set_option maxHeartbeats 400000 in
theorem closing_any (o : UInt8) (w : World) :
    Calls Tryz.prog 105 #[.int .u8 (o.toNat : Int)] w fun e w' => e = .returned (.int .u8 ((cloZ o).toNat : Int)) ∧ w = w' := by
  unfold cloZ
  rw [bE o 40, bE o 91, show (((40 : UInt8).toNat : Nat) : Int) = 40 from rfl, show (((91 : UInt8).toNat : Nat) : Int) = 91 from rfl]
  cases h0 : ((o.toNat : Int) == 40) <;> cases h1 : ((o.toNat : Int) == 91)
  all_goals
    go_enter Tryz.func105, Tryz.ntmps105
    go_wp2
    go_ret
    exact ⟨rfl, rfl⟩
set_option maxHeartbeats 400000 in
theorem endsLine_any (b : UInt8) (w : World) :
    Calls Tryz.prog 89 #[.int .u8 (b.toNat : Int)] w fun e w' => e = .returned (.bool (lineB b)) ∧ w = w' := by
  unfold lineB
  rw [bE b 10, bE b 13, show (((10 : UInt8).toNat : Nat) : Int) = 10 from rfl, show (((13 : UInt8).toNat : Nat) : Int) = 13 from rfl]
  cases h0 : ((b.toNat : Int) == 10)
  all_goals
    go_enter Tryz.func89, Tryz.ntmps89
    go_wp2
    go_ret
    exact ⟨rfl, rfl⟩
set_option maxHeartbeats 400000 in
theorem hparts_any (b : UInt8) (w : World) :
    Calls Tryz.prog 92 #[.int .u8 (b.toNat : Int)] w fun e w' => e = .returned (.bool (blkB b)) ∧ w = w' := by
  have e : blkB b = ((decide ((9 : Int) ≤ (b.toNat : Int)) && decide ((b.toNat : Int) ≤ 13)) || ((b.toNat : Int) == 32)) := by
    unfold blkB
    rw [bE b 32, show (((32 : UInt8).toNat : Nat) : Int) = 32 from rfl]
    congr 2 <;> (rw [decide_eq_decide]; omega)
  rw [e]
  clear e
  cases h0 : decide ((9 : Int) ≤ (b.toNat : Int)) <;> cases h1 : decide ((b.toNat : Int) ≤ 13)
  all_goals
    go_enter Tryz.func92, Tryz.ntmps92
    go_wp2
    go_ret
    exact ⟨rfl, rfl⟩
set_option maxHeartbeats 400000 in
theorem inWords_any (b : UInt8) (w : World) :
    Calls Tryz.prog 85 #[.int .u8 (b.toNat : Int)] w fun e w' => e = .returned (.bool (innB b)) ∧ w = w' := by
  have e : innB b = (letB b || digB b || ((b.toNat : Int) == 95) || ((b.toNat : Int) == 36) || decide ((128 : Int) ≤ (b.toNat : Int))) := by
    unfold innB
    rw [bE b 95, bE b 36, show (((95 : UInt8).toNat : Nat) : Int) = 95 from rfl, show (((36 : UInt8).toNat : Nat) : Int) = 36 from rfl]
    congr 1
    rw [decide_eq_decide]
    omega
  rw [e]
  clear e
  have HL := Lib.hid (fun W => letter_any b W)
  have HD := Lib.hid (fun W => digit_any b W)
  generalize letB b = l at *
  generalize digB b = d at *
  cases l <;> cases d <;> cases h0 : ((b.toNat : Int) == 95) <;> cases h1 : ((b.toNat : Int) == 36)
  all_goals
    go_enter Tryz.func85, Tryz.ntmps85
    go_wp2_with (first
      | (go_at_call 100; (with_reducible refine (HL.out _).mono ?_); rintro e w1 ⟨rfl, rfl⟩)
      | (go_at_call 86; (with_reducible refine (HD.out _).mono ?_); rintro e w1 ⟨rfl, rfl⟩))
    go_ret
    exact ⟨rfl, rfl⟩

/-! What is told of a machine. -/
def stzH (sp dp : Int) : Int := if sp == 13 then 0 else if decide (0 < dp) then 1 else if sp == 0 || sp == 1 || sp == 7 || sp == 9 then 2 else 1
set_option maxHeartbeats 400000 in
theorem hstate_any {w : World} {mb D : Nat} {sn pl : Int} {h : Hs} {r : Rg} (m : MaH w mb D sn pl h r) (hB : r.B.length = 11) :
    Calls Tryz.prog 32 #[mptr mb] w fun e w' => e = .returned (.int .i64 (stzH r.sp (h.op.length : Nat))) ∧ w = w' := by
  have c5 := m.c5
  have c23 := m.cd hB
  clear m
  obtain ⟨v, hv⟩ : ∃ v, v = stzH r.sp (h.op.length : Nat) := ⟨_, rfl⟩
  rw [← hv]
  have HV := Lib.hid hv
  clear hv
  generalize r.sp = sp at *
  generalize h.op.length = dp at *
  unfold stzH at HV
  have hc : (sp == 13) = true ∨ ((sp == 13) = false ∧ decide (0 < dp) = true) ∨ ((sp == 13) = false ∧ decide (0 < dp) = false ∧ (sp == 0) = true)
      ∨ ((sp == 13) = false ∧ decide (0 < dp) = false ∧ (sp == 0) = false ∧ (sp == 1) = true) ∨ ((sp == 13) = false ∧ decide (0 < dp) = false ∧ (sp == 0) = false ∧ (sp == 1) = false ∧ (sp == 7) = true)
      ∨ ((sp == 13) = false ∧ decide (0 < dp) = false ∧ (sp == 0) = false ∧ (sp == 1) = false ∧ (sp == 7) = false ∧ (sp == 9) = true)
      ∨ ((sp == 13) = false ∧ decide (0 < dp) = false ∧ (sp == 0) = false ∧ (sp == 1) = false ∧ (sp == 7) = false ∧ (sp == 9) = false) := by
    generalize (sp == 13) = a
    generalize decide (0 < dp) = b
    generalize (sp == 0) = c
    generalize (sp == 1) = d
    generalize (sp == 7) = e
    generalize (sp == 9) = f
    cases a <;> simp
    cases b <;> simp
    cases c <;> simp
    cases d <;> simp
    cases e <;> simp
  have e0 : decide ((0 : Int) < (dp : Int)) = decide (0 < dp) := by rw [decide_eq_decide]; omega
  rw [e0] at HV
  clear e0
  rcases hc with h0 | ⟨h0, h1⟩ | ⟨h0, h1, h2⟩ | ⟨h0, h1, h2, h3⟩ | ⟨h0, h1, h2, h3, h4⟩ | ⟨h0, h1, h2, h3, h4, h5⟩ | ⟨h0, h1, h2, h3, h4, h5⟩
  all_goals
    go_enter Tryz.func32, Tryz.ntmps32
    go_wp2
    go_ret
    refine ⟨?_, rfl⟩
    rw [HV.out]
    simp only [*, Bool.or_true, Bool.true_or, Bool.or_false, if_true, if_false, Bool.false_eq_true]
    first | done | rfl
set_option maxHeartbeats 400000 in
theorem hends_any {w : World} {mb D : Nat} {sn pl : Int} {h : Hs} {r : Rg} (m : MaH w mb D sn pl h r) :
    Calls Tryz.prog 52 #[mptr mb] w fun e w' => e = .returned (.int .i64 (h.en : Nat)) ∧ w = w' := by
  have c4 := m.c4
  clear m
  go_enter Tryz.func52, Tryz.ntmps52
  go_wp2
  go_ret
  exact ⟨rfl, rfl⟩
end Go.Proofs.YtbojbkpplejdmaaGreat
namespace Go.Proofs.YtbojbkpplejdmaaGreat
open Go.RowKit

/-- A machine with its lengths, and with so much open. -/
structure WasH (w : World) (mb D : Nat) (sn pl : Int) (h : Hs) (r : Rg) : Prop where
  mac : MaH w mb D sn pl h r
  lenB : r.B.length = 11
  lenE : r.E.length = 200
  ops : OpIs h.op r.E
  good : h.op.all okO = true
  deep : h.op.length ≤ D
  most : D ≤ 200
section
variable {w : World} {mb D : Nat} {sn pl : Int} {h : Hs} {r : Rg}
theorem WasH.s1 (m : WasH w mb D sn pl h r) (x : Int) : WasH (w.setCell ⟨mb, 1, none⟩ (.int .i64 x)) mb D x pl h r := ⟨MaH.s1 m.mac x, m.lenB, m.lenE, m.ops, m.good, m.deep, m.most⟩
theorem WasH.s2 (m : WasH w mb D sn pl h r) (x : Int) : WasH (w.setCell ⟨mb, 2, none⟩ (.int .i64 x)) mb D sn x h r := ⟨MaH.s2 m.mac x, m.lenB, m.lenE, m.ops, m.good, m.deep, m.most⟩
theorem WasH.s3 (m : WasH w mb D sn pl h r) : WasH (w.setCell ⟨mb, 3, none⟩ (.int .i64 ((h.pc : Int) + 1))) mb D sn pl (pcH h) r := ⟨MaH.s3 m.mac (by simp), m.lenB, m.lenE, m.ops, m.good, m.deep, m.most⟩
theorem WasH.s4 (m : WasH w mb D sn pl h r) : WasH (w.setCell ⟨mb, 4, none⟩ (.int .i64 ((h.en : Int) + 1))) mb D sn pl { h with en := h.en + 1 } r := ⟨MaH.s4 m.mac (by simp), m.lenB, m.lenE, m.ops, m.good, m.deep, m.most⟩
theorem WasH.s5 (m : WasH w mb D sn pl h r) (x : Int) : WasH (w.setCell ⟨mb, 5, none⟩ (.int .i64 x)) mb D sn pl h { r with sp := x } := ⟨MaH.s5 m.mac x, m.lenB, m.lenE, m.ops, m.good, m.deep, m.most⟩
theorem WasH.s6 (m : WasH w mb D sn pl h r) (x : Int) : WasH (w.setCell ⟨mb, 6, none⟩ (.int .i64 x)) mb D sn pl h { r with tn := x } := ⟨MaH.s6 m.mac x, m.lenB, m.lenE, m.ops, m.good, m.deep, m.most⟩
theorem WasH.s7 (m : WasH w mb D sn pl h r) (n : Nat) : WasH (w.setCell ⟨mb, 7, none⟩ (.int .i64 (n : Nat))) mb D sn pl { h with last := n } r := ⟨MaH.s7 m.mac rfl, m.lenB, m.lenE, m.ops, m.good, m.deep, m.most⟩
theorem WasH.s8 (m : WasH w mb D sn pl h r) (x : Bool) : WasH (w.setCell ⟨mb, 8, none⟩ (.bool x)) mb D sn pl { h with br := x } r := ⟨MaH.s8 m.mac x, m.lenB, m.lenE, m.ops, m.good, m.deep, m.most⟩
theorem WasH.s9 (m : WasH w mb D sn pl h r) (y : UInt8) : WasH (w.setCell ⟨mb, 9, none⟩ (.int .u8 (y.toNat : Int))) mb D sn pl h { r with qt := y } := ⟨MaH.s9 m.mac rfl, m.lenB, m.lenE, m.ops, m.good, m.deep, m.most⟩
theorem WasH.s10 (m : WasH w mb D sn pl h r) (x : ByteArray) : WasH (w.setCell ⟨mb, 10, none⟩ (.string x)) mb D sn pl h { r with rs := x } := ⟨MaH.s10 m.mac x, m.lenB, m.lenE, m.ops, m.good, m.deep, m.most⟩
theorem WasH.s11 (m : WasH w mb D sn pl h r) (x : Int) : WasH (w.setCell ⟨mb, 11, none⟩ (.int .i64 x)) mb D sn pl h { r with sz := x } := ⟨MaH.s11 m.mac x, m.lenB, m.lenE, m.ops, m.good, m.deep, m.most⟩
theorem WasH.sB (m : WasH w mb D sn pl h r) (i : Nat) (hi : i < 11) (x : Value) : WasH (w.setCell ⟨mb, 12 + i, none⟩ x) mb D sn pl h { r with B := r.B.set i x } := ⟨MaH.sB m.mac i (by rw [m.lenB]; exact hi) x, by rw [List.length_set]; exact m.lenB, m.lenE, m.ops, m.good, m.deep, m.most⟩
theorem WasH.push (m : WasH w mb D sn pl h r) (t : UInt8) (ht : okO t = true) (hlt : h.op.length < D) {x y : Int} (hx : x = ((opZ t).toNat : Int)) (hy : y = (h.op.length : Int) + 1) :
    WasH ((w.setCell ⟨mb, 24 + h.op.length, none⟩ (.int .u8 x)).setCell ⟨mb, 23, none⟩ (.int .i64 y)) mb D sn pl { h with op := t :: h.op } { r with E := r.E.set h.op.length (.int .u8 x) } :=
  ⟨(MaH.sE m.mac m.lenB h.op.length (.int .u8 x)).sd m.lenB (by rw [hy, List.length_cons]; omega), m.lenB, by rw [List.length_set]; exact m.lenE, m.ops.push (by rw [m.lenE]; have := m.most; omega) hx, by
    show (t :: h.op).all okO = true
    rw [List.all_cons, ht, m.good]
    rfl, hlt, m.most⟩
theorem WasH.pop (m : WasH w mb D sn pl h r) {t : UInt8} {o : List UInt8} (ho : h.op = t :: o) {y : Int} (hy : y = (o.length : Int)) :
    WasH (w.setCell ⟨mb, 23, none⟩ (.int .i64 y)) mb D sn pl { h with op := o } r :=
  ⟨MaH.sd m.mac m.lenB hy, m.lenB, m.lenE, by
    have := m.ops
    rw [ho] at this
    exact this.2, by
    have := m.good
    rw [ho, List.all_cons, Bool.and_eq_true] at this
    exact this.2, by
    have := m.deep
    rw [ho, List.length_cons] at this
    exact Nat.le_of_succ_le this, m.most⟩
theorem WasH.drewN (m : WasH w mb D sn pl h r) (n : Nat) : WasH (w.drewN n) mb D sn pl h r := ⟨Blk.drewN m.mac n, m.lenB, m.lenE, m.ops, m.good, m.deep, m.most⟩
theorem WasH.same (m : WasH w mb D sn pl h r) {w' : World} (e : w'.heap[mb]? = w.heap[mb]?) : WasH w' mb D sn pl h r := ⟨e.trans m.mac, m.lenB, m.lenE, m.ops, m.good, m.deep, m.most⟩
end
def BegIs (acc : List UInt8) (B : List Value) : Prop := ∀ i x, acc[i]? = some x → i < 11 → B[i]? = some (.int .u8 (x.toNat : Int))
/-- What a machine's registers are, where reading stands so. -/
def RegH (p : Hp) (r : Rg) : Prop :=
  match p with
  | .z => r.sp = 0
  | .w dig acc => r.sp = 1 ∧ r.sz = ((min acc.length 11 : Nat) : Int) ∧ BegIs acc r.B ∧ ∃ x, acc[0]? = some x ∧ dig = digB x
  | .t y esc => r.qt = y ∧ (y = 34 ∨ y = 39) ∧ (if esc then r.sp = 8 ∧ r.tn = 2 else r.sp = 2)
  | .g esc dol => r.qt = 96 ∧ (if esc then dol = false ∧ r.sp = 8 ∧ r.tn = 2 else r.sp = if dol then 3 else 2)
  | .p esc inb => if esc then r.sp = 8 ∧ r.tn = (if inb then 6 else 5) else r.sp = if inb then 6 else 5
  | .f => r.sp = 7
  | .s => r.sp = 4
  | .l => r.sp = 9
  | .k star => r.sp = if star then 11 else 10
  | .x i => r.sp = 12 ∧ ((i = 1 ∧ r.rs = ⟨#[33, 45, 45]⟩) ∨ (i = 2 ∧ r.rs = ⟨#[45, 45]⟩) ∨ (i = 3 ∧ r.rs = ⟨#[45]⟩))
/-- A machine behind a byte. -/
def MacSH (w : World) (mb D : Nat) (sn pl : Int) (s : Sh) : Prop := match s with
  | .go p h => ∃ r, WasH w mb D sn pl h r ∧ RegH p r
  | .no h => ∃ r, WasH w mb D sn pl h r ∧ r.sp = 13
def SteH (w w' : World) (mb D : Nat) (sn pl : Int) (s : Sh) : Prop := Mv w.heap.size [mb] w w' ∧ MacSH w' mb D sn pl s
theorem Mv.then1 {w w1 w2 : World} {mb : Nat} (h1 : Mv w.heap.size [mb] w w1) (h2 : Mv w1.heap.size [mb] w1 w2) : Mv w.heap.size [mb] w w2 := h1.trans (h2.mono h1.size (fun _ hx => Or.inl hx))
theorem SteH.pre {w w1 w2 : World} {mb D : Nat} {sn pl : Int} {s : Sh} (h1 : Mv w.heap.size [mb] w w1) (h2 : SteH w1 w2 mb D sn pl s) : SteH w w2 mb D sn pl s := ⟨h1.then1 h2.1, h2.2⟩

set_option maxHeartbeats 400000 in
theorem lay_any {w : World} {mb D : Nat} {sn pl : Int} {h : Hs} {r : Rg} (m : WasH w mb D sn pl h r) (n : Nat) {x : Int} (hx : x = (n : Int)) :
    Calls Tryz.prog 88 #[mptr mb, .int .i64 x] w fun e w' => e = .returned (.tuple #[]) ∧ Mv w.heap.size [mb] w w' ∧ WasH w' mb D sn pl (endH h n) r := by
  subst hx
  have c7 := m.mac.c7
  have c8 := m.mac.c8
  have z7 := Blk.frozen m.mac 7
  have z8 := Blk.frozen m.mac 8
  have M := Lib.hid m
  clear m
  go_enter Tryz.func88, Tryz.ntmps88
  go_wp2
  go_end0
  exact ⟨rfl, ((mv0 w mb).put1 _ _).put1 _ _, (M.out.s7 n).s8 false⟩
set_option maxHeartbeats 400000 in
theorem joins_any {w : World} {mb D : Nat} {sn pl : Int} {h : Hs} {r : Rg} (m : WasH w mb D sn pl h r) :
    Calls Tryz.prog 103 #[mptr mb] w fun e w' => e = .returned (.bool (joiH h)) ∧ w = w' := by
  have c7 := m.mac.c7
  have c8 := m.mac.c8
  clear m
  have e : joiH h = (((h.last : Nat) : Int) == 1 && !h.br) := by
    unfold joiH
    congr 1
    rw [Bool.eq_iff_iff, beq_iff_eq, beq_iff_eq]
    omega
  rw [e]
  clear e
  generalize ((h.last : Nat) : Int) = l at *
  generalize h.br = b at *
  cases h0 : (l == 1)
  all_goals
    go_enter Tryz.func103, Tryz.ntmps103
    go_wp2
    go_ret
    exact ⟨rfl, rfl⟩

set_option maxHeartbeats 1000000 in
set_option maxRecDepth 10000 in
theorem enter_any {w : World} {mb D : Nat} {sn pl : Int} {h : Hs} {r : Rg} (m : WasH w mb D sn pl h r) (t : UInt8) (ht : okO t = true) {x : Int} (hx : x = ((opZ t).toNat : Int)) :
    Calls Tryz.prog 90 #[mptr mb, .int .u8 x] w fun e w' => e = .returned (.tuple #[]) ∧ SteH w w' mb D sn pl (if h.op.length == D then .no h else .go .z (endH { h with op := t :: h.op } 0)) := by
  have c0 := m.mac.c0
  have c5 := m.mac.c5
  have c23 := m.mac.cd m.lenB
  have z5 := Blk.frozen m.mac 5
  have z23 := Blk.frozen m.mac 23
  have zE := Blk.frozen m.mac (24 + h.op.length)
  have M := Lib.hid m
  have hd := m.deep
  have hD := m.most
  by_cases hlt : h.op.length < D
  · rw [if_neg (by rw [beq_iff_eq]; omega)]
    obtain ⟨y, hy⟩ : ∃ y, r.E[h.op.length]? = some y := ⟨_, List.getElem?_eq_getElem (by rw [m.lenE]; omega)⟩
    have cE := (m.mac.cE m.lenB h.op.length).trans hy
    have HP : ∀ n, Hid (WasH ((((w.drewN n).setCell ⟨mb, 24 + h.op.length, none⟩ (.int .u8 x)).setCell ⟨mb, 23, none⟩ (.int .i64 ((h.op.length : Int) + 1))).setCell ⟨mb, 5, none⟩ (.int .i64 0)) mb D sn pl { h with op := t :: h.op } { r with E := r.E.set h.op.length (.int .u8 x), sp := 0 }) :=
      fun n => Lib.hid (((m.drewN n).push t ht hlt hx rfl).s5 0)
    have b0 : decide (D ≤ h.op.length) = false := by rw [decide_eq_false_iff_not]; omega
    have b1 : (h.op.length : Int) < 200 := by omega
    have b2 : (0 : Int) ≤ (h.op.length : Int) := by omega
    have HL : Hid (∀ n, Calls Tryz.prog 88 #[mptr mb, .int .i64 0] ((((w.drewN n).setCell ⟨mb, 24 + h.op.length, none⟩ (.int .u8 x)).setCell ⟨mb, 23, none⟩ (.int .i64 ((h.op.length : Int) + 1))).setCell ⟨mb, 5, none⟩ (.int .i64 0)) fun e w' => e = .returned (.tuple #[]) ∧ SteH w w' mb D sn pl (.go .z (endH { h with op := t :: h.op } 0))) := Lib.hid fun n => by
      refine (lay_any (HP n).out 0 rfl).mono ?_
      rintro e w' ⟨rfl, h1, h2⟩
      exact ⟨rfl, (((((mv0 w mb).drewN _).put1 _ _).put1 _ _).put1 _ _).then1 h1, _, h2, rfl⟩
    clear m hlt hd hD HP M hy hx
    generalize h.op.length = d at *
    go_enter Tryz.func90, Tryz.ntmps90
    go_wp2
    go_quiet (fail)
    go_wp2
    go_region
    go_wp2_with (go_at_call 88; (with_reducible refine (HL.out _).mono ?_); rintro e w1 ⟨rfl, hs⟩)
    go_end0
    exact ⟨rfl, hs⟩
  · rw [if_pos (by rw [beq_iff_eq]; omega)]
    have b0 : decide (D ≤ h.op.length) = true := by rw [decide_eq_true_iff]; omega
    clear m hlt hd hD hx
    have HP : ∀ n, Hid (SteH w ((w.drewN n).setCell ⟨mb, 5, none⟩ (.int .i64 13)) mb D sn pl (.no h)) := fun n => Lib.hid ⟨((mv0 w mb).drewN _).put1 _ _, _, (M.out.drewN n).s5 13, rfl⟩
    generalize h.op.length = d at *
    go_enter Tryz.func90, Tryz.ntmps90
    go_wp2
    go_quiet (fail)
    go_wp2
    refine bodyPost_ret (results_none rfl _ _ _) rfl ?_
    exact ⟨rfl, (HP _).out⟩

/-! What a closing sign does. -/
def levH (h : Hs) (b : UInt8) : Sh := match h.op with
  | [] => .no h
  | o :: r => if b == 125 && o == 36 then .go (.g false false) { h with op := r }
    else if (b == 41 && o == 40) || (b == 93 && o == 91) || (b == 125 && o == 123) then
      (if b == 125 then .go .z (endH { h with op := r, en := h.en + (if r.isEmpty then 1 else 0) } 2) else .go .z (endH { h with op := r } 1))
    else .no h
theorem okO_ways {o : UInt8} (h : okO o = true) : o = 40 ∨ o = 91 ∨ o = 123 ∨ o = 36 := by
  unfold okO at h
  simp only [Bool.or_eq_true, beq_iff_eq] at h
  rcases h with ((h | h) | h) | h
  · exact Or.inl h
  · exact Or.inr (Or.inl h)
  · exact Or.inr (Or.inr (Or.inl h))
  · exact Or.inr (Or.inr (Or.inr h))
theorem lev_no {h : Hs} {b o : UInt8} {l : List UInt8} (ho : h.op = o :: l) (hk : okO o = true) (hb : b ≠ cloZ (opZ o)) : levH h b = .no h := by
  unfold levH
  rw [ho]
  rcases okO_ways hk with rfl | rfl | rfl | rfl
  · have hb' : b ≠ 41 := hb
    simp [hb']
  · have hb' : b ≠ 93 := hb
    simp [hb']
  · have hb' : b ≠ 125 := hb
    simp [hb']
  · have hb' : b ≠ 125 := hb
    simp [hb']
theorem lev_yes {h : Hs} {o : UInt8} {l : List UInt8} (ho : h.op = o :: l) (hk : okO o = true) : levH h (cloZ (opZ o)) = if o == 36 then .go (.g false false) { h with op := l } else if o == 123 then .go .z (endH { h with op := l, en := h.en + (if l.isEmpty then 1 else 0) } 2) else .go .z (endH { h with op := l } 1) := by
  unfold levH
  rw [ho]
  rcases okO_ways hk with rfl | rfl | rfl | rfl <;> rfl

set_option maxHeartbeats 1000000 in
set_option maxRecDepth 10000 in
theorem leave_none {w : World} {mb D : Nat} {sn pl : Int} {h : Hs} {r : Rg} (m : WasH w mb D sn pl h r) (b : UInt8) (h0 : h.op = []) :
    Calls Tryz.prog 102 #[mptr mb, .int .u8 (b.toNat : Int)] w fun e w' => e = .returned (.tuple #[]) ∧ SteH w w' mb D sn pl (levH h b) := by
  have c5 := m.mac.c5
  have c23 := m.mac.cd m.lenB
  rw [h0, show (([] : List UInt8).length : Int) = 0 from rfl] at c23
  have z5 := Blk.frozen m.mac 5
  have e : levH h b = .no h := by unfold levH; rw [h0]
  rw [e]
  have HP : ∀ n, Hid (SteH w ((w.drewN n).setCell ⟨mb, 5, none⟩ (.int .i64 13)) mb D sn pl (.no h)) := fun n => Lib.hid ⟨((mv0 w mb).drewN _).put1 _ _, _, (m.drewN n).s5 13, rfl⟩
  clear m e h0
  go_enter Tryz.func102, Tryz.ntmps102
  go_wp2
  go_quiet (fail)
  go_wp2
  refine bodyPost_ret (results_none rfl _ _ _) rfl ?_
  exact ⟨rfl, (HP _).out⟩

set_option maxHeartbeats 1000000 in
set_option maxRecDepth 10000 in
theorem leave_other {w : World} {mb D : Nat} {sn pl : Int} {h : Hs} {r : Rg} (m : WasH w mb D sn pl h r) (b : UInt8) {o : UInt8} {l : List UInt8} (h0 : h.op = o :: l) (hb : b ≠ cloZ (opZ o)) :
    Calls Tryz.prog 102 #[mptr mb, .int .u8 (b.toNat : Int)] w fun e w' => e = .returned (.tuple #[]) ∧ SteH w w' mb D sn pl (levH h b) := by
  have c5 := m.mac.c5
  have c23 := m.mac.cd m.lenB
  have ho := m.ops
  have hg := m.good
  have hd := m.deep
  have hD := m.most
  rw [h0] at ho hg hd
  rw [h0, show ((o :: l).length : Int) = (l.length : Int) + 1 from by simp] at c23
  rw [List.all_cons, Bool.and_eq_true] at hg
  rw [List.length_cons] at hd
  have cE := (m.mac.cE m.lenB l.length).trans ho.1
  have z5 := Blk.frozen m.mac 5
  rw [lev_no h0 hg.1 hb]
  have HP : ∀ n, Hid (SteH w ((w.drewN n).setCell ⟨mb, 5, none⟩ (.int .i64 13)) mb D sn pl (.no h)) := fun n => Lib.hid ⟨((mv0 w mb).drewN _).put1 _ _, _, (m.drewN n).s5 13, rfl⟩
  have HC := Lib.hid (fun W => closing_any (opZ o) W)
  have b0 : (((l.length : Nat) : Int) + 1 == 0) = false := by rw [beq_eq_false_iff_ne]; omega
  have b1 : (l.length : Int) < 200 := by omega
  have b2 : (0 : Int) ≤ (l.length : Int) := by omega
  have b3 : (((cloZ (opZ o)).toNat : Int) != (b.toNat : Int)) = true := by
    rw [bne_iff_ne]
    intro e
    exact hb (UInt8.toNat_inj.1 (by omega))
  clear m h0 ho hg hd hD hb
  generalize l.length = d at *
  generalize ((cloZ (opZ o)).toNat : Int) = x at *
  go_enter Tryz.func102, Tryz.ntmps102
  go_wp2
  go_quiet ((go_at_call 105; exact Calls.quiet_of_same ((HC.out _).mono fun _ _ h => ⟨h.1, h.2.symm⟩)))
  go_wp2
  refine bodyPost_ret (results_none rfl _ _ _) rfl ?_
  exact ⟨rfl, (HP _).out⟩
end Go.Proofs.YtbojbkpplejdmaaGreat
