/-
  What the document's Type of layer 20 answers. Condition: the text is not longer than memory.
  What HasSuffix of the library answers, and of the document's functions ends, one and Essence. Condition: texts are as long as a length can be.
  What the functions of package group answer of a type. Condition: the texts are as long as a mebibyte.
-/
import Derived.Test.YtkdjjlfpaciohaaGreatDoorZ31
import Derived.Test.YtkdjjlfpaciohaaGreatDoorZ4
import Derived.Test.YtkdjjlfpaciohaaGreatDoorZ13
import Derived.Test.YtkdjjlfpaciohaaGreatDoorZ10
import Derived.Test.YtkdjjlfpaciohaaGreatDoorZ11
namespace Go.Proofs.YtkdjjlfpaciohaaGreatDoor
open Go.RowKit

/-- Four texts. -/
def fourT (t1 t2 t3 t4 : ByteArray) : Nat → ByteArray
  | 0 => t1
  | 1 => t2
  | 2 => t3
  | _ => t4
theorem four_some {t1 t2 t3 t4 : ByteArray} {k : Nat} (hk : k < 4) (h : ∀ j, j < k → emB (fourT t1 t2 t3 t4 j) = true) (he : emB (fourT t1 t2 t3 t4 k) = false) : sgA t1 t2 t3 t4 = fourT t1 t2 t3 t4 k := by
  have no : ∀ {t : ByteArray}, emB t = true → ¬ emB t = false := fun h e => by rw [h] at e; cases e
  unfold sgA
  match k, hk with
  | 0, _ => rw [if_pos (show emB t1 = false from he)]; rfl
  | 1, _ => rw [if_neg (no (show emB t1 = true from h 0 (by omega))), if_pos (show emB t2 = false from he)]; rfl
  | 2, _ => rw [if_neg (no (show emB t1 = true from h 0 (by omega))), if_neg (no (show emB t2 = true from h 1 (by omega))), if_pos (show emB t3 = false from he)]; rfl
  | 3, _ => rw [if_neg (no (show emB t1 = true from h 0 (by omega))), if_neg (no (show emB t2 = true from h 1 (by omega))), if_neg (no (show emB t3 = true from h 2 (by omega)))]; rfl
theorem four_none {t1 t2 t3 t4 : ByteArray} (h : ∀ j, j < 4 → emB (fourT t1 t2 t3 t4 j) = true) : emB (sgA t1 t2 t3 t4) = true := by
  have no : ∀ {t : ByteArray}, emB t = true → ¬ emB t = false := fun h e => by rw [h] at e; cases e
  unfold sgA
  rw [if_neg (no (show emB t1 = true from h 0 (by omega))), if_neg (no (show emB t2 = true from h 1 (by omega))), if_neg (no (show emB t3 = true from h 2 (by omega)))]
  exact h 3 (by omega)
theorem four_in {w : World} {b k : Nat} {t : TypeId} {t1 t2 t3 t4 : ByteArray} (h : Blk w b t #[.string t1, .string t2, .string t3, .string t4]) (hk : k < 4) : w.cell? ⟨b, k, none⟩ = some (.string (fourT t1 t2 t3 t4 k)) := by
  match k, hk with
  | 0, _ => exact h.cell 0
  | 1, _ => exact h.cell 1
  | 2, _ => exact h.cell 2
  | 3, _ => exact h.cell 3

set_option maxHeartbeats 8000000 in
set_option maxRecDepth 100000 in
theorem rtype20_any (s u : ByteArray) (b : Bool) (r1 r2 r3 r4 : Int) (w : World) (hs : s.size ≤ 9223372036854775807) (hu : cutB s 1445 = u) (hr : Sgs u r1 r2 r3 r4) :
    Calls Tryz.prog 24 #[.string s, .bool b] w fun e w' => e = .returned (.string (typS u b r1 r2 r3 r4)) ∧ Below w.heap.size w w' := by
  have hus : u.size ≤ 1445 := by rw [← hu]; exact cutB_size s 1445
  have H0 := Lib.hid (fun W => rcut19_any s W hs)
  rw [hu] at H0
  have H1 := Lib.hid (fun W => rhtml_any u W (by omega))
  have H2 := Lib.hid (fun W => rxml_any u W (by omega))
  have H3 := Lib.hid (fun W => prefix_any u pdfS W (by omega) (by decide))
  have H4 := Lib.hid (fun W g (h : PatsIn W g sgnP 4) => rType_any g 4 4 u sgnP r1 W h (fun i hi => sgn_ok hi) (by omega) (by decide) hr.h1)
  have H5 := Lib.hid (fun W g (h : PatsIn W g imgP 8) => rType_any g 8 8 u imgP r2 W h (fun i hi => img_ok hi) (by omega) (by decide) hr.h2)
  have H6 := Lib.hid (fun W => rmedia_any u r3 W (by omega) hr.h3)
  have H7 := Lib.hid (fun W g (h : PatsIn W g arcP 3) => rType_any g 3 3 u arcP r4 W h (fun i hi => arc_ok hi) (by omega) (by decide) hr.h4)
  have H8 := Lib.hid (fun W => rfirst_any u W (by omega))
  have hI : decide (fstI u < 0) = !hasBin u := by
    unfold fstI hasBin
    by_cases h : binF u < u.size
    · rw [if_pos h, decide_eq_true h, Bool.not_true, decide_eq_false_iff_not]; omega
    · rw [if_neg h, decide_eq_false h]; rfl
  obtain ⟨v, hv⟩ : ∃ v, v = typS u b r1 r2 r3 r4 := ⟨_, rfl⟩
  rw [← hv]
  clear hr hu hs
  unfold typS at hv
  generalize htmB u = h at *
  generalize xmlB u = x at *
  generalize prefB u pdfS = p at *
  generalize hasBin u = o at *
  generalize fstI u = fi at *
  generalize typeOf sgnP r1 = t1 at *
  generalize typeOf imgP r2 = t2 at *
  generalize mdA (typeOf medP r3) (filmB u) (filW u) (isO u) = t3 at *
  generalize typeOf arcP r4 = t4 at *
  have HB := Lib.hid (Below.refl w.heap.size w)
  cases b
  · rw [show (if false = true then scA h x p else ⟨#[]⟩) = (⟨#[]⟩ : ByteArray) from if_neg (by simp)] at hv
    have HVS : Hid (∀ k, k < 4 → (∀ j, j < k → emB (fourT t1 t2 t3 t4 j) = true) → emB (fourT t1 t2 t3 t4 k) = false → v = fourT t1 t2 t3 t4 k) := Lib.hid (fun k hk h1 h2 => by
      have e := four_some hk h1 h2
      rw [hv]
      unfold tyA
      rw [if_neg (by rw [em_none]; simp), e, if_pos h2])
    have HVN : Hid ((∀ j, j < 4 → emB (fourT t1 t2 t3 t4 j) = true) → v = lsA o) := Lib.hid (fun h1 => by
      have e := four_none h1
      rw [hv]
      unfold tyA
      rw [if_neg (by rw [em_none]; simp), if_neg (by rw [e]; simp)])
    clear hv
    go_enter Tryz.func24, Tryz.ntmps24
    go_wp2_with (first
      | (go_at_call 26; (with_reducible refine (H0.out _).mono ?_); rintro e w1 ⟨rfl, rfl⟩)
      | (go_at_call 44; (with_reducible refine (H1.out _).mono ?_); rintro e w1 ⟨rfl, b1⟩; have HB := Lib.hid (HB.out.trans (b1.mono HB.out.size)); clear b1)
      | (go_at_call 45; (with_reducible refine (H2.out _).mono ?_); rintro e w1 ⟨rfl, rfl⟩)
      | (go_at_call 46; (with_reducible refine (H3.out _).mono ?_); rintro e w1 ⟨rfl, rfl⟩)
      | (go_at_call 47; refine (rsigns_any _).mono ?_; rintro e w1 ⟨g, rfl, hg, hp, b1⟩; have HB := Lib.hid (HB.out.trans (b1.mono HB.out.size)); have HP := Lib.hid hp; clear b1 hp hg)
      | (go_at_call 39; refine (refTable_any _).mono ?_; rintro e w1 ⟨g, rfl, hg, hp, b1⟩; have HB := Lib.hid (HB.out.trans (b1.mono HB.out.size)); have HP := Lib.hid hp; clear b1 hp hg)
      | (go_at_call 48; refine (refArchives_any _).mono ?_; rintro e w1 ⟨g, rfl, hg, hp, b1⟩; have HB := Lib.hid (HB.out.trans (b1.mono HB.out.size)); have HP := Lib.hid hp; clear b1 hp hg)
      | (go_at_call 38; (with_reducible refine (H4.out _ _ HP.out).mono ?_); rintro e w1 ⟨rfl, b1⟩; have HB := Lib.hid (HB.out.trans (b1.mono HB.out.size)); clear b1)
      | (go_at_call 38; (with_reducible refine (H5.out _ _ HP.out).mono ?_); rintro e w1 ⟨rfl, b1⟩; have HB := Lib.hid (HB.out.trans (b1.mono HB.out.size)); clear b1)
      | (go_at_call 38; (with_reducible refine (H7.out _ _ HP.out).mono ?_); rintro e w1 ⟨rfl, b1⟩; have HB := Lib.hid (HB.out.trans (b1.mono HB.out.size)); clear b1)
      | (go_at_call 41; (with_reducible refine (H6.out _).mono ?_); rintro e w1 ⟨rfl, b1⟩; have HB := Lib.hid (HB.out.trans (b1.mono HB.out.size)); clear b1))
    have HK := Lib.hid (Blk.new w1 9 #[.string t1, .string t2, .string t3, .string t4])
    have HBW := Lib.hid (HB.out.alloc HB.out.size (.cells #[.string t1, .string t2, .string t3, .string t4] 9))
    generalize w1.alloc (.cells #[.string t1, .string t2, .string t3, .string t4] 9) = W at *
    generalize w1.heap.size = g0 at *
    go_loop [6] (fun i => ∃ k : Nat, k ≤ 4 ∧ i = .int .i64 k ∧ ∀ j, j < k → emB (fourT t1 t2 t3 t4 j) = true) (fun i => 4 - (intOf i).toNat)
    case atStart => exact ⟨0, by omega, rfl, fun j hj => absurd hj (by omega)⟩
    case round =>
      obtain ⟨k, hk, rfl, hno⟩ := hrel
      have HN := Lib.hid hno
      clear hno
      by_cases hlt : k < 4
      · have c0 := four_in HK.out hlt
        cases he : emB (fourT t1 t2 t3 t4 k)
        · have HV := Lib.hid (HVS.out k hlt HN.out he)
          obtain ⟨e1, e2⟩ := em_says he
          generalize fourT t1 t2 t3 t4 k = y at *
          clear he
          go_wp2
          go_ret
          exact ⟨by rw [HV.out]; first | done | rfl, HBW.out⟩
        · have HE := Lib.hid he
          obtain ⟨e1, e2⟩ := em_says he
          obtain ⟨y, hy⟩ : ∃ y, y = fourT t1 t2 t3 t4 k := ⟨_, rfl⟩
          rw [← hy] at c0 e1 e2
          clear he hy
          go_wp2
          go_round
          case rel => exact ⟨k + 1, by omega, by go_num, fun j hj => if e : j = k then by subst e; exact HE.out else HN.out j (by omega)⟩
          case measure => simp [intOf]; omega
      · obtain rfl : k = 4 := by omega
        have HV := Lib.hid (HVN.out HN.out)
        cases o
        all_goals
          go_wp2_with (go_at_call 49; (with_reducible refine (H8.out _).mono ?_); rintro e w1 ⟨rfl, rfl⟩)
          go_ret
          exact ⟨by rw [HV.out]; first | done | rfl, HBW.out⟩
  · rw [if_pos rfl] at hv
    cases h
    · cases x
      · cases p
        · rw [show scA false false false = (⟨#[]⟩ : ByteArray) from rfl] at hv
          have HVS : Hid (∀ k, k < 4 → (∀ j, j < k → emB (fourT t1 t2 t3 t4 j) = true) → emB (fourT t1 t2 t3 t4 k) = false → v = fourT t1 t2 t3 t4 k) := Lib.hid (fun k hk h1 h2 => by
            have e := four_some hk h1 h2
            rw [hv]
            unfold tyA
            rw [if_neg (by rw [em_none]; simp), e, if_pos h2])
          have HVN : Hid ((∀ j, j < 4 → emB (fourT t1 t2 t3 t4 j) = true) → v = lsA o) := Lib.hid (fun h1 => by
            have e := four_none h1
            rw [hv]
            unfold tyA
            rw [if_neg (by rw [em_none]; simp), if_neg (by rw [e]; simp)])
          clear hv
          go_enter Tryz.func24, Tryz.ntmps24
          go_wp2_with (first
            | (go_at_call 26; (with_reducible refine (H0.out _).mono ?_); rintro e w1 ⟨rfl, rfl⟩)
            | (go_at_call 44; (with_reducible refine (H1.out _).mono ?_); rintro e w1 ⟨rfl, b1⟩; have HB := Lib.hid (HB.out.trans (b1.mono HB.out.size)); clear b1)
            | (go_at_call 45; (with_reducible refine (H2.out _).mono ?_); rintro e w1 ⟨rfl, rfl⟩)
            | (go_at_call 46; (with_reducible refine (H3.out _).mono ?_); rintro e w1 ⟨rfl, rfl⟩)
            | (go_at_call 47; refine (rsigns_any _).mono ?_; rintro e w1 ⟨g, rfl, hg, hp, b1⟩; have HB := Lib.hid (HB.out.trans (b1.mono HB.out.size)); have HP := Lib.hid hp; clear b1 hp hg)
            | (go_at_call 39; refine (refTable_any _).mono ?_; rintro e w1 ⟨g, rfl, hg, hp, b1⟩; have HB := Lib.hid (HB.out.trans (b1.mono HB.out.size)); have HP := Lib.hid hp; clear b1 hp hg)
            | (go_at_call 48; refine (refArchives_any _).mono ?_; rintro e w1 ⟨g, rfl, hg, hp, b1⟩; have HB := Lib.hid (HB.out.trans (b1.mono HB.out.size)); have HP := Lib.hid hp; clear b1 hp hg)
            | (go_at_call 38; (with_reducible refine (H4.out _ _ HP.out).mono ?_); rintro e w1 ⟨rfl, b1⟩; have HB := Lib.hid (HB.out.trans (b1.mono HB.out.size)); clear b1)
            | (go_at_call 38; (with_reducible refine (H5.out _ _ HP.out).mono ?_); rintro e w1 ⟨rfl, b1⟩; have HB := Lib.hid (HB.out.trans (b1.mono HB.out.size)); clear b1)
            | (go_at_call 38; (with_reducible refine (H7.out _ _ HP.out).mono ?_); rintro e w1 ⟨rfl, b1⟩; have HB := Lib.hid (HB.out.trans (b1.mono HB.out.size)); clear b1)
            | (go_at_call 41; (with_reducible refine (H6.out _).mono ?_); rintro e w1 ⟨rfl, b1⟩; have HB := Lib.hid (HB.out.trans (b1.mono HB.out.size)); clear b1))
          have HK := Lib.hid (Blk.new w1 9 #[.string t1, .string t2, .string t3, .string t4])
          have HBW := Lib.hid (HB.out.alloc HB.out.size (.cells #[.string t1, .string t2, .string t3, .string t4] 9))
          generalize w1.alloc (.cells #[.string t1, .string t2, .string t3, .string t4] 9) = W at *
          generalize w1.heap.size = g0 at *
          go_loop [6] (fun i => ∃ k : Nat, k ≤ 4 ∧ i = .int .i64 k ∧ ∀ j, j < k → emB (fourT t1 t2 t3 t4 j) = true) (fun i => 4 - (intOf i).toNat)
          case atStart => exact ⟨0, by omega, rfl, fun j hj => absurd hj (by omega)⟩
          case round =>
            obtain ⟨k, hk, rfl, hno⟩ := hrel
            have HN := Lib.hid hno
            clear hno
            by_cases hlt : k < 4
            · have c0 := four_in HK.out hlt
              cases he : emB (fourT t1 t2 t3 t4 k)
              · have HV := Lib.hid (HVS.out k hlt HN.out he)
                obtain ⟨e1, e2⟩ := em_says he
                generalize fourT t1 t2 t3 t4 k = y at *
                clear he
                go_wp2
                go_ret
                exact ⟨by rw [HV.out]; first | done | rfl, HBW.out⟩
              · have HE := Lib.hid he
                obtain ⟨e1, e2⟩ := em_says he
                obtain ⟨y, hy⟩ : ∃ y, y = fourT t1 t2 t3 t4 k := ⟨_, rfl⟩
                rw [← hy] at c0 e1 e2
                clear he hy
                go_wp2
                go_round
                case rel => exact ⟨k + 1, by omega, by go_num, fun j hj => if e : j = k then by subst e; exact HE.out else HN.out j (by omega)⟩
                case measure => simp [intOf]; omega
            · obtain rfl : k = 4 := by omega
              have HV := Lib.hid (HVN.out HN.out)
              cases o
              all_goals
                go_wp2_with (go_at_call 49; (with_reducible refine (H8.out _).mono ?_); rintro e w1 ⟨rfl, rfl⟩)
                go_ret
                exact ⟨by rw [HV.out]; first | done | rfl, HBW.out⟩
        · rw [show scA false false true = pdfY from rfl] at hv
          have HV : Hid (v = pdfY) := Lib.hid (by rw [hv]; unfold tyA; rw [if_pos (by kernel_rfl)])
          clear hv
          go_enter Tryz.func24, Tryz.ntmps24
          go_wp2_with (first
            | (go_at_call 26; (with_reducible refine (H0.out _).mono ?_); rintro e w1 ⟨rfl, rfl⟩)
            | (go_at_call 44; (with_reducible refine (H1.out _).mono ?_); rintro e w1 ⟨rfl, b1⟩; have HB := Lib.hid (HB.out.trans (b1.mono HB.out.size)); clear b1)
            | (go_at_call 45; (with_reducible refine (H2.out _).mono ?_); rintro e w1 ⟨rfl, rfl⟩)
            | (go_at_call 46; (with_reducible refine (H3.out _).mono ?_); rintro e w1 ⟨rfl, rfl⟩)
            | (go_at_call 47; refine (rsigns_any _).mono ?_; rintro e w1 ⟨g, rfl, hg, hp, b1⟩; have HB := Lib.hid (HB.out.trans (b1.mono HB.out.size)); have HP := Lib.hid hp; clear b1 hp hg)
            | (go_at_call 39; refine (refTable_any _).mono ?_; rintro e w1 ⟨g, rfl, hg, hp, b1⟩; have HB := Lib.hid (HB.out.trans (b1.mono HB.out.size)); have HP := Lib.hid hp; clear b1 hp hg)
            | (go_at_call 48; refine (refArchives_any _).mono ?_; rintro e w1 ⟨g, rfl, hg, hp, b1⟩; have HB := Lib.hid (HB.out.trans (b1.mono HB.out.size)); have HP := Lib.hid hp; clear b1 hp hg)
            | (go_at_call 38; (with_reducible refine (H4.out _ _ HP.out).mono ?_); rintro e w1 ⟨rfl, b1⟩; have HB := Lib.hid (HB.out.trans (b1.mono HB.out.size)); clear b1)
            | (go_at_call 38; (with_reducible refine (H5.out _ _ HP.out).mono ?_); rintro e w1 ⟨rfl, b1⟩; have HB := Lib.hid (HB.out.trans (b1.mono HB.out.size)); clear b1)
            | (go_at_call 38; (with_reducible refine (H7.out _ _ HP.out).mono ?_); rintro e w1 ⟨rfl, b1⟩; have HB := Lib.hid (HB.out.trans (b1.mono HB.out.size)); clear b1)
            | (go_at_call 41; (with_reducible refine (H6.out _).mono ?_); rintro e w1 ⟨rfl, b1⟩; have HB := Lib.hid (HB.out.trans (b1.mono HB.out.size)); clear b1))
          go_ret
          exact ⟨by rw [HV.out]; first | done | rfl, HB.out⟩
      · rw [show scA false true p = xmlY from rfl] at hv
        have HV : Hid (v = xmlY) := Lib.hid (by rw [hv]; unfold tyA; rw [if_pos (by kernel_rfl)])
        clear hv
        go_enter Tryz.func24, Tryz.ntmps24
        go_wp2_with (first
          | (go_at_call 26; (with_reducible refine (H0.out _).mono ?_); rintro e w1 ⟨rfl, rfl⟩)
          | (go_at_call 44; (with_reducible refine (H1.out _).mono ?_); rintro e w1 ⟨rfl, b1⟩; have HB := Lib.hid (HB.out.trans (b1.mono HB.out.size)); clear b1)
          | (go_at_call 45; (with_reducible refine (H2.out _).mono ?_); rintro e w1 ⟨rfl, rfl⟩)
          | (go_at_call 46; (with_reducible refine (H3.out _).mono ?_); rintro e w1 ⟨rfl, rfl⟩)
          | (go_at_call 47; refine (rsigns_any _).mono ?_; rintro e w1 ⟨g, rfl, hg, hp, b1⟩; have HB := Lib.hid (HB.out.trans (b1.mono HB.out.size)); have HP := Lib.hid hp; clear b1 hp hg)
          | (go_at_call 39; refine (refTable_any _).mono ?_; rintro e w1 ⟨g, rfl, hg, hp, b1⟩; have HB := Lib.hid (HB.out.trans (b1.mono HB.out.size)); have HP := Lib.hid hp; clear b1 hp hg)
          | (go_at_call 48; refine (refArchives_any _).mono ?_; rintro e w1 ⟨g, rfl, hg, hp, b1⟩; have HB := Lib.hid (HB.out.trans (b1.mono HB.out.size)); have HP := Lib.hid hp; clear b1 hp hg)
          | (go_at_call 38; (with_reducible refine (H4.out _ _ HP.out).mono ?_); rintro e w1 ⟨rfl, b1⟩; have HB := Lib.hid (HB.out.trans (b1.mono HB.out.size)); clear b1)
          | (go_at_call 38; (with_reducible refine (H5.out _ _ HP.out).mono ?_); rintro e w1 ⟨rfl, b1⟩; have HB := Lib.hid (HB.out.trans (b1.mono HB.out.size)); clear b1)
          | (go_at_call 38; (with_reducible refine (H7.out _ _ HP.out).mono ?_); rintro e w1 ⟨rfl, b1⟩; have HB := Lib.hid (HB.out.trans (b1.mono HB.out.size)); clear b1)
          | (go_at_call 41; (with_reducible refine (H6.out _).mono ?_); rintro e w1 ⟨rfl, b1⟩; have HB := Lib.hid (HB.out.trans (b1.mono HB.out.size)); clear b1))
        go_ret
        exact ⟨by rw [HV.out]; first | done | rfl, HB.out⟩
    · rw [show scA true x p = htmY from rfl] at hv
      have HV : Hid (v = htmY) := Lib.hid (by rw [hv]; unfold tyA; rw [if_pos (by kernel_rfl)])
      clear hv
      go_enter Tryz.func24, Tryz.ntmps24
      go_wp2_with (first
        | (go_at_call 26; (with_reducible refine (H0.out _).mono ?_); rintro e w1 ⟨rfl, rfl⟩)
        | (go_at_call 44; (with_reducible refine (H1.out _).mono ?_); rintro e w1 ⟨rfl, b1⟩; have HB := Lib.hid (HB.out.trans (b1.mono HB.out.size)); clear b1)
        | (go_at_call 45; (with_reducible refine (H2.out _).mono ?_); rintro e w1 ⟨rfl, rfl⟩)
        | (go_at_call 46; (with_reducible refine (H3.out _).mono ?_); rintro e w1 ⟨rfl, rfl⟩)
        | (go_at_call 47; refine (rsigns_any _).mono ?_; rintro e w1 ⟨g, rfl, hg, hp, b1⟩; have HB := Lib.hid (HB.out.trans (b1.mono HB.out.size)); have HP := Lib.hid hp; clear b1 hp hg)
        | (go_at_call 39; refine (refTable_any _).mono ?_; rintro e w1 ⟨g, rfl, hg, hp, b1⟩; have HB := Lib.hid (HB.out.trans (b1.mono HB.out.size)); have HP := Lib.hid hp; clear b1 hp hg)
        | (go_at_call 48; refine (refArchives_any _).mono ?_; rintro e w1 ⟨g, rfl, hg, hp, b1⟩; have HB := Lib.hid (HB.out.trans (b1.mono HB.out.size)); have HP := Lib.hid hp; clear b1 hp hg)
        | (go_at_call 38; (with_reducible refine (H4.out _ _ HP.out).mono ?_); rintro e w1 ⟨rfl, b1⟩; have HB := Lib.hid (HB.out.trans (b1.mono HB.out.size)); clear b1)
        | (go_at_call 38; (with_reducible refine (H5.out _ _ HP.out).mono ?_); rintro e w1 ⟨rfl, b1⟩; have HB := Lib.hid (HB.out.trans (b1.mono HB.out.size)); clear b1)
        | (go_at_call 38; (with_reducible refine (H7.out _ _ HP.out).mono ?_); rintro e w1 ⟨rfl, b1⟩; have HB := Lib.hid (HB.out.trans (b1.mono HB.out.size)); clear b1)
        | (go_at_call 41; (with_reducible refine (H6.out _).mono ?_); rintro e w1 ⟨rfl, b1⟩; have HB := Lib.hid (HB.out.trans (b1.mono HB.out.size)); clear b1))
      go_ret
      exact ⟨by rw [HV.out]; first | done | rfl, HB.out⟩

end Go.Proofs.YtkdjjlfpaciohaaGreatDoor
namespace Go.Proofs.YtkdjjlfpaciohaaGreatDoor
open Go.RowKit

theorem gEnd_big {s e : ByteArray} (h : s.size < e.size) : gEnd s e = false := by unfold gEnd; rw [decide_eq_false (by omega)]; rfl
theorem gEnd_fits {s e : ByteArray} (h : e.size ≤ s.size) : gEnd s e = ((s.extract (s.size - e.size) s.size).toList == e.toList) := by unfold gEnd; rw [decide_eq_true h]; rfl

theorem slSuffix_any (s e : ByteArray) (w : World) (hs : s.size ≤ 9223372036854775807) (he : e.size ≤ 9223372036854775807) :
    Calls Tryz.prog 78 #[.string s, .string e] w fun x w' => x = .returned (.bool (gEnd s e)) ∧ w = w' := by
  by_cases h : e.size ≤ s.size
  · have d0 : decide ((e.size : Int) ≤ (s.size : Int)) = true := by simpa using h
    rw [gEnd_fits h]
    go_enter Tryz.func78, Tryz.ntmps78
    go_wp2
    go_ret
    exact ⟨rfl, rfl⟩
  · have d0 : decide ((e.size : Int) ≤ (s.size : Int)) = false := by simp; omega
    rw [gEnd_big (by omega)]
    go_enter Tryz.func78, Tryz.ntmps78
    go_wp2
    go_ret
    exact ⟨rfl, rfl⟩
theorem hasSuffix_any (s e : ByteArray) (w : World) (hs : s.size ≤ 9223372036854775807) (he : e.size ≤ 9223372036854775807) :
    Calls Tryz.prog 54 #[.string s, .string e] w fun x w' => x = .returned (.bool (gEnd s e)) ∧ w = w' := by
  have HS := Lib.hid (fun W => slSuffix_any s e W hs he)
  generalize gEnd s e = b at *
  go_enter Tryz.func54, Tryz.ntmps54
  go_wp2_with fail
  refine (HS.out _).mono ?_
  rintro x w1 ⟨rfl, rfl⟩
  go_wp2
  go_ret
  exact ⟨rfl, rfl⟩
theorem rends_any (s e : ByteArray) (w : World) (hs : s.size ≤ 9223372036854775807) (he : e.size ≤ 9223372036854775807) :
    Calls Tryz.prog 42 #[.string s, .string e] w fun x w' => x = .returned (.bool (gEnd s e)) ∧ w = w' := by
  by_cases h : e.size ≤ s.size
  · have d0 : decide ((e.size : Int) ≤ (s.size : Int)) = true := by simpa using h
    rw [gEnd_fits h]
    go_enter Tryz.func42, Tryz.ntmps42
    go_wp2
    go_ret
    exact ⟨rfl, rfl⟩
  · have d0 : decide ((e.size : Int) ≤ (s.size : Int)) = false := by simp; omega
    rw [gEnd_big (by omega)]
    go_enter Tryz.func42, Tryz.ntmps42
    go_wp2
    go_ret
    exact ⟨rfl, rfl⟩

set_option maxHeartbeats 1000000 in
theorem ressence_any (t u : ByteArray) (A : Option Addr) (n c : Nat) (w : World) (ht : t.size ≤ 1048576) (hu : u.size ≤ 1048576) :
    Calls Tryz.prog 11 #[mimV t u A n c] w fun e w' => e = .returned (.string (gEss t u)) ∧ Below w.heap.size w w' := by
  obtain ⟨w0, hw0⟩ : ∃ w0, w0 = w.alloc (.cells #[.string t, .string u, .slice A n c] 24) := ⟨_, rfl⟩
  have HB0 := Lib.hid (show Below w.heap.size w w0 from by rw [hw0]; exact (Below.refl w.heap.size w).alloc (Nat.le_refl _) _)
  have HP0 := Lib.hid (show Blk w0 w.heap.size 24 #[.string t, .string u, .slice A n c] from by rw [hw0]; exact Blk.new _ _ _)
  have c0 := HP0.out.cell 0
  have c1 := HP0.out.cell 1
  have hx : (t ++ ⟨#[47]⟩) ++ u = gEss t u := essL_eq t u
  rw [← hx]
  clear hx
  go_enter Tryz.func11, Tryz.ntmps11
  go_wp2_with fail
  rw [← hw0]
  clear hw0
  go_wp2
  go_ret
  exact ⟨rfl, HB0.out⟩

/-- The texts of a list as it lies in a row. -/
abbrev gTxt (L : List (List UInt8)) : List ByteArray := L.map fun l => ⟨l.toArray⟩
theorem gIn_at {x : ByteArray} {L : List (List UInt8)} {k : Nat} (h : k < (gTxt L).length) : gIn x (L.drop k) = ((gTxt L)[k].toList == x.toList || gIn x (L.drop (k + 1))) := by
  have hl : k < L.length := by simpa using h
  rw [List.drop_eq_getElem_cons hl, gIn_cons]
  congr 1
  have e : (gTxt L)[k].toList = L[k] := by simp [gTxt, Lib.toList_data]
  rw [e]
  exact Bool.beq_comm
set_option maxHeartbeats 2000000 in
theorem rone_any (x : ByteArray) (L : List (List UInt8)) (A : Option Addr) (c : Nat) (w : World) (h : TxIn w A (gTxt L)) (hn : L.length ≤ 1000) :
    Calls Tryz.prog 43 #[.string x, .slice A (gTxt L).length c] w fun e w' => e = .returned (.bool (gIn x L)) ∧ Below w.heap.size w w' := by
  have HA := Lib.hid h
  obtain ⟨r, hr⟩ : ∃ r, r = gIn x L := ⟨_, rfl⟩
  rw [← hr]
  have HR := Lib.hid (show gIn x (L.drop 0) = r from by rw [hr]; rfl)
  have HS := Lib.hid (fun k (hk : k < (gTxt L).length) => gIn_at (x := x) hk)
  have HZ := Lib.hid (show gIn x (L.drop (gTxt L).length) = false from by simp [gIn])
  have hnn : (gTxt L).length ≤ 1000 := by simpa using hn
  generalize gTxt L = xs at *
  clear h hr hn
  go_enter Tryz.func43, Tryz.ntmps43
  go_wp2
  go_loopw [5] (fun i wr => ∃ k : Nat, k ≤ xs.length ∧ i = .int .i64 k ∧ gIn x (L.drop k) = r ∧ Below w.heap.size w wr) (fun i _ => xs.length - (intOf i).toNat)
  case atStart => exact ⟨0, Nat.zero_le _, rfl, HR.out, Below.refl _ _⟩
  case round =>
    obtain ⟨k, hk, rfl, hg, hw⟩ := hrel
    have HW := Lib.hid hw
    have HG := Lib.hid hg
    clear hw hg HR
    by_cases hlt : k < xs.length
    · obtain ⟨g, rfl, hg, hc⟩ := HA.out k hlt
      have c0 := (HW.out.cell (p := ⟨g, k, none⟩) hg).trans hc
      have HK := Lib.hid (HS.out k hlt)
      clear hc
      generalize xs[k] = y at *
      cases he : (y.toList == x.toList)
      · rw [he] at HK
        have HG2 := Lib.hid (show gIn x (L.drop (k + 1)) = r from by rw [← HG.out, HK.out]; rfl)
        clear HK HG
        go_wp2
        go_roundw
        case rel => exact ⟨k + 1, by omega, by go_num, HG2.out, HW.out⟩
        case measure => simp [intOf]; omega
      · rw [he] at HK
        have HG2 := Lib.hid (show r = true from by rw [← HG.out, HK.out]; rfl)
        clear HK HG
        go_wp2
        go_ret
        exact ⟨by rw [HG2.out]; rfl, HW.out⟩
    · obtain rfl : k = xs.length := by omega
      have HG2 := Lib.hid (show r = false from by rw [← HG.out, HZ.out])
      clear HG
      go_wp2
      go_ret
      exact ⟨by rw [HG2.out]; rfl, HW.out⟩

/-- A row of texts that has just been laid. -/
theorem gRow_new (w : World) (L : List (List UInt8)) : TxIn (w.alloc (.cells (strs (gTxt L)).toArray 9)) (some ⟨w.heap.size, 0, none⟩) (gTxt L) := fun i hi => by
  have hb := Blk.new w 9 (strs (gTxt L)).toArray
  refine ⟨w.heap.size, rfl, hb.lt, ?_⟩
  rw [hb.cell i]
  simp [strs]

end Go.Proofs.YtkdjjlfpaciohaaGreatDoor
namespace Go.Proofs.YtkdjjlfpaciohaaGreatDoor
open Go.RowKit

theorem gEssence_any (t u : ByteArray) (A : Option Addr) (n c : Nat) (w : World) (ht : t.size ≤ 1048576) (hu : u.size ≤ 1048576) :
    Calls Tryz.prog 28 #[mimV t u A n c] w fun e w' => e = .returned (.string (gEss t u)) ∧ Below w.heap.size w w' := essence_any t u A n c w ht hu

set_option maxHeartbeats 2000000 in
set_option maxRecDepth 100000 in
theorem gXml_any (t u : ByteArray) (A : Option Addr) (n c : Nat) (w : World) (ht : t.size ≤ 1048576) (hu : u.size ≤ 1048576) :
    Calls Tryz.prog 31 #[mimV t u A n c] w fun e w' => e = .returned (.bool (xmlG t u)) ∧ Below w.heap.size w w' := by
  obtain ⟨w0, hw0⟩ : ∃ w0, w0 = w.alloc (.cells #[.string t, .string u, .slice A n c] 24) := ⟨_, rfl⟩
  have HB0 := Lib.hid (show Below w.heap.size w w0 from by rw [hw0]; exact (Below.refl w.heap.size w).alloc (Nat.le_refl _) _)
  have HP0 := Lib.hid (show Blk w0 w.heap.size 24 #[.string t, .string u, .slice A n c] from by rw [hw0]; exact Blk.new _ _ _)
  have c0 := HP0.out.cell 0
  have c1 := HP0.out.cell 1
  have c2 := HP0.out.cell 2
  have HE := Lib.hid (fun W => gEssence_any t u A n c W ht hu)
  obtain ⟨x, hx⟩ : ∃ x, x = gEss t u := ⟨_, rfl⟩
  have HS := Lib.hid (fun W => hasSuffix_any u gXmlE W (by omega) (by decide))
  obtain ⟨b, hb⟩ : ∃ b, b = gEnd u gXmlE := ⟨_, rfl⟩
  have HR := Lib.hid (show xmlG t u = (gIn x gXmlL || b) from by rw [hx, hb]; rfl)
  rw [← hb] at HS
  obtain ⟨r, hr⟩ : ∃ r, r = xmlG t u := ⟨_, rfl⟩
  rw [← hr] at HR ⊢
  rw [← hx] at HE
  clear hr hx hb
  go_enter Tryz.func31, Tryz.ntmps31
  go_wp2_with fail
  rw [← hw0]
  clear hw0
  refine (HE.out _).mono ?_
  rintro e w1 ⟨rfl, b1⟩
  have HB1 := Lib.hid (below_on HB0.out b1)
  have HP1 := Lib.hid (HP0.out.below b1 HP0.out.lt)
  clear b1 HE c0 c1 c2
  have c0 := HP1.out.cell 0
  have c1 := HP1.out.cell 1
  have c2 := HP1.out.cell 2
  go_wp2_with (go_at_call 54; (with_reducible refine (HS.out _).mono ?_); rintro e w2 ⟨rfl, rfl⟩)
  all_goals
    go_ret
    refine ⟨?_, HB1.out⟩
    rw [HR.out]
    clear c0 c1 c2
    simp_all [gIn]

set_option maxHeartbeats 2000000 in
set_option maxRecDepth 100000 in
theorem gHtml_any (t u : ByteArray) (A : Option Addr) (n c : Nat) (w : World) (ht : t.size ≤ 1048576) (hu : u.size ≤ 1048576) :
    Calls Tryz.prog 30 #[mimV t u A n c] w fun e w' => e = .returned (.bool (htmlG t u)) ∧ Below w.heap.size w w' := by
  obtain ⟨w0, hw0⟩ : ∃ w0, w0 = w.alloc (.cells #[.string t, .string u, .slice A n c] 24) := ⟨_, rfl⟩
  have HB0 := Lib.hid (show Below w.heap.size w w0 from by rw [hw0]; exact (Below.refl w.heap.size w).alloc (Nat.le_refl _) _)
  have HP0 := Lib.hid (show Blk w0 w.heap.size 24 #[.string t, .string u, .slice A n c] from by rw [hw0]; exact Blk.new _ _ _)
  have c0 := HP0.out.cell 0
  have c1 := HP0.out.cell 1
  have c2 := HP0.out.cell 2
  have HE := Lib.hid (fun W => gEssence_any t u A n c W ht hu)
  obtain ⟨r, hr⟩ : ∃ r, r = (htmlG t u) := ⟨_, rfl⟩
  rw [← hr]
  unfold htmlG at hr
  generalize gEss t u = xE at *
  have HR := Lib.hid hr
  clear hr
  cases d0 : (xE.toList == gHtm)
  all_goals
    go_enter Tryz.func30, Tryz.ntmps30
    go_wp2_with fail
    rw [← hw0]
    clear hw0
    have HB := HB0
    have HP := HP0
    go_wp2_with (first
      | (go_at_call 28; (with_reducible refine (HE.out _).mono ?_); rintro e w1 ⟨rfl, b1⟩; have HB := Lib.hid (below_on HB.out b1); have HP := Lib.hid (HP.out.below b1 HP.out.lt); have c0 := HP.out.cell 0; have c1 := HP.out.cell 1; have c2 := HP.out.cell 2; clear b1))
    all_goals
      go_ret
      refine ⟨?_, HB.out⟩
      rw [HR.out]
      clear c0 c1 c2
      simp_all

set_option maxHeartbeats 2000000 in
set_option maxRecDepth 100000 in
theorem gImage_any (t u : ByteArray) (A : Option Addr) (n c : Nat) (w : World) (_ht : t.size ≤ 1048576) (_hu : u.size ≤ 1048576) :
    Calls Tryz.prog 34 #[mimV t u A n c] w fun e w' => e = .returned (.bool (imageG t)) ∧ Below w.heap.size w w' := by
  obtain ⟨w0, hw0⟩ : ∃ w0, w0 = w.alloc (.cells #[.string t, .string u, .slice A n c] 24) := ⟨_, rfl⟩
  have HB0 := Lib.hid (show Below w.heap.size w w0 from by rw [hw0]; exact (Below.refl w.heap.size w).alloc (Nat.le_refl _) _)
  have HP0 := Lib.hid (show Blk w0 w.heap.size 24 #[.string t, .string u, .slice A n c] from by rw [hw0]; exact Blk.new _ _ _)
  have c0 := HP0.out.cell 0
  have c1 := HP0.out.cell 1
  have c2 := HP0.out.cell 2
  obtain ⟨r, hr⟩ : ∃ r, r = (imageG t) := ⟨_, rfl⟩
  rw [← hr]
  unfold imageG at hr
  have HR := Lib.hid hr
  clear hr
  cases d0 : (t.toList == gImg)
  all_goals
    go_enter Tryz.func34, Tryz.ntmps34
    go_wp2_with fail
    rw [← hw0]
    clear hw0
    have HB := HB0
    have HP := HP0
    go_wp2
    all_goals
      go_ret
      refine ⟨?_, HB.out⟩
      rw [HR.out]
      clear c0 c1 c2
      simp_all

set_option maxHeartbeats 2000000 in
set_option maxRecDepth 100000 in
theorem gMedia_any (t u : ByteArray) (A : Option Addr) (n c : Nat) (w : World) (ht : t.size ≤ 1048576) (hu : u.size ≤ 1048576) :
    Calls Tryz.prog 36 #[mimV t u A n c] w fun e w' => e = .returned (.bool (mediaG t u)) ∧ Below w.heap.size w w' := by
  obtain ⟨w0, hw0⟩ : ∃ w0, w0 = w.alloc (.cells #[.string t, .string u, .slice A n c] 24) := ⟨_, rfl⟩
  have HB0 := Lib.hid (show Below w.heap.size w w0 from by rw [hw0]; exact (Below.refl w.heap.size w).alloc (Nat.le_refl _) _)
  have HP0 := Lib.hid (show Blk w0 w.heap.size 24 #[.string t, .string u, .slice A n c] from by rw [hw0]; exact Blk.new _ _ _)
  have c0 := HP0.out.cell 0
  have c1 := HP0.out.cell 1
  have c2 := HP0.out.cell 2
  have HE := Lib.hid (fun W => gEssence_any t u A n c W ht hu)
  obtain ⟨r, hr⟩ : ∃ r, r = (mediaG t u) := ⟨_, rfl⟩
  rw [← hr]
  unfold mediaG at hr
  generalize gEss t u = xE at *
  have HR := Lib.hid hr
  clear hr
  cases d0 : (t.toList == gAud) <;> cases d1 : (t.toList == gVid) <;> cases d2 : (xE.toList == gOgg)
  all_goals
    go_enter Tryz.func36, Tryz.ntmps36
    go_wp2_with fail
    rw [← hw0]
    clear hw0
    have HB := HB0
    have HP := HP0
    go_wp2_with (first
      | (go_at_call 28; (with_reducible refine (HE.out _).mono ?_); rintro e w1 ⟨rfl, b1⟩; have HB := Lib.hid (below_on HB.out b1); have HP := Lib.hid (HP.out.below b1 HP.out.lt); have c0 := HP.out.cell 0; have c1 := HP.out.cell 1; have c2 := HP.out.cell 2; clear b1))
    all_goals
      go_ret
      refine ⟨?_, HB.out⟩
      rw [HR.out]
      clear c0 c1 c2
      simp_all

end Go.Proofs.YtkdjjlfpaciohaaGreatDoor
