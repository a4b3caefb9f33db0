/-
  What lives of layer 15's statements answers, and the laws PackTypes, PackTables and PackMembers. Condition: what an argument's reading gives.
-/
import Derived.Test.YtcoblepgehjamaaWg
import Derived.Test.YtcoblepgehjamaaIe
import Derived.Test.YtcoblepgehjamaaCut
namespace Go.Proofs.Ytcoblepgehjamaa
open Go.RowKit

theorem plive1 : IsFirst ⟨#[119, 79, 70, 50]⟩ fntP 6 5 := .inr ⟨5, by decide, rfl, by kernel_rfl, fun j hj => by
  have := below6fnt (p := fun j => j == 5 || !matP ⟨#[119, 79, 70, 50]⟩ (fntP j)) (by kernel_rfl) (i := j) (by omega)
  rw [beq_eq_false_iff_ne.2 (by omega : j ≠ 5), Bool.false_or] at this
  simpa using this⟩
theorem plive2 : IsFirst ⟨#[80, 75, 3, 4]⟩ arcP 3 1 := .inr ⟨1, by decide, rfl, by kernel_rfl, fun j hj => by
  have := below3arc (p := fun j => j == 1 || !matP ⟨#[80, 75, 3, 4]⟩ (arcP j)) (by kernel_rfl) (i := j) (by omega)
  rw [beq_eq_false_iff_ne.2 (by omega : j ≠ 1), Bool.false_or] at this
  simpa using this⟩

set_option maxHeartbeats 1000000 in
theorem lives15_any (w : World) :
    Calls Try.prog 14 #[] w fun e w' => e = .returned (.bool true) ∧ Below w.heap.size w w' := by
  obtain ⟨q, hq⟩ := IsFirst.some ⟨#[119, 79, 70, 50]⟩ arcP 3
  have H1 := Lib.hid (fun W => packEither_any ⟨#[119, 79, 70, 50]⟩ 5 q W (by decide) plive1 hq)
  have H2 := Lib.hid (fun W => packArchive_any ⟨#[80, 75, 3, 4]⟩ 1 W (by decide) plive2)
  rw [show eithS 5 q = ⟨#[102, 111, 110, 116, 47, 119, 111, 102, 102, 50]⟩ from by kernel_rfl] at H1
  rw [show decide ((0 : Int) ≤ 5) = true from rfl] at H1
  rw [show typeOf arcP 1 = ⟨#[97, 112, 112, 108, 105, 99, 97, 116, 105, 111, 110, 47, 122, 105, 112]⟩ from by kernel_rfl] at H2
  have HB := Lib.hid (Below.refl w.heap.size w)
  clear hq
  go_enter Try.func14, Try.ntmps14
  go_wp2_with (first
    | (go_at_call 11; (with_reducible refine (H1.out _).mono ?_); rintro e w1 ⟨rfl, b1⟩; have HB := Lib.hid (HB.out.trans (b1.mono HB.out.size)); clear b1)
    | (go_at_call 13; (with_reducible refine (H2.out _).mono ?_); rintro e w1 ⟨rfl, b1⟩; have HB := Lib.hid (HB.out.trans (b1.mono HB.out.size)); clear b1))
  go_ret
  exact ⟨rfl, HB.out⟩

set_option maxHeartbeats 4000000 in
set_option maxRecDepth 100000 in
theorem packTypes_any (s : ByteArray) (w : World) (hs : s.size ≤ 9223372036854775807) :
    Calls Try.prog 3 #[.string s] w fun e w' => e = .returned (.bool true) ∧ Below w.heap.size w w' := by
  have HCS : Hid (∀ W, Calls Try.prog 7 #[.string s, .int .i64 120] W fun e w' => e = .returned (.string (cutB s 120)) ∧ W = w') := Lib.hid fun W => cut_any s 120 W hs
  have hu := cutB_size s 120
  generalize cutB s 120 = u at *
  obtain ⟨r, hr⟩ := IsFirst.some u fntP 6
  obtain ⟨q, hq⟩ := IsFirst.some u arcP 3
  have hus : u.size ≤ 140737488351232 := by omega
  have HRF := Lib.hid (fun W g (h : PatsIn W g fntP 6) => rType_any g 6 6 u fntP r W h (fun i hi => fnt_ok hi) (by omega) (by decide) hr)
  have HRA := Lib.hid (fun W g (h : PatsIn W g arcP 3) => rType_any g 3 3 u arcP q W h (fun i hi => arc_ok hi) (by omega) (by decide) hq)
  have HT := Lib.hid (fun W => packFont_any u r W hus hr)
  have HA := Lib.hid (fun W => packArchive_any u q W hus hq)
  have HE := Lib.hid (fun W => packEither_any u r q W hus hr hq)
  have HLV := Lib.hid lives15_any
  have hE : ((typeOf fntP r).toList == ([] : List UInt8)) = decide (r < 0) := by
    rw [← fnt_said hr]
    cases (typeOf fntP r).toList <;> rfl
  have HB := Lib.hid (Below.refl w.heap.size w)
  by_cases h0 : r < 0
  · rw [show eithS r q = typeOf arcP q from if_pos h0, show decide (0 ≤ r) = false from by simp; omega] at HE
    rw [show decide (r < 0) = true from by simpa using h0] at hE
    generalize typeOf fntP r = t at *
    generalize typeOf arcP q = a at *
    have e1 : (t.toList == t.toList) = true := by simp
    have e2 : (a.toList == a.toList) = true := by simp
    clear hr hq hs hu h0
    as_aux_lemma =>
    go_enter Try.func3, Try.ntmps3
    go_wp2_with (first
      | (go_at_call 7; (with_reducible refine (HCS.out _).mono ?_); rintro e w1 ⟨rfl, rfl⟩)
      | (go_at_call 9; refine (refFonts_any _).mono ?_; rintro e w1 ⟨g, rfl, hg, hp, b1⟩; have HB := Lib.hid (HB.out.trans (b1.mono HB.out.size)); (try have HF := Lib.hid (HF.out.below b1 HF.out.1 (Nat.le_refl _))); have HPF := Lib.hid hp; clear b1 hp hg)
      | (go_at_call 10; refine (refArchives_any _).mono ?_; rintro e w1 ⟨g, rfl, hg, hp, b1⟩; have HB := Lib.hid (HB.out.trans (b1.mono HB.out.size)); (try have HF := Lib.hid (HF.out.below b1 HF.out.1 (Nat.le_refl _))); have HPA := Lib.hid hp; clear b1 hp hg)
      | (go_at_call 8; (with_reducible refine (HRF.out _ _ HPF.out).mono ?_); rintro e w1 ⟨rfl, b1⟩; have HB := Lib.hid (HB.out.trans (b1.mono HB.out.size)); clear b1; clear HPF)
      | (go_at_call 8; (with_reducible refine (HRA.out _ _ HPA.out).mono ?_); rintro e w1 ⟨rfl, b1⟩; have HB := Lib.hid (HB.out.trans (b1.mono HB.out.size)); clear b1; clear HPA)
      | (go_at_call 11; (with_reducible refine (HE.out _).mono ?_); rintro e w1 ⟨rfl, b1⟩; have HB := Lib.hid (HB.out.trans (b1.mono HB.out.size)); clear b1)
      | (go_at_call 12; (with_reducible refine (HT.out _).mono ?_); rintro e w1 ⟨rfl, b1⟩; have HB := Lib.hid (HB.out.trans (b1.mono HB.out.size)); clear b1)
      | (go_at_call 13; (with_reducible refine (HA.out _).mono ?_); rintro e w1 ⟨rfl, b1⟩; have HB := Lib.hid (HB.out.trans (b1.mono HB.out.size)); clear b1)
      | (go_at_call 14; (with_reducible refine (HLV.out _).mono ?_); rintro e w1 ⟨rfl, b1⟩; have HB := Lib.hid (HB.out.trans (b1.mono HB.out.size)); clear b1))
    go_ret
    exact ⟨rfl, HB.out⟩
  · rw [show eithS r q = typeOf fntP r from if_neg h0, show decide (0 ≤ r) = true from by simp; omega] at HE
    rw [show decide (r < 0) = false from by simpa using h0] at hE
    generalize typeOf fntP r = t at *
    generalize typeOf arcP q = a at *
    have e1 : (t.toList == t.toList) = true := by simp
    have e2 : (a.toList == a.toList) = true := by simp
    clear hr hq hs hu h0
    as_aux_lemma =>
    go_enter Try.func3, Try.ntmps3
    go_wp2_with (first
      | (go_at_call 7; (with_reducible refine (HCS.out _).mono ?_); rintro e w1 ⟨rfl, rfl⟩)
      | (go_at_call 9; refine (refFonts_any _).mono ?_; rintro e w1 ⟨g, rfl, hg, hp, b1⟩; have HB := Lib.hid (HB.out.trans (b1.mono HB.out.size)); (try have HF := Lib.hid (HF.out.below b1 HF.out.1 (Nat.le_refl _))); have HPF := Lib.hid hp; clear b1 hp hg)
      | (go_at_call 10; refine (refArchives_any _).mono ?_; rintro e w1 ⟨g, rfl, hg, hp, b1⟩; have HB := Lib.hid (HB.out.trans (b1.mono HB.out.size)); (try have HF := Lib.hid (HF.out.below b1 HF.out.1 (Nat.le_refl _))); have HPA := Lib.hid hp; clear b1 hp hg)
      | (go_at_call 8; (with_reducible refine (HRF.out _ _ HPF.out).mono ?_); rintro e w1 ⟨rfl, b1⟩; have HB := Lib.hid (HB.out.trans (b1.mono HB.out.size)); clear b1; clear HPF)
      | (go_at_call 8; (with_reducible refine (HRA.out _ _ HPA.out).mono ?_); rintro e w1 ⟨rfl, b1⟩; have HB := Lib.hid (HB.out.trans (b1.mono HB.out.size)); clear b1; clear HPA)
      | (go_at_call 11; (with_reducible refine (HE.out _).mono ?_); rintro e w1 ⟨rfl, b1⟩; have HB := Lib.hid (HB.out.trans (b1.mono HB.out.size)); clear b1)
      | (go_at_call 12; (with_reducible refine (HT.out _).mono ?_); rintro e w1 ⟨rfl, b1⟩; have HB := Lib.hid (HB.out.trans (b1.mono HB.out.size)); clear b1)
      | (go_at_call 13; (with_reducible refine (HA.out _).mono ?_); rintro e w1 ⟨rfl, b1⟩; have HB := Lib.hid (HB.out.trans (b1.mono HB.out.size)); clear b1)
      | (go_at_call 14; (with_reducible refine (HLV.out _).mono ?_); rintro e w1 ⟨rfl, b1⟩; have HB := Lib.hid (HB.out.trans (b1.mono HB.out.size)); clear b1))
    go_ret
    exact ⟨rfl, HB.out⟩

/-- What the three tests of PackTables ask of the two types. -/
theorem tables_ask {u : ByteArray} {r q : Int} (hr : IsFirst u fntP 6 r) (hq : IsFirst u arcP 3 q) : ((typeOf fntP r).toList == ([] : List UInt8)) = true ∨ (((typeOf fntP r).toList == ([] : List UInt8)) = false ∧ ((typeOf fntP r).toList == eotS.toList) = true) ∨ (((typeOf fntP r).toList == ([] : List UInt8)) = false ∧ ((typeOf fntP r).toList == eotS.toList) = false ∧ ((typeOf arcP q).toList == ([] : List UInt8)) = true) := by
  have hE : ((typeOf fntP r).toList == ([] : List UInt8)) = decide (r < 0) := by
    rw [← fnt_said hr]
    cases (typeOf fntP r).toList <;> rfl
  have hA : ((typeOf arcP q).toList == ([] : List UInt8)) = decide (q < 0) := by
    rw [← arc_said hq]
    cases (typeOf arcP q).toList <;> rfl
  rw [hE, hA]
  by_cases h0 : r < 0
  · exact .inl (by simpa using h0)
  · have d0 : decide (r < 0) = false := by simpa using h0
    by_cases h1 : r = 0
    · refine .inr (.inl ⟨d0, ?_⟩)
      rw [h1, fnt_zero]
      simp
    · refine .inr (.inr ⟨d0, fnt_other hr h1, ?_⟩)
      rw [font_alone hr hq (by omega)]
      rfl

set_option maxHeartbeats 4000000 in
set_option maxRecDepth 100000 in
theorem packTables_any (s : ByteArray) (w : World) (hs : s.size ≤ 9223372036854775807) :
    Calls Try.prog 4 #[.string s] w fun e w' => e = .returned (.bool true) ∧ Below w.heap.size w w' := by
  have HCS : Hid (∀ W, Calls Try.prog 7 #[.string s, .int .i64 60] W fun e w' => e = .returned (.string (cutB s 60)) ∧ W = w') := Lib.hid fun W => cut_any s 60 W hs
  have hu := cutB_size s 60
  generalize cutB s 60 = u at *
  obtain ⟨r, hr⟩ := IsFirst.some u fntP 6
  obtain ⟨q, hq⟩ := IsFirst.some u arcP 3
  have hus : u.size ≤ 140737488351232 := by omega
  have HT := Lib.hid (fun W => packFont_any u r W hus hr)
  have HA := Lib.hid (fun W => packArchive_any u q W hus hq)
  have HSF := Lib.hid (fun W g h (hp : PatsIn W g fntP 6) (hq : PatsIn W h fntP 6) => rSame_any g 6 h 6 6 fntP W hp hq (by decide))
  have HSA := Lib.hid (fun W g h (hp : PatsIn W g arcP 3) (hq : PatsIn W h arcP 3) => rSame_any g 3 h 3 3 arcP W hp hq (by decide))
  have HLV := Lib.hid lives15_any
  have hask := tables_ask hr hq
  have HB := Lib.hid (Below.refl w.heap.size w)
  generalize typeOf fntP r = t at *
  generalize typeOf arcP q = a at *
  clear hr hq hs hu
  rw [show eotS.toList = [97, 112, 112, 108, 105, 99, 97, 116, 105, 111, 110, 47, 118, 110, 100, 46, 109, 115, 45, 102, 111, 110, 116, 111, 98, 106, 101, 99, 116] from by kernel_rfl] at hask
  rcases hask with d1 | ⟨d1, d2⟩ | ⟨d1, d2, d3⟩
  all_goals
    as_aux_lemma =>
    go_enter Try.func4, Try.ntmps4
    go_wp2_with (first
      | (go_at_call 7; (with_reducible refine (HCS.out _).mono ?_); rintro e w1 ⟨rfl, rfl⟩)
      | (go_at_call 16; refine (packFonts_any _).mono ?_; rintro e w1 ⟨g, rfl, hg, hp, b1⟩; have HB := Lib.hid (HB.out.trans (b1.mono HB.out.size)); (try have HF := Lib.hid (HF.out.below b1 HF.out.1 (Nat.le_refl _))); have HF := Lib.hid hp; clear b1 hp hg)
      | (go_at_call 17; refine (packArchives_any _).mono ?_; rintro e w1 ⟨g, rfl, hg, hp, b1⟩; have HB := Lib.hid (HB.out.trans (b1.mono HB.out.size)); (try have HF := Lib.hid (HF.out.below b1 HF.out.1 (Nat.le_refl _))); have HF := Lib.hid hp; clear b1 hp hg)
      | (go_at_call 9; refine (refFonts_any _).mono ?_; rintro e w1 ⟨g, rfl, hg, hp, b1⟩; have HB := Lib.hid (HB.out.trans (b1.mono HB.out.size)); (try have HF := Lib.hid (HF.out.below b1 HF.out.1 (Nat.le_refl _))); have HPF := Lib.hid hp; clear b1 hp hg)
      | (go_at_call 10; refine (refArchives_any _).mono ?_; rintro e w1 ⟨g, rfl, hg, hp, b1⟩; have HB := Lib.hid (HB.out.trans (b1.mono HB.out.size)); (try have HF := Lib.hid (HF.out.below b1 HF.out.1 (Nat.le_refl _))); have HPA := Lib.hid hp; clear b1 hp hg)
      | (go_at_call 15; (with_reducible refine (HSF.out _ _ _ HF.out HPF.out).mono ?_); rintro e w1 ⟨rfl, b1⟩; have HB := Lib.hid (HB.out.trans (b1.mono HB.out.size)); clear b1; clear HF HPF)
      | (go_at_call 15; (with_reducible refine (HSA.out _ _ _ HF.out HPA.out).mono ?_); rintro e w1 ⟨rfl, b1⟩; have HB := Lib.hid (HB.out.trans (b1.mono HB.out.size)); clear b1; clear HF HPA)
      | (go_at_call 12; (with_reducible refine (HT.out _).mono ?_); rintro e w1 ⟨rfl, b1⟩; have HB := Lib.hid (HB.out.trans (b1.mono HB.out.size)); clear b1)
      | (go_at_call 13; (with_reducible refine (HA.out _).mono ?_); rintro e w1 ⟨rfl, b1⟩; have HB := Lib.hid (HB.out.trans (b1.mono HB.out.size)); clear b1)
      | (go_at_call 14; (with_reducible refine (HLV.out _).mono ?_); rintro e w1 ⟨rfl, b1⟩; have HB := Lib.hid (HB.out.trans (b1.mono HB.out.size)); clear b1))
    go_ret
    exact ⟨rfl, HB.out⟩

set_option maxHeartbeats 4000000 in
set_option maxRecDepth 100000 in
theorem packMembersLaw_any (s : ByteArray) (w : World) (hs : s.size ≤ 9223372036854775807) :
    Calls Try.prog 5 #[.string s] w fun e w' => e = .returned (.bool true) ∧ Below w.heap.size w w' := by
  have HCS : Hid (∀ W, Calls Try.prog 7 #[.string s, .int .i64 400] W fun e w' => e = .returned (.string (cutB s 400)) ∧ W = w') := Lib.hid fun W => cut_any s 400 W hs
  have hu := cutB_size s 400
  generalize cutB s 400 = u at *
  have hus : u.size ≤ 140737488351232 := by omega
  have HM := Lib.hid (fun W => packMembers_any u W hus)
  have HR : Hid (∀ W, Calls Try.prog 19 #[.string u] W fun e w' => e = .returned (.tuple #[.int .i64 ((memG u).1 : Nat), .bool (decide (0 < (memG u).1) && (memG u).2)]) ∧ Below W.heap.size W w') := fun W => (rMembers_any u W hus).mono fun _ _ h => ⟨h.1, h.2.below⟩
  have HLV := Lib.hid lives15_any
  have HB := Lib.hid (Below.refl w.heap.size w)
  generalize (memG u).1 = N at *
  generalize (decide (0 < N) && (memG u).2) = b at *
  clear hs hu
  cases b
  all_goals
    as_aux_lemma =>
    go_enter Try.func5, Try.ntmps5
    go_wp2_with (first
      | (go_at_call 7; (with_reducible refine (HCS.out _).mono ?_); rintro e w1 ⟨rfl, rfl⟩)
      | (go_at_call 18; (with_reducible refine (HM.out _).mono ?_); rintro e w1 ⟨rfl, b1⟩; have HB := Lib.hid (HB.out.trans (b1.mono HB.out.size)); clear b1)
      | (go_at_call 19; (with_reducible refine (HR.out _).mono ?_); rintro e w1 ⟨rfl, b1⟩; have HB := Lib.hid (HB.out.trans (b1.mono HB.out.size)); clear b1)
      | (go_at_call 14; (with_reducible refine (HLV.out _).mono ?_); rintro e w1 ⟨rfl, b1⟩; have HB := Lib.hid (HB.out.trans (b1.mono HB.out.size)); clear b1))
    go_ret
    exact ⟨rfl, HB.out⟩

end Go.Proofs.Ytcoblepgehjamaa
