/-
  What lives of layer 14's statements answers, and the laws MediaTypes and MediaChunks. Condition: what an argument's reading gives.
-/
import Derived.Test.YtnidokhlhgkjcaaVe
import Derived.Test.YtnidokhlhgkjcaaVf
import Derived.Test.YtnidokhlhgkjcaaVc
import Derived.Test.YtnidokhlhgkjcaaIe
import Derived.Test.YtnidokhlhgkjcaaCut
namespace Go.Proofs.Ytnidokhlhgkjcaa
open Go.RowKit

theorem mlive1 : IsFirst ⟨#[73, 68, 51, 46, 46]⟩ medP 6 1 := clash_first (i := 1) med_clash (by decide) (by kernel_rfl)
theorem mlive2 : IsFirst ⟨#[73, 68]⟩ medP 6 (-1) := .inl ⟨rfl, fun j hj => by
  have := below6 (p := fun j => !matP ⟨#[73, 68]⟩ (medP j)) (by kernel_rfl) hj
  simpa using this⟩

set_option maxHeartbeats 1000000 in
theorem lives14_any (w : World) :
    Calls Try.prog 15 #[] w fun e w' => e = .returned (.bool true) ∧ Below w.heap.size w w' := by
  have H1 := Lib.hid (fun W => medType_any ⟨#[73, 68, 51, 46, 46]⟩ 1 W (by decide) mlive1)
  have H2 := Lib.hid (fun W => medIs_any ⟨#[73, 68]⟩ (-1) W (by decide) mlive2)
  have H3 := Lib.hid (fun W => chunk_riff ⟨#[82, 73, 70, 70, 1, 0, 0, 0]⟩ W (by decide) (by decide) (by kernel_rfl))
  rw [show typeOf medP 1 = ⟨#[97, 117, 100, 105, 111, 47, 109, 112, 101, 103]⟩ from by kernel_rfl] at H1
  rw [show decide ((0 : Int) ≤ -1) = false from rfl] at H2
  rw [show lowV ((⟨#[82, 73, 70, 70, 1, 0, 0, 0]⟩ : ByteArray).extract 4 8) 4 = 1 from by kernel_rfl] at H3
  have HB := Lib.hid (Below.refl w.heap.size w)
  go_enter Try.func15, Try.ntmps15
  go_wp2_with (first
    | (go_at_call 11; (with_reducible refine (H1.out _).mono ?_); rintro e w1 ⟨rfl, b1⟩; have HB := Lib.hid (HB.out.trans (b1.mono HB.out.size)); clear b1)
    | (go_at_call 12; (with_reducible refine (H2.out _).mono ?_); rintro e w1 ⟨rfl, b1⟩; have HB := Lib.hid (HB.out.trans (b1.mono HB.out.size)); clear b1)
    | (go_at_call 21; (with_reducible refine (H3.out _).mono ?_); rintro e w1 ⟨rfl, rfl⟩))
  go_ret
  exact ⟨rfl, HB.out⟩

set_option maxHeartbeats 4000000 in
set_option maxRecDepth 100000 in
theorem mediaTypes_any (s : ByteArray) (w : World) (hs : s.size ≤ 9223372036854775807) :
    Calls Try.prog 3 #[.string s] w fun e w' => e = .returned (.bool true) ∧ Below w.heap.size w w' := by
  have HCS : Hid (∀ W, Calls Try.prog 7 #[.string s, .int .i64 100] W fun e w' => e = .returned (.string (cutB s 100)) ∧ W = w') := Lib.hid fun W => cut_any s 100 W hs
  have hu := cutB_size s 100
  generalize cutB s 100 = u at *
  obtain ⟨r, hr⟩ := IsFirst.some u medP 6
  have hus : u.size ≤ 140737488351232 := by omega
  have HRT := Lib.hid (fun W g (h : PatsIn W g medP 6) => rType_any g 6 6 u medP r W h (fun i hi => med_ok hi) (by omega) (by decide) hr)
  have HRN := Lib.hid (fun W g (h : PatsIn W g medP 6) => rNeeds_any g 6 6 u medP r W h (fun i hi => med_ok hi) (fun i hi => med_good hi) (by omega) (by decide) hr)
  have HT := Lib.hid (fun W => medType_any u r W hus hr)
  have HI := Lib.hid (fun W => medIs_any u r W hus hr)
  have HO := Lib.hid (fun W => medOpen_any u r W hus hr)
  have HN := Lib.hid (fun W => medNeeds_any u r W hus hr)
  have HLV := Lib.hid lives14_any
  have hE : decide (0 ≤ r) = !((typeOf medP r).toList == []) := by
    have h1 := med_said hr
    have h2 : ((typeOf medP r).toList == []) = (typeOf medP r).toList.isEmpty := by
      cases (typeOf medP r).toList <;> rfl
    rw [h2, h1]
    by_cases h : r < 0 <;> simp [h] <;> omega
  have HB := Lib.hid (Below.refl w.heap.size w)
  rw [hE] at HI
  generalize typeOf medP r = t at *
  generalize needN u medP 6 r = N at *
  have e1 : (t.toList == t.toList) = true := by simp
  have e2 : ((N : Int) == (N : Int)) = true := by simp
  clear hE hr hs hu
  cases d1 : (t.toList == ([] : List UInt8)) <;> cases d2 : decide (0 < N)
  all_goals
    rw [d2] at HO
    rw [d1] at HI
    go_enter Try.func3, Try.ntmps3
    go_wp2_with (first
      | (go_at_call 7; (with_reducible refine (HCS.out _).mono ?_); rintro e w1 ⟨rfl, rfl⟩)
      | (go_at_call 9; refine (refTable14_any _).mono ?_; rintro e w1 ⟨g, rfl, hg, hp, b1⟩; have HB := Lib.hid (HB.out.trans (b1.mono HB.out.size)); have HP := Lib.hid hp; clear b1 hp hg)
      | (go_at_call 8; (with_reducible refine (HRT.out _ _ HP.out).mono ?_); rintro e w1 ⟨rfl, b1⟩; have HB := Lib.hid (HB.out.trans (b1.mono HB.out.size)); clear b1; clear HP)
      | (go_at_call 10; (with_reducible refine (HRN.out _ _ HP.out).mono ?_); rintro e w1 ⟨rfl, b1⟩; have HB := Lib.hid (HB.out.trans (b1.mono HB.out.size)); clear b1; clear HP)
      | (go_at_call 11; (with_reducible refine (HT.out _).mono ?_); rintro e w1 ⟨rfl, b1⟩; have HB := Lib.hid (HB.out.trans (b1.mono HB.out.size)); clear b1)
      | (go_at_call 12; (with_reducible refine (HI.out _).mono ?_); rintro e w1 ⟨rfl, b1⟩; have HB := Lib.hid (HB.out.trans (b1.mono HB.out.size)); clear b1)
      | (go_at_call 13; (with_reducible refine (HO.out _).mono ?_); rintro e w1 ⟨rfl, b1⟩; have HB := Lib.hid (HB.out.trans (b1.mono HB.out.size)); clear b1)
      | (go_at_call 14; (with_reducible refine (HN.out _).mono ?_); rintro e w1 ⟨rfl, b1⟩; have HB := Lib.hid (HB.out.trans (b1.mono HB.out.size)); clear b1)
      | (go_at_call 15; (with_reducible refine (HLV.out _).mono ?_); rintro e w1 ⟨rfl, b1⟩; have HB := Lib.hid (HB.out.trans (b1.mono HB.out.size)); clear b1))
    go_ret
    exact ⟨rfl, HB.out⟩

set_option maxHeartbeats 4000000 in
set_option maxRecDepth 100000 in
theorem mediaChunks_any (s : ByteArray) (w : World) (hs : s.size ≤ 9223372036854775807) :
    Calls Try.prog 6 #[.string s] w fun e w' => e = .returned (.bool true) ∧ Below w.heap.size w w' := by
  have HCS : Hid (∀ W, Calls Try.prog 7 #[.string s, .int .i64 100] W fun e w' => e = .returned (.string (cutB s 100)) ∧ W = w') := Lib.hid fun W => cut_any s 100 W hs
  have hu := cutB_size s 100
  generalize cutB s 100 = u at *
  have hus : u.size ≤ 9223372036854775807 := by omega
  have HLV := Lib.hid lives14_any
  have HB := Lib.hid (Below.refl w.heap.size w)
  clear hs hu
  by_cases h8 : u.size < 8
  · have HC := Lib.hid (fun W => chunk_short u W h8)
    have HZ := Lib.hid (fun W => size_short u W h8)
    as_aux_lemma =>
    go_enter Try.func6, Try.ntmps6
    go_wp2_with (first
      | (go_at_call 7; (with_reducible refine (HCS.out _).mono ?_); rintro e w1 ⟨rfl, rfl⟩)
      | (go_at_call 21; (with_reducible refine (HC.out _).mono ?_); rintro e w1 ⟨rfl, rfl⟩)
      | (go_at_call 22; (with_reducible refine (HZ.out _).mono ?_); rintro e w1 ⟨rfl, rfl⟩)
      | (go_at_call 15; (with_reducible refine (HLV.out _).mono ?_); rintro e w1 ⟨rfl, b1⟩; have HB := Lib.hid (HB.out.trans (b1.mono HB.out.size)); clear b1))
    go_ret
    exact ⟨rfl, HB.out⟩
  · have h8' : 8 ≤ u.size := by omega
    cases d1 : ((u.extract 0 4).toList == ([82, 73, 70, 70] : List UInt8))
    · cases d2 : ((u.extract 0 4).toList == ([70, 79, 82, 77] : List UInt8))
      · have HC := Lib.hid (fun W => chunk_none u W h8' hus d1 d2)
        have HZ := Lib.hid (fun W => size_none u W h8' hus d1 d2)
        as_aux_lemma =>
        go_enter Try.func6, Try.ntmps6
        go_wp2_with (first
          | (go_at_call 7; (with_reducible refine (HCS.out _).mono ?_); rintro e w1 ⟨rfl, rfl⟩)
          | (go_at_call 21; (with_reducible refine (HC.out _).mono ?_); rintro e w1 ⟨rfl, rfl⟩)
          | (go_at_call 22; (with_reducible refine (HZ.out _).mono ?_); rintro e w1 ⟨rfl, b1⟩; have HB := Lib.hid (HB.out.trans (b1.mono HB.out.size)); clear b1)
          | (go_at_call 15; (with_reducible refine (HLV.out _).mono ?_); rintro e w1 ⟨rfl, b1⟩; have HB := Lib.hid (HB.out.trans (b1.mono HB.out.size)); clear b1))
        go_ret
        exact ⟨rfl, HB.out⟩
      · have HC := Lib.hid (fun W => chunk_form u W h8' hus d1 d2)
        have HZ := Lib.hid (fun W => size_form u W h8' hus d1 d2)
        have hV := highV_lt (u.extract 4 8) 4
        have hp : (256 : Nat) ^ 4 = 4294967296 := rfl
        rw [hp] at hV
        clear hp
        generalize highV (u.extract 4 8) 4 = v at *
        have d3 : (([70, 79, 82, 77] : List UInt8) == (u.extract 0 4).toList) = true := by rw [beq_iff_eq] at d2 ⊢; exact d2.symm
        as_aux_lemma =>
        go_enter Try.func6, Try.ntmps6
        go_wp2_with (first
          | (go_at_call 7; (with_reducible refine (HCS.out _).mono ?_); rintro e w1 ⟨rfl, rfl⟩)
          | (go_at_call 21; (with_reducible refine (HC.out _).mono ?_); rintro e w1 ⟨rfl, rfl⟩)
          | (go_at_call 22; (with_reducible refine (HZ.out _).mono ?_); rintro e w1 ⟨rfl, b1⟩; have HB := Lib.hid (HB.out.trans (b1.mono HB.out.size)); clear b1)
          | (go_at_call 15; (with_reducible refine (HLV.out _).mono ?_); rintro e w1 ⟨rfl, b1⟩; have HB := Lib.hid (HB.out.trans (b1.mono HB.out.size)); clear b1))
        go_ret
        exact ⟨rfl, HB.out⟩
    · have HC := Lib.hid (fun W => chunk_riff u W h8' hus d1)
      have HZ := Lib.hid (fun W => size_riff u W h8' hus d1)
      have hV := lowV_lt (u.extract 4 8) 4
      have hp : (256 : Nat) ^ 4 = 4294967296 := rfl
      rw [hp] at hV
      clear hp
      generalize lowV (u.extract 4 8) 4 = v at *
      have d3 : (([82, 73, 70, 70] : List UInt8) == (u.extract 0 4).toList) = true := by rw [beq_iff_eq] at d1 ⊢; exact d1.symm
      as_aux_lemma =>
      go_enter Try.func6, Try.ntmps6
      go_wp2_with (first
        | (go_at_call 7; (with_reducible refine (HCS.out _).mono ?_); rintro e w1 ⟨rfl, rfl⟩)
        | (go_at_call 21; (with_reducible refine (HC.out _).mono ?_); rintro e w1 ⟨rfl, rfl⟩)
        | (go_at_call 22; (with_reducible refine (HZ.out _).mono ?_); rintro e w1 ⟨rfl, b1⟩; have HB := Lib.hid (HB.out.trans (b1.mono HB.out.size)); clear b1)
        | (go_at_call 15; (with_reducible refine (HLV.out _).mono ?_); rintro e w1 ⟨rfl, b1⟩; have HB := Lib.hid (HB.out.trans (b1.mono HB.out.size)); clear b1))
      go_ret
      exact ⟨rfl, HB.out⟩

end Go.Proofs.Ytnidokhlhgkjcaa
