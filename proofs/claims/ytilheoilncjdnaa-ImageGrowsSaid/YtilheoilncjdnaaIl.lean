/-
  What lives of layer 13's statements answers, and the laws ImageTypes, ImageTable and ImageGrows. Condition: what an argument's reading gives.
-/
import Derived.Test.YtilheoilncjdnaaIf
import Derived.Test.YtilheoilncjdnaaId
import Derived.Test.YtilheoilncjdnaaCut
namespace Go.Proofs.Ytilheoilncjdnaa
open Go.RowKit

abbrev gifS : ByteArray := ⟨#[71, 73, 70, 56, 57, 97, 46, 46]⟩
theorem ilive1 : IsFirst gifS imgP 8 4 := clash_first (i := 4) img_clash (by decide) (by kernel_rfl)
theorem ilive2 : IsFirst ⟨#[66, 77]⟩ imgP 8 2 := clash_first (i := 2) img_clash (by decide) (by kernel_rfl)
theorem ilive3 : IsFirst ⟨#[66]⟩ imgP 8 (-1) := .inl ⟨rfl, fun j hj => by
  have := below8 (p := fun j => !matP ⟨#[66]⟩ (imgP j)) (by kernel_rfl) hj
  simpa using this⟩

set_option maxHeartbeats 1000000 in
theorem lives13_any (w : World) :
    Calls Try.prog 14 #[] w fun e w' => e = .returned (.bool true) ∧ Below w.heap.size w w' := by
  have H1 := Lib.hid (fun W => imgType_any gifS 4 W (by decide) ilive1)
  have H2 := Lib.hid (fun W => imgIs_any ⟨#[66, 77]⟩ 2 W (by decide) ilive2)
  have H3 := Lib.hid (fun W => imgIs_any ⟨#[66]⟩ (-1) W (by decide) ilive3)
  rw [show typeOf imgP 4 = ⟨#[105, 109, 97, 103, 101, 47, 103, 105, 102]⟩ from by kernel_rfl] at H1
  rw [show decide ((0 : Int) ≤ 2) = true from rfl] at H2
  rw [show decide ((0 : Int) ≤ -1) = false from rfl] at H3
  have HB := Lib.hid (Below.refl w.heap.size w)
  go_enter Try.func14, Try.ntmps14
  go_wp2_with (first
    | (go_at_call 10; (with_reducible refine (H1.out _).mono ?_); rintro e w1 ⟨rfl, b1⟩; have HB := Lib.hid (HB.out.trans (b1.mono HB.out.size)); clear b1)
    | (go_at_call 11; (first | with_reducible refine (H2.out _).mono ?_ | with_reducible refine (H3.out _).mono ?_); rintro e w1 ⟨rfl, b1⟩; have HB := Lib.hid (HB.out.trans (b1.mono HB.out.size)); clear b1))
  go_ret
  exact ⟨rfl, HB.out⟩

set_option maxHeartbeats 4000000 in
set_option maxRecDepth 100000 in
theorem imageTypes_any (s : ByteArray) (w : World) (hs : s.size ≤ 9223372036854775807) :
    Calls Try.prog 3 #[.string s] w fun e w' => e = .returned (.bool true) ∧ Below w.heap.size w w' := by
  have HCS : Hid (∀ W, Calls Try.prog 6 #[.string s, .int .i64 100] W fun e w' => e = .returned (.string (cutB s 100)) ∧ W = w') := Lib.hid fun W => cut_any s 100 W hs
  have hu := cutB_size s 100
  generalize cutB s 100 = u at *
  obtain ⟨r, hr⟩ := IsFirst.some u imgP 8
  have hus : u.size ≤ 140737488351232 := by omega
  have HRT := Lib.hid (fun W g (h : PatsIn W g imgP 8) => rType_any g 8 8 u imgP r W h (fun i hi => img_ok hi) (by omega) (by decide) hr)
  have HRN := Lib.hid (fun W g (h : PatsIn W g imgP 8) => rNeeds_any g 8 8 u imgP r W h (fun i hi => img_ok hi) (fun i hi => img_good hi) (by omega) (by decide) hr)
  have HT := Lib.hid (fun W => imgType_any u r W hus hr)
  have HI := Lib.hid (fun W => imgIs_any u r W hus hr)
  have HO := Lib.hid (fun W => imgOpen_any u r W hus hr)
  have HN := Lib.hid (fun W => imgNeeds_any u r W hus hr)
  have HLV := Lib.hid lives13_any
  have hE : decide (0 ≤ r) = !((typeOf imgP r).toList == []) := by
    have h1 := img_said hr
    have h2 : ((typeOf imgP r).toList == []) = (typeOf imgP r).toList.isEmpty := by
      cases (typeOf imgP r).toList <;> rfl
    rw [h2, h1]
    by_cases h : r < 0 <;> simp [h] <;> omega
  have HB := Lib.hid (Below.refl w.heap.size w)
  rw [hE] at HI
  generalize typeOf imgP r = t at *
  generalize needN u imgP 8 r = N at *
  have e1 : (t.toList == t.toList) = true := by simp
  have e2 : ((N : Int) == (N : Int)) = true := by simp
  clear hE hr hs hu
  cases d1 : (t.toList == ([] : List UInt8)) <;> cases d2 : decide (0 < N)
  all_goals
    rw [d2] at HO
    rw [d1] at HI
    go_enter Try.func3, Try.ntmps3
    go_wp2_with (first
      | (go_at_call 6; (with_reducible refine (HCS.out _).mono ?_); rintro e w1 ⟨rfl, rfl⟩)
      | (go_at_call 8; refine (refTable_any _).mono ?_; rintro e w1 ⟨g, rfl, hg, hp, b1⟩; have HB := Lib.hid (HB.out.trans (b1.mono HB.out.size)); have HP := Lib.hid hp; clear b1 hp hg)
      | (go_at_call 7; (with_reducible refine (HRT.out _ _ HP.out).mono ?_); rintro e w1 ⟨rfl, b1⟩; have HB := Lib.hid (HB.out.trans (b1.mono HB.out.size)); clear b1 HP)
      | (go_at_call 9; (with_reducible refine (HRN.out _ _ HP.out).mono ?_); rintro e w1 ⟨rfl, b1⟩; have HB := Lib.hid (HB.out.trans (b1.mono HB.out.size)); clear b1 HP)
      | (go_at_call 10; (with_reducible refine (HT.out _).mono ?_); rintro e w1 ⟨rfl, b1⟩; have HB := Lib.hid (HB.out.trans (b1.mono HB.out.size)); clear b1)
      | (go_at_call 11; (with_reducible refine (HI.out _).mono ?_); rintro e w1 ⟨rfl, b1⟩; have HB := Lib.hid (HB.out.trans (b1.mono HB.out.size)); clear b1)
      | (go_at_call 12; (with_reducible refine (HO.out _).mono ?_); rintro e w1 ⟨rfl, b1⟩; have HB := Lib.hid (HB.out.trans (b1.mono HB.out.size)); clear b1)
      | (go_at_call 13; (with_reducible refine (HN.out _).mono ?_); rintro e w1 ⟨rfl, b1⟩; have HB := Lib.hid (HB.out.trans (b1.mono HB.out.size)); clear b1)
      | (go_at_call 14; (with_reducible refine (HLV.out _).mono ?_); rintro e w1 ⟨rfl, b1⟩; have HB := Lib.hid (HB.out.trans (b1.mono HB.out.size)); clear b1))
    go_ret
    exact ⟨rfl, HB.out⟩

set_option maxHeartbeats 4000000 in
set_option maxRecDepth 100000 in
theorem imageGrows_any (s t : ByteArray) (w : World) (hs : s.size ≤ 9223372036854775807) (ht : t.size ≤ 9223372036854775807) :
    Calls Try.prog 5 #[.string s, .string t] w fun e w' => e = .returned (.bool true) ∧ Below w.heap.size w w' := by
  have HCS : Hid (∀ W, Calls Try.prog 6 #[.string s, .int .i64 60] W fun e w' => e = .returned (.string (cutB s 60)) ∧ W = w') := Lib.hid fun W => cut_any s 60 W hs
  have HCT : Hid (∀ W, Calls Try.prog 6 #[.string t, .int .i64 40] W fun e w' => e = .returned (.string (cutB t 40)) ∧ W = w') := Lib.hid fun W => cut_any t 40 W ht
  have hu := cutB_size s 60
  have hv := cutB_size t 40
  generalize cutB s 60 = u at *
  generalize cutB t 40 = v at *
  obtain ⟨r, hr⟩ := IsFirst.some u imgP 8
  obtain ⟨r', hr'⟩ := IsFirst.some (u ++ v) imgP 8
  have hus : u.size ≤ 140737488351232 := by omega
  have huv : (u ++ v).size ≤ 140737488351232 := by simp; omega
  have HO := Lib.hid (fun W => imgOpen_any u r W hus hr)
  have HLV := Lib.hid lives13_any
  have HB := Lib.hid (Below.refl w.heap.size w)
  by_cases h0 : needN u imgP 8 r = 0
  · have hrr := grow_closed img_clash hr hr' h0
    subst hrr
    have HT := Lib.hid (fun W => imgType_any u r' W hus hr)
    have HTT := Lib.hid (fun W => imgType_any (u ++ v) r' W huv hr')
    rw [h0] at HO
    generalize typeOf imgP r' = q at *
    clear hr hr' h0
    go_enter Try.func5, Try.ntmps5
    go_wp2_with (first
      | (go_at_call 6; (first | with_reducible refine (HCS.out _).mono ?_ | with_reducible refine (HCT.out _).mono ?_); rintro e w1 ⟨rfl, rfl⟩)
      | (go_at_call 12; (with_reducible refine (HO.out _).mono ?_); rintro e w1 ⟨rfl, b1⟩; have HB := Lib.hid (HB.out.trans (b1.mono HB.out.size)); clear b1)
      | (go_at_call 10; (first | with_reducible refine (HT.out _).mono ?_ | with_reducible refine (HTT.out _).mono ?_); rintro e w1 ⟨rfl, b1⟩; have HB := Lib.hid (HB.out.trans (b1.mono HB.out.size)); clear b1)
      | (go_at_call 14; (with_reducible refine (HLV.out _).mono ?_); rintro e w1 ⟨rfl, b1⟩; have HB := Lib.hid (HB.out.trans (b1.mono HB.out.size)); clear b1))
    go_ret
    exact ⟨rfl, HB.out⟩
  · obtain ⟨h1, h2⟩ := grow_open (fun i hi => img_skip hi) hr hr' h0
    rw [img_most] at h1
    have HN := Lib.hid (fun W => imgNeeds_any u r W hus hr)
    have HI := Lib.hid (fun W => imgIs_any (u ++ v) r' W huv hr')
    have d0 : decide (0 < needN u imgP 8 r) = true := by simp; omega
    rw [d0] at HO
    generalize needN u imgP 8 r = N at *
    clear hr hr' d0
    by_cases h3 : N ≤ v.size
    · clear h2
      go_enter Try.func5, Try.ntmps5
      go_wp2_with (first
        | (go_at_call 6; (first | with_reducible refine (HCS.out _).mono ?_ | with_reducible refine (HCT.out _).mono ?_); rintro e w1 ⟨rfl, rfl⟩)
        | (go_at_call 12; (with_reducible refine (HO.out _).mono ?_); rintro e w1 ⟨rfl, b1⟩; have HB := Lib.hid (HB.out.trans (b1.mono HB.out.size)); clear b1)
        | (go_at_call 17; refine (imgMost_any _).mono ?_; rintro e w1 ⟨rfl, b1⟩; have HB := Lib.hid (HB.out.trans (b1.mono HB.out.size)); clear b1)
        | (go_at_call 13; (with_reducible refine (HN.out _).mono ?_); rintro e w1 ⟨rfl, b1⟩; have HB := Lib.hid (HB.out.trans (b1.mono HB.out.size)); clear b1)
        | (go_at_call 14; (with_reducible refine (HLV.out _).mono ?_); rintro e w1 ⟨rfl, b1⟩; have HB := Lib.hid (HB.out.trans (b1.mono HB.out.size)); clear b1))
      go_ret
      exact ⟨rfl, HB.out⟩
    · have hr0 : decide (0 ≤ r') = false := by simp; omega
      rw [hr0] at HI
      clear h2 hr0
      go_enter Try.func5, Try.ntmps5
      go_wp2_with (first
        | (go_at_call 6; (first | with_reducible refine (HCS.out _).mono ?_ | with_reducible refine (HCT.out _).mono ?_); rintro e w1 ⟨rfl, rfl⟩)
        | (go_at_call 12; (with_reducible refine (HO.out _).mono ?_); rintro e w1 ⟨rfl, b1⟩; have HB := Lib.hid (HB.out.trans (b1.mono HB.out.size)); clear b1)
        | (go_at_call 17; refine (imgMost_any _).mono ?_; rintro e w1 ⟨rfl, b1⟩; have HB := Lib.hid (HB.out.trans (b1.mono HB.out.size)); clear b1)
        | (go_at_call 13; (with_reducible refine (HN.out _).mono ?_); rintro e w1 ⟨rfl, b1⟩; have HB := Lib.hid (HB.out.trans (b1.mono HB.out.size)); clear b1)
        | (go_at_call 11; (with_reducible refine (HI.out _).mono ?_); rintro e w1 ⟨rfl, b1⟩; have HB := Lib.hid (HB.out.trans (b1.mono HB.out.size)); clear b1)
        | (go_at_call 14; (with_reducible refine (HLV.out _).mono ?_); rintro e w1 ⟨rfl, b1⟩; have HB := Lib.hid (HB.out.trans (b1.mono HB.out.size)); clear b1))
      go_ret
      exact ⟨rfl, HB.out⟩

end Go.Proofs.Ytilheoilncjdnaa
