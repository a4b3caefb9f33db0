/-
  The laws MediaTable and MediaApart. Condition: what an argument's reading gives.
-/
import Derived.Test.YtnidokhlhgkjcaaVg
import Derived.Test.YtnidokhlhgkjcaaIt
import Derived.Test.YtnidokhlhgkjcaaIg
import Derived.Deep.RegionHeld3
namespace Go.Proofs.Ytnidokhlhgkjcaa
open Go.RowKit

theorem pic_on {w W W' : World} {cs : Array Value} (h : PicAt w cs W) (hb : Below W.heap.size W W') : PicAt w cs W' := PicAt.next (x := ⟨W, h⟩) hb
theorem pic_keep {w W : World} {b m k t : ByteArray} (h : PicAt w #[.string b, .string m, .string k, .string t] W) : W.cell? ⟨w.heap.size, 0, none⟩ = some (.string b) ∧ W.cell? ⟨w.heap.size, 3, none⟩ = some (.string t) := ⟨h.2.cell 0, h.2.cell 3⟩

set_option maxHeartbeats 4000000 in
set_option maxRecDepth 100000 in
theorem mediaTable_any (i : Nat) (s : ByteArray) (w : World) (hi : i < 256) (hs : s.size ≤ 9223372036854775807) :
    Calls Try.prog 4 #[.int .u8 (i : Int), .string s] w fun e w' => e = .returned (.bool true) ∧ Below w.heap.size w w' := by
  have HCS : Hid (∀ W, Calls Try.prog 7 #[.string s, .int .i64 50] W fun e w' => e = .returned (.string (cutB s 50)) ∧ W = w') := Lib.hid fun W => cut_any s 50 W hs
  have hv := cutB_size s 50
  generalize cutB s 50 = v at *
  obtain ⟨j, hj⟩ : ∃ j, j = i % 6 := ⟨_, rfl⟩
  have hj8 : j < 6 := by omega
  have hij : (i : Int) % 6 = (j : Int) := by omega
  have hb14 := (med_small hj8).1
  have hm14 := (med_small hj8).2
  have hbv : ((medP j).b ++ v).size ≤ 140737488351232 := by simp; omega
  have HT := Lib.hid (fun W => medType_any ((medP j).b ++ v) j W hbv (med_first hj8 v))
  rw [show typeOf medP (j : Int) = (medP j).t from by unfold typeOf; rw [if_neg (by omega)]; rfl] at HT
  have HSM := Lib.hid (fun W g h (hp : PatsIn W g medP 6) (hq : PatsIn W h medP 6) => rSame_any g 6 h 6 6 medP W hp hq (by decide))
  have HMO := Lib.hid (fun W g (hp : PatsIn W g medP 6) => rMost_any g 6 6 medP W hp (fun i hi => med_ok hi) (by decide))
  rw [med_most] at HMO
  have HLV := Lib.hid lives14_any
  have HB := Lib.hid (Below.refl w.heap.size w)
  clear hj
  go_enter Try.func4, Try.ntmps4
  go_wp2_with (first
    | (go_at_call 17; refine (medTable_any _).mono ?_; rintro e w1 ⟨g0, rfl, hg, hp, b1⟩; have HB := Lib.hid (HB.out.trans (b1.mono HB.out.size)); have HP0 := Lib.hid (pats6 hp); clear b1 hp hg)
    | (go_at_call 7; (with_reducible refine (HCS.out _).mono ?_); rintro e w1 ⟨rfl, rfl⟩)
    | (go_at_call 16; (with_reducible refine (HSM.out _ _ _ HP0.out HP.out).mono ?_); rintro e w1 ⟨rfl, b1⟩; have HB := Lib.hid (HB.out.trans (b1.mono HB.out.size)); clear b1 HP)
    | (go_at_call 18; refine (medMost_any _).mono ?_; rintro e w1 ⟨rfl, b1⟩; have HB := Lib.hid (HB.out.trans (b1.mono HB.out.size)); clear b1)
    | (go_at_call 19; (with_reducible refine (HMO.out _ _ HP.out).mono ?_); rintro e w1 ⟨rfl, rfl⟩; clear HP)
    | (go_at_call 9; refine (refTable14_any _).mono ?_; rintro e w1 ⟨g, rfl, hg, hp, b1⟩; have HB := Lib.hid (HB.out.trans (b1.mono HB.out.size)); (try have HP0 := Lib.hid (HP0.out.below b1 HP0.out.1 (Nat.le_refl _))); (try obtain ⟨c0, c1, c2, c3⟩ := (HP.out.below b1 HP.out.1 (Nat.le_refl _)).2 j hj8); have HP := Lib.hid hp; clear b1 hp hg))
  have HX := Lib.hid (show PicAt w1 #[.string (medP j).b, .string (medP j).m, .string (medP j).k, .string (medP j).t] (w1.alloc (.cells #[.string (medP j).b, .string (medP j).m, .string (medP j).k, .string (medP j).t] 32)) from ⟨(Below.refl _ _).alloc (Nat.le_refl _) _, Blk.new _ _ _⟩)
  generalize w1.alloc (.cells #[.string (medP j).b, .string (medP j).m, .string (medP j).k, .string (medP j).t] 32) = w2 at *
  have f0 := HX.out.2.cell 0
  have f3 := HX.out.2.cell 3
  have hk1 : ¬ 9223372036854775807 < (medP j).b.size + v.size := by omega
  have hee : ((medP j).t.toList == (medP j).t.toList) = true := by simp
  clear c0 c1 c2 c3 HP
  go_region_held3 (fun w' => w'.cell? ⟨w1.heap.size, 0, none⟩ = some (.string (medP j).b) ∧ w'.cell? ⟨w1.heap.size, 3, none⟩ = some (.string (medP j).t))
    (first | go_keep | exact pic_keep HX.out)
    (first
      | (go_at_call 17; refine (medTable_any _).mono ?_; rintro e w3 ⟨g0, rfl, hg, hp, b1⟩; have HX := Lib.hid (pic_on (by first | exact HX.out | exact HX.out.drew) b1); have HP0 := Lib.hid (pats6 hp); clear b1 hp hg)
      | (go_at_call 9; refine (refTable14_any _).mono ?_; rintro e w3 ⟨g, rfl, hg, hp, b1⟩; have HX := Lib.hid (pic_on HX.out b1); (try have HP0 := Lib.hid (HP0.out.below b1 HP0.out.1 (Nat.le_refl _))); have HP := Lib.hid hp; clear b1 hp hg)
      | (go_at_call 16; (with_reducible refine (HSM.out _ _ _ HP0.out HP.out).mono ?_); rintro e w3 ⟨rfl, b1⟩; have HX := Lib.hid (pic_on HX.out b1); clear b1 HP HP0)
      | (go_at_call 18; refine (medMost_any _).mono ?_; rintro e w3 ⟨rfl, b1⟩; have HX := Lib.hid (pic_on HX.out b1); clear b1)
      | (go_at_call 19; (with_reducible refine (HMO.out _ _ HP.out).mono ?_); rintro e w3 ⟨rfl, rfl⟩; clear HP)
      | (go_at_call 7; (with_reducible refine (HCS.out _).mono ?_); rintro e w3 ⟨rfl, rfl⟩)
      | (go_at_call 11; (with_reducible refine (HT.out _).mono ?_); rintro e w3 ⟨rfl, b1⟩; have HX := Lib.hid (pic_on HX.out b1); clear b1)
      | (go_at_call 15; (with_reducible refine (HLV.out _).mono ?_); rintro e w3 ⟨rfl, b1⟩; have HX := Lib.hid (pic_on HX.out b1); clear b1))
  all_goals
    go_wp2
    go_ret
    exact ⟨rfl, HB.out.trans (HX.out.1.mono HB.out.size)⟩

/-- What both tables are open at. -/
theorem need_both {u : ByteArray} {r q : Int} (h1 : needN u medP 6 r ≠ 0) (h2 : needN u imgP 8 q ≠ 0) {x : Nat} (hx : x < u.size) : (x < 4 → u[x]! = rifS[x]!) ∧ (x = 8 → u[x]! = 87) ∧ x ≤ 8 := by
  have a1 : lowN u medP 6 ≠ 0 := fun h => h1 (by unfold needN; rw [h, ite_self])
  have a2 : lowN u imgP 8 ≠ 0 := fun h => h2 (by unfold needN; rw [h, ite_self])
  obtain ⟨i, hi, ho, _⟩ := low_from a1
  obtain ⟨j, hj, hq, _⟩ := low_from a2
  exact both_open hi hj ho hq hx

set_option maxHeartbeats 4000000 in
set_option maxRecDepth 100000 in
theorem apart_last (s u : ByteArray) (w : World) (N : Nat) (hu : u.size ≤ 100)
    (HCS : Hid (∀ W, Calls Try.prog 7 #[.string s, .int .i64 100] W fun e w' => e = .returned (.string u) ∧ W = w'))
    (HI : Hid (∀ W, Calls Try.prog 12 #[.string u] W fun e w' => e = .returned (.bool false) ∧ Below W.heap.size W w'))
    (HO : Hid (∀ W, Calls Try.prog 13 #[.string u] W fun e w' => e = .returned (.bool true) ∧ Below W.heap.size W w'))
    (HRN : Hid (∀ W g (_ : PatsIn W g imgP 8), Calls Try.prog 10 #[.string u, .slice (some ⟨g, 0, none⟩) (8 : Nat) (8 : Nat)] W fun e w' => e = .returned (.int .i64 (N : Nat)) ∧ Below W.heap.size W w'))
    (hN0 : ((N : Int) == 0) = false)
    (HF : Hid (∀ x, x < u.size → (x < 4 → u[x]! = rifS[x]!) ∧ (x = 8 → u[x]! = 87) ∧ x ≤ 8))
    (HLV : Hid (∀ W, Calls Try.prog 15 #[] W fun e w' => e = .returned (.bool true) ∧ Below W.heap.size W w')) :
    Calls Try.prog 5 #[.string s] w fun e w' => e = .returned (.bool true) ∧ Below w.heap.size w w' := by
  have HB := Lib.hid (Below.refl w.heap.size w)
  go_enter Try.func5, Try.ntmps5
  go_wp2_with (first
    | (go_at_call 7; (with_reducible refine (HCS.out _).mono ?_); rintro e w1 ⟨rfl, rfl⟩)
    | (go_at_call 20; refine (refTable_any _).mono ?_; rintro e w1 ⟨g, rfl, hg, hp, b1⟩; have HB := Lib.hid (HB.out.trans (b1.mono HB.out.size)); have HP := Lib.hid hp; clear b1 hp hg)
    | (go_at_call 10; (with_reducible refine (HRN.out _ _ HP.out).mono ?_); rintro e w1 ⟨rfl, b1⟩; have HB := Lib.hid (HB.out.trans (b1.mono HB.out.size)); clear b1; clear HP)
    | (go_at_call 12; (with_reducible refine (HI.out _).mono ?_); rintro e w1 ⟨rfl, b1⟩; have HB := Lib.hid (HB.out.trans (b1.mono HB.out.size)); clear b1)
    | (go_at_call 13; (with_reducible refine (HO.out _).mono ?_); rintro e w1 ⟨rfl, b1⟩; have HB := Lib.hid (HB.out.trans (b1.mono HB.out.size)); clear b1))
  clear HCS HI HO HRN hN0
  go_loopw [4] (fun i wr => ∃ k : Nat, k ≤ u.size ∧ i = .int .i64 k ∧ ∃ d, wr = w1.drewN d) (fun i _ => u.size - (intOf i).toNat)
  case atStart => exact ⟨0, by omega, rfl, 0, rfl⟩
  case round =>
    obtain ⟨k, hk, rfl, hw⟩ := hrel
    have HW := Lib.hid hw
    clear hw
    by_cases hlt : k < u.size
    · have hb := HF.out k hlt
      have h9 : k = 0 ∨ k = 1 ∨ k = 2 ∨ k = 3 ∨ k = 4 ∨ k = 5 ∨ k = 6 ∨ k = 7 ∨ k = 8 := by omega
      rcases h9 with rfl | rfl | rfl | rfl | rfl | rfl | rfl | rfl | rfl
      · have hi : u[0]'hlt = 82 := (getElem!_pos u 0 hlt).symm.trans (hb.1 (by decide))
        clear hb
        as_aux_lemma =>
        go_wp2
        go_quiet (fail)
        go_wp2
        go_roundw
        case rel => exact ⟨0 + 1, by omega, by go_num, by obtain ⟨d, hd⟩ := HW.out; rw [hd]; exact ⟨_, World.drewN_drewN _ _ _⟩⟩
        case measure => simp [intOf]; omega
      · have hi : u[1]'hlt = 73 := (getElem!_pos u 1 hlt).symm.trans (hb.1 (by decide))
        clear hb
        as_aux_lemma =>
        go_wp2
        go_quiet (fail)
        go_wp2
        go_roundw
        case rel => exact ⟨1 + 1, by omega, by go_num, by obtain ⟨d, hd⟩ := HW.out; rw [hd]; exact ⟨_, World.drewN_drewN _ _ _⟩⟩
        case measure => simp [intOf]; omega
      · have hi : u[2]'hlt = 70 := (getElem!_pos u 2 hlt).symm.trans (hb.1 (by decide))
        clear hb
        as_aux_lemma =>
        go_wp2
        go_quiet (fail)
        go_wp2
        go_roundw
        case rel => exact ⟨2 + 1, by omega, by go_num, by obtain ⟨d, hd⟩ := HW.out; rw [hd]; exact ⟨_, World.drewN_drewN _ _ _⟩⟩
        case measure => simp [intOf]; omega
      · have hi : u[3]'hlt = 70 := (getElem!_pos u 3 hlt).symm.trans (hb.1 (by decide))
        clear hb
        as_aux_lemma =>
        go_wp2
        go_quiet (fail)
        go_wp2
        go_roundw
        case rel => exact ⟨3 + 1, by omega, by go_num, by obtain ⟨d, hd⟩ := HW.out; rw [hd]; exact ⟨_, World.drewN_drewN _ _ _⟩⟩
        case measure => simp [intOf]; omega
      · clear hb
        as_aux_lemma =>
        go_wp2
        go_quiet (fail)
        go_wp2
        go_roundw
        case rel => exact ⟨4 + 1, by omega, by go_num, by obtain ⟨d, hd⟩ := HW.out; rw [hd]; exact ⟨_, World.drewN_drewN _ _ _⟩⟩
        case measure => simp [intOf]; omega
      · clear hb
        as_aux_lemma =>
        go_wp2
        go_quiet (fail)
        go_wp2
        go_roundw
        case rel => exact ⟨5 + 1, by omega, by go_num, by obtain ⟨d, hd⟩ := HW.out; rw [hd]; exact ⟨_, World.drewN_drewN _ _ _⟩⟩
        case measure => simp [intOf]; omega
      · clear hb
        as_aux_lemma =>
        go_wp2
        go_quiet (fail)
        go_wp2
        go_roundw
        case rel => exact ⟨6 + 1, by omega, by go_num, by obtain ⟨d, hd⟩ := HW.out; rw [hd]; exact ⟨_, World.drewN_drewN _ _ _⟩⟩
        case measure => simp [intOf]; omega
      · clear hb
        as_aux_lemma =>
        go_wp2
        go_quiet (fail)
        go_wp2
        go_roundw
        case rel => exact ⟨7 + 1, by omega, by go_num, by obtain ⟨d, hd⟩ := HW.out; rw [hd]; exact ⟨_, World.drewN_drewN _ _ _⟩⟩
        case measure => simp [intOf]; omega
      · have hi : u[8]'hlt = 87 := (getElem!_pos u 8 hlt).symm.trans (hb.2.1 rfl)
        clear hb
        as_aux_lemma =>
        go_wp2
        go_quiet (fail)
        go_wp2
        go_roundw
        case rel => exact ⟨8 + 1, by omega, by go_num, by obtain ⟨d, hd⟩ := HW.out; rw [hd]; exact ⟨_, World.drewN_drewN _ _ _⟩⟩
        case measure => simp [intOf]; omega
    · obtain rfl : k = u.size := by omega
      have HB := Lib.hid (show Below w.heap.size w wr from by obtain ⟨d, hd⟩ := HW.out; rw [hd]; exact Below.drewN' HB.out _)
      go_wp2_with (first
        | (go_at_call 15; (with_reducible refine (HLV.out _).mono ?_); rintro e w1 ⟨rfl, b1⟩; have HB := Lib.hid (HB.out.trans (b1.mono HB.out.size)); clear b1))
      go_ret
      exact ⟨rfl, HB.out⟩

set_option maxHeartbeats 4000000 in
set_option maxRecDepth 100000 in
theorem mediaApart_any (s : ByteArray) (w : World) (hs : s.size ≤ 9223372036854775807) :
    Calls Try.prog 5 #[.string s] w fun e w' => e = .returned (.bool true) ∧ Below w.heap.size w w' := by
  have HCS : Hid (∀ W, Calls Try.prog 7 #[.string s, .int .i64 100] W fun e w' => e = .returned (.string (cutB s 100)) ∧ W = w') := Lib.hid fun W => cut_any s 100 W hs
  have hu := cutB_size s 100
  generalize cutB s 100 = u at *
  obtain ⟨r, hr⟩ := IsFirst.some u medP 6
  obtain ⟨q, hq⟩ := IsFirst.some u imgP 8
  have hus : u.size ≤ 140737488351232 := by omega
  have HRT := Lib.hid (fun W g (h : PatsIn W g imgP 8) => rType_any g 8 8 u imgP q W h (fun i hi => img_ok hi) (by omega) (by decide) hq)
  have HRN := Lib.hid (fun W g (h : PatsIn W g imgP 8) => rNeeds_any g 8 8 u imgP q W h (fun i hi => img_ok hi) (fun i hi => img_good hi) (by omega) (by decide) hq)
  have HI := Lib.hid (fun W => medIs_any u r W hus hr)
  have HO := Lib.hid (fun W => medOpen_any u r W hus hr)
  have HLV := Lib.hid lives14_any
  have HB := Lib.hid (Below.refl w.heap.size w)
  by_cases h0 : 0 ≤ r
  · rw [apart_none hr hq h0] at HRT
    rw [show typeOf imgP (-1) = ⟨#[]⟩ from by kernel_rfl] at HRT
    rw [show decide (0 ≤ r) = true from by simpa using h0] at HI
    rw [show needN u medP 6 r = 0 from if_pos h0] at HO
    rw [show decide (0 < 0) = false from rfl] at HO
    clear hr hq HRN h0 hs hu
    as_aux_lemma =>
    go_enter Try.func5, Try.ntmps5
    go_wp2_with (first
      | (go_at_call 7; (with_reducible refine (HCS.out _).mono ?_); rintro e w1 ⟨rfl, rfl⟩)
      | (go_at_call 20; refine (refTable_any _).mono ?_; rintro e w1 ⟨g, rfl, hg, hp, b1⟩; have HB := Lib.hid (HB.out.trans (b1.mono HB.out.size)); have HP := Lib.hid hp; clear b1 hp hg)
      | (go_at_call 8; (with_reducible refine (HRT.out _ _ HP.out).mono ?_); rintro e w1 ⟨rfl, b1⟩; have HB := Lib.hid (HB.out.trans (b1.mono HB.out.size)); clear b1; clear HP)
      | (go_at_call 12; (with_reducible refine (HI.out _).mono ?_); rintro e w1 ⟨rfl, b1⟩; have HB := Lib.hid (HB.out.trans (b1.mono HB.out.size)); clear b1)
      | (go_at_call 13; (with_reducible refine (HO.out _).mono ?_); rintro e w1 ⟨rfl, b1⟩; have HB := Lib.hid (HB.out.trans (b1.mono HB.out.size)); clear b1)
      | (go_at_call 15; (with_reducible refine (HLV.out _).mono ?_); rintro e w1 ⟨rfl, b1⟩; have HB := Lib.hid (HB.out.trans (b1.mono HB.out.size)); clear b1))
    go_ret
    exact ⟨rfl, HB.out⟩
  · rw [show decide (0 ≤ r) = false from by simpa using h0] at HI
    by_cases h1 : needN u medP 6 r = 0
    · rw [h1] at HO
      rw [show decide (0 < 0) = false from rfl] at HO
      clear hr hq HRN HRT h0 hs hu h1
      as_aux_lemma =>
      go_enter Try.func5, Try.ntmps5
      go_wp2_with (first
        | (go_at_call 7; (with_reducible refine (HCS.out _).mono ?_); rintro e w1 ⟨rfl, rfl⟩)
        | (go_at_call 12; (with_reducible refine (HI.out _).mono ?_); rintro e w1 ⟨rfl, b1⟩; have HB := Lib.hid (HB.out.trans (b1.mono HB.out.size)); clear b1)
        | (go_at_call 13; (with_reducible refine (HO.out _).mono ?_); rintro e w1 ⟨rfl, b1⟩; have HB := Lib.hid (HB.out.trans (b1.mono HB.out.size)); clear b1)
        | (go_at_call 15; (with_reducible refine (HLV.out _).mono ?_); rintro e w1 ⟨rfl, b1⟩; have HB := Lib.hid (HB.out.trans (b1.mono HB.out.size)); clear b1))
      go_ret
      exact ⟨rfl, HB.out⟩
    · rw [show decide (0 < needN u medP 6 r) = true from by simp; omega] at HO
      by_cases h2 : needN u imgP 8 q = 0
      · rw [h2] at HRN
        clear hr hq HRT h0 hs hu h1 h2
        as_aux_lemma =>
        go_enter Try.func5, Try.ntmps5
        go_wp2_with (first
          | (go_at_call 7; (with_reducible refine (HCS.out _).mono ?_); rintro e w1 ⟨rfl, rfl⟩)
          | (go_at_call 20; refine (refTable_any _).mono ?_; rintro e w1 ⟨g, rfl, hg, hp, b1⟩; have HB := Lib.hid (HB.out.trans (b1.mono HB.out.size)); have HP := Lib.hid hp; clear b1 hp hg)
          | (go_at_call 10; (with_reducible refine (HRN.out _ _ HP.out).mono ?_); rintro e w1 ⟨rfl, b1⟩; have HB := Lib.hid (HB.out.trans (b1.mono HB.out.size)); clear b1; clear HP)
          | (go_at_call 12; (with_reducible refine (HI.out _).mono ?_); rintro e w1 ⟨rfl, b1⟩; have HB := Lib.hid (HB.out.trans (b1.mono HB.out.size)); clear b1)
          | (go_at_call 13; (with_reducible refine (HO.out _).mono ?_); rintro e w1 ⟨rfl, b1⟩; have HB := Lib.hid (HB.out.trans (b1.mono HB.out.size)); clear b1)
          | (go_at_call 15; (with_reducible refine (HLV.out _).mono ?_); rintro e w1 ⟨rfl, b1⟩; have HB := Lib.hid (HB.out.trans (b1.mono HB.out.size)); clear b1))
        go_ret
        exact ⟨rfl, HB.out⟩
      · have HF := Lib.hid (fun x (hx : x < u.size) => need_both h1 h2 hx)
        obtain ⟨N, hN⟩ : ∃ N, N = needN u imgP 8 q := ⟨_, rfl⟩
        rw [← hN] at HRN h2
        have hN0 : ((N : Int) == 0) = false := by rw [beq_eq_false_iff_ne]; omega
        clear hr hq HRT h0 hs h1 hN
        exact apart_last s u w N hu HCS HI HO HRN hN0 HF HLV

end Go.Proofs.Ytnidokhlhgkjcaa
