/-
  What the document's Parse of layer 26 answers. Condition: the text is as long as a length can be.
  What strconv.Itoa answers at this translation: the decimal numeral. Condition: the library's table of powers of ten is laid.
  What Text of layer 5 answers, and the document's own. Condition: the library's table of powers of ten is laid.
-/
import Derived.Test.YtagbndkfbnlpoaaGreatDoorZ19
import Derived.Test.YtagbndkfbnlpoaaGreatDoorZ6
import Derived.Deep.Cut
import Derived.Shelf.LaysM
import Derived.Shelf.Strconv.Itoa3
import Derived.Lib.AppendIntMem
import Derived.Stop.LaidErr
import Derived.Test.YtagbndkfbnlpoaaGreatDoorRows
import Derived.WalkKit
import Derived.Test.YtagbndkfbnlpoaaGreatDoorZ8
import Derived.WalkSpells
import Derived.WalkLawsBesides
import Derived.Lib.Hide
namespace Go.Proofs.YtagbndkfbnlpoaaGreatDoor
open Go.RowKit

set_option maxHeartbeats 2000000 in
theorem upto_any (s t : ByteArray) (w : World) (hs : s.size ≤ 9223372036854775807) (ht : t.size ≤ 9223372036854775807) :
    Calls Tryz.prog 24 #[.string s, .string t] w fun e w' => e = .returned (.int .i64 (scan (fun b => !hasB t b) s 0 : Nat)) ∧ w = w' := by
  obtain ⟨c, hc⟩ : ∃ c, c = scan (fun b => !hasB t b) s 0 := ⟨_, rfl⟩
  have HC := Lib.hid hc
  rw [← hc]
  clear hc
  go_enter Tryz.func24, Tryz.ntmps24
  go_wp2_with fail
  go_loop [5] (fun i => ∃ k : Nat, i = .int .i64 k ∧ k ≤ s.size ∧ scan (fun b => !hasB t b) s k = c) (fun i => s.size - (intOf i).toNat)
  case atStart => exact ⟨0, rfl, Nat.zero_le _, HC.out.symm⟩
  case round =>
    obtain ⟨k, rfl, hk, hsc⟩ := hrel
    have HS := Lib.hid hsc
    clear hsc HC
    by_cases hlt : k < s.size
    · obtain ⟨b, hb⟩ : ∃ b, s[k] = b := ⟨_, rfl⟩
      have HH := Lib.hid (fun W => has_any t b W ht)
      cases hh : hasB t b
      · have HY := Lib.hid ((scan_step (p := fun b => !hasB t b) hlt (by show (!hasB t s[k]) = true; rw [hb, hh]; rfl)).trans HS.out)
        rw [hh] at HH
        clear HS hh
        go_wp2_with (go_at_call 50; (with_reducible refine (HH.out _).mono ?_); rintro e w1 ⟨rfl, rfl⟩)
        go_round
        case rel => exact ⟨k + 1, by go_num, by omega, HY.out⟩
        case measure => simp [intOf] <;> omega
      · have HY := Lib.hid (show k = c from (scan_stop (p := fun b => !hasB t b) hlt (by show (!hasB t s[k]) = false; rw [hb, hh]; rfl)).symm.trans HS.out)
        rw [hh] at HH
        clear HS hh
        go_wp2_with (go_at_call 50; (with_reducible refine (HH.out _).mono ?_); rintro e w1 ⟨rfl, rfl⟩)
        go_ret
        exact ⟨by rw [← HY.out]; rfl, rfl⟩
    · obtain rfl : k = s.size := by omega
      have HY := Lib.hid (show s.size = c from (scan_end (p := fun b => !hasB t b) rfl).symm.trans HS.out)
      have g1 : ¬ (s.size : Int) < (s.size : Int) := by omega
      clear HS hlt hk
      go_wp2
      go_ret
      exact ⟨by rw [← HY.out]; rfl, rfl⟩
/-- The result's block and the empty place's one. -/
structure Pz (w W : World) : Prop where
  b : Below w.heap.size w W
  r : Blk W w.heap.size 24 (urA ⟨#[]⟩ ⟨#[]⟩ 0 ⟨#[]⟩ ⟨#[]⟩)
  n : Blk W (w.heap.size + 1) 24 (urA ⟨#[]⟩ ⟨#[]⟩ 0 ⟨#[]⟩ ⟨#[]⟩)
theorem Pz.new (w : World) : Pz w ((w.alloc (urC ⟨#[]⟩ ⟨#[]⟩ 0 ⟨#[]⟩ ⟨#[]⟩)).alloc (urC ⟨#[]⟩ ⟨#[]⟩ 0 ⟨#[]⟩ ⟨#[]⟩)) :=
  ⟨((Below.refl _ _).alloc (Nat.le_refl _) _).alloc (by simp) _, (Blk.new w _ _).alloc _, by simpa using Blk.new (w.alloc (urC ⟨#[]⟩ ⟨#[]⟩ 0 ⟨#[]⟩ ⟨#[]⟩)) 24 (urA ⟨#[]⟩ ⟨#[]⟩ 0 ⟨#[]⟩ ⟨#[]⟩)⟩
theorem Pz.next {w W W' : World} (h : Pz w W) (hb : Below W.heap.size W W') : Pz w W' := ⟨below_on h.b hb, h.r.below hb h.r.lt, h.n.below hb h.n.lt⟩
theorem Pz.drew {w W : World} (h : Pz w W) : Pz w W.drew := ⟨h.b.drew, h.r.drew, h.n.drew⟩
/-- The same, with the place that is read. -/
structure Pu (w : World) (g : Nat) (cs : Array Value) (W : World) : Prop where
  z : Pz w W
  u : Blk W g 24 cs
  far : w.heap.size + 2 ≤ g
theorem Pu.new {w W : World} (h : Pz w W) (cs : Array Value) : Pu w W.heap.size cs (W.alloc (.cells cs 24)) := ⟨⟨h.b.alloc h.b.size _, h.r.alloc _, h.n.alloc _⟩, Blk.new _ _ _, h.n.lt⟩
theorem Pu.next {w W W' : World} {g : Nat} {cs : Array Value} (h : Pu w g cs W) (hb : Below W.heap.size W W') : Pu w g cs W' := ⟨h.z.next hb, h.u.below hb h.u.lt, h.far⟩
theorem Pu.drew {w W : World} {g : Nat} {cs : Array Value} (h : Pu w g cs W) : Pu w g cs W.drew := ⟨h.z.drew, h.u.drew, h.far⟩
theorem Pu.drewN {w W : World} {g : Nat} {cs : Array Value} (h : Pu w g cs W) (n : Nat) : Pu w g cs (W.drewN n) := h.next (Below.drewN' (Below.refl _ _) n)
theorem Pu.put {w W : World} {g : Nat} {cs : Array Value} (h : Pu w g cs W) (i : Nat) (v : Value) : Pu w g (cs.setIfInBounds i v) (W.setCell ⟨g, i, none⟩ v) := by
  have := h.far
  exact ⟨⟨h.z.b.setCell (by show w.heap.size ≤ g; omega) _, h.z.r.far (by show w.heap.size ≠ g; omega) _, h.z.n.far (by show w.heap.size + 1 ≠ g; omega) _⟩, h.u.set_ i v, h.far⟩

theorem prtO_ways (pt : ByteArray) (U : Plc) : prtO pt U = if pt.toList == [] then .ok U else if parE pt != 0 then .error (parE pt) else if parN pt == 0 then .error 9 else if decide (65535 < parN pt) then .error 9 else if parN pt == ownP U.sc then .ok { U with po := 0 } else .ok { U with po := parN pt } := by
  unfold prtO
  rw [size_bool]
  generalize pt.size = z
  generalize parE pt = k
  generalize parN pt = m
  generalize ownP U.sc = q
  by_cases hz : z = 0
  · simp [hz]
  · by_cases h1 : k = 0
    · by_cases h2 : m = 0
      · simp [hz, h1, h2]
      · by_cases h3 : 65535 < m
        · simp [hz, h1, h2, h3]
        · by_cases h4 : m = q
          · subst h4
            simp [hz, h1, h2, h3]
          · simp [hz, h1, h2, h3, h4]
    · simp [hz, h1]

set_option maxRecDepth 100000 in
set_option maxHeartbeats 16000000 in
theorem rparse26_any (s : ByteArray) (w : World) (hs : s.size ≤ 9223372036854775807) :
    Calls Tryz.prog 8 #[.string s] w fun x w' => x = .returned (plcV (urlO s)) ∧ Below w.heap.size w w' := by
  obtain ⟨A, hA⟩ : ∃ A, A = Ending.returned (plcV (urlO s)) := ⟨_, rfl⟩
  rw [← hA]
  have HA := Lib.hid hA
  clear hA
  have HZ := Lib.hid (Pz.new w)
  obtain ⟨w0, hw0⟩ : ∃ w0, w0 = ((w.alloc (urC ⟨#[]⟩ ⟨#[]⟩ 0 ⟨#[]⟩ ⟨#[]⟩)).alloc (urC ⟨#[]⟩ ⟨#[]⟩ 0 ⟨#[]⟩ ⟨#[]⟩)) := ⟨_, rfl⟩
  rw [← hw0] at HZ
  go_enter Tryz.func8, Tryz.ntmps8
  go_upto_block 0 with fail
  rw [← hw0]
  clear hw0
  obtain ⟨c, hc⟩ : ∃ c, c = scan ledB s 0 := ⟨_, rfl⟩
  have HC := Lib.hid hc
  obtain ⟨t1, ht1⟩ : ∃ t1, t1 = s.extract c s.size := ⟨_, rfl⟩
  have HT1 := Lib.hid ht1
  have hle := scan_le ledB s 0 (Nat.zero_le _)
  have hz1 : t1.size ≤ s.size := by rw [ht1]; simp
  rw [← hc] at hle
  clear hc ht1
  go_cut [0] from 11 to 20 (fun s0 wx => s0 = .string t1 ∧ wx = w0)
  case first =>
    go_wp2_with fail
    go_loop [0] (fun v => ∃ (k : Nat) (x : ByteArray), v = .string x ∧ k ≤ s.size ∧ x = s.extract k s.size ∧ scan ledB s k = c) (fun v => strLen v)
    case atStart => exact ⟨0, s, rfl, Nat.zero_le _, (extract_all s).symm, HC.out.symm⟩
    case round =>
      obtain ⟨k, x, rfl, hk, hx, hsc⟩ := hrel
      have HX := Lib.hid hx
      have HS := Lib.hid hsc
      have hzx : x.size = s.size - k := by rw [hx]; simp
      have HZX := Lib.hid hzx
      clear hx hsc HC
      by_cases hlt : k < s.size
      · have h0 : 0 < x.size := by omega
        clear hzx
        obtain ⟨b, hb⟩ : ∃ b, x[0] = b := ⟨_, rfl⟩
        have hsb : s[k] = b := by
          rw [← hb]
          have := HX.out
          subst this
          rw [ext_at (Nat.le_refl _) (by omega)]
          simp only [Nat.add_zero]
        cases hl : decide ((b.toNat : Int) < 33)
        · have HE := Lib.hid (show x = t1 from by
            rw [HT1.out, ← HS.out, scan_stop hlt (by rw [hsb]; unfold ledB; rw [decide_eq_false_iff_not] at hl ⊢; omega)]
            exact HX.out)
          clear hsb HX HS
          go_wp2
          go_meet
          exact ⟨by rw [HE.out], rfl⟩
        · have HN := Lib.hid ((scan_step hlt (by rw [hsb]; unfold ledB; rw [decide_eq_true_eq] at hl ⊢; omega)).trans HS.out)
          have HY := Lib.hid (show x.extract 1 x.size = s.extract (k + 1) s.size from by
            rw [HX.out, ByteArray.extract_extract]
            congr 1
            simp
            omega)
          have hzt : (x.extract 1 x.size).size = x.size - 1 := by simp
          clear hsb HX HS
          go_wp2
          go_round
          case rel => exact ⟨k + 1, _, rfl, by omega, HY.out, HN.out⟩
          case measure => simp [strLen]; omega
      · have h0 : ¬ 0 < x.size := by omega
        have hke : k = s.size := by omega
        have HE := Lib.hid (show x = t1 from by rw [HT1.out, ← HS.out, scan_end hke, ← hke]; exact HX.out.trans (by rw [hke]))
        have g0 : ¬ (0 : Int) < (x.size : Int) := by omega
        clear HX HS hke hlt hk
        go_wp2
        go_meet
        exact ⟨by rw [HE.out], rfl⟩
  case rest =>
    obtain ⟨rfl, hwc⟩ := hcut
    have hwc := hwc.symm
    subst hwc
    go_upto_block 2 with fail
    obtain ⟨e, he⟩ : ∃ e, e = backN ledB t1 t1.size := ⟨_, rfl⟩
    have HE := Lib.hid he
    obtain ⟨t, ht⟩ : ∃ t, t = t1.extract 0 e := ⟨_, rfl⟩
    have HTT := Lib.hid ht
    have hel := backN_le ledB t1 t1.size
    rw [← he] at hel
    have hzt : t.size = e := by rw [ht]; simp; omega
    have htr : trimP ledB s = t := by
      unfold trimP cutP
      rw [← HC.out, ← HT1.out, ← he, ht]
    replace HA := Lib.hid (show A = .returned (plcV (if 8192 < t.size then .error 6 else schO (t.extract 0 (scan (nonB #[35]) t 0)))) from by
      rw [HA.out]
      unfold urlO
      simp only [htr])
    clear he ht htr HC HT1 hle
    go_cut [0] from 21 to 36 (fun s0 wx => s0 = .string t ∧ wx = w0)
    case first =>
      go_wp2_with fail
      go_loop [0] (fun v => ∃ (k : Nat) (x : ByteArray), v = .string x ∧ k ≤ t1.size ∧ x = t1.extract 0 k ∧ backN ledB t1 k = e) (fun v => strLen v)
      case atStart => exact ⟨t1.size, t1, rfl, Nat.le_refl _, (extract_all t1).symm, HE.out.symm⟩
      case round =>
        obtain ⟨k, x, rfl, hk, hx, hsc⟩ := hrel
        have HX := Lib.hid hx
        have HS := Lib.hid hsc
        have hzx : x.size = k := by rw [hx]; simp; omega
        have HZX := Lib.hid hzx
        clear hx hsc HE
        by_cases hlt : 0 < k
        · obtain ⟨m, rfl⟩ : ∃ m, k = m + 1 := ⟨k - 1, by omega⟩
          have hm : m < x.size := by omega
          have hm1 : m < t1.size := by omega
          have h0 : 0 < x.size := by omega
          have g2 : (x.size : Int) - 1 = (m : Int) := by omega
          clear hzx
          obtain ⟨b, hb⟩ : ∃ b, x[m] = b := ⟨_, rfl⟩
          have hsb : t1[m] = b := by
            rw [← hb]
            have := HX.out
            subst this
            rw [ext_at (by omega) (by omega)]
            simp only [Nat.zero_add]
          cases hl : decide ((b.toNat : Int) < 33)
          · have HEE := Lib.hid (show x = t from by
              have := HS.out
              rw [backN_stop hm1 (by rw [hsb]; unfold ledB; rw [decide_eq_false_iff_not] at hl ⊢; omega)] at this
              rw [HTT.out, ← this]
              exact HX.out)
            clear hsb HX HS
            go_wp2
            go_meet
            exact ⟨by rw [HEE.out], rfl⟩
          · have HN := Lib.hid ((backN_step hm1 (by rw [hsb]; unfold ledB; rw [decide_eq_true_eq] at hl ⊢; omega)).symm.trans HS.out)
            have HY := Lib.hid (show x.extract 0 m = t1.extract 0 m from by
              rw [HX.out, ByteArray.extract_extract]
              congr 1
              simp)
            have hzt : (x.extract 0 m).size = m := by simp; omega
            have hxm : x.size = m + 1 := HZX.out
            have HXM := Lib.hid hxm
            have gm : (m : Int) ≤ (x.size : Int) := by omega
            clear hsb HX HS hxm
            go_wp2
            go_round
            case rel => exact ⟨m, _, rfl, by omega, HY.out, HN.out⟩
            case measure => have := HXM.out; simp [strLen]; omega
        · obtain rfl : k = 0 := by omega
          have h0 : ¬ 0 < x.size := by omega
          have HEE := Lib.hid (show x = t from by rw [HTT.out, ← HS.out]; exact HX.out)
          have g0 : ¬ (0 : Int) < (x.size : Int) := by omega
          clear HX HS hlt hk
          go_wp2
          go_meet
          exact ⟨by rw [HEE.out], rfl⟩
    case rest =>
      obtain ⟨rfl, hwc⟩ := hcut
      have hwc := hwc.symm
      subst hwc
      clear HE HTT hel hzt hz1
      cases g8 : decide ((8192 : Int) < (t.size : Int))
      rotate_left
      · replace HA := Lib.hid (show A = .returned (plcV (.error 6)) from by rw [HA.out, if_pos (by have := of_decide_eq_true g8; omega)])
        obtain ⟨c0, c1, c2, c3, c4⟩ := url_keep HZ.out.r
        obtain ⟨z0, z1, z2, z3, z4⟩ := url_thaw HZ.out.r
        obtain ⟨d0, d1, d2, d3, d4⟩ := url_keep HZ.out.n
        have j := url_keep (put5_blk HZ.out.r ⟨#[]⟩ ⟨#[]⟩ 0 ⟨#[]⟩ ⟨#[]⟩)
        unfold put5 at j
        obtain ⟨j0, j1, j2, j3, j4⟩ := j
        go_wp2
        exact bodyPost_ret (v := .tuple #[plV zerU, .int .i64 6]) (by simp [results, Tryz.results8, go_sem, j0, j1, j2, j3, j4]) rfl ⟨by rw [HA.out]; rfl, put5_below HZ.out.b (Nat.le_refl _) _ _ _ _ _⟩
      have ht8 : t.size ≤ 8192 := by have := of_decide_eq_false g8; omega
      replace HA := Lib.hid (show A = .returned (plcV (schO (t.extract 0 (scan (nonB #[35]) t 0)))) from by rw [HA.out, if_neg (by omega)])
      have HU1 : Hid (∀ W, Calls Tryz.prog 24 #[.string t, .string ⟨#[35]⟩] W fun e w' => e = .returned (.int .i64 (scan (nonB #[35]) t 0 : Nat)) ∧ W = w') := Lib.hid (fun W => upto_any t ⟨#[35]⟩ W (by omega) (by decide))
      have hk1 := scan_le (nonB #[35]) t 0 (Nat.zero_le _)
      generalize scan (nonB #[35]) t 0 = k1 at *
      obtain ⟨a, ha⟩ : ∃ a, t.extract 0 k1 = a := ⟨_, rfl⟩
      rw [ha] at HA
      have haz : a.size ≤ 8192 := by rw [← ha]; simp; omega
      have gk1 : (k1 : Int) ≤ (t.size : Int) := by omega
      go_wp2_with (go_at_call 24; (with_reducible refine (HU1.out _).mono ?_); rintro x w1 ⟨rfl, rfl⟩)
      clear ha gk1 hk1 HU1 g8 ht8
      have HU2 : Hid (∀ W, Calls Tryz.prog 24 #[.string a, .string ⟨#[58]⟩] W fun e w' => e = .returned (.int .i64 (scan (nonB #[58]) a 0 : Nat)) ∧ W = w') := Lib.hid (fun W => upto_any a ⟨#[58]⟩ W (by omega) (by decide))
      have hk2 := scan_le (nonB #[58]) a 0 (Nat.zero_le _)
      have HA2 := Lib.hid (show schO a = if prefB (a.extract (scan (nonB #[58]) a 0) a.size) ⟨#[58, 47, 47]⟩ = false then .error 2 else hosO (lowS (a.extract 0 (scan (nonB #[58]) a 0))) (a.extract (scan (nonB #[58]) a 0 + 3) a.size) from rfl)
      generalize scan (nonB #[58]) a 0 = k2 at *
      have gk2 : (k2 : Int) ≤ (a.size : Int) := by omega
      obtain ⟨x1, hx1⟩ : ∃ x1, a.extract k2 a.size = x1 := ⟨_, rfl⟩
      have hx1z : x1.size = a.size - k2 := by rw [← hx1]; simp
      rw [hx1] at HA2
      have HPX := Lib.hid (fun W => prefix_any x1 ⟨#[58, 47, 47]⟩ W (by omega) (by decide))
      have hpz : prefB x1 ⟨#[58, 47, 47]⟩ = true → 3 ≤ x1.size := fun h => by
        unfold prefB at h
        simp only [Bool.and_eq_true, decide_eq_true_eq] at h
        exact h.1
      cases gp : prefB x1 ⟨#[58, 47, 47]⟩
      · rw [gp] at HPX HA2
        replace HA := Lib.hid (show A = .returned (plcV (.error 2)) from by rw [HA.out, HA2.out, if_pos rfl])
        clear HA2 hpz gp hx1z
        obtain ⟨c0, c1, c2, c3, c4⟩ := url_keep HZ.out.r
        obtain ⟨z0, z1, z2, z3, z4⟩ := url_thaw HZ.out.r
        obtain ⟨d0, d1, d2, d3, d4⟩ := url_keep HZ.out.n
        have j := url_keep (put5_blk HZ.out.r ⟨#[]⟩ ⟨#[]⟩ 0 ⟨#[]⟩ ⟨#[]⟩)
        unfold put5 at j
        obtain ⟨j0, j1, j2, j3, j4⟩ := j
        go_wp2_with (first
          | (go_at_call 24; (with_reducible refine (HU2.out _).mono ?_); rintro x w1 ⟨rfl, rfl⟩)
          | (go_at_call 25; (with_reducible refine (HPX.out _).mono ?_); rintro x w1 ⟨rfl, rfl⟩))
        exact bodyPost_ret (v := .tuple #[plV zerU, .int .i64 2]) (by simp [results, Tryz.results8, go_sem, j0, j1, j2, j3, j4]) rfl ⟨by rw [HA.out]; rfl, put5_below HZ.out.b (Nat.le_refl _) _ _ _ _ _⟩
      have hk3 : k2 + 3 ≤ a.size := by have := hpz gp; omega
      rw [gp] at HPX HA2
      obtain ⟨y1, hy1⟩ : ∃ y1, a.extract 0 k2 = y1 := ⟨_, rfl⟩
      obtain ⟨b, hb⟩ : ∃ b, a.extract (k2 + 3) a.size = b := ⟨_, rfl⟩
      rw [hy1, hb] at HA2
      have hy1z : y1.size ≤ 8192 := by rw [← hy1]; simp; omega
      have hbz : b.size ≤ 8192 := by rw [← hb]; simp; omega
      have HLW := Lib.hid (fun W => refLowerS_any y1 W (by omega))
      generalize lowS y1 = sc at *
      replace HA := Lib.hid (show A = .returned (plcV (hosO sc b)) from by rw [HA.out, HA2.out, if_neg (by decide)])
      have gk3 : (k2 : Int) + 3 ≤ (a.size : Int) := by omega
      have gk3n : IntKind.i64.wrap ((k2 : Int) + 3) = ((k2 + 3 : Nat) : Int) := by rw [IntWalk.i64_in _ (by omega)]; rfl
      clear HA2 hpz gp hx1z
      go_wp2_with (first
        | (go_at_call 24; (with_reducible refine (HU2.out _).mono ?_); rintro x w1 ⟨rfl, rfl⟩)
        | (go_at_call 25; (with_reducible refine (HPX.out _).mono ?_); rintro x w1 ⟨rfl, rfl⟩))
      refine (HLW.out _).mono ?_
      rintro x w1 ⟨rfl, b9⟩
      replace HZ := Lib.hid (HZ.out.next b9)
      clear b9
      have HP := Lib.hid (Pu.new HZ.out (urA sc ⟨#[]⟩ 0 ⟨#[]⟩ ⟨#[]⟩))
      obtain ⟨W, hW⟩ : ∃ W, W = w1.alloc (urC sc ⟨#[]⟩ 0 ⟨#[]⟩ ⟨#[]⟩) := ⟨_, rfl⟩
      rw [← hW] at HP
      go_upto_region 14 with fail
      rw [← hW, hb]
      clear hW hb hy1 HLW gk3 gk3n hk3 HPX HU2 gk2 hk2 hx1 HZ
      generalize w1.heap.size = g at *
      have HU4 : Hid (∀ W, Calls Tryz.prog 24 #[.string b, .string ⟨#[58, 47, 63]⟩] W fun e w' => e = .returned (.int .i64 (scan (nonB #[58, 47, 63]) b 0 : Nat)) ∧ W = w') := Lib.hid (fun W => upto_any b ⟨#[58, 47, 63]⟩ W (by omega) (by decide))
      have hk4 := scan_le (nonB #[58, 47, 63]) b 0 (Nat.zero_le _)
      have HA3 := Lib.hid (show hosO sc b = if atB (b.extract (scan (nonB #[58, 47, 63]) b 0) b.size) 0 58 = true then pthO sc (lowS (b.extract 0 (scan (nonB #[58, 47, 63]) b 0))) ((b.extract (scan (nonB #[58, 47, 63]) b 0) b.size).extract 1 (scan (nonB #[47, 63]) (b.extract (scan (nonB #[58, 47, 63]) b 0) b.size) 0)) ((b.extract (scan (nonB #[58, 47, 63]) b 0) b.size).extract (scan (nonB #[47, 63]) (b.extract (scan (nonB #[58, 47, 63]) b 0) b.size) 0) (b.extract (scan (nonB #[58, 47, 63]) b 0) b.size).size) else pthO sc (lowS (b.extract 0 (scan (nonB #[58, 47, 63]) b 0))) ⟨#[]⟩ (b.extract (scan (nonB #[58, 47, 63]) b 0) b.size) from by unfold hosO; rfl)
      generalize scan (nonB #[58, 47, 63]) b 0 = k4 at *
      have gk4 : (k4 : Int) ≤ (b.size : Int) := by omega
      obtain ⟨y2, hy2⟩ : ∃ y2, b.extract 0 k4 = y2 := ⟨_, rfl⟩
      obtain ⟨c, hc⟩ : ∃ c, b.extract k4 b.size = c := ⟨_, rfl⟩
      rw [hy2, hc] at HA3
      have hy2z : y2.size ≤ 8192 := by rw [← hy2]; simp; omega
      have hcz : c.size ≤ 8192 := by rw [← hc]; simp; omega
      have HLH := Lib.hid (fun W => refLowerS_any y2 W (by omega))
      obtain ⟨ho, hho⟩ : ∃ ho, lowS y2 = ho := ⟨_, rfl⟩
      have hoz : ho.size ≤ 8192 := by rw [← hho, lowS_size]; exact hy2z
      rw [hho] at HLH HA3
      clear hho
      obtain ⟨e0, e1, e2, e3, e4⟩ := url_keep HP.out.u
      obtain ⟨f0, f1, f2, f3, f4⟩ := url_thaw HP.out.u
      go_wp2_with (go_at_call 24; (with_reducible refine (HU4.out _).mono ?_); rintro x w2 ⟨rfl, rfl⟩)
      go_region_held2 (fun w' => w'.cell? ⟨g, 0, none⟩ = some (.string sc))
        (first | exact HP.out.u.cell 0 | exact HP.out.u.drew.cell 0 | exact (HP.out.u.set_ 1 (.string ho)).cell 0 | go_keep)
        (first
          | (go_at_call 26; (with_reducible refine (HLH.out _).mono ?_); rintro x w3 ⟨rfl, b9⟩
             have HP := Lib.hid (show Pu w g _ w3 from by first | exact HP.out.next b9 | exact HP.out.drew.next b9)
             clear b9
             obtain ⟨e0, e1, e2, e3, e4⟩ := url_keep HP.out.u
             obtain ⟨f0, f1, f2, f3, f4⟩ := url_thaw HP.out.u))
      obtain ⟨W4, hW4⟩ : ∃ W4, W4 = w3.setCell ⟨g, 1, none⟩ (.string ho) := ⟨_, rfl⟩
      rw [← hW4]
      replace HP := Lib.hid (show Pu w g (urA sc ho 0 ⟨#[]⟩ ⟨#[]⟩) W4 from by rw [hW4]; exact HP.out.put 1 _)
      clear hW4 e0 e1 e2 e3 e4 f0 f1 f2 f3 f4 HLH hy2 hc HU4 gk4 hk4 hy2z
      go_upto_region 17 with fail
      obtain ⟨B, hB⟩ : ∃ B, atB c 0 58 = B := ⟨_, rfl⟩
      have HBB := Lib.hid hB
      have hce := size_bool c
      go_cut [78] from 72 to 77 (fun s78 wx => s78 = .bool B ∧ wx = W4)
      case first =>
        by_cases h0 : c.size = 0
        · rw [decide_eq_true h0] at hce
          have HBF := Lib.hid (show false = B from by rw [← hB]; exact (atB_out (by omega)).symm)
          have hce2 : (c.toList != []) = false := by rw [bne, hce]; rfl
          clear hB
          go_wp2
          go_meet
          exact ⟨by rw [← HBF.out], rfl⟩
        · rw [decide_eq_false h0] at hce
          have h0l : 0 < c.size := by omega
          obtain ⟨u, hu⟩ : ∃ u, c[0] = u := ⟨_, rfl⟩
          have hce2 : (c.toList != []) = true := by rw [bne, hce]; rfl
          have HBF := Lib.hid (show ((u.toNat : Int) == 58) = B from by
            rw [← hB, atB_at h0l, hu, Bool.eq_iff_iff, beq_iff_eq, beq_iff_eq, ← UInt8.toNat_inj]
            show (u.toNat : Int) = 58 ↔ u.toNat = 58
            omega)
          clear hB
          generalize hq : ((u.toNat : Int) == 58) = q at *
          go_wp2
          go_meet
          exact ⟨by rw [← HBF.out], rfl⟩
      case rest =>
        obtain ⟨rfl, hwc⟩ := hcut
        have hwc := hwc.symm
        subst hwc
        clear hce hB
        obtain ⟨pt, hpt⟩ : ∃ pt, pt = cond B (c.extract 1 (scan (nonB #[47, 63]) c 0)) ⟨#[]⟩ := ⟨_, rfl⟩
        obtain ⟨d, hd⟩ : ∃ d, d = cond B (c.extract (scan (nonB #[47, 63]) c 0) c.size) c := ⟨_, rfl⟩
        have HPT := Lib.hid hpt
        have HDD := Lib.hid hd
        have hptz : pt.size ≤ 8192 := by
          rw [hpt]
          cases B
          · show (0 : Nat) ≤ _; omega
          · show (c.extract 1 _).size ≤ _; simp; omega
        have hdz : d.size ≤ 8192 := by
          rw [hd]
          cases B
          · exact hcz
          · show (c.extract _ c.size).size ≤ _; simp; omega
        replace HA := Lib.hid (show A = .returned (plcV (pthO sc ho pt d)) from by
          rw [HA.out, HA3.out, HBB.out, hpt, hd]
          cases B <;> rfl)
        clear hpt hd HA3
        have hk5 := scan_le (nonB #[47, 63]) c 0 (Nat.zero_le _)
        have HU5 : Hid (∀ W, Calls Tryz.prog 24 #[.string c, .string ⟨#[47, 63]⟩] W fun e w' => e = .returned (.int .i64 (scan (nonB #[47, 63]) c 0 : Nat)) ∧ W = w') := Lib.hid (fun W => upto_any c ⟨#[47, 63]⟩ W (by omega) (by decide))
        have HK5 := Lib.hid (show B = true → 1 ≤ scan (nonB #[47, 63]) c 0 from fun h => by
          have hb2 := HBB.out
          rw [h] at hb2
          have hl := atB_in hb2
          have hb3 : c[0] = 58 := by rw [atB_at hl] at hb2; simpa using hb2
          rw [← scan_step hl (by rw [hb3]; kernel_rfl)]
          exact scan_ge _ _ _)
        generalize scan (nonB #[47, 63]) c 0 = k5 at *
        clear HBB
        go_upto_if 78 with fail
        go_cut [0, 5, 7] from 78 to 86 (fun s0 _ s7 wx => s0 = .string d ∧ s7 = .string pt ∧ Pu w g (urA sc ho 0 ⟨#[]⟩ ⟨#[]⟩) wx)
        case first =>
          cases B
          · clear HK5
            go_wp2
            go_meet
            exact ⟨by rw [HDD.out]; rfl, by rw [HPT.out]; rfl, HP.out⟩
          · have g1 : (1 : Int) ≤ (k5 : Int) := by have := HK5.out rfl; omega
            have g2 : (k5 : Int) ≤ (c.size : Int) := by omega
            have g3 : 1 ≤ k5 := HK5.out rfl
            clear HK5
            go_wp2_with (go_at_call 24; (with_reducible refine (HU5.out _).mono ?_); rintro x w2 ⟨rfl, rfl⟩)
            go_quiet (fail)
            go_wp2
            go_meet
            exact ⟨by rw [HDD.out]; rfl, by rw [HPT.out]; rfl, HP.out.drewN _⟩
        case rest =>
          obtain ⟨rfl, rfl, hwc⟩ := hcut
          replace HP := Lib.hid hwc
          clear hwc HK5 HU5 hk5 HPT HDD hcz
          generalize hwn : wc = W5 at *
          have HU6 : Hid (∀ W, Calls Tryz.prog 24 #[.string d, .string ⟨#[63]⟩] W fun e w' => e = .returned (.int .i64 (scan (nonB #[63]) d 0 : Nat)) ∧ W = w') := Lib.hid (fun W => upto_any d ⟨#[63]⟩ W (by omega) (by decide))
          have hk6 := scan_le (nonB #[63]) d 0 (Nat.zero_le _)
          have HA4 := Lib.hid (show pthO sc ho pt d = if goodU ⟨sc, ho, 0, if scan (nonB #[63]) d 0 = 0 then ⟨#[47]⟩ else dotS (pqS (d.extract 0 (scan (nonB #[63]) d 0))), pqS (d.extract (scan (nonB #[63]) d 0) d.size)⟩ = false then .error 2 else prtO pt ⟨sc, ho, 0, if scan (nonB #[63]) d 0 = 0 then ⟨#[47]⟩ else dotS (pqS (d.extract 0 (scan (nonB #[63]) d 0))), pqS (d.extract (scan (nonB #[63]) d 0) d.size)⟩ from by unfold pthO; rfl)
          generalize scan (nonB #[63]) d 0 = k6 at *
          have gk6 : (k6 : Int) ≤ (d.size : Int) := by omega
          obtain ⟨v1, hv1⟩ : ∃ v1, d.extract 0 k6 = v1 := ⟨_, rfl⟩
          obtain ⟨v2, hv2⟩ : ∃ v2, d.extract k6 d.size = v2 := ⟨_, rfl⟩
          rw [hv1, hv2] at HA4
          have hv1z : v1.size ≤ 8192 := by rw [← hv1]; simp; omega
          have hv2z : v2.size ≤ 8192 := by rw [← hv2]; simp; omega
          have HQ1 := Lib.hid (fun W => rquote_any v1 W (by omega))
          have HQ2 := Lib.hid (fun W => rquote_any v2 W (by omega))
          have hq1z := pqS_size v1
          have hq2z := pqS_size v2
          have hdz1 := dotS_size (pqS v1)
          have HDO := Lib.hid (fun W => rdots_any (pqS v1) W (by omega))
          generalize pqS v1 = q1 at *
          generalize dotS q1 = pa at *
          generalize pqS v2 = qu at *
          obtain ⟨e0, e1, e2, e3, e4⟩ := url_keep HP.out.u
          obtain ⟨f0, f1, f2, f3, f4⟩ := url_thaw HP.out.u
          go_wp2_with (go_at_call 24; (with_reducible refine (HU6.out _).mono ?_); rintro x w2 ⟨rfl, rfl⟩)
          go_region_held2 (fun w' => w'.cell? ⟨g, 0, none⟩ = some (.string sc))
            (first | exact HP.out.u.cell 0 | exact HP.out.u.drew.cell 0 | exact (HP.out.u.set_ 3 (.string pa)).cell 0 | exact ((HP.out.u.set_ 3 (.string pa)).set_ 4 (.string qu)).cell 0 | go_keep)
            (first
              | (go_at_call 28; first | (with_reducible refine (HQ1.out _).mono ?_) | (with_reducible refine (HQ2.out _).mono ?_)
                 rintro x w3 ⟨rfl, b9⟩
                 have HP := Lib.hid (show Pu w g _ w3 from by first | exact HP.out.next b9 | exact HP.out.drew.next b9)
                 clear b9
                 obtain ⟨e0, e1, e2, e3, e4⟩ := url_keep HP.out.u
                 obtain ⟨f0, f1, f2, f3, f4⟩ := url_thaw HP.out.u)
              | (go_at_call 27; (with_reducible refine (HDO.out _).mono ?_)
                 rintro x w4 ⟨rfl, b9⟩
                 have HP := Lib.hid (show Pu w g _ w4 from by first | exact HP.out.next b9 | exact HP.out.drew.next b9)
                 clear b9
                 obtain ⟨e0, e1, e2, e3, e4⟩ := url_keep HP.out.u
                 obtain ⟨f0, f1, f2, f3, f4⟩ := url_thaw HP.out.u))
          obtain ⟨W6, hW6⟩ : ∃ W6, W6 = ((w3.setCell ⟨g, 3, none⟩ (.string pa)).setCell ⟨g, 4, none⟩ (.string qu)) := ⟨_, rfl⟩
          rw [← hW6]
          replace HP := Lib.hid (show Pu w g (urA sc ho 0 pa qu) W6 from by rw [hW6]; exact (HP.out.put 3 _).put 4 _)
          clear hW6 e0 e1 e2 e3 e4 f0 f1 f2 f3 f4 HQ1 HQ2 HDO hv1 hv2 HU6 gk6 hk6
          obtain ⟨pp, hpp⟩ : ∃ pp, (if k6 = 0 then (⟨#[47]⟩ : ByteArray) else pa) = pp := ⟨_, rfl⟩
          rw [hpp] at HA4
          have HPP := Lib.hid hpp
          have hppz : pp.size ≤ 1048576 := by
            rw [← hpp]
            split
            · show (1 : Nat) ≤ _; omega
            · omega
          clear hpp
          go_upto_if 101 with fail
          go_cut [101] from 101 to 102 (fun _ wx => Pu w g (urA sc ho 0 pp qu) wx)
          case first =>
            by_cases hk0 : k6 = 0
            · have HE := Lib.hid (show (⟨#[47]⟩ : ByteArray) = pp from by have := HPP.out; rwa [if_pos hk0] at this)
              subst hk0
              obtain ⟨e0, e1, e2, e3, e4⟩ := url_keep HP.out.u
              obtain ⟨f0, f1, f2, f3, f4⟩ := url_thaw HP.out.u
              go_wp2
              go_meet
              exact by rw [← HE.out]; exact HP.out.put 3 _
            · have HE := Lib.hid (show pa = pp from by have := HPP.out; rwa [if_neg hk0] at this)
              have gk0 : ((k6 : Int) == 0) = false := by rw [beq_eq_false_iff_ne]; omega
              go_wp2
              go_meet
              exact by rw [← HE.out]; exact HP.out
          case rest =>
            replace HP := Lib.hid hcut
            clear hcut HPP
            generalize hwn2 : wc = W7 at *
            replace HA := Lib.hid (HA.out.trans (congrArg (fun z => Ending.returned (plcV z)) HA4.out))
            clear HA4
            have HGD := Lib.hid (fun W => rgood26_any sc ho 0 pp qu W (by omega) hppz (by omega))
            have HPO := prtO_ways pt ⟨sc, ho, 0, pp, qu⟩
            cases hg : goodU ⟨sc, ho, 0, pp, qu⟩
            · rw [hg] at HGD
              replace HA := Lib.hid (show A = .returned (plcV (.error 2)) from by rw [HA.out, hg]; rfl)
              clear HPO
              obtain ⟨e0, e1, e2, e3, e4⟩ := url_keep HP.out.u
              go_wp2_with fail
              refine (HGD.out _).mono ?_
              rintro x w5 ⟨rfl, b9⟩
              replace HP := Lib.hid (HP.out.next b9)
              clear b9 e0 e1 e2 e3 e4
              obtain ⟨c0, c1, c2, c3, c4⟩ := url_keep HP.out.z.r
              obtain ⟨z0, z1, z2, z3, z4⟩ := url_thaw HP.out.z.r
              obtain ⟨d0, d1, d2, d3, d4⟩ := url_keep HP.out.z.n
              have j := url_keep (put5_blk HP.out.z.r ⟨#[]⟩ ⟨#[]⟩ 0 ⟨#[]⟩ ⟨#[]⟩)
              unfold put5 at j
              obtain ⟨j0, j1, j2, j3, j4⟩ := j
              go_wp2
              exact bodyPost_ret (v := .tuple #[plV zerU, .int .i64 2]) (by simp [results, Tryz.results8, go_sem, j0, j1, j2, j3, j4]) rfl ⟨by rw [HA.out]; rfl, put5_below HP.out.z.b (Nat.le_refl _) _ _ _ _ _⟩
            rw [hg] at HGD
            replace HA := Lib.hid (show A = .returned (plcV (prtO pt ⟨sc, ho, 0, pp, qu⟩)) from by rw [HA.out, hg]; rfl)
            clear hg
            rw [HPO] at HA
            clear HPO
            have HPS := Lib.hid (fun W => refParse_any pt W (by omega))
            have HPS2 : Hid (∀ W, Calls Tryz.prog 29 #[.string pt] W fun e w' => e = .returned (.tuple #[.int .i64 (parN pt), .int .i64 (parE pt)]) ∧ W = w') := HPS
            have HOW := Lib.hid (fun W => rOwn_any sc W)
            clear HPS
            generalize parN pt = m at *
            generalize parE pt = k at *
            generalize ownP sc = q at *
            obtain ⟨e0, e1, e2, e3, e4⟩ := url_keep HP.out.u
            go_wp2_with fail
            refine (HGD.out _).mono ?_
            rintro x w5 ⟨rfl, b9⟩
            replace HP := Lib.hid (HP.out.next b9)
            clear b9 e0 e1 e2 e3 e4 HGD
            have hgf := HP.out.far
            obtain ⟨e0, e1, e2, e3, e4⟩ := url_keep HP.out.u
            obtain ⟨f0, f1, f2, f3, f4⟩ := url_thaw HP.out.u
            obtain ⟨c0, c1, c2, c3, c4⟩ := url_keep HP.out.z.r
            obtain ⟨z0, z1, z2, z3, z4⟩ := url_thaw HP.out.z.r
            obtain ⟨d0, d1, d2, d3, d4⟩ := url_keep HP.out.z.n
            have j := url_keep (put5_blk HP.out.z.r ⟨#[]⟩ ⟨#[]⟩ 0 ⟨#[]⟩ ⟨#[]⟩)
            unfold put5 at j
            obtain ⟨j0, j1, j2, j3, j4⟩ := j
            cases h0 : pt.toList == []
            rotate_left
            · rw [h0] at HA
              clear j0 j1 j2 j3 j4
              have j := url_keep (put5_blk HP.out.z.r sc ho 0 pp qu)
              unfold put5 at j
              obtain ⟨j0, j1, j2, j3, j4⟩ := j
              go_wp2_with (first
                | (go_at_call 29; (with_reducible refine (HPS2.out _).mono ?_); rintro x w6 ⟨rfl, rfl⟩)
                | (go_at_call 30; (with_reducible refine (HOW.out _).mono ?_); rintro x w6 ⟨rfl, rfl⟩))
              exact bodyPost_ret (v := .tuple #[urV sc ho 0 pp qu, .int .i64 0]) (by simp [results, Tryz.results8, go_sem, j0, j1, j2, j3, j4]) rfl ⟨by rw [HA.out]; rfl, put5_below HP.out.z.b (Nat.le_refl _) _ _ _ _ _⟩
            rw [h0] at HA
            cases h1 : k != 0
            rotate_left
            · rw [h1] at HA
              go_wp2_with (go_at_call 29; (with_reducible refine (HPS2.out _).mono ?_); rintro x w6 ⟨rfl, rfl⟩)
              exact bodyPost_ret (v := .tuple #[plV zerU, .int .i64 k]) (by simp [results, Tryz.results8, go_sem, j0, j1, j2, j3, j4]) rfl ⟨by rw [HA.out]; rfl, put5_below HP.out.z.b (Nat.le_refl _) _ _ _ _ _⟩
            rw [h1] at HA
            cases h2 : m == 0
            rotate_left
            · rw [h2] at HA
              go_wp2_with (go_at_call 29; (with_reducible refine (HPS2.out _).mono ?_); rintro x w6 ⟨rfl, rfl⟩)
              exact bodyPost_ret (v := .tuple #[plV zerU, .int .i64 9]) (by simp [results, Tryz.results8, go_sem, j0, j1, j2, j3, j4]) rfl ⟨by rw [HA.out]; rfl, put5_below HP.out.z.b (Nat.le_refl _) _ _ _ _ _⟩
            rw [h2] at HA
            cases h3 : decide (65535 < m)
            rotate_left
            · rw [h3] at HA
              go_wp2_with (go_at_call 29; (with_reducible refine (HPS2.out _).mono ?_); rintro x w6 ⟨rfl, rfl⟩)
              exact bodyPost_ret (v := .tuple #[plV zerU, .int .i64 9]) (by simp [results, Tryz.results8, go_sem, j0, j1, j2, j3, j4]) rfl ⟨by rw [HA.out]; rfl, put5_below HP.out.z.b (Nat.le_refl _) _ _ _ _ _⟩
            rw [h3] at HA
            cases h4 : m == q
            · rw [h4] at HA
              have h5 : (m != q) = true := by rw [bne, h4]; rfl
              clear j0 j1 j2 j3 j4 c0 c1 c2 c3 c4 z0 z1 z2 z3 z4 d0 d1 d2 d3 d4
              obtain ⟨W8, hW8⟩ : ∃ W8, W8 = w5.setCell ⟨g, 2, none⟩ (.int .i64 m) := ⟨_, rfl⟩
              have HP8 := Lib.hid (show Pu w g (urA sc ho m pp qu) W8 from by rw [hW8]; exact HP.out.put 2 _)
              go_upto_region 35 with (first
                | (go_at_call 29; (with_reducible refine (HPS2.out _).mono ?_); rintro x w6 ⟨rfl, rfl⟩)
                | (go_at_call 30; (with_reducible refine (HOW.out _).mono ?_); rintro x w6 ⟨rfl, rfl⟩))
              rw [← hW8]
              clear hW8 e0 e1 e2 e3 e4 f0 f1 f2 f3 f4 HP
              obtain ⟨e0, e1, e2, e3, e4⟩ := url_keep HP8.out.u
              obtain ⟨c0, c1, c2, c3, c4⟩ := url_keep HP8.out.z.r
              obtain ⟨z0, z1, z2, z3, z4⟩ := url_thaw HP8.out.z.r
              have j := url_keep (put5_blk HP8.out.z.r sc ho m pp qu)
              unfold put5 at j
              obtain ⟨j0, j1, j2, j3, j4⟩ := j
              go_wp2
              exact bodyPost_ret (v := .tuple #[urV sc ho m pp qu, .int .i64 0]) (by simp [results, Tryz.results8, go_sem, j0, j1, j2, j3, j4]) rfl ⟨by rw [HA.out]; rfl, put5_below HP8.out.z.b (Nat.le_refl _) _ _ _ _ _⟩
            · rw [h4] at HA
              have h5 : (m != q) = false := by rw [bne, h4]; rfl
              clear j0 j1 j2 j3 j4
              have j := url_keep (put5_blk HP.out.z.r sc ho 0 pp qu)
              unfold put5 at j
              obtain ⟨j0, j1, j2, j3, j4⟩ := j
              go_wp2_with (first
                | (go_at_call 29; (with_reducible refine (HPS2.out _).mono ?_); rintro x w6 ⟨rfl, rfl⟩)
                | (go_at_call 30; (with_reducible refine (HOW.out _).mono ?_); rintro x w6 ⟨rfl, rfl⟩))
              exact bodyPost_ret (v := .tuple #[urV sc ho 0 pp qu, .int .i64 0]) (by simp [results, Tryz.results8, go_sem, j0, j1, j2, j3, j4]) rfl ⟨by rw [HA.out]; rfl, put5_below HP.out.z.b (Nat.le_refl _) _ _ _ _ _⟩

end Go.Proofs.YtagbndkfbnlpoaaGreatDoor
namespace Go.Proofs.YtagbndkfbnlpoaaGreatDoor
open Go.RowKit

def itoaRen : Go.Shelf.Ren := ⟨fun | 171 => 61 | 243 => 82 | 246 => 99 | 283 => 112 | 284 => 113 | 285 => 114 | 286 => 115 | 129 => 123 | 317 => 122 | 318 => 124 | 319 => 125 | 320 => 126 | 337 => 127 | 338 => 128 | n => n, fun | 3 => 3 | 9 => 9 | 2 => 2 | 4 => 4 | 171 => 112 | 0 => 0 | 53 => 65 | 37 => 38 | 5 => 5 | 173 => 115 | 212 => 126 | 51 => 121 | 20 => 20 | 213 => 127 | 46 => 106 | 232 => 130 | 233 => 131 | n => n, fun | 17 => 3 | 18 => 4 | 19 => 5 | n => n⟩
theorem itoaLays : Go.Proofs.LaysM.n171 Tryz.prog itoaRen := {
  mixed := by kernel_rfl
  f129 := Tryz.func123.trans (congrArg some (by kernel_rfl))
  f171 := Tryz.func61.trans (congrArg some (by kernel_rfl))
  f243 := Tryz.func82.trans (congrArg some (by kernel_rfl))
  f246 := Tryz.func99.trans (congrArg some (by kernel_rfl))
  f283 := Tryz.func112.trans (congrArg some (by kernel_rfl))
  f284 := Tryz.func113.trans (congrArg some (by kernel_rfl))
  f285 := Tryz.func114.trans (congrArg some (by kernel_rfl))
  f286 := Tryz.func115.trans (congrArg some (by kernel_rfl))
  f317 := Tryz.func122.trans (congrArg some (by kernel_rfl))
  f318 := Tryz.func124.trans (congrArg some (by kernel_rfl))
  f319 := Tryz.func125.trans (congrArg some (by kernel_rfl))
  f320 := Tryz.func126.trans (congrArg some (by kernel_rfl))
  f337 := Tryz.func127.trans (congrArg some (by kernel_rfl))
  f338 := Tryz.func128.trans (congrArg some (by kernel_rfl))
  t0 := Tryz.underlying0
  a0 := Tryz.isAgg0
  z0 := Tryz.sizeOf0
  v0 := Tryz.zeroValue0
  t2 := Tryz.underlying2
  a2 := Tryz.isAgg2
  z2 := Tryz.sizeOf2
  v2 := Tryz.zeroValue2
  t3 := Tryz.underlying3
  a3 := Tryz.isAgg3
  z3 := Tryz.sizeOf3
  v3 := Tryz.zeroValue3
  t4 := Tryz.underlying4
  a4 := Tryz.isAgg4
  z4 := Tryz.sizeOf4
  v4 := Tryz.zeroValue4
  t5 := Tryz.underlying5
  a5 := Tryz.isAgg5
  z5 := Tryz.sizeOf5
  v5 := Tryz.zeroValue5
  t9 := Tryz.underlying9
  a9 := Tryz.isAgg9
  z9 := Tryz.sizeOf9
  v9 := Tryz.zeroValue9
  t20 := Tryz.underlying20
  a20 := Tryz.isAgg20
  z20 := Tryz.sizeOf20
  v20 := Tryz.zeroValue20
  t37 := Tryz.underlying38
  a37 := Tryz.isAgg38
  z37 := Tryz.sizeOf38
  v37 := Tryz.zeroValue38
  t46 := Tryz.underlying106
  a46 := Tryz.isAgg106
  z46 := Tryz.sizeOf106
  v46 := Tryz.zeroValue106
  t51 := Tryz.underlying121
  a51 := Tryz.isAgg121
  z51 := Tryz.sizeOf121
  v51 := Tryz.zeroValue121
  t53 := Tryz.underlying65
  a53 := Tryz.isAgg65
  z53 := Tryz.sizeOf65
  v53 := Tryz.zeroValue65
  t171 := Tryz.underlying112
  a171 := Tryz.isAgg112
  z171 := Tryz.sizeOf112
  v171 := Tryz.zeroValue112
  t173 := Tryz.underlying115
  a173 := Tryz.isAgg115
  z173 := Tryz.sizeOf115
  v173 := Tryz.zeroValue115
  t212 := Tryz.underlying126
  a212 := Tryz.isAgg126
  z212 := Tryz.sizeOf126
  v212 := Tryz.zeroValue126
  t213 := Tryz.underlying127
  a213 := Tryz.isAgg127
  z213 := Tryz.sizeOf127
  t232 := Tryz.underlying130
  a232 := Tryz.isAgg130
  z232 := Tryz.sizeOf130
  v232 := Tryz.zeroValue130
  t233 := Tryz.underlying131
  a233 := Tryz.isAgg131
  z233 := Tryz.sizeOf131
  v233 := Tryz.zeroValue131
  g17 := by kernel_rfl
  g18 := by kernel_rfl
  g19 := by kernel_rfl
  i0 := by kernel_rfl
  i2 := by kernel_rfl
  i3 := by kernel_rfl
  i4 := by kernel_rfl
  i5 := by kernel_rfl
  i9 := by kernel_rfl
  i20 := by kernel_rfl
  i37 := by kernel_rfl
  i46 := by kernel_rfl
  i51 := by kernel_rfl
  i53 := by kernel_rfl
  i171 := by kernel_rfl
  i173 := by kernel_rfl
  i212 := by kernel_rfl
  i232 := by kernel_rfl
  i233 := by kernel_rfl
  m17 := by kernel_rfl
  m18 := by kernel_rfl
  m19 := by kernel_rfl }

/-- The library's table of powers of ten lies as its initialiser lays it. -/
def PowTab (w : World) : Prop := ∀ nm, Tryz.prog.globalNamed nm = some 3 → Lib.TabIs Tryz.prog w nm .u64 Lib.pow10Tab

theorem itoa_any (n : Int) (w : World) (h0 : -9223372036854775808 ≤ n) (h1 : n ≤ 9223372036854775807) (ht : PowTab w) :
    Calls Tryz.prog 61 #[.int .i64 n] w fun e w' => e = .returned (.string ⟨(Lib.itoa n).toArray⟩) ∧ Below w.heap.size w w' := by
  refine Calls.mono (Any.strconv_Itoa itoaLays n h0 h1 w (ht _ itoaLays.m17)) ?_
  rintro e w' ⟨rfl, k, os, rfl⟩
  exact ⟨rfl, Lib.below_grow _ _ (Nat.le_refl _) k os⟩

end Go.Proofs.YtagbndkfbnlpoaaGreatDoor
namespace Go.Proofs.YtagbndkfbnlpoaaGreatDoor
open Go.RowKit

set_option maxHeartbeats 400000 in
theorem text_any (n : Int) (w : World) (h0 : -9223372036854775808 ≤ n) (h1 : n ≤ 9223372036854775807) (ht : PowTab w) :
    Calls Tryz.prog 39 #[.int .i64 n] w fun e w' => e = .returned (.string ⟨(Lib.itoa n).toArray⟩) ∧ Below w.heap.size w w' := by
  have HI := Lib.hid (itoa_any n w h0 h1 ht)
  go_enter Tryz.func39, Tryz.ntmps39
  go_wp2_with (go_at_call 61; refine HI.out.mono ?_; rintro e w1 ⟨rfl, hb⟩)
  go_ret
  exact ⟨rfl, hb⟩

def tenS : ByteArray := ⟨#[48, 49, 50, 51, 52, 53, 54, 55, 56, 57]⟩
theorem tenS_piece {u : Nat} (h : u < 10) : tenS.extract u (u + 1) = digS u := by
  have key : (List.range 10).all (fun u => decide (tenS.extract u (u + 1) = (⟨#[UInt8.ofNat (48 + u)]⟩ : ByteArray))) = true := by kernel_rfl
  rw [List.all_eq_true] at key
  have := key u (List.mem_range.2 h)
  rw [decide_eq_true_eq] at this
  rw [this]
  unfold digS
  rw [Lib.decDigits, dif_pos h]

theorem digS_join {u : Nat} (h : ¬ u < 10) : digS (u / 10) ++ digS (u % 10) = digS u := by
  have e : Lib.decDigits u = Lib.decDigits (u / 10) ++ Lib.decDigits (u % 10) := by
    rw [Lib.decDigits, dif_neg h]
    congr 1
    rw [Lib.decDigits, dif_pos (by omega)]
  unfold digS
  rw [e]
  apply ByteArray.ext
  rw [ByteArray.data_append]
  simp

set_option maxHeartbeats 1000000 in
theorem num_nat (k : Nat) : ∀ (u : Nat) (w : World), u ≤ k → u < 18446744073709551616 →
    Calls Tryz.prog 54 #[.int .u64 (u : Int)] w fun e w' => e = .returned (.string (digS u)) ∧ w = w' := by
  induction k with
  | zero =>
    intro u w hk _
    obtain rfl : u = 0 := by omega
    have HV := Lib.hid (tenS_piece (u := 0) (by omega))
    go_enter Tryz.func54, Tryz.ntmps54
    go_wp2_with fail
    go_ret
    exact ⟨by rw [← HV.out]; rfl, rfl⟩
  | succ k ih =>
    intro u w hk hu
    by_cases h : u < 10
    · have HV := Lib.hid (tenS_piece h)
      have g1 : (u : Int) < 10 := by omega
      go_enter Tryz.func54, Tryz.ntmps54
      go_wp2_with fail
      go_ret
      exact ⟨by rw [← HV.out]; rfl, rfl⟩
    · have HV := Lib.hid (digS_join h)
      have l1 := digS_le (u := u / 10) (by omega)
      have l2 := digS_le (u := u % 10) (by omega)
      have HQ : Hid (∀ W, Calls Tryz.prog 54 #[.int .u64 ((u : Int) / 10)] W fun e w' => e = .returned (.string (digS (u / 10))) ∧ W = w') := fun W => ih (u / 10) W (by omega) (by omega)
      have HR : Hid (∀ W, Calls Tryz.prog 54 #[.int .u64 ((u : Int) % 10)] W fun e w' => e = .returned (.string (digS (u % 10))) ∧ W = w') := fun W => ih (u % 10) W (by omega) (by omega)
      have g1 : ¬ (u : Int) < 10 := by omega
      clear ih
      generalize digS (u / 10) = x at *
      generalize digS (u % 10) = y at *
      go_enter Tryz.func54, Tryz.ntmps54
      go_wp2_with (first
        | (go_at_call 54; with_reducible refine (HQ.out _).mono ?_; rintro e w' ⟨rfl, rfl⟩)
        | (go_at_call 54; with_reducible refine (HR.out _).mono ?_; rintro e w' ⟨rfl, rfl⟩))
      go_ret
      exact ⟨by rw [← HV.out]; rfl, rfl⟩

set_option maxHeartbeats 400000 in
theorem refText_pos (u : Nat) (w : World) (h1 : u ≤ 9223372036854775807) :
    Calls Tryz.prog 31 #[.int .i64 (u : Int)] w fun e w' => e = .returned (.string (digS u)) ∧ w = w' := by
  have HN : Hid (∀ W, Calls Tryz.prog 54 #[.int .u64 (u : Int)] W fun e w' => e = .returned (.string (digS u)) ∧ W = w') := fun W => num_nat u u W (Nat.le_refl _) (by omega)
  have g1 : ¬ (u : Int) < 0 := by omega
  generalize digS u = y at *
  go_enter Tryz.func31, Tryz.ntmps31
  go_wp2_with (go_at_call 54; refine (HN.out _).mono ?_; rintro e w' ⟨rfl, rfl⟩)
  go_ret
  exact ⟨rfl, rfl⟩

end Go.Proofs.YtagbndkfbnlpoaaGreatDoor
