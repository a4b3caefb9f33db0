/-
  What Same and Serial of package mime answer of types. Condition: texts are as long as a mebibyte, and parameters as many.
-/
import Derived.Test.YtancilcfbhfopaaMg
import Derived.StillTailTactics
import Derived.Deep.RegionWith
namespace Go.Proofs.Ytancilcfbhfopaa
open Go.RowKit Go.Maps

theorem below_on {a w w' : World} (h : Below a.heap.size a w) (hb : Below w.heap.size w w') : Below a.heap.size a w' := h.trans (hb.mono h.size)

set_option maxHeartbeats 1000000 in
theorem msame_any (t u t' u' : ByteArray) (A B : Option Addr) (ps qs : List Prm) (c d : Nat) (w : World) (h : PsIn w A ps) (h' : PsIn w B qs) (hn : ps.length ≤ 1048576) (hm : qs.length ≤ 1048576) :
    Calls Try.prog 17 #[mimV t u A ps.length c, mimV t' u' B qs.length d] w fun e w' => e = .returned (.bool (sameM t u ps t' u' qs)) ∧ Below w.heap.size w w' := by
  obtain ⟨w0, hw0⟩ : ∃ w0, w0 = (w.alloc (.cells #[.string t, .string u, .slice A ps.length c] 25)).alloc (.cells #[.string t', .string u', .slice B qs.length d] 25) := ⟨_, rfl⟩
  have HB0 := Lib.hid (show Below w.heap.size w w0 from by rw [hw0]; exact ((Below.refl w.heap.size w).alloc (Nat.le_refl _) _).alloc (by simp) _)
  have HP0 := Lib.hid (show Blk w0 w.heap.size 25 #[.string t, .string u, .slice A ps.length c] from by rw [hw0]; exact (Blk.new _ _ _).alloc _)
  have HQ0 := Lib.hid (show Blk w0 (w.heap.size + 1) 25 #[.string t', .string u', .slice B qs.length d] from by
    have := Blk.new (w.alloc (.cells #[.string t, .string u, .slice A ps.length c] 25)) 25 #[.string t', .string u', .slice B qs.length d]
    rw [hw0]
    simpa using this)
  have c0 := HP0.out.cell 0
  have c1 := HP0.out.cell 1
  have c2 := HP0.out.cell 2
  have d0 := HQ0.out.cell 0
  have d1 := HQ0.out.cell 1
  have d2 := HQ0.out.cell 2
  have HE := Lib.hid (equal_any A B ps qs c d w0 (h.below HB0.out) (h'.below HB0.out) hn hm)
  show Calls Try.prog 17 #[mimV t u A ps.length c, mimV t' u' B qs.length d] w fun e w' => e = .returned (.bool (eqS t t' && eqS u u' && sameL ps qs)) ∧ Below w.heap.size w w'
  generalize sameL ps qs = G at *
  cases h1 : eqS t t'
  · have h1' : (t.toList == t'.toList) = false := h1
    simp only [Bool.false_and]
    go_enter Try.func17, Try.ntmps17
    go_wp2_with fail
    rw [← hw0]
    clear hw0
    go_wp2
    go_ret
    exact ⟨rfl, HB0.out⟩
  · have h1' : (t.toList == t'.toList) = true := h1
    cases h2 : eqS u u'
    · have h2' : (u.toList == u'.toList) = false := h2
      simp only [Bool.and_false, Bool.false_and]
      go_enter Try.func17, Try.ntmps17
      go_wp2_with fail
      rw [← hw0]
      clear hw0
      go_wp2
      go_ret
      exact ⟨rfl, HB0.out⟩
    · have h2' : (u.toList == u'.toList) = true := h2
      simp only [Bool.true_and]
      go_enter Try.func17, Try.ntmps17
      go_wp2_with fail
      rw [← hw0]
      clear hw0
      go_wp2_with fail
      refine HE.out.mono ?_
      rintro e w1 ⟨rfl, b1⟩
      go_wp2
      go_ret
      exact ⟨rfl, below_on HB0.out b1⟩

theorem serPs_len {ps : List Prm} (h : AllIn 1048576 ps) (k : Nat) : (serPs (ps.take k)).length ≤ k * 3145732 := by
  induction k with
  | zero => rw [List.take_zero]; exact Nat.zero_le _
  | succ k ih =>
    by_cases hk : k < ps.length
    · rw [serPs_step hk, List.length_append, serP_len]
      have h1 := h.at_ hk
      have h2 := wrS_size ps[k].v
      omega
    · rw [List.take_of_length_le (by omega)] at ih ⊢
      exact Nat.le_trans ih (Nat.mul_le_mul_right _ (Nat.le_succ k))
theorem arr_size (l : List UInt8) : (⟨l.toArray⟩ : ByteArray).size = l.length := by
  show l.toArray.size = _
  simp
theorem serP_eq (qn wv : ByteArray) : (((⟨#[59]⟩ : ByteArray) ++ qn) ++ ⟨#[61]⟩) ++ wv = ⟨(59 :: qn.data.toList ++ 61 :: wv.data.toList).toArray⟩ := by
  apply ByteArray.ext
  rw [ByteArray.data_append, ByteArray.data_append, ByteArray.data_append]
  simp

set_option maxHeartbeats 2000000 in
set_option maxRecDepth 100000 in
theorem mserial_any (t u : ByteArray) (A : Option Addr) (ps : List Prm) (c : Nat) (w : World) (h : MimIn w t u A ps) :
    Calls Try.prog 11 #[mimV t u A ps.length c] w fun e w' => e = .returned (.string (serM t u ps)) ∧ Below w.heap.size w w' := by
  obtain ⟨w0, hw0⟩ : ∃ w0, w0 = w.alloc (.cells #[.string t, .string u, .slice A ps.length c] 25) := ⟨_, rfl⟩
  have HB0 := Lib.hid (show Below w.heap.size w w0 from by rw [hw0]; exact (Below.refl w.heap.size w).alloc (Nat.le_refl _) _)
  have HP0 := Lib.hid (show Blk w0 w.heap.size 25 #[.string t, .string u, .slice A ps.length c] from by rw [hw0]; exact Blk.new _ _ _)
  have c0 := HP0.out.cell 0
  have c1 := HP0.out.cell 1
  have c2 := HP0.out.cell 2
  have HG := Lib.hid (mgood_any t u A ps c w0 (h.below HB0.out))
  have HS := Lib.hid h
  cases hg : goodM t u ps
  · rw [hg] at HG
    have e1 : serM t u ps = ⟨#[]⟩ := by unfold serM; rw [hg]; rfl
    rw [e1]
    go_enter Try.func11, Try.ntmps11
    go_wp2_with fail
    rw [← hw0]
    clear hw0
    go_wp2_with fail
    refine HG.out.mono ?_
    rintro e w1 ⟨rfl, b1⟩
    go_wp2
    go_ret
    exact ⟨rfl, below_on HB0.out b1⟩
  · rw [hg] at HG
    obtain ⟨R, hR⟩ : ∃ R, R = serM t u ps := ⟨_, rfl⟩
    have HR := Lib.hid (show R = ⟨(essL t u ++ serPs (ps.take ps.length)).toArray⟩ from by rw [hR, List.take_length]; unfold serM; rw [hg]; rfl)
    rw [← hR]
    have HES := Lib.hid (fun W => essence_any t u A ps.length c W h.t h.u)
    have hess : (essL t u).length ≤ 2097153 := by
      have h1 := h.t
      have h2 := h.u
      have e : (essL t u).length = t.size + (u.size + 1) := by simp [essL]
      omega
    have hln := serPs_len h.all
    have hn := h.n
    clear hR hg
    go_enter Try.func11, Try.ntmps11
    go_wp2_with fail
    rw [← hw0]
    clear hw0
    go_wp2_with fail
    refine HG.out.mono ?_
    rintro e w1 ⟨rfl, b1⟩
    have HB1 := Lib.hid (below_on HB0.out b1)
    have HP1 := Lib.hid (HP0.out.below b1 HP0.out.lt)
    have hwl := HP1.out.lt
    clear b1 HB0 HP0 c0 c1 c2
    obtain ⟨w2, hw2⟩ : ∃ w2, w2 = w1.alloc (.cells #[.pointer none, .slice none 0 0] 53) := ⟨_, rfl⟩
    have HN2 := Lib.hid (show Bld w1.heap.size w1.heap.size [] w2 from by rw [hw2]; exact Bld.new w1)
    have HB2 := Lib.hid (show Below w.heap.size w w2 from by rw [hw2]; exact HB1.out.alloc HB1.out.size _)
    have HP2 := Lib.hid (show Blk w2 w.heap.size 25 _ from by rw [hw2]; exact HP1.out.alloc _)
    have hs2 : w1.heap.size < w2.heap.size := by rw [hw2]; simp
    have c0 := HP1.out.cell 0
    have c1 := HP1.out.cell 1
    have c2 := HP1.out.cell 2
    have d0 := HP2.out.cell 0
    have d1 := HP2.out.cell 1
    have d2 := HP2.out.cell 2
    rw [hw2] at d0 d1 d2
    go_wp2_with fail
    rw [← hw2]
    clear hw2 d0 d1 d2 c0 c1 c2
    generalize hbb : w1.heap.size = bb at *
    refine (HES.out _).mono ?_
    rintro e w3 ⟨rfl, b3⟩
    have HN3 := Lib.hid (HN2.out.mv (Mv.of_below b3 []) (by simp))
    have HB3 := Lib.hid (below_on HB2.out b3)
    have HP3 := Lib.hid (HP2.out.below b3 HP2.out.lt)
    have hs3 : bb < w3.heap.size := Nat.lt_of_lt_of_le hs2 b3.size
    clear b3 HN2 HB2 HP2
    go_wp2_with fail
    refine (writeString_any bb bb [] _ w3 HN3.out ?_ (by omega)).mono ?_
    · rw [arr_size, List.length_nil]; omega
    rintro e w4 ⟨rfl, n4, b4⟩
    have HN4 := Lib.hid n4
    have HB4 := Lib.hid (HB3.out.trans (b4.mono (by omega)))
    have HP4 := Lib.hid (HP3.out.below b4 (by omega))
    have hs4 : bb < w4.heap.size := Nat.lt_of_lt_of_le hs3 b4.size
    clear n4 b4 HN3 HB3 HP3
    have c2 := HP4.out.cell 2
    go_wp2_with fail
    go_loopw [15] (fun i wr => ∃ k : Nat, k ≤ ps.length ∧ i = .int .i64 k ∧ Bld bb bb (essL t u ++ serPs (ps.take k)) wr ∧ Below w.heap.size w wr ∧ bb < wr.heap.size) (fun i _ => ps.length - (intOf i).toNat)
    case atStart => exact ⟨0, Nat.zero_le _, rfl, by simpa [serPs] using HN4.out, HB4.out, hs4⟩
    case round =>
      obtain ⟨k, hk, rfl, hb, hw, hsr⟩ := hrel
      have HW := Lib.hid hw
      have HN := Lib.hid hb
      have hlk := hln k
      clear hw hb c2 HN4 HB4 HP4 HP1 HB1
      by_cases hlt : k < ps.length
      · obtain ⟨g, rfl, hg1, hc0, hc1⟩ := HS.out.lie k hlt
        have c0 := (HW.out.cell (p := ⟨g, k * 2, none⟩) hg1).trans hc0
        have c1 := (HW.out.cell (p := ⟨g, k * 2 + 1, none⟩) hg1).trans hc1
        have hal := HS.out.all.at_ hlt
        have hwr := wrS_size ps[k].v
        have HWT := Lib.hid (fun W => written_any ps[k].v W (by omega))
        have HT := Lib.hid (serPs_step hlt)
        have HTE : Hid (serP ps[k] = 59 :: ps[k].n.data.toList ++ 61 :: (wrS ps[k].v).data.toList) := rfl
        rw [HTE.out] at HT
        clear hc0 hc1 HTE
        generalize ps[k] = q at *
        obtain ⟨qn, qv⟩ := q
        simp only at hwr hal HWT HT c0 c1
        generalize wrS qv = wv at *
        obtain ⟨w5, hw5⟩ : ∃ w5, w5 = wr.alloc (.cells #[.string qn, .string qv] 39) := ⟨_, rfl⟩
        have HB5 := Lib.hid (show Below w.heap.size w w5 from by rw [hw5]; exact HW.out.alloc HW.out.size _)
        have HN5 := Lib.hid (show Bld bb bb (essL t u ++ serPs (ps.take k)) w5 from HN.out.mv (r := []) (by rw [hw5]; exact (Mv.refl _ _ _).alloc (Nat.le_refl _) _) (by simp))
        have HQ5 := Lib.hid (show Blk w5 wr.heap.size 39 #[.string qn, .string qv] from by rw [hw5]; exact Blk.new _ _ _)
        have hs5 : bb < w5.heap.size := by rw [hw5]; simp; omega
        go_wp2_with fail
        rw [← hw5]
        clear hw5 c0 c1 HN HW
        have c0 := HQ5.out.cell 0
        have c1 := HQ5.out.cell 1
        have hqs : ((((⟨#[59]⟩ : ByteArray) ++ qn) ++ ⟨#[61]⟩) ++ wv).size ≤ 4194304 := by
          rw [serP_eq, arr_size]
          simp
          omega
        have HST := Lib.hid (fun W (hW : Bld bb bb (essL t u ++ serPs (ps.take k)) W) (h2 : bb ≤ W.heap.size) => writeString_any bb bb _ ((((⟨#[59]⟩ : ByteArray) ++ qn) ++ ⟨#[61]⟩) ++ wv) W hW (by rw [List.length_append]; omega) h2)
        have HE : Hid ((essL t u ++ serPs (ps.take k)) ++ ((((⟨#[59]⟩ : ByteArray) ++ qn) ++ ⟨#[61]⟩) ++ wv).data.toList = essL t u ++ serPs (ps.take (k + 1))) := by
          show _ = _
          rw [HT.out, serP_eq, List.append_assoc]
        obtain ⟨pb, hpb⟩ : ∃ pb, pb = wr.heap.size := ⟨_, rfl⟩
        go_region_with (first
          | (go_at_call 38; (with_reducible refine (HWT.out _).mono ?_); rintro e w6 ⟨rfl, b6⟩
             have HB6 := Lib.hid (below_on (w := _) (by first | exact HB5.out | exact HB5.out.drew | exact Below.drewN' HB5.out _) b6)
             have HN6 := Lib.hid (Bld.mv (W := _) (by exact HN5.out) (Mv.of_below b6 []) (by simp))
             have HQ6 := Lib.hid (Blk.below (w := _) (by exact HQ5.out) b6 (by exact HQ5.out.lt))
             have hs6 : bb < w6.heap.size := Nat.lt_of_lt_of_le hs5 b6.size
             have c0 := HQ6.out.cell 0
             have c1 := HQ6.out.cell 1
             clear b6)
          | (go_at_call 37; (with_reducible refine (HST.out _ (by exact HN6.out) (by exact Nat.le_of_lt hs6)).mono ?_); rintro e w7 ⟨rfl, n7, b7⟩))
        all_goals
          have HB7 := Lib.hid (Below.trans (b := _) (by first | exact HB6.out | exact HB6.out.drew | exact Below.drewN' HB6.out _) (b7.mono (B' := w.heap.size) (by omega)))
          have HN7 := Lib.hid n7
          have hs7 := Nat.lt_of_lt_of_le hs6 b7.size
          clear n7 b7
          rw [HE.out] at HN7
          go_wp2
          go_roundw
          case rel => exact ⟨k + 1, by omega, by go_num, by first | exact HN7.out | exact HN7.out.mv (r := []) (Mv.idle ⟨_, rfl⟩) (by simp), by first | exact HB7.out | exact HB7.out.drew | exact Below.drewN' HB7.out _, hs7⟩
          case measure => simp [intOf]; omega
      · obtain rfl : k = ps.length := by omega
        have HX := Lib.hid (fun W (hW : Bld bb bb (essL t u ++ serPs (ps.take ps.length)) W) (h2 : bb ≤ W.heap.size) => string_any bb bb _ W hW h2)
        rw [← HR.out] at HX
        go_wp2_with fail
        refine (HX.out _ HN.out (by omega)).mono ?_
        rintro e w6 ⟨rfl, _, b6⟩
        go_wp2
        go_ret
        exact ⟨rfl, HW.out.trans (b6.mono (by omega))⟩

end Go.Proofs.Ytancilcfbhfopaa
