/-
  What the document's Same and Serial of layer 10 answer of types. Conditions: texts are as long as a mebibyte, and parameters as many.
-/
import Derived.Test.YtancilcfbhfopaaMs
namespace Go.Proofs.Ytancilcfbhfopaa
open Go.RowKit

set_option maxHeartbeats 2000000 in
set_option maxRecDepth 100000 in
theorem rsame_any (t u t' u' : ByteArray) (A B : Option Addr) (ps qs : List Prm) (c d : Nat) (w : World) (h : PsIn w A ps) (h' : PsIn w B qs) (hn : ps.length ≤ 1048576) (hm : qs.length ≤ 1048576) :
    Calls Try.prog 9 #[mimV t u A ps.length c, mimV t' u' B qs.length d] w fun e w' => e = .returned (.bool (sameM t u ps t' u' qs)) ∧ Below w.heap.size w w' := by
  obtain ⟨w0, hw0⟩ : ∃ w0, w0 = (w.alloc (.cells #[.string t, .string u, .slice A ps.length c] 25)).alloc (.cells #[.string t', .string u', .slice B qs.length d] 25) := ⟨_, rfl⟩
  have HB0 := Lib.hid (show Below w.heap.size w w0 from by rw [hw0]; exact ((Below.refl w.heap.size w).alloc (Nat.le_refl _) _).alloc (by simp) _)
  have HP0 := Lib.hid (show Blk w0 w.heap.size 25 #[.string t, .string u, .slice A ps.length c] from by rw [hw0]; exact (Blk.new _ _ _).alloc _)
  have HQ0 := Lib.hid (show Blk w0 (w.heap.size + 1) 25 #[.string t', .string u', .slice B qs.length d] from by
    have := Blk.new (w.alloc (.cells #[.string t, .string u, .slice A ps.length c] 25)) 25 #[.string t', .string u', .slice B qs.length d]
    rw [hw0]
    simpa using this)
  have c0 := HP0.out.cell 0
  have c1 := HP0.out.cell 1
  have c2 := HP0.out.cell 2
  have d0 := HQ0.out.cell 0
  have d1 := HQ0.out.cell 1
  have d2 := HQ0.out.cell 2
  have HP := Lib.hid h
  have HQ := Lib.hid h'
  show Calls Try.prog 9 #[mimV t u A ps.length c, mimV t' u' B qs.length d] w fun e w' => e = .returned (.bool (eqS t t' && eqS u u' && sameL ps qs)) ∧ Below w.heap.size w w'
  obtain ⟨G, hG⟩ : ∃ G, G = sameL ps qs := ⟨_, rfl⟩
  rw [← hG]
  clear h h'
  cases h1 : eqS t t'
  · have h1' : (t.toList != t'.toList) = true := by rw [bne]; rw [show (t.toList == t'.toList) = false from h1]; rfl
    simp only [Bool.false_and]
    go_enter Try.func9, Try.ntmps9
    go_wp2_with fail
    rw [← hw0]
    clear hw0
    go_wp2
    go_ret
    exact ⟨rfl, HB0.out⟩
  · have h1' : (t.toList != t'.toList) = false := by rw [bne]; rw [show (t.toList == t'.toList) = true from h1]; rfl
    cases h2 : eqS u u'
    · have h2' : (u.toList != u'.toList) = true := by rw [bne]; rw [show (u.toList == u'.toList) = false from h2]; rfl
      simp only [Bool.and_false, Bool.false_and]
      go_enter Try.func9, Try.ntmps9
      go_wp2_with fail
      rw [← hw0]
      clear hw0
      go_wp2
      go_ret
      exact ⟨rfl, HB0.out⟩
    · have h2' : (u.toList != u'.toList) = false := by rw [bne]; rw [show (u.toList == u'.toList) = true from h2]; rfl
      simp only [Bool.true_and]
      by_cases hl : ps.length = qs.length
      · have dl : ((ps.length : Int) != (qs.length : Int)) = false := by simp; omega
        have HLL := Lib.hid hl
        clear hl
        go_enter Try.func9, Try.ntmps9
        go_wp2_with fail
        rw [← hw0]
        clear hw0
        go_wp2
        clear c0 c1 c2 d0 d1 d2 dl h1 h2 h1' h2'
        go_loopw [5] (fun i wr => ∃ k : Nat, k ≤ ps.length ∧ i = .int .i64 k ∧ sameL (ps.drop k) (qs.drop k) = G ∧ Below w.heap.size w wr ∧ Blk wr w.heap.size 25 #[.string t, .string u, .slice A ps.length c] ∧ Blk wr (w.heap.size + 1) 25 #[.string t', .string u', .slice B qs.length d]) (fun i _ => ps.length - (intOf i).toNat)
        case atStart => exact ⟨0, Nat.zero_le _, rfl, hG.symm, HB0.out, HP0.out, HQ0.out⟩
        case round =>
          obtain ⟨k, hk, rfl, hs, hw, hp, hq⟩ := hrel
          have HW := Lib.hid hw
          have HPB := Lib.hid hp
          have HQB := Lib.hid hq
          have c2 := HPB.out.cell 2
          have d2 := HQB.out.cell 2
          clear hw hp hq
          by_cases hlt : k < ps.length
          · have hk2 : k < qs.length := HLL.out ▸ hlt
            obtain ⟨g, rfl, hg1, hc0, hc1⟩ := HP.out k hlt
            obtain ⟨f, rfl, hf1, hd0, hd1⟩ := HQ.out k hk2
            have c0 := (HW.out.cell (p := ⟨g, k * 2, none⟩) hg1).trans hc0
            have c1 := (HW.out.cell (p := ⟨g, k * 2 + 1, none⟩) hg1).trans hc1
            have d0 := (HW.out.cell (p := ⟨f, k * 2, none⟩) hf1).trans hd0
            have d1 := (HW.out.cell (p := ⟨f, k * 2 + 1, none⟩) hf1).trans hd1
            rw [sameL_step hlt hk2] at hs
            have HE := Lib.hid (fun w => neq_prm ps[k] qs[k] w)
            clear hc0 hc1 hd0 hd1
            cases he : eqS ps[k].n qs[k].n && eqS ps[k].v qs[k].v
            · rw [he, Bool.false_and] at hs
              rw [he] at HE
              have HS := Lib.hid hs
              clear he hs
              generalize ps[k] = q at *
              generalize qs[k]'hk2 = r at *
              obtain ⟨qn, qv⟩ := q
              obtain ⟨rn, rv⟩ := r
              have hE : ∀ w, (binOp .neq 39 (.agg #[.string qn, .string qv]) (.agg #[.string rn, .string rv])).run Try.prog w = .ok (.bool true) w := HE.out
              go_wp2_with fail
              go_quiet (fail)
              go_wp2
              go_ret
              exact ⟨by rw [← HS.out]; rfl, Below.drewN' HW.out _⟩
            · rw [he, Bool.true_and] at hs
              rw [he] at HE
              have HS := Lib.hid hs
              clear he hs
              generalize ps[k] = q at *
              generalize qs[k]'hk2 = r at *
              obtain ⟨qn, qv⟩ := q
              obtain ⟨rn, rv⟩ := r
              have hE : ∀ w, (binOp .neq 39 (.agg #[.string qn, .string qv]) (.agg #[.string rn, .string rv])).run Try.prog w = .ok (.bool false) w := HE.out
              go_wp2_with fail
              go_quiet (fail)
              go_wp2
              go_roundw
              case rel => exact ⟨k + 1, by omega, by go_num, HS.out, Below.drewN' HW.out _, HPB.out.drewN _, HQB.out.drewN _⟩
              case measure => simp [intOf]; omega
          · obtain rfl : k = ps.length := by omega
            rw [sameL_end HLL.out] at hs
            have HS := Lib.hid hs
            clear hs
            go_wp2
            go_ret
            exact ⟨by rw [← HS.out]; rfl, HW.out⟩
      · rw [sameL_len hl] at hG
        have HS := Lib.hid hG
        have dl : ((ps.length : Int) != (qs.length : Int)) = true := by simp; omega
        clear hl hG
        go_enter Try.func9, Try.ntmps9
        go_wp2_with fail
        rw [← hw0]
        clear hw0
        go_wp2
        go_ret
        exact ⟨by rw [HS.out]; rfl, HB0.out⟩

theorem text_step (l : List UInt8) (qn wv : ByteArray) : ((((⟨l.toArray⟩ : ByteArray) ++ ⟨#[59]⟩) ++ qn) ++ ⟨#[61]⟩) ++ wv = ⟨(l ++ (59 :: qn.data.toList ++ 61 :: wv.data.toList)).toArray⟩ := by
  apply ByteArray.ext
  rw [ByteArray.data_append, ByteArray.data_append, ByteArray.data_append, ByteArray.data_append]
  simp

set_option maxHeartbeats 2000000 in
set_option maxRecDepth 100000 in
theorem rserial_any (t u : ByteArray) (A : Option Addr) (ps : List Prm) (c : Nat) (w : World) (h : MimIn w t u A ps) :
    Calls Try.prog 14 #[mimV t u A ps.length c] w fun e w' => e = .returned (.string (serM t u ps)) ∧ Below w.heap.size w w' := by
  obtain ⟨w0, hw0⟩ : ∃ w0, w0 = w.alloc (.cells #[.string t, .string u, .slice A ps.length c] 25) := ⟨_, rfl⟩
  have HX0 := Lib.hid (show MimAt w #[.string t, .string u, .slice A ps.length c] w0 from ⟨by rw [hw0]; exact (Below.refl w.heap.size w).alloc (Nat.le_refl _) _, by rw [hw0]; exact Blk.new _ _ _⟩)
  have c0 := HX0.out.2.cell 0
  have c1 := HX0.out.2.cell 1
  have c2 := HX0.out.2.cell 2
  have HG := Lib.hid (rgood_any t u A ps c w0 (h.below HX0.out.1))
  have HS := Lib.hid h
  cases hg : goodM t u ps
  · rw [hg] at HG
    have e1 : serM t u ps = ⟨#[]⟩ := by unfold serM; rw [hg]; rfl
    rw [e1]
    go_enter Try.func14, Try.ntmps14
    go_wp2_with fail
    rw [← hw0]
    clear hw0
    go_wp2_with fail
    refine HG.out.mono ?_
    rintro e w1 ⟨rfl, b1⟩
    go_wp2
    go_ret
    exact ⟨rfl, (HX0.out.step b1).1⟩
  · rw [hg] at HG
    obtain ⟨R, hR⟩ : ∃ R, R = serM t u ps := ⟨_, rfl⟩
    have HR := Lib.hid (show R = ⟨(essL t u ++ serPs (ps.take ps.length)).toArray⟩ from by rw [hR, List.take_length]; unfold serM; rw [hg]; rfl)
    rw [← hR]
    have hess : (essL t u).length ≤ 2097153 := by
      have h1 := h.t
      have h2 := h.u
      have e : (essL t u).length = t.size + (u.size + 1) := by simp [essL]
      omega
    have hln := serPs_len h.all
    have hn := h.n
    have ht := h.t
    have hu := h.u
    clear hR hg
    go_enter Try.func14, Try.ntmps14
    go_wp2_with fail
    rw [← hw0]
    clear hw0
    go_wp2_with fail
    refine HG.out.mono ?_
    rintro e w1 ⟨rfl, b1⟩
    have HX1 := Lib.hid (HX0.out.step b1)
    clear b1 HX0 c0 c1 c2
    have c0 := HX1.out.2.cell 0
    have c1 := HX1.out.2.cell 1
    have c2 := HX1.out.2.cell 2
    go_wp2_with fail
    go_loopw [3, 4] (fun o i wr => ∃ k : Nat, k ≤ ps.length ∧ o = .string ⟨(essL t u ++ serPs (ps.take k)).toArray⟩ ∧ i = .int .i64 k ∧ MimAt w #[.string t, .string u, .slice A ps.length c] wr) (fun _ i _ => ps.length - (intOf i).toNat)
    case atStart => exact ⟨0, Nat.zero_le _, by rw [essL_eq]; simp [serPs], rfl, HX1.out⟩
    case round =>
      obtain ⟨k, hk, rfl, rfl, hx⟩ := hrel
      have HX := Lib.hid hx
      have hlk := hln k
      have hlk1 := hln (k + 1)
      clear hx c0 c1 c2 HX1
      by_cases hlt : k < ps.length
      · obtain ⟨g, rfl, hg1, hc0, hc1⟩ := HS.out.lie k hlt
        have c0 := (HX.out.1.cell (p := ⟨g, k * 2, none⟩) hg1).trans hc0
        have c1 := (HX.out.1.cell (p := ⟨g, k * 2 + 1, none⟩) hg1).trans hc1
        have c2 := HX.out.2.cell 2
        have hal := HS.out.all.at_ hlt
        have hwr := wrS_size ps[k].v
        have HT := Lib.hid (serPs_step hlt)
        have HTE : Hid (serP ps[k] = 59 :: ps[k].n.data.toList ++ 61 :: (wrS ps[k].v).data.toList) := rfl
        rw [HTE.out] at HT
        have HN := Lib.hid (fun W => rToken_any ps[k].v W (by omega))
        have hl : (essL t u ++ serPs (ps.take k)).length ≤ 4000000000000 := by rw [List.length_append]; omega
        generalize hL : essL t u ++ serPs (ps.take k) = L at *
        have HE : Hid (∀ wv : ByteArray, wrS ps[k].v = wv → (((((⟨L.toArray⟩ : ByteArray) ++ ⟨#[59]⟩) ++ ps[k].n) ++ ⟨#[61]⟩) ++ wv) = ⟨(essL t u ++ serPs (ps.take (k + 1))).toArray⟩) := fun wv hwv => by
          rw [text_step, HT.out, ← hL, hwv, List.append_assoc]
        clear hc0 hc1 HTE HT hL hlk1
        have hLs : (⟨L.toArray⟩ : ByteArray).size ≤ 4000000000000 := by rw [arr_size]; exact hl
        generalize (⟨L.toArray⟩ : ByteArray) = T at *
        generalize ps[k] = q at *
        obtain ⟨qn, qv⟩ := q
        simp only at hwr hal HN HE c0 c1
        cases hq : needB qv
        · rw [hq] at HN
          have HE2 := Lib.hid (HE.out qv (by unfold wrS; rw [hq]; rfl))
          clear HE hq hwr
          go_wp2_with (go_at_call 32; (with_reducible refine (HN.out _).mono ?_); rintro e w5 ⟨rfl, rfl⟩)
          go_roundw
          case rel => exact ⟨k + 1, by omega, by rw [← HE2.out], by go_num, HX.out⟩
          case measure => simp [intOf]; omega
        · rw [hq] at HN
          have HW := Lib.hid (fun W => refSerial_any qv W (by omega))
          have hsq : wrS qv = serS qv := by unfold wrS; rw [hq]; rfl
          have HE2 := Lib.hid (HE.out (serS qv) hsq)
          rw [hsq] at hwr
          clear HE hq hsq
          generalize serS qv = wv at *
          go_wp2_with fail
          refine (HN.out _).mono ?_
          rintro e w5 ⟨rfl, rfl⟩
          go_wp2_with fail
          refine (HW.out _).mono ?_
          rintro e w6 ⟨rfl, b6⟩
          have HX6 := Lib.hid (HX.out.step b6)
          have e0 := (HX6.out.1.cell (p := ⟨g, k * 2, none⟩) hg1).trans ((HX.out.1.cell (p := ⟨g, k * 2, none⟩) hg1).symm.trans c0)
          have e2 := HX6.out.2.cell 2
          clear b6 c0 c1 c2
          go_wp2
          go_roundw
          case rel => exact ⟨k + 1, by omega, by rw [← HE2.out], by go_num, HX6.out⟩
          case measure => simp [intOf]; omega
      · obtain rfl : k = ps.length := by omega
        have c2 := HX.out.2.cell 2
        go_wp2
        go_ret
        exact ⟨by rw [HR.out]; rfl, HX.out.1⟩

end Go.Proofs.Ytancilcfbhfopaa
