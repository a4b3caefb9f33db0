/-
  What the document's Same and Serial of layer 10 answer of types. Conditions: texts are as long as a mebibyte, and parameters as many.
-/
import Derived.Test.YtmepnfkgfbbkiaaMs
namespace Go.Proofs.Ytmepnfkgfbbkiaa
open Go.RowKit

set_option maxHeartbeats 2000000 in
set_option maxRecDepth 100000 in
theorem rsame_any (t u t' u' : ByteArray) (A B : Option Addr) (ps qs : List Prm) (c d : Nat) (w : World) (h : PsIn w A ps) (h' : PsIn w B qs) (hn : ps.length ≤ 1048576) (_hm : qs.length ≤ 1048576) :
    Calls Try.prog 8 #[mimV t u A ps.length c, mimV t' u' B qs.length d] w fun e w' => e = .returned (.bool (sameM t u ps t' u' qs)) ∧ Below w.heap.size w w' := by
  obtain ⟨w0, hw0⟩ : ∃ w0, w0 = (w.alloc (.cells #[.string t, .string u, .slice A ps.length c] 24)).alloc (.cells #[.string t', .string u', .slice B qs.length d] 24) := ⟨_, rfl⟩
  have HB0 := Lib.hid (show Below w.heap.size w w0 from by rw [hw0]; exact ((Below.refl w.heap.size w).alloc (Nat.le_refl _) _).alloc (by simp) _)
  have HP0 := Lib.hid (show Blk w0 w.heap.size 24 #[.string t, .string u, .slice A ps.length c] from by rw [hw0]; exact (Blk.new _ _ _).alloc _)
  have HQ0 := Lib.hid (show Blk w0 (w.heap.size + 1) 24 #[.string t', .string u', .slice B qs.length d] from by
    have := Blk.new (w.alloc (.cells #[.string t, .string u, .slice A ps.length c] 24)) 24 #[.string t', .string u', .slice B qs.length d]
    rw [hw0]
    simpa using this)
  have c0 := HP0.out.cell 0
  have c1 := HP0.out.cell 1
  have c2 := HP0.out.cell 2
  have d0 := HQ0.out.cell 0
  have d1 := HQ0.out.cell 1
  have d2 := HQ0.out.cell 2
  have HP := Lib.hid h
  have HQ := Lib.hid h'
  show Calls Try.prog 8 #[mimV t u A ps.length c, mimV t' u' B qs.length d] w fun e w' => e = .returned (.bool (eqS t t' && eqS u u' && sameL ps qs)) ∧ Below w.heap.size w w'
  obtain ⟨G, hG⟩ : ∃ G, G = sameL ps qs := ⟨_, rfl⟩
  rw [← hG]
  clear h h'
  cases h1 : eqS t t'
  · have h1' : (t.toList != t'.toList) = true := by rw [bne]; rw [show (t.toList == t'.toList) = false from h1]; rfl
    simp only [Bool.false_and]
    go_enter Try.func8, Try.ntmps8
    go_wp2_with fail
    rw [← hw0]
    clear hw0
    go_wp2
    go_ret
    exact ⟨rfl, HB0.out⟩
  · have h1' : (t.toList != t'.toList) = false := by rw [bne]; rw [show (t.toList == t'.toList) = true from h1]; rfl
    cases h2 : eqS u u'
    · have h2' : (u.toList != u'.toList) = true := by rw [bne]; rw [show (u.toList == u'.toList) = false from h2]; rfl
      simp only [Bool.and_false, Bool.false_and]
      go_enter Try.func8, Try.ntmps8
      go_wp2_with fail
      rw [← hw0]
      clear hw0
      go_wp2
      go_ret
      exact ⟨rfl, HB0.out⟩
    · have h2' : (u.toList != u'.toList) = false := by rw [bne]; rw [show (u.toList == u'.toList) = true from h2]; rfl
      simp only [Bool.true_and]
      by_cases hl : ps.length = qs.length
      · have dl : ((ps.length : Int) != (qs.length : Int)) = false := by simp; omega
        have HLL := Lib.hid hl
        clear hl
        go_enter Try.func8, Try.ntmps8
        go_wp2_with fail
        rw [← hw0]
        clear hw0
        go_wp2
        clear c0 c1 c2 d0 d1 d2 dl h1 h2 h1' h2'
        go_loopw [5] (fun i wr => ∃ k : Nat, k ≤ ps.length ∧ i = .int .i64 k ∧ sameL (ps.drop k) (qs.drop k) = G ∧ Below w.heap.size w wr ∧ Blk wr w.heap.size 24 #[.string t, .string u, .slice A ps.length c] ∧ Blk wr (w.heap.size + 1) 24 #[.string t', .string u', .slice B qs.length d]) (fun i _ => ps.length - (intOf i).toNat)
        case atStart => exact ⟨0, Nat.zero_le _, rfl, hG.symm, HB0.out, HP0.out, HQ0.out⟩
        case round =>
          obtain ⟨k, hk, rfl, hs, hw, hp, hq⟩ := hrel
          have HW := Lib.hid hw
          have HPB := Lib.hid hp
          have HQB := Lib.hid hq
          have c2 := HPB.out.cell 2
          have d2 := HQB.out.cell 2
          clear hw hp hq
          by_cases hlt : k < ps.length
          · have hk2 : k < qs.length := HLL.out ▸ hlt
            obtain ⟨g, rfl, hg1, hc0, hc1⟩ := HP.out k hlt
            obtain ⟨f, rfl, hf1, hd0, hd1⟩ := HQ.out k hk2
            have c0 := (HW.out.cell (p := ⟨g, k * 2, none⟩) hg1).trans hc0
            have c1 := (HW.out.cell (p := ⟨g, k * 2 + 1, none⟩) hg1).trans hc1
            have d0 := (HW.out.cell (p := ⟨f, k * 2, none⟩) hf1).trans hd0
            have d1 := (HW.out.cell (p := ⟨f, k * 2 + 1, none⟩) hf1).trans hd1
            rw [sameL_step hlt hk2] at hs
            have HE := Lib.hid (fun w => neq_prm ps[k] qs[k] w)
            clear hc0 hc1 hd0 hd1
            cases he : eqS ps[k].n qs[k].n && eqS ps[k].v qs[k].v
            · rw [he, Bool.false_and] at hs
              rw [he] at HE
              have HS := Lib.hid hs
              clear he hs
              generalize ps[k] = q at *
              generalize qs[k]'hk2 = r at *
              obtain ⟨qn, qv⟩ := q
              obtain ⟨rn, rv⟩ := r
              have hE : ∀ w, (binOp .neq 33 (.agg #[.string qn, .string qv]) (.agg #[.string rn, .string rv])).run Try.prog w = .ok (.bool true) w := HE.out
              go_wp2_with fail
              go_quiet (fail)
              go_wp2
              go_ret
              exact ⟨by rw [← HS.out]; rfl, Below.drewN' HW.out _⟩
            · rw [he, Bool.true_and] at hs
              rw [he] at HE
              have HS := Lib.hid hs
              clear he hs
              generalize ps[k] = q at *
              generalize qs[k]'hk2 = r at *
              obtain ⟨qn, qv⟩ := q
              obtain ⟨rn, rv⟩ := r
              have hE : ∀ w, (binOp .neq 33 (.agg #[.string qn, .string qv]) (.agg #[.string rn, .string rv])).run Try.prog w = .ok (.bool false) w := HE.out
              go_wp2_with fail
              go_quiet (fail)
              go_wp2
              go_roundw
              case rel => exact ⟨k + 1, by omega, by go_num, HS.out, Below.drewN' HW.out _, HPB.out.drewN _, HQB.out.drewN _⟩
              case measure => simp [intOf]; omega
          · obtain rfl : k = ps.length := by omega
            rw [sameL_end HLL.out] at hs
            have HS := Lib.hid hs
            clear hs
            go_wp2
            go_ret
            exact ⟨by rw [← HS.out]; rfl, HW.out⟩
      · rw [sameL_len hl] at hG
        have HS := Lib.hid hG
        have dl : ((ps.length : Int) != (qs.length : Int)) = true := by simp; omega
        clear hl hG
        go_enter Try.func8, Try.ntmps8
        go_wp2_with fail
        rw [← hw0]
        clear hw0
        go_wp2
        go_ret
        exact ⟨by rw [HS.out]; rfl, HB0.out⟩

theorem text_step (l : List UInt8) (qn wv : ByteArray) : ((((⟨l.toArray⟩ : ByteArray) ++ ⟨#[59]⟩) ++ qn) ++ ⟨#[61]⟩) ++ wv = ⟨(l ++ (59 :: qn.data.toList ++ 61 :: wv.data.toList)).toArray⟩ := by
  apply ByteArray.ext
  rw [ByteArray.data_append, ByteArray.data_append, ByteArray.data_append, ByteArray.data_append]
  simp

end Go.Proofs.Ytmepnfkgfbbkiaa
