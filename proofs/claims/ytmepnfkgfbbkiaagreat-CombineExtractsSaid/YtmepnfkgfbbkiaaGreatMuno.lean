/-
  What the document's Parse of layer 10 answers of a text that says no type. Condition: the text is as long as a mebibyte.
-/
import Derived.Test.YtmepnfkgfbbkiaaGreatMu
namespace Go.Proofs.YtmepnfkgfbbkiaaGreat
open Go.RowKit

set_option maxHeartbeats 4000000 in
set_option maxRecDepth 100000 in
theorem rparse_no (s : ByteArray) (w : World) (hs : s.size ≤ 1048576) (hbT : saysB (trimP whiB s) = false) :
    Calls Tryz.prog 23 #[.string s] w fun e w' => SaysNo w e w' := by
  unfold SaysNo
  have hts := trimP_size whiB s
  have HT := Lib.hid (fun W => refTrim_any s W (by omega))
  generalize trimP whiB s = t at *
  have ht' : t.size ≤ 9223372036854775807 := by omega
  have hty := tyTo_le t
  have hsz1 := tyOf_size t
  have hsz2 := suOf_size t
  have HU := Lib.hid (fun W => rupto_any t sSl W ht' (by show 1 ≤ _; omega))
  have e1 : scan (stp sSl) t 0 = tyTo t := rfl
  have e2 : t.extract 0 (tyTo t) = tyOf t := rfl
  rw [e1] at HU
  have HTK := Lib.hid (fun W => rToken_any (tyOf t) W (by omega))
  obtain ⟨w0, hw0⟩ : ∃ w0, w0 = w.alloc (.cells #[.string ⟨#[]⟩, .string ⟨#[]⟩, .slice none 0 0] 35) := ⟨_, rfl⟩
  have HB0 := Lib.hid (show Below w.heap.size w w0 from by rw [hw0]; exact (Below.refl _ _).alloc (Nat.le_refl _) _)
  have HR0 := Lib.hid (show Blk w0 w.heap.size 35 #[.string ⟨#[]⟩, .string ⟨#[]⟩, .slice none 0 0] from by rw [hw0]; exact Blk.new _ _ _)
  have c0 := HR0.out.cell 0
  have c1 := HR0.out.cell 1
  have c2 := HR0.out.cell 2
  have z0 := HR0.out.frozen 0
  have z1 := HR0.out.frozen 1
  have z2 := HR0.out.frozen 2
  have e2' : Hid (t.extract 0 (tyTo t) = tyOf t) := e2
  clear e1 e2
  cases hn1 : needB (tyOf t)
  · rw [hn1] at HTK
    by_cases h1 : tyTo t < t.size
    · have d1 : ((tyTo t : Int) == (t.size : Int)) = false := by simp; omega
      have hsu := suTo_le h1
      have hsg := suTo_ge t
      have HLT := Lib.hid (fun W => refLowerS_any (tyOf t) W (by omega))
      obtain ⟨x, hx⟩ : ∃ x, x = t.extract (tyTo t + 1) t.size := ⟨_, rfl⟩
      have hxs := suf_size hx
      have HX := Lib.hid hx
      have hsc := suf_scan (stp sSe) hx
      have e3 : scan (stp sSe) t (tyTo t + 1) = suTo t := rfl
      rw [e3] at hsc
      have hx1 : x.extract 0 (scan (stp sSe) x 0) = t.extract (tyTo t + 1) (suTo t) := by rw [suf_head hx (by omega), hsc]
      have e4 : cutP whiB (t.extract (tyTo t + 1) (suTo t)) = suOf t := rfl
      have HU2 := Lib.hid (fun W => rupto_any x sSe W (by omega) (by show 1 ≤ _; omega))
      have HBK := Lib.hid (fun W => rback_any (x.extract 0 (scan (stp sSe) x 0)) W (by simp; omega))
      rw [show cutP whiB (x.extract 0 (scan (stp sSe) x 0)) = suOf t from by rw [hx1]; rfl] at HBK
      have HTK2 := Lib.hid (fun W => rToken_any (suOf t) W (by omega))
      have HX2 : Hid (x.extract (scan (stp sSe) x 0) x.size = t.extract (suTo t) t.size) := by
        show _ = _
        rw [suf_suf hx (by omega), hsc]
      have hnx : scan (stp sSe) x 0 ≤ x.size := scan_le _ _ _ (Nat.zero_le _)
      clear e3 e4 hx1 hx hxs
      generalize hnn : scan (stp sSe) x 0 = n at *
      have g1 : ((tyTo t : Nat) : Int) + 1 ≤ (t.size : Int) := by omega
      have g2 : ((tyTo t : Int) + 1).toNat = tyTo t + 1 := by omega
      cases hn2 : needB (suOf t)
      · exact absurd hbT (by unfold saysB; rw [hn1, hn2, decide_eq_true h1]; simp)
      · rw [hn2] at HTK2
        clear hbT hn1 hn2
        generalize tyOf t = ty at *
        generalize suOf t = su at *
        generalize lowS ty = lty at *
        go_enter Tryz.func23, Tryz.ntmps23
        go_wp2_with fail
        rw [← hw0]
        clear hw0
        go_wp2_with fail
        refine (HT.out _).mono ?_
        rintro e w1 ⟨rfl, rfl⟩
        go_wp2_with fail
        refine (HU.out _).mono ?_
        rintro e w1 ⟨rfl, rfl⟩
        go_wp2_with fail
        rw [e2'.out]
        refine (HTK.out _).mono ?_
        rintro e w1 ⟨rfl, rfl⟩
        go_wp2_with fail
        rw [e2'.out]
        refine (HLT.out _).mono ?_
        rintro e w2 ⟨rfl, b2⟩
        have HB2 := Lib.hid (below_on HB0.out b2)
        have HR2 := Lib.hid (HR0.out.below b2 HR0.out.lt)
        clear b2 HB0 HR0 c0 c1 c2 z0 z1 z2
        obtain ⟨w3, hw3⟩ : ∃ w3, w3 = w2.alloc (.cells #[.string lty, .string ⟨#[]⟩, .slice none 0 0] 35) := ⟨_, rfl⟩
        have HB3 := Lib.hid (show Below w.heap.size w w3 from by rw [hw3]; exact HB2.out.alloc HB2.out.size _)
        have HR3 := Lib.hid (show Blk w3 w.heap.size 35 _ from by rw [hw3]; exact HR2.out.alloc _)
        have HM3 := Lib.hid (show Blk w3 w2.heap.size 35 #[.string lty, .string ⟨#[]⟩, .slice none 0 0] from by rw [hw3]; exact Blk.new _ _ _)
        have hrm : w.heap.size < w2.heap.size := HR2.out.lt
        have hml : w2.heap.size < w3.heap.size := HM3.out.lt
        clear HB2 HR2
        go_wp2_with fail
        rw [← hw3, ← HX.out]
        clear hw3
        generalize w2.heap.size = mb at *
        refine (HU2.out _).mono ?_
        rintro e w4 ⟨rfl, rfl⟩
        go_wp2_with fail
        refine (HBK.out _).mono ?_
        rintro e w4 ⟨rfl, rfl⟩
        go_wp2_with fail
        refine (HTK2.out _).mono ?_
        rintro e w4 ⟨rfl, rfl⟩
        have c0 := HR3.out.cell 0
        have c1 := HR3.out.cell 1
        have c2 := HR3.out.cell 2
        have z0 := HR3.out.frozen 0
        have z1 := HR3.out.frozen 1
        have z2 := HR3.out.frozen 2
        go_wp2
        refine bodyPost_ret (v := .tuple #[mimV ⟨#[]⟩ ⟨#[]⟩ none 0 0, .int .i64 2]) (by simp [results, Tryz.results23, go_sem, c0, c1, c2]; done) rfl ?_
        exact ⟨rfl, ((HB3.out.setCell (by exact Nat.le_refl _) _).setCell (by exact Nat.le_refl _) _).setCell (by exact Nat.le_refl _) _⟩
    · have d1 : ((tyTo t : Int) == (t.size : Int)) = true := by simp; omega
      clear hbT
      go_enter Tryz.func23, Tryz.ntmps23
      go_wp2_with fail
      rw [← hw0]
      clear hw0
      go_wp2_with fail
      refine (HT.out _).mono ?_
      rintro e w1 ⟨rfl, rfl⟩
      go_wp2_with fail
      refine (HU.out _).mono ?_
      rintro e w1 ⟨rfl, rfl⟩
      go_wp2_with fail
      rw [e2'.out]
      refine (HTK.out _).mono ?_
      rintro e w1 ⟨rfl, rfl⟩
      have c0 := HR0.out.cell 0
      have c1 := HR0.out.cell 1
      have c2 := HR0.out.cell 2
      have z0 := HR0.out.frozen 0
      have z1 := HR0.out.frozen 1
      have z2 := HR0.out.frozen 2
      go_wp2
      refine bodyPost_ret (v := .tuple #[mimV ⟨#[]⟩ ⟨#[]⟩ none 0 0, .int .i64 2]) (by simp [results, Tryz.results23, go_sem, c0, c1, c2]; done) rfl ?_
      exact ⟨rfl, ((HB0.out.setCell (by exact Nat.le_refl _) _).setCell (by exact Nat.le_refl _) _).setCell (by exact Nat.le_refl _) _⟩
  · rw [hn1] at HTK
    clear hbT
    go_enter Tryz.func23, Tryz.ntmps23
    go_wp2_with fail
    rw [← hw0]
    clear hw0
    go_wp2_with fail
    refine (HT.out _).mono ?_
    rintro e w1 ⟨rfl, rfl⟩
    go_wp2_with fail
    refine (HU.out _).mono ?_
    rintro e w1 ⟨rfl, rfl⟩
    go_wp2_with fail
    rw [e2'.out]
    refine (HTK.out _).mono ?_
    rintro e w1 ⟨rfl, rfl⟩
    have c0 := HR0.out.cell 0
    have c1 := HR0.out.cell 1
    have c2 := HR0.out.cell 2
    have z0 := HR0.out.frozen 0
    have z1 := HR0.out.frozen 1
    have z2 := HR0.out.frozen 2
    go_wp2
    refine bodyPost_ret (v := .tuple #[mimV ⟨#[]⟩ ⟨#[]⟩ none 0 0, .int .i64 2]) (by simp [results, Tryz.results23, go_sem, c0, c1, c2]; done) rfl ?_
    exact ⟨rfl, ((HB0.out.setCell (by exact Nat.le_refl _) _).setCell (by exact Nat.le_refl _) _).setCell (by exact Nat.le_refl _) _⟩

theorem rparse_any (s : ByteArray) (w : World) (hs : s.size ≤ 1048576) :
    Calls Tryz.prog 23 #[.string s] w fun e w' => if saysB (trimP whiB s) then SaysYes (trimP whiB s) w e w' else SaysNo w e w' := by
  cases h : saysB (trimP whiB s)
  · exact (rparse_no s w hs h).mono fun _ _ h => h
  · exact (rparse_yes s w hs h).mono fun _ _ h => h

end Go.Proofs.YtmepnfkgfbbkiaaGreat
