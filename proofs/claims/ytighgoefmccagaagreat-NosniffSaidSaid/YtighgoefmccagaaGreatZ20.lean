/-
  What the document's Parse of layer 10 answers. Condition: the text is as long as a mebibyte.
  What the document's Parse of layer 10 answers of a text that says no type. Condition: the text is as long as a mebibyte.
  What All answers, the program's and the document's: a slice of types of the call's own. Condition: a thousand values of a thousand bytes.
-/
import Derived.Test.YtighgoefmccagaaGreatZ19
import Derived.RegionTactic
import Derived.Deep.DeepCutAuto
namespace Go.Proofs.YtighgoefmccagaaGreat
open Go.RowKit

theorem suf_list {T x : ByteArray} {j : Nat} (hx : x = T.extract j T.size) : x.data.toList = T.data.toList.drop j := by
  rw [hx, bytes_extract, List.take_of_length_le (by simp)]
theorem suf_size {T x : ByteArray} {j : Nat} (hx : x = T.extract j T.size) : x.size = T.size - j := by rw [hx]; simp
theorem suf_at {T x : ByteArray} {j i : Nat} (hx : x = T.extract j T.size) (h : i < x.size) : x[i] = T[j + i]'(by have := suf_size hx; omega) := by
  have h2 : j + i < T.size := by have := suf_size hx; omega
  rw [← getElem!_pos x i h, ← getElem!_pos T (j + i) h2, hx, extract_at (by rw [← hx]; exact h)]
theorem suf_scan (p : UInt8 → Bool) {T x : ByteArray} {j : Nat} (hx : x = T.extract j T.size) : j + scan p x 0 = scan p T j := by
  unfold scan
  rw [suf_list hx, List.drop_zero]
  omega
theorem suf_head {T x : ByteArray} {j m : Nat} (hx : x = T.extract j T.size) (h : j + m ≤ T.size) : x.extract 0 m = T.extract j (j + m) := by
  rw [hx, ByteArray.extract_extract]
  congr 1
  omega
theorem suf_suf {T x : ByteArray} {j m : Nat} (hx : x = T.extract j T.size) (_h : j + m ≤ T.size) : x.extract m x.size = T.extract (j + m) T.size := by
  rw [suf_size hx, hx, ByteArray.extract_extract]
  congr 1
  omega
theorem suf_quoS {T x : ByteArray} {j : Nat} (hx : x = T.extract j T.size) (k : Nat) : quoS x k = quoS T (j + k) := by
  unfold quoS
  rw [suf_list hx, List.drop_drop]

/-- What lies in the worlds of the document's Parse, where acc is read. -/
structure PW (w : World) (mb base : Nat) (lty lsu : ByteArray) (A : Option Addr) (c : Nat) (acc : List Prm) (W : World) : Prop where
  own : W.ownsRow base 51 2 (.slice A acc.length c) acc.length (prmL acc)
  m : Blk W mb 26 #[.string lty, .string lsu, .slice A acc.length c]
  r : Blk W w.heap.size 26 #[.string ⟨#[]⟩, .string ⟨#[]⟩, .slice none 0 0]
  b : Below w.heap.size w W
  s : base ≤ W.heap.size
theorem PW.step {w : World} {mb base : Nat} {lty lsu : ByteArray} {A : Option Addr} {c : Nat} {acc : List Prm} {W W' : World} (h : PW w mb base lty lsu A c acc W) (hb : Below W.heap.size W W') : PW w mb base lty lsu A c acc W' :=
  ⟨own_keep h.own (Mv.of_below hb []) (by simp), h.m.below hb h.m.lt, h.r.below hb h.r.lt, below_on h.b hb, Nat.le_trans h.s hb.size⟩
theorem PW.drewN {w : World} {mb base : Nat} {lty lsu : ByteArray} {A : Option Addr} {c : Nat} {acc : List Prm} {W : World} (h : PW w mb base lty lsu A c acc W) (n : Nat) : PW w mb base lty lsu A c acc (W.drewN n) := h.step (Below.drewN' (Below.refl _ _) n)
theorem PW.ps {w : World} {mb base : Nat} {lty lsu : ByteArray} {A : Option Addr} {c : Nat} {acc : List Prm} {W : World} (h : PW w mb base lty lsu A c acc W) : PsIn W A acc := by
  obtain ⟨A', c', e, hp⟩ := PsIn.of_own h.own
  cases e
  exact hp
theorem own_shape {W : World} {base : Nat} {e : TypeId} {size n : Nat} {v : Value} {xs : List Value} (h : W.ownsRow base e size v n xs) : ∃ A c, v = .slice A n c := by
  rcases h.2 with ⟨h1, h2⟩ | ⟨g, cap, cur, h1, _⟩
  · exact ⟨none, 0, by rw [h1, h2]⟩
  · exact ⟨_, _, h1⟩
theorem valOk_end {s : ByteArray} {j : Nat} (h : s.size ≤ j) : valOk s j = false := by
  unfold valOk
  rw [isAt_no h]
  have h1 : (valRaw s j).toList.length = 0 := by
    rw [toList_size]
    unfold valRaw
    have := cutP_le whiB (s.extract j (scan (stp sSe) s j))
    have h2 : (s.extract j (scan (stp sSe) s j)).size = 0 := by simp; omega
    omega
  rw [List.length_eq_zero_iff.1 h1]
  rfl
set_option maxHeartbeats 4000000 in
set_option maxRecDepth 100000 in
theorem rparse_yes (s : ByteArray) (w : World) (hs : s.size ≤ 1048576) (hbT : saysB (trimP whiB s) = true) :
    Calls Tryz.prog 35 #[.string s] w fun e w' => SaysYes (trimP whiB s) w e w' := by
  obtain ⟨i0, hi, hz0z, hz1, hz2z⟩ := info_parts Tryz.infoPrm
  have hts := trimP_size whiB s
  have HT := Lib.hid (fun W => refTrim_any s W (by omega))
  generalize trimP whiB s = t at *
  have ht' : t.size ≤ 9223372036854775807 := by omega
  have hty := tyTo_le t
  have hsz1 := tyOf_size t
  have hsz2 := suOf_size t
  have HU := Lib.hid (fun W => rupto_any t sSl W ht' (by show 1 ≤ _; omega))
  have e1 : scan (stp sSl) t 0 = tyTo t := rfl
  have e2 : t.extract 0 (tyTo t) = tyOf t := rfl
  rw [e1] at HU
  have HTK := Lib.hid (fun W => rToken_any (tyOf t) W (by omega))
  obtain ⟨w0, hw0⟩ : ∃ w0, w0 = w.alloc (.cells #[.string ⟨#[]⟩, .string ⟨#[]⟩, .slice none 0 0] 26) := ⟨_, rfl⟩
  have HB0 := Lib.hid (show Below w.heap.size w w0 from by rw [hw0]; exact (Below.refl _ _).alloc (Nat.le_refl _) _)
  have HR0 := Lib.hid (show Blk w0 w.heap.size 26 #[.string ⟨#[]⟩, .string ⟨#[]⟩, .slice none 0 0] from by rw [hw0]; exact Blk.new _ _ _)
  have c0 := HR0.out.cell 0
  have c1 := HR0.out.cell 1
  have c2 := HR0.out.cell 2
  have z0 := HR0.out.frozen 0
  have z1 := HR0.out.frozen 1
  have z2 := HR0.out.frozen 2
  have e2' : Hid (t.extract 0 (tyTo t) = tyOf t) := e2
  clear e1 e2
  cases hn1 : needB (tyOf t)
  · rw [hn1] at HTK
    by_cases h1 : tyTo t < t.size
    · have d1 : ((tyTo t : Int) == (t.size : Int)) = false := by simp; omega
      have hsu := suTo_le h1
      have hsg := suTo_ge t
      have HLT := Lib.hid (fun W => refLowerS_any (tyOf t) W (by omega))
      obtain ⟨x, hx⟩ : ∃ x, x = t.extract (tyTo t + 1) t.size := ⟨_, rfl⟩
      have hxs := suf_size hx
      have HX := Lib.hid hx
      have hsc := suf_scan (stp sSe) hx
      have e3 : scan (stp sSe) t (tyTo t + 1) = suTo t := rfl
      rw [e3] at hsc
      have hx1 : x.extract 0 (scan (stp sSe) x 0) = t.extract (tyTo t + 1) (suTo t) := by rw [suf_head hx (by omega), hsc]
      have e4 : cutP whiB (t.extract (tyTo t + 1) (suTo t)) = suOf t := rfl
      have HU2 := Lib.hid (fun W => rupto_any x sSe W (by omega) (by show 1 ≤ _; omega))
      have HBK := Lib.hid (fun W => rback_any (x.extract 0 (scan (stp sSe) x 0)) W (by simp; omega))
      rw [show cutP whiB (x.extract 0 (scan (stp sSe) x 0)) = suOf t from by rw [hx1]; rfl] at HBK
      have HTK2 := Lib.hid (fun W => rToken_any (suOf t) W (by omega))
      have HX2 : Hid (x.extract (scan (stp sSe) x 0) x.size = t.extract (suTo t) t.size) := by
        show _ = _
        rw [suf_suf hx (by omega), hsc]
      have hnx : scan (stp sSe) x 0 ≤ x.size := scan_le _ _ _ (Nat.zero_le _)
      clear e3 e4 hx1 hx hxs
      generalize hnn : scan (stp sSe) x 0 = n at *
      have g1 : ((tyTo t : Nat) : Int) + 1 ≤ (t.size : Int) := by omega
      have g2 : ((tyTo t : Int) + 1).toNat = tyTo t + 1 := by omega
      cases hn2 : needB (suOf t)
      · rw [hn2] at HTK2
        clear hbT
        unfold SaysYes
        have HL3 := Lib.hid (fun W => refLowerS_any (suOf t) W (by omega))
        obtain ⟨R, hR⟩ : ∃ R, R = parS t (suTo t) [] := ⟨_, rfl⟩
        have hR' : prOf t = R := hR.symm
        rw [hR']
        have HRR := Lib.hid hR
        clear hR hR' hn1 hn2
        generalize tyOf t = ty at *
        generalize suOf t = su at *
        generalize lowS ty = lty at *
        generalize lowS su = lsu at *
        go_enter Tryz.func35, Tryz.ntmps35
        go_wp2_with fail
        rw [← hw0]
        clear hw0
        go_wp2_with fail
        refine (HT.out _).mono ?_
        rintro e w1 ⟨rfl, rfl⟩
        go_wp2_with fail
        refine (HU.out _).mono ?_
        rintro e w1 ⟨rfl, rfl⟩
        go_wp2_with fail
        rw [e2'.out]
        refine (HTK.out _).mono ?_
        rintro e w1 ⟨rfl, rfl⟩
        go_wp2_with fail
        rw [e2'.out]
        refine (HLT.out _).mono ?_
        rintro e w2 ⟨rfl, b2⟩
        have HB2 := Lib.hid (below_on HB0.out b2)
        have HR2 := Lib.hid (HR0.out.below b2 HR0.out.lt)
        clear b2 HB0 HR0 c0 c1 c2 z0 z1 z2
        obtain ⟨w3, hw3⟩ : ∃ w3, w3 = w2.alloc (.cells #[.string lty, .string ⟨#[]⟩, .slice none 0 0] 26) := ⟨_, rfl⟩
        have HB3 := Lib.hid (show Below w.heap.size w w3 from by rw [hw3]; exact HB2.out.alloc HB2.out.size _)
        have HR3 := Lib.hid (show Blk w3 w.heap.size 26 _ from by rw [hw3]; exact HR2.out.alloc _)
        have HM3 := Lib.hid (show Blk w3 w2.heap.size 26 #[.string lty, .string ⟨#[]⟩, .slice none 0 0] from by rw [hw3]; exact Blk.new _ _ _)
        have hrm : w.heap.size < w2.heap.size := HR2.out.lt
        have hml : w2.heap.size < w3.heap.size := HM3.out.lt
        clear HB2 HR2
        go_wp2_with fail
        rw [← hw3, ← HX.out]
        clear hw3
        generalize w2.heap.size = mb at *
        refine (HU2.out _).mono ?_
        rintro e w4 ⟨rfl, rfl⟩
        go_wp2_with fail
        refine (HBK.out _).mono ?_
        rintro e w4 ⟨rfl, rfl⟩
        go_wp2_with fail
        refine (HTK2.out _).mono ?_
        rintro e w4 ⟨rfl, rfl⟩
        have d1 := HM3.out.cell 0
        have d2 := HM3.out.cell 1
        have y1 := HM3.out.frozen 1
        go_wp2_with fail
        go_cut [0] from 45 to 53 (fun s0 wx => ∃ y, s0 = .string y ∧ y = t.extract (suTo t) t.size ∧ Blk wx mb 26 #[.string lty, .string lsu, .slice none 0 0] ∧ Blk wx w.heap.size 26 #[.string ⟨#[]⟩, .string ⟨#[]⟩, .slice none 0 0] ∧ Below w.heap.size w wx ∧ mb < wx.heap.size)
        case first =>
          go_region_with (first
            | (go_at_call 55; (with_reducible refine (HBK.out _).mono ?_); rintro e w5 ⟨rfl, rfl⟩)
            | (go_at_call 27; (with_reducible refine (HL3.out _).mono ?_); rintro e w6 ⟨rfl, b6⟩
               have HB6 := Lib.hid (below_on (w := _) (by first | exact HB3.out | exact HB3.out.drew | exact Below.drewN' HB3.out _) b6)
               have HR6 := Lib.hid (Blk.below (w := _) (by exact HR3.out) b6 (by exact HR3.out.lt))
               have HM6 := Lib.hid (Blk.below (w := _) (by exact HM3.out) b6 (by exact HM3.out.lt))
               have hs6 := Nat.lt_of_lt_of_le hml b6.size
               clear b6 d1 d2 y1
               have d2 := HM6.out.cell 1
               have y1 := HM6.out.frozen 1))
          all_goals
            go_wp2_with fail
            go_meet
            exact ⟨_, rfl, HX2.out, (HM6.out.set_ 1 _), HR6.out.far (by show w.heap.size ≠ mb; omega) _, HB6.out.setCell (by show w.heap.size ≤ mb; omega) _, by simpa using hs6⟩
        case rest =>
          obtain ⟨y0, rfl, hy0, hM, hR0, hB, hmw⟩ := hcut
          have HPW := Lib.hid (show PW w mb wc.heap.size lty lsu none 0 [] wc from ⟨World.ownsRow_nil _ _ _ _, hM, hR0, hB, Nat.le_refl _⟩)
          have HY0 := Lib.hid hy0
          have HS59 := Lib.hid (fun h => suTo_at h1 h)
          clear hM hR0 hB hy0 HB3 HR3 HM3 d1 d2 y1 HX HX2 HU2 HBK HTK2 HL3 HTK HU HLT HT
          generalize hbase : wc.heap.size = base at *
          clear hbase
          have hsu' := hsu
          generalize suTo t = k0 at *
          go_wp2_with fail
          go_loopw [0] (fun s0 wr => ∃ (k : Nat) (acc : List Prm) (x : ByteArray) (A : Option Addr) (c : Nat), s0 = .string x ∧ x = t.extract k t.size ∧ k ≤ t.size ∧ (∀ h : k < t.size, t[k].toNat = 59) ∧ parS t k acc = R ∧ AllIn t.size acc ∧ acc.length ≤ k ∧ PW w mb base lty lsu A c acc wr) (fun s0 _ => strLen s0)
          case atStart => exact ⟨k0, [], y0, none, 0, rfl, HY0.out, hsu', HS59.out, HRR.out.symm, fun _ h => (by cases h), Nat.zero_le _, HPW.out⟩
          case round =>
            obtain ⟨k, acc, y, A, c, rfl, hy, hk, h59, hpar, hall, hal, hpw⟩ := hrel
            have HP := Lib.hid hpw
            have HAL := Lib.hid hall
            have HYY := Lib.hid hy
            clear HPW HY0 HS59 HRR hpw hall
            have hysz := suf_size hy
            by_cases hlt : k < t.size
            · have hfr := nmFr_le hlt
              have hfg := nmFr_ge t k
              have hto := nmTo_le hlt
              have htg := nmTo_ge t k
              have HST := Lib.hid (show parS t (stepE t k) (putO acc (stepP t k)) = R from by rw [← parS_step acc hlt, hpar])
              have HNA := Lib.hid (fun h => nmTo_at hlt h)
              have hy1 : y.extract 1 y.size = t.extract (k + 1) t.size := suf_suf hy (by omega)
              have hy0 : 0 < y.size := by omega
              have HY1 := Lib.hid hy1
              clear hy1 hpar h59 hy hysz
              go_wp2_with fail
              go_loopw [0] (fun s0 wq => ∃ (j : Nat) (z : ByteArray), s0 = .string z ∧ z = t.extract j t.size ∧ j ≤ t.size ∧ scan whiB t j = nmFr t k ∧ wq = wr) (fun s0 _ => strLen s0)
              case atStart => exact ⟨k + 1, _, rfl, HY1.out, by omega, rfl, rfl⟩
              case round =>
                obtain ⟨j, z, rfl, hz, hj, hsc, rfl⟩ := hrel
                have hzs := suf_size hz
                by_cases hjl : j < t.size
                · have hz0 : 0 < z.size := by omega
                  have hza := suf_at hz hz0
                  have HL := Lib.hid (fun W => refWhite_any z[0] W)
                  have hzz : z.size ≤ 9223372036854775807 := by omega
                  cases hw : whiB z[0]
                  · rw [hw] at HL
                    have hjf : j = nmFr t k := by rw [← hsc, scan_stop hjl (by rw [← hw, hza]; rfl)]
                    subst hjf
                    have HU := Lib.hid (fun W => rupto_any z sSq W (by omega) (by show 2 ≤ _; omega))
                    have hm : nmFr t k + scan (stp sSq) z 0 = nmTo t k := suf_scan (stp sSq) hz
                    have hmz : scan (stp sSq) z 0 ≤ z.size := scan_le _ _ _ (Nat.zero_le _)
                    generalize scan (stp sSq) z 0 = m at *
                    have hns := nmOf_size t k
                    have HLN := Lib.hid (fun W => refLowerS_any (z.extract 0 m) W (by simp; omega))
                    rw [show lowS (z.extract 0 m) = nmOf t k from by rw [suf_head hz (by omega), hm]; rfl] at HLN
                    have HNM := Lib.hid (show nameB (nmOf t k) = !needB (nmOf t k) from by unfold nameB nmOf; rw [lowS_lowS, eqS_self]; simp)
                    obtain ⟨z2, hz2⟩ : ∃ z2, z.extract m z.size = z2 := ⟨_, rfl⟩
                    have hz2t : z2 = t.extract (nmTo t k) t.size := by rw [← hz2, suf_suf hz (by omega), hm]
                    have HZ2 := Lib.hid hz2t
                    have hz2s := suf_size hz2t
                    clear hza hw
                    by_cases hnt : nmTo t k < t.size
                    · have hz20 : 0 < z2.size := by omega
                      have hz2a := suf_at hz2t hz20
                      have hat : (t[nmTo t k + 0]'(by omega)) = t[nmTo t k] := rfl
                      rw [hat] at hz2a
                      rcases HNA.out hnt with h59 | h61
                      · have d59 : ((z2[0].toNat : Int) == 59) = true := by rw [hz2a, h59]; rfl
                        have hq : isAt t (nmTo t k) 61 = false := by rw [isAt_yes hnt, h59]; rfl
                        have HR2 := Lib.hid (show parS t (nmTo t k) acc = R from by
                          have := HST.out
                          have e1 : stepE t k = nmTo t k := by unfold stepE; rw [hq]; rfl
                          have e2 : stepP t k = none := by unfold stepP; rw [hq]; rfl
                          rw [e1, e2] at this
                          exact this)
                        have H59 := Lib.hid h59
                        have HTG := Lib.hid (show k ≤ nmTo t k ∧ nmTo t k ≤ t.size ∧ z2.size < y.size + 0 from by have := suf_size HYY.out; omega)
                        have dz : ((z2.size : Int) == 0) = false := beq_eq_false_iff_ne.2 (by omega)
                        clear hzs hz hz2t hz2s hq hm hns HST HNA HNM hto htg hfr hfg h59 hz2a hat
                        go_wp2_with fail
                        refine (HL.out _).mono ?_
                        rintro e w' ⟨rfl, rfl⟩
                        go_wp2_with fail
                        refine (HU.out _).mono ?_
                        rintro e w' ⟨rfl, rfl⟩
                        go_wp2_with fail
                        refine (HLN.out _).mono ?_
                        rintro e w8 ⟨rfl, b8⟩
                        have HP8 := Lib.hid (HP.out.step b8)
                        clear b8
                        go_wp2
                        go_roundw
                        case rel => exact ⟨nmTo t k, acc, z2, A, c, rfl, HZ2.out, HTG.out.2.1, fun _ => H59.out, HR2.out, HAL.out, by have := HTG.out.1; omega, HP8.out⟩
                        case measure => have := HTG.out.2.2; simp [strLen]; omega
                      · have d59 : ((z2[0].toNat : Int) == 59) = false := by rw [hz2a, h61]; rfl
                        have dz : ((z2.size : Int) == 0) = false := beq_eq_false_iff_ne.2 (by omega)
                        have hq61 : isAt t (nmTo t k) 61 = true := by rw [isAt_yes hnt, h61]; rfl
                        obtain ⟨z3, hz3⟩ : ∃ z3, z2.extract 1 z2.size = z3 := ⟨_, rfl⟩
                        have hz3t : z3 = t.extract (nmTo t k + 1) t.size := by rw [← hz3, suf_suf hz2t (by omega)]
                        have hz3s := suf_size hz3t
                        have hE : stepE t k = valTo t (nmTo t k + 1) := by unfold stepE; rw [hq61]; rfl
                        have hPP : stepP t k = if valOk t (nmTo t k + 1) then some ⟨nmOf t k, valStr t (nmTo t k + 1)⟩ else none := by
                          unfold stepP
                          rw [hq61, if_pos rfl, valOf_eq]
                          cases valOk t (nmTo t k + 1) <;> rfl
                        rw [hE, hPP] at HST
                        have hvb := valTo_bounds (s := t) (j := nmTo t k + 1) (by omega)
                        have HVA := Lib.hid (fun h => valTo_at (s := t) (j := nmTo t k + 1) (by omega) h)
                        have hvs := valStr_size (s := t) (j := nmTo t k + 1) (by omega)
                        have hkj : k + 1 ≤ nmTo t k := by omega
                        clear hE hPP hq61 hat h61 hz2a hzs hz hz2t hz2s hm hto htg hfr hfg hsc hj hjl
                        obtain ⟨j, hj⟩ : ∃ j, j = nmTo t k + 1 := ⟨_, rfl⟩
                        rw [← hj] at HST hvb HVA hvs hz3t hz3s
                        generalize nmOf t k = nm at *
                        by_cases hj1 : j < t.size
                        · have hz30 : 0 < z3.size := by omega
                          have hz3a := suf_at hz3t hz30
                          have dq : ((z3[0].toNat : Int) == 34) = isAt t j 34 := by
                            rw [isAt_yes hj1, hz3a, dE]
                            rfl
                          have dz3 : ((z3.size : Int) == 0) = false := beq_eq_false_iff_ne.2 (by omega)
                          have HZ3 := Lib.hid hz3t
                          have hz3l : z3.size ≤ 1048576 := by omega
                          have HKJ := Lib.hid (show k + 2 ≤ j ∧ y.size = t.size - k from ⟨by omega, suf_size HYY.out⟩)
                          clear hz3a hz3t hj
                          have hz3e : z3.size = t.size - j := hz3s
                          have HZ3S := Lib.hid hz3s
                          clear hz3s hz3e
                          go_wp2_with fail
                          refine (HL.out _).mono ?_
                          rintro e w' ⟨rfl, rfl⟩
                          go_wp2_with fail
                          refine (HU.out _).mono ?_
                          rintro e w' ⟨rfl, rfl⟩
                          go_wp2_with fail
                          refine (HLN.out _).mono ?_
                          rintro e w8 ⟨rfl, b8⟩
                          have HP8 := Lib.hid (HP.out.step b8)
                          clear b8
                          go_wp2_with fail
                          go_quiet (fail)
                          have HP8' := Lib.hid (HP8.out.drewN nq)
                          generalize w8.drewN nq = w9 at *
                          clear HP8
                          have HSS := HST
                          go_upto_if 92 with fail
                          go_cut [0, 4, 7, 8, 9, 10] from 91 to 114 (fun s0 _ s7 s8 _ _ wx => ∃ zf, s0 = .string zf ∧ zf = t.extract (valTo t j) t.size ∧ s7 = .string (valStr t j) ∧ s8 = .bool (isAt t j 34) ∧ PW w mb base lty lsu A c acc wx)
                          case first =>
                            cases hq : isAt t j 34
                            · have hm2 := suf_scan (stp sSe) HZ3.out
                              have hm2z : scan (stp sSe) z3 0 ≤ z3.size := scan_le _ _ _ (Nat.zero_le _)
                              have HU3 := Lib.hid (fun W => rupto_any z3 sSe W (by omega) (by show 1 ≤ _; omega))
                              have e1 : valStr t j = valRaw t j := by unfold valStr; rw [hq]; rfl
                              have e3 : valTo t j = scan (stp sSe) t j := by unfold valTo; rw [hq]; rfl
                              have HBK := Lib.hid (fun W => rback_any (z3.extract 0 (scan (stp sSe) z3 0)) W (by simp; omega))
                              have hbk : cutP whiB (z3.extract 0 (scan (stp sSe) z3 0)) = valStr t j := by
                                rw [e1, suf_head HZ3.out (by have := HZ3S.out; omega), hm2]; rfl
                              rw [hbk] at HBK
                              have HZF := Lib.hid (show z3.extract (scan (stp sSe) z3 0) z3.size = t.extract (valTo t j) t.size from by rw [suf_suf HZ3.out (by have := HZ3S.out; omega), hm2, e3])
                              clear e1 e3 hbk hm2
                              generalize scan (stp sSe) z3 0 = m2 at *
                              generalize valStr t j = vs at *
                              go_wp2_with fail
                              refine (HU3.out _).mono ?_
                              rintro e wx ⟨rfl, rfl⟩
                              go_wp2_with fail
                              go_quiet ((go_at_call 55; exact Calls.quiet_of_same ((HBK.out _).mono fun _ _ h => ⟨h.1, h.2.symm⟩)))
                              go_wp2_with fail
                              go_meet
                              exact ⟨_, rfl, HZF.out, rfl, by rw [hq], HP8'.out.drewN _⟩
                            · have hql := quoS_le (s := t) (k := j + 1) (by omega)
                              have HRD := Lib.hid (fun W => refRead_any z3 W (by omega) (by omega))
                              rw [suf_quoS HZ3.out 1] at HRD
                              have e1 : valStr t j = ⟨(quoS t (j + 1)).1.toArray⟩ := by unfold valStr; rw [hq]; rfl
                              have e3 : valTo t j = scan (stp sSe) t (j + 1 + (quoS t (j + 1)).2) := by unfold valTo; rw [hq]; rfl
                              rw [← e1] at HRD
                              obtain ⟨n4, hn4⟩ : ∃ n4, n4 = 1 + (quoS t (j + 1)).2 := ⟨_, rfl⟩
                              rw [← hn4] at HRD
                              have hn4z : n4 ≤ z3.size := by have := HZ3S.out; omega
                              obtain ⟨z4, hz4⟩ : ∃ z4, z3.extract n4 z3.size = z4 := ⟨_, rfl⟩
                              have hz4t : z4 = t.extract (j + n4) t.size := by rw [← hz4, suf_suf HZ3.out (by have := HZ3S.out; omega)]
                              have hm2 := suf_scan (stp sSe) hz4t
                              have hm2z : scan (stp sSe) z4 0 ≤ z4.size := scan_le _ _ _ (Nat.zero_le _)
                              have hz4s := suf_size hz4t
                              have HU3 := Lib.hid (fun W => rupto_any z4 sSe W (by omega) (by show 1 ≤ _; omega))
                              have HZF := Lib.hid (show z4.extract (scan (stp sSe) z4 0) z4.size = t.extract (valTo t j) t.size from by
                                rw [suf_suf hz4t (by have := HZ3S.out; omega), hm2, e3, hn4, Nat.add_assoc])
                              have hz4l : z4.size ≤ 1048576 := by omega
                              clear e1 e3 hm2 hz4t hz4s hn4 hql
                              generalize scan (stp sSe) z4 0 = m2 at *
                              generalize valStr t j = vs at *
                              go_wp2_with fail
                              refine (HRD.out _).mono ?_
                              rintro e wx ⟨rfl, bx⟩
                              have HPX := Lib.hid (HP8'.out.step bx)
                              clear bx
                              go_wp2_with fail
                              go_quiet (fail)
                              have HPY := Lib.hid (HPX.out.drewN nq)
                              generalize wx.drewN nq = wy at *
                              go_wp2_with fail
                              refine (HU3.out _).mono ?_
                              rintro e wz ⟨rfl, rfl⟩
                              go_wp2_with fail
                              go_meet
                              exact ⟨_, rfl, HZF.out, rfl, by rw [hq], HPY.out⟩
                          case rest =>
                            obtain ⟨zf, rfl, hzf, rfl, rfl, hp9⟩ := hcut
                            have HP9 := Lib.hid hp9
                            have HZF := Lib.hid hzf
                            have HSZ := Lib.hid (show zf.size < y.size from by have h1 := suf_size hzf; have h2 := HKJ.out; omega)
                            have HB9 := Lib.hid (show valTo t j ≤ t.size ∧ k + 1 ≤ valTo t j from by have h2 := HKJ.out; omega)
                            have hvq : valOk t j = (isAt t j 34 || !((valStr t j).toList == [])) := by
                              unfold valOk valStr
                              cases isAt t j 34 <;> simp
                            have hvs2 : (valStr t j).size ≤ 1048576 := by omega
                            have hns2 : nm.size ≤ 1048576 := by omega
                            have HNS := Lib.hid (show nm.size ≤ t.size ∧ (valStr t j).size ≤ t.size from ⟨by omega, by omega⟩)
                            have HLEN := Lib.hid (show (acc ++ [(⟨nm, valStr t j⟩ : Prm)]).length ≤ valTo t j from by have := HB9.out; simp; omega)
                            have hacl : acc.length ≤ 1048576 := by omega
                            clear hp9 hzf HZ3 HZ3S HP8' HKJ hvb hvs
                            generalize hvt : valTo t j = vt at *
                            generalize valStr t j = vs at *
                            generalize valOk t j = vok at *
                            have HTK3 := Lib.hid (fun W => rToken_any nm W (by omega))
                            have HQT := Lib.hid (fun W => rQuoted_any vs W (by omega))
                            have HAT := Lib.hid (fun W (hW : PsIn W A acc) => rAt_any lty lsu A acc c nm W hW hacl)
                            have f0 := HP9.out.m.cell 0
                            have f1 := HP9.out.m.cell 1
                            have f2 := HP9.out.m.cell 2
                            clear f0 f1 f2
                            have hz0' := hz0z
                            have hz2' := hz2z
                            cases hq : isAt t j 34
                            · rw [hq] at hvq
                              cases hv : (vs.toList == [])
                              · have hvk : vok = true := by rw [hvq, hv]; rfl
                                have dv2 : vs.toList.isEmpty = false := by simpa using hv
                                clear hvq
                                cases hnb : needB nm
                                · rw [hnb] at HTK3 HNM
                                  cases hqb : allB quoB vs
                                  · rw [hqb] at HQT
                                    have HRW := Lib.hid (show parS t vt acc = R from by have := HST.out; rw [hvk] at this; simpa [putO, putL, prmB, hqb] using this)
                                    clear hnb hqb HST hvk HNM HAT
                                    have HPX := HP9
                                    go_wp2_with (first
                                      | (go_at_call 54; (with_reducible refine (HTK3.out _).mono ?_); rintro e wx ⟨rfl, rfl⟩)
                                      | (go_at_call 58; (with_reducible refine (HQT.out _).mono ?_); rintro e wx ⟨rfl, rfl⟩))
                                    go_roundw
                                    case rel => exact ⟨vt, acc, zf, A, c, rfl, HZF.out, HB9.out.1, HVA.out, HRW.out, HAL.out, by have := HB9.out.2; omega, HPX.out⟩
                                    case measure => have := HSZ.out; simp [strLen]; omega
                                  · rw [hqb] at HQT
                                    have hai := atI_ge acc nm
                                    cases hse : seenB acc nm
                                    · have da : decide (atI acc nm < 0) = true := by rw [hse] at hai; simpa using hai
                                      have HRW := Lib.hid (show parS t vt (acc ++ [⟨nm, vs⟩]) = R from by have := HST.out; rw [hvk] at this; simpa [putO, putL, prmB, hqb, hse, HNM.out] using this)
                                      clear hnb hqb HST hvk HNM hai hse
                                      go_wp2_with fail
                                      refine (HTK3.out _).mono ?_
                                      rintro e wx ⟨rfl, rfl⟩
                                      go_wp2_with fail
                                      refine (HQT.out _).mono ?_
                                      rintro e wx ⟨rfl, rfl⟩
                                      have f0 := HP9.out.m.cell 0
                                      have f1 := HP9.out.m.cell 1
                                      have f2 := HP9.out.m.cell 2
                                      go_wp2_with fail
                                      refine (HAT.out _ HP9.out.ps).mono ?_
                                      rintro e wx ⟨rfl, bx⟩
                                      have HPX := Lib.hid (HP9.out.step bx)
                                      clear bx f0 f1 f2
                                      have f2 := HPX.out.m.cell 2
                                      go_wp2_with (at_builtin; refine wpList_append_own _ rfl _ _ 24 rfl base 51 i0 _ 2 32 Tryz.underlying24 hi hz0' hz1 hz2' rfl (by decide) _ _ _ rfl (HPX.out.own.alloc _) ⟨wx.heap.size, 0, none⟩ 1 1 [.string nm, .string vs] rfl rfl ?_ ?_ ?_ ?_ ?_ ?_)
                                      · intro j u hj
                                        have hcb := Blk.new wx 51 #[.string nm, .string vs]
                                        have e : (⟨wx.heap.size, 0, none⟩ : Addr).add j = ⟨wx.heap.size, j, none⟩ := by cases j <;> simp [Addr.add]
                                        rw [e, hcb.cell]
                                        simpa using hj
                                      · intro u hu
                                        simp at hu
                                        rcases hu with rfl | rfl <;> rfl
                                      · unfold maxLen; omega
                                      · omega
                                      · have := HPX.out.s; simp; omega
                                      · intro v' w7 hown' hgrow hnil
                                        have hown2 : w7.ownsRow base 51 2 v' (acc ++ [⟨nm, vs⟩] : List Prm).length (prmL (acc ++ [⟨nm, vs⟩])) := by rw [prmL_snoc, List.length_append]; exact hown'
                                        obtain ⟨A', c', rfl⟩ := own_shape hown2
                                        have HO7 := Lib.hid hown2
                                        have hb7 := Below.grown (((Below.refl base wx).alloc HPX.out.s (.cells #[.string nm, .string vs] 51))) hgrow (by have := HPX.out.s; simp; omega) (fun g hg => (HPX.out.own.lt g hg).1)
                                        have HM7 := Lib.hid (HPX.out.m.below hb7 hmw)
                                        have HR7 := Lib.hid (HPX.out.r.below hb7 (by omega))
                                        have HBB7 := Lib.hid (HPX.out.b.trans (hb7.mono (by omega)))
                                        have hs7 : base ≤ w7.heap.size := Nat.le_trans HPX.out.s hb7.size
                                        have e2 := HM7.out.cell 2
                                        have y2 := HM7.out.frozen 2
                                        clear hown2 hown' hgrow hnil hb7 f2 HPX
                                        have hm7 : Mv w7.heap.size [mb] w7 (w7.setCell ⟨mb, 2, none⟩ (.slice A' (acc ++ [⟨nm, vs⟩] : List Prm).length c')) := (Mv.refl _ _ _).setCell (.inl (by simp)) _
                                        have HP7 := Lib.hid (show PW w mb base lty lsu A' c' (acc ++ [⟨nm, vs⟩]) (w7.setCell ⟨mb, 2, none⟩ (.slice A' (acc ++ [⟨nm, vs⟩] : List Prm).length c')) from
                                          ⟨own_keep HO7.out hm7 (by simp; omega), HM7.out.set_ 2 _, HR7.out.far (by show w.heap.size ≠ mb; omega) _, HBB7.out.setCell (by show w.heap.size ≤ mb; omega) _, by simpa using hs7⟩)
                                        clear hm7
                                        generalize hln : (acc ++ [⟨nm, vs⟩] : List Prm).length = ln at *
                                        have HLN2 := Lib.hid hln
                                        clear hln
                                        go_wp2
                                        go_roundw
                                        case rel => exact ⟨vt, acc ++ [⟨nm, vs⟩], zf, A', c', rfl, HZF.out, HB9.out.1, HVA.out, HRW.out, HAL.out.snoc HNS.out.1 HNS.out.2, by rw [HLN2.out]; exact HLEN.out, HP7.out⟩
                                        case measure => have := HSZ.out; simp [strLen]; omega
                                    · have da : decide (atI acc nm < 0) = false := by rw [hse] at hai; simpa using hai
                                      have HRW := Lib.hid (show parS t vt acc = R from by have := HST.out; rw [hvk] at this; simpa [putO, putL, prmB, hqb, hse, HNM.out] using this)
                                      clear hnb hqb HST hvk HNM hai hse
                                      go_wp2_with fail
                                      refine (HTK3.out _).mono ?_
                                      rintro e wx ⟨rfl, rfl⟩
                                      go_wp2_with fail
                                      refine (HQT.out _).mono ?_
                                      rintro e wx ⟨rfl, rfl⟩
                                      have f0 := HP9.out.m.cell 0
                                      have f1 := HP9.out.m.cell 1
                                      have f2 := HP9.out.m.cell 2
                                      go_wp2_with fail
                                      refine (HAT.out _ HP9.out.ps).mono ?_
                                      rintro e wx ⟨rfl, bx⟩
                                      have HPX := Lib.hid (HP9.out.step bx)
                                      clear bx f0 f1 f2
                                      go_wp2
                                      go_roundw
                                      case rel => exact ⟨vt, acc, zf, A, c, rfl, HZF.out, HB9.out.1, HVA.out, HRW.out, HAL.out, by have := HB9.out.2; omega, HPX.out⟩
                                      case measure => have := HSZ.out; simp [strLen]; omega
                                · rw [hnb] at HTK3 HNM
                                  have HRW := Lib.hid (show parS t vt acc = R from by have := HST.out; rw [hvk] at this; simpa [putO, putL, prmB, HNM.out] using this)
                                  clear hnb HST hvk HNM HAT HQT
                                  have HPX := HP9
                                  go_wp2_with (go_at_call 54; (with_reducible refine (HTK3.out _).mono ?_); rintro e wx ⟨rfl, rfl⟩)
                                  go_roundw
                                  case rel => exact ⟨vt, acc, zf, A, c, rfl, HZF.out, HB9.out.1, HVA.out, HRW.out, HAL.out, by have := HB9.out.2; omega, HPX.out⟩
                                  case measure => have := HSZ.out; simp [strLen]; omega
                              · have hvk : vok = false := by rw [hvq, hv]; rfl
                                have HRW := Lib.hid (show parS t vt acc = R from by have := HST.out; rw [hvk] at this; exact this)
                                have dv2 : vs.toList.isEmpty = true := by simpa using hv
                                clear hvq HST
                                go_wp2
                                go_roundw
                                case rel => exact ⟨vt, acc, zf, A, c, rfl, HZF.out, HB9.out.1, HVA.out, HRW.out, HAL.out, by have := HB9.out.2; omega, HP9.out⟩
                                case measure => have := HSZ.out; simp [strLen]; omega
                            · rw [hq] at hvq
                              have hvk : vok = true := by rw [hvq]; rfl
                              clear hvq
                              cases hnb : needB nm
                              · rw [hnb] at HTK3 HNM
                                cases hqb : allB quoB vs
                                · rw [hqb] at HQT
                                  have HRW := Lib.hid (show parS t vt acc = R from by have := HST.out; rw [hvk] at this; simpa [putO, putL, prmB, hqb] using this)
                                  clear hnb hqb HST hvk HNM HAT
                                  have HPX := HP9
                                  go_wp2_with (first
                                    | (go_at_call 54; (with_reducible refine (HTK3.out _).mono ?_); rintro e wx ⟨rfl, rfl⟩)
                                    | (go_at_call 58; (with_reducible refine (HQT.out _).mono ?_); rintro e wx ⟨rfl, rfl⟩))
                                  go_roundw
                                  case rel => exact ⟨vt, acc, zf, A, c, rfl, HZF.out, HB9.out.1, HVA.out, HRW.out, HAL.out, by have := HB9.out.2; omega, HPX.out⟩
                                  case measure => have := HSZ.out; simp [strLen]; omega
                                · rw [hqb] at HQT
                                  have hai := atI_ge acc nm
                                  cases hse : seenB acc nm
                                  · have da : decide (atI acc nm < 0) = true := by rw [hse] at hai; simpa using hai
                                    have HRW := Lib.hid (show parS t vt (acc ++ [⟨nm, vs⟩]) = R from by have := HST.out; rw [hvk] at this; simpa [putO, putL, prmB, hqb, hse, HNM.out] using this)
                                    clear hnb hqb HST hvk HNM hai hse
                                    go_wp2_with fail
                                    refine (HTK3.out _).mono ?_
                                    rintro e wx ⟨rfl, rfl⟩
                                    go_wp2_with fail
                                    refine (HQT.out _).mono ?_
                                    rintro e wx ⟨rfl, rfl⟩
                                    have f0 := HP9.out.m.cell 0
                                    have f1 := HP9.out.m.cell 1
                                    have f2 := HP9.out.m.cell 2
                                    go_wp2_with fail
                                    refine (HAT.out _ HP9.out.ps).mono ?_
                                    rintro e wx ⟨rfl, bx⟩
                                    have HPX := Lib.hid (HP9.out.step bx)
                                    clear bx f0 f1 f2
                                    have f2 := HPX.out.m.cell 2
                                    go_wp2_with (at_builtin; refine wpList_append_own _ rfl _ _ 24 rfl base 51 i0 _ 2 32 Tryz.underlying24 hi hz0' hz1 hz2' rfl (by decide) _ _ _ rfl (HPX.out.own.alloc _) ⟨wx.heap.size, 0, none⟩ 1 1 [.string nm, .string vs] rfl rfl ?_ ?_ ?_ ?_ ?_ ?_)
                                    · intro j u hj
                                      have hcb := Blk.new wx 51 #[.string nm, .string vs]
                                      have e : (⟨wx.heap.size, 0, none⟩ : Addr).add j = ⟨wx.heap.size, j, none⟩ := by cases j <;> simp [Addr.add]
                                      rw [e, hcb.cell]
                                      simpa using hj
                                    · intro u hu
                                      simp at hu
                                      rcases hu with rfl | rfl <;> rfl
                                    · unfold maxLen; omega
                                    · omega
                                    · have := HPX.out.s; simp; omega
                                    · intro v' w7 hown' hgrow hnil
                                      have hown2 : w7.ownsRow base 51 2 v' (acc ++ [⟨nm, vs⟩] : List Prm).length (prmL (acc ++ [⟨nm, vs⟩])) := by rw [prmL_snoc, List.length_append]; exact hown'
                                      obtain ⟨A', c', rfl⟩ := own_shape hown2
                                      have HO7 := Lib.hid hown2
                                      have hb7 := Below.grown (((Below.refl base wx).alloc HPX.out.s (.cells #[.string nm, .string vs] 51))) hgrow (by have := HPX.out.s; simp; omega) (fun g hg => (HPX.out.own.lt g hg).1)
                                      have HM7 := Lib.hid (HPX.out.m.below hb7 hmw)
                                      have HR7 := Lib.hid (HPX.out.r.below hb7 (by omega))
                                      have HBB7 := Lib.hid (HPX.out.b.trans (hb7.mono (by omega)))
                                      have hs7 : base ≤ w7.heap.size := Nat.le_trans HPX.out.s hb7.size
                                      have e2 := HM7.out.cell 2
                                      have y2 := HM7.out.frozen 2
                                      clear hown2 hown' hgrow hnil hb7 f2 HPX
                                      have hm7 : Mv w7.heap.size [mb] w7 (w7.setCell ⟨mb, 2, none⟩ (.slice A' (acc ++ [⟨nm, vs⟩] : List Prm).length c')) := (Mv.refl _ _ _).setCell (.inl (by simp)) _
                                      have HP7 := Lib.hid (show PW w mb base lty lsu A' c' (acc ++ [⟨nm, vs⟩]) (w7.setCell ⟨mb, 2, none⟩ (.slice A' (acc ++ [⟨nm, vs⟩] : List Prm).length c')) from
                                        ⟨own_keep HO7.out hm7 (by simp; omega), HM7.out.set_ 2 _, HR7.out.far (by show w.heap.size ≠ mb; omega) _, HBB7.out.setCell (by show w.heap.size ≤ mb; omega) _, by simpa using hs7⟩)
                                      clear hm7
                                      generalize hln : (acc ++ [⟨nm, vs⟩] : List Prm).length = ln at *
                                      have HLN2 := Lib.hid hln
                                      clear hln
                                      go_wp2
                                      go_roundw
                                      case rel => exact ⟨vt, acc ++ [⟨nm, vs⟩], zf, A', c', rfl, HZF.out, HB9.out.1, HVA.out, HRW.out, HAL.out.snoc HNS.out.1 HNS.out.2, by rw [HLN2.out]; exact HLEN.out, HP7.out⟩
                                      case measure => have := HSZ.out; simp [strLen]; omega
                                  · have da : decide (atI acc nm < 0) = false := by rw [hse] at hai; simpa using hai
                                    have HRW := Lib.hid (show parS t vt acc = R from by have := HST.out; rw [hvk] at this; simpa [putO, putL, prmB, hqb, hse, HNM.out] using this)
                                    clear hnb hqb HST hvk HNM hai hse
                                    go_wp2_with fail
                                    refine (HTK3.out _).mono ?_
                                    rintro e wx ⟨rfl, rfl⟩
                                    go_wp2_with fail
                                    refine (HQT.out _).mono ?_
                                    rintro e wx ⟨rfl, rfl⟩
                                    have f0 := HP9.out.m.cell 0
                                    have f1 := HP9.out.m.cell 1
                                    have f2 := HP9.out.m.cell 2
                                    go_wp2_with fail
                                    refine (HAT.out _ HP9.out.ps).mono ?_
                                    rintro e wx ⟨rfl, bx⟩
                                    have HPX := Lib.hid (HP9.out.step bx)
                                    clear bx f0 f1 f2
                                    go_wp2
                                    go_roundw
                                    case rel => exact ⟨vt, acc, zf, A, c, rfl, HZF.out, HB9.out.1, HVA.out, HRW.out, HAL.out, by have := HB9.out.2; omega, HPX.out⟩
                                    case measure => have := HSZ.out; simp [strLen]; omega
                              · rw [hnb] at HTK3 HNM
                                have HRW := Lib.hid (show parS t vt acc = R from by have := HST.out; rw [hvk] at this; simpa [putO, putL, prmB, HNM.out] using this)
                                clear hnb HST hvk HNM HAT HQT
                                have HPX := HP9
                                go_wp2_with (go_at_call 54; (with_reducible refine (HTK3.out _).mono ?_); rintro e wx ⟨rfl, rfl⟩)
                                go_roundw
                                case rel => exact ⟨vt, acc, zf, A, c, rfl, HZF.out, HB9.out.1, HVA.out, HRW.out, HAL.out, by have := HB9.out.2; omega, HPX.out⟩
                                case measure => have := HSZ.out; simp [strLen]; omega
                        · have hjj : j = t.size := by omega
                          have hvo : valOk t j = false := valOk_end (by omega)
                          have HRE := Lib.hid (show acc = R from by
                            have := HST.out
                            rw [hvo, parS_end _ (by omega)] at this
                            exact this)
                          have hz30 : z3.size = 0 := by omega
                          have dz3 : ((z3.size : Int) == 0) = true := by rw [hz30]; rfl
                          clear hz3t hz3s hj hjj hvo HST HNM hvb hvs
                          go_wp2_with fail
                          refine (HL.out _).mono ?_
                          rintro e w' ⟨rfl, rfl⟩
                          go_wp2_with fail
                          refine (HU.out _).mono ?_
                          rintro e w' ⟨rfl, rfl⟩
                          go_wp2_with fail
                          refine (HLN.out _).mono ?_
                          rintro e w8 ⟨rfl, b8⟩
                          have HP8 := Lib.hid (HP.out.step b8)
                          clear b8
                          have c0 := HP8.out.m.cell 0
                          have c1 := HP8.out.m.cell 1
                          have c2 := HP8.out.m.cell 2
                          have d0 := HP8.out.r.cell 0
                          have d1 := HP8.out.r.cell 1
                          have d2 := HP8.out.r.cell 2
                          have z0 := HP8.out.r.frozen 0
                          have z1 := HP8.out.r.frozen 1
                          have z2 := HP8.out.r.frozen 2
                          go_wp2
                          refine bodyPost_ret (v := .tuple #[mimV lty lsu A acc.length c, .int .i64 0]) (by simp [results, Tryz.results35, go_sem, d0, d1, d2]; done) rfl ?_
                          have hm : Mv w8.heap.size [w.heap.size] w8 (((w8.setCell ⟨w.heap.size, 0, none⟩ (.string lty)).setCell ⟨w.heap.size, 1, none⟩ (.string lsu)).setCell ⟨w.heap.size, 2, none⟩ (.slice A acc.length c)) := (((Mv.refl _ _ _).setCell (.inl (by simp)) _).setCell (.inl (by simp)) _).setCell (.inl (by simp)) _
                          have hp : OwnPs _ w.heap.size A c acc := own_base (own_keep HP8.out.own hm (by simp; omega)) (by omega)
                          refine ⟨A, c, by rw [← HRE.out], by rw [← HRE.out]; exact hp, by rw [← HRE.out]; exact HAL.out, ?_⟩
                          exact ((HP8.out.b.setCell (by exact Nat.le_refl _) _).setCell (by exact Nat.le_refl _) _).setCell (by exact Nat.le_refl _) _

                    · have HHH := trivial
                      have hq : isAt t (nmTo t k) 61 = false := isAt_no (by omega)
                      have HRE := Lib.hid (show acc = R from by
                        have := HST.out
                        have e1 : stepE t k = nmTo t k := by unfold stepE; rw [hq]; rfl
                        have e2 : stepP t k = none := by unfold stepP; rw [hq]; rfl
                        rw [e1, e2, parS_end _ (by omega)] at this
                        exact this)
                      have hz20 : z2.size = 0 := by omega
                      clear hzs hz hz2t hz2s hq hm hns HST HNA HNM hto htg hfr hfg
                      go_wp2_with fail
                      refine (HL.out _).mono ?_
                      rintro e w' ⟨rfl, rfl⟩
                      go_wp2_with fail
                      refine (HU.out _).mono ?_
                      rintro e w' ⟨rfl, rfl⟩
                      go_wp2_with fail
                      refine (HLN.out _).mono ?_
                      rintro e w8 ⟨rfl, b8⟩
                      have HP8 := Lib.hid (HP.out.step b8)
                      clear b8
                      have c0 := HP8.out.m.cell 0
                      have c1 := HP8.out.m.cell 1
                      have c2 := HP8.out.m.cell 2
                      have d0 := HP8.out.r.cell 0
                      have d1 := HP8.out.r.cell 1
                      have d2 := HP8.out.r.cell 2
                      have z0 := HP8.out.r.frozen 0
                      have z1 := HP8.out.r.frozen 1
                      have z2 := HP8.out.r.frozen 2
                      go_wp2
                      refine bodyPost_ret (v := .tuple #[mimV lty lsu A acc.length c, .int .i64 0]) (by simp [results, Tryz.results35, go_sem, d0, d1, d2]; done) rfl ?_
                      have hm : Mv w8.heap.size [w.heap.size] w8 (((w8.setCell ⟨w.heap.size, 0, none⟩ (.string lty)).setCell ⟨w.heap.size, 1, none⟩ (.string lsu)).setCell ⟨w.heap.size, 2, none⟩ (.slice A acc.length c)) := (((Mv.refl _ _ _).setCell (.inl (by simp)) _).setCell (.inl (by simp)) _).setCell (.inl (by simp)) _
                      have hp : OwnPs _ w.heap.size A c acc := own_base (own_keep HP8.out.own hm (by simp; omega)) (by omega)
                      refine ⟨A, c, by rw [← HRE.out], by rw [← HRE.out]; exact hp, by rw [← HRE.out]; exact HAL.out, ?_⟩
                      exact ((HP8.out.b.setCell (by exact Nat.le_refl _) _).setCell (by exact Nat.le_refl _) _).setCell (by exact Nat.le_refl _) _
                  · rw [hw] at HL
                    have HSC := Lib.hid (show scan whiB t (j + 1) = nmFr t k from by rw [scan_step hjl (by rw [← hw, hza]; rfl), hsc])
                    have HZ1 := Lib.hid (suf_suf hz (show j + 1 ≤ t.size by omega))
                    clear hza hw hzs hz hsc
                    go_wp2_with (go_at_call 56; (with_reducible refine (HL.out _).mono ?_); rintro e w' ⟨rfl, rfl⟩)
                    go_roundw
                    case rel => exact ⟨j + 1, _, rfl, HZ1.out, by omega, HSC.out, by first | rfl | trivial⟩
                    case measure => simp [strLen]; omega
                · have hjf : j = t.size := by omega
                  have hje : nmFr t k = t.size := by rw [← hsc, scan_end hjf]; exact hjf
                  have hjf2 : j = nmFr t k := by omega
                  subst hjf2
                  have hz00 : z.size = 0 := by omega
                  have HU := Lib.hid (fun W => rupto_any z sSq W (by omega) (by show 2 ≤ _; omega))
                  have hm : nmFr t k + scan (stp sSq) z 0 = nmTo t k := suf_scan (stp sSq) hz
                  have hmz : scan (stp sSq) z 0 ≤ z.size := scan_le _ _ _ (Nat.zero_le _)
                  generalize scan (stp sSq) z 0 = m at *
                  have hns := nmOf_size t k
                  have HLN := Lib.hid (fun W => refLowerS_any (z.extract 0 m) W (by simp; omega))
                  rw [show lowS (z.extract 0 m) = nmOf t k from by rw [suf_head hz (by omega), hm]; rfl] at HLN
                  have HNM := Lib.hid (show nameB (nmOf t k) = !needB (nmOf t k) from by unfold nameB nmOf; rw [lowS_lowS, eqS_self]; simp)
                  obtain ⟨z2, hz2⟩ : ∃ z2, z.extract m z.size = z2 := ⟨_, rfl⟩
                  have hz2t : z2 = t.extract (nmTo t k) t.size := by rw [← hz2, suf_suf hz (by omega), hm]
                  have HZ2 := Lib.hid hz2t
                  have hz2s := suf_size hz2t
                  have hq : isAt t (nmTo t k) 61 = false := isAt_no (by omega)
                  have HRE := Lib.hid (show acc = R from by
                    have := HST.out
                    have e1 : stepE t k = nmTo t k := by unfold stepE; rw [hq]; rfl
                    have e2 : stepP t k = none := by unfold stepP; rw [hq]; rfl
                    rw [e1, e2, parS_end _ (by omega)] at this
                    exact this)
                  have hz20 : z2.size = 0 := by omega
                  clear hzs hz hz2t hz2s hq hm hns HST HNA HNM hto htg hfr hfg
                  go_wp2_with fail
                  refine (HU.out _).mono ?_
                  rintro e w' ⟨rfl, rfl⟩
                  go_wp2_with fail
                  refine (HLN.out _).mono ?_
                  rintro e w8 ⟨rfl, b8⟩
                  have HP8 := Lib.hid (HP.out.step b8)
                  clear b8
                  have c0 := HP8.out.m.cell 0
                  have c1 := HP8.out.m.cell 1
                  have c2 := HP8.out.m.cell 2
                  have d0 := HP8.out.r.cell 0
                  have d1 := HP8.out.r.cell 1
                  have d2 := HP8.out.r.cell 2
                  have z0 := HP8.out.r.frozen 0
                  have z1 := HP8.out.r.frozen 1
                  have z2 := HP8.out.r.frozen 2
                  go_wp2
                  refine bodyPost_ret (v := .tuple #[mimV lty lsu A acc.length c, .int .i64 0]) (by simp [results, Tryz.results35, go_sem, d0, d1, d2]; done) rfl ?_
                  have hm : Mv w8.heap.size [w.heap.size] w8 (((w8.setCell ⟨w.heap.size, 0, none⟩ (.string lty)).setCell ⟨w.heap.size, 1, none⟩ (.string lsu)).setCell ⟨w.heap.size, 2, none⟩ (.slice A acc.length c)) := (((Mv.refl _ _ _).setCell (.inl (by simp)) _).setCell (.inl (by simp)) _).setCell (.inl (by simp)) _
                  have hp : OwnPs _ w.heap.size A c acc := own_base (own_keep HP8.out.own hm (by simp; omega)) (by omega)
                  refine ⟨A, c, by rw [← HRE.out], by rw [← HRE.out]; exact hp, by rw [← HRE.out]; exact HAL.out, ?_⟩
                  exact ((HP8.out.b.setCell (by exact Nat.le_refl _) _).setCell (by exact Nat.le_refl _) _).setCell (by exact Nat.le_refl _) _
            · obtain rfl : k = t.size := by omega
              have hy0 : y.size = 0 := by omega
              have HRE := Lib.hid (show acc = R from by rw [← hpar, parS_end acc (Nat.le_refl _)])
              have c0 := HP.out.m.cell 0
              have c1 := HP.out.m.cell 1
              have c2 := HP.out.m.cell 2
              have d0 := HP.out.r.cell 0
              have d1 := HP.out.r.cell 1
              have d2 := HP.out.r.cell 2
              have z0 := HP.out.r.frozen 0
              have z1 := HP.out.r.frozen 1
              have z2 := HP.out.r.frozen 2
              go_wp2
              refine bodyPost_ret (v := .tuple #[mimV lty lsu A acc.length c, .int .i64 0]) (by simp [results, Tryz.results35, go_sem, d0, d1, d2]; done) rfl ?_
              have hm : Mv wr.heap.size [w.heap.size] wr (((wr.setCell ⟨w.heap.size, 0, none⟩ (.string lty)).setCell ⟨w.heap.size, 1, none⟩ (.string lsu)).setCell ⟨w.heap.size, 2, none⟩ (.slice A acc.length c)) := (((Mv.refl _ _ _).setCell (.inl (by simp)) _).setCell (.inl (by simp)) _).setCell (.inl (by simp)) _
              have hp : OwnPs _ w.heap.size A c acc := own_base (own_keep HP.out.own hm (by simp; omega)) (by omega)
              refine ⟨A, c, by rw [← HRE.out], by rw [← HRE.out]; exact hp, by rw [← HRE.out]; exact HAL.out, ?_⟩
              exact ((HP.out.b.setCell (by exact Nat.le_refl _) _).setCell (by exact Nat.le_refl _) _).setCell (by exact Nat.le_refl _) _
      · exact absurd hbT (by unfold saysB; rw [hn2]; simp)
    · exact absurd hbT (by unfold saysB; rw [decide_eq_false h1]; simp)
  · exact absurd hbT (by unfold saysB; rw [hn1]; simp)

end Go.Proofs.YtighgoefmccagaaGreat
namespace Go.Proofs.YtighgoefmccagaaGreat
open Go.RowKit

set_option maxHeartbeats 4000000 in
set_option maxRecDepth 100000 in
theorem rparse_no (s : ByteArray) (w : World) (hs : s.size ≤ 1048576) (hbT : saysB (trimP whiB s) = false) :
    Calls Tryz.prog 35 #[.string s] w fun e w' => SaysNo w e w' := by
  unfold SaysNo
  have hts := trimP_size whiB s
  have HT := Lib.hid (fun W => refTrim_any s W (by omega))
  generalize trimP whiB s = t at *
  have ht' : t.size ≤ 9223372036854775807 := by omega
  have hty := tyTo_le t
  have hsz1 := tyOf_size t
  have hsz2 := suOf_size t
  have HU := Lib.hid (fun W => rupto_any t sSl W ht' (by show 1 ≤ _; omega))
  have e1 : scan (stp sSl) t 0 = tyTo t := rfl
  have e2 : t.extract 0 (tyTo t) = tyOf t := rfl
  rw [e1] at HU
  have HTK := Lib.hid (fun W => rToken_any (tyOf t) W (by omega))
  obtain ⟨w0, hw0⟩ : ∃ w0, w0 = w.alloc (.cells #[.string ⟨#[]⟩, .string ⟨#[]⟩, .slice none 0 0] 26) := ⟨_, rfl⟩
  have HB0 := Lib.hid (show Below w.heap.size w w0 from by rw [hw0]; exact (Below.refl _ _).alloc (Nat.le_refl _) _)
  have HR0 := Lib.hid (show Blk w0 w.heap.size 26 #[.string ⟨#[]⟩, .string ⟨#[]⟩, .slice none 0 0] from by rw [hw0]; exact Blk.new _ _ _)
  have c0 := HR0.out.cell 0
  have c1 := HR0.out.cell 1
  have c2 := HR0.out.cell 2
  have z0 := HR0.out.frozen 0
  have z1 := HR0.out.frozen 1
  have z2 := HR0.out.frozen 2
  have e2' : Hid (t.extract 0 (tyTo t) = tyOf t) := e2
  clear e1 e2
  cases hn1 : needB (tyOf t)
  · rw [hn1] at HTK
    by_cases h1 : tyTo t < t.size
    · have d1 : ((tyTo t : Int) == (t.size : Int)) = false := by simp; omega
      have hsu := suTo_le h1
      have hsg := suTo_ge t
      have HLT := Lib.hid (fun W => refLowerS_any (tyOf t) W (by omega))
      obtain ⟨x, hx⟩ : ∃ x, x = t.extract (tyTo t + 1) t.size := ⟨_, rfl⟩
      have hxs := suf_size hx
      have HX := Lib.hid hx
      have hsc := suf_scan (stp sSe) hx
      have e3 : scan (stp sSe) t (tyTo t + 1) = suTo t := rfl
      rw [e3] at hsc
      have hx1 : x.extract 0 (scan (stp sSe) x 0) = t.extract (tyTo t + 1) (suTo t) := by rw [suf_head hx (by omega), hsc]
      have e4 : cutP whiB (t.extract (tyTo t + 1) (suTo t)) = suOf t := rfl
      have HU2 := Lib.hid (fun W => rupto_any x sSe W (by omega) (by show 1 ≤ _; omega))
      have HBK := Lib.hid (fun W => rback_any (x.extract 0 (scan (stp sSe) x 0)) W (by simp; omega))
      rw [show cutP whiB (x.extract 0 (scan (stp sSe) x 0)) = suOf t from by rw [hx1]; rfl] at HBK
      have HTK2 := Lib.hid (fun W => rToken_any (suOf t) W (by omega))
      have HX2 : Hid (x.extract (scan (stp sSe) x 0) x.size = t.extract (suTo t) t.size) := by
        show _ = _
        rw [suf_suf hx (by omega), hsc]
      have hnx : scan (stp sSe) x 0 ≤ x.size := scan_le _ _ _ (Nat.zero_le _)
      clear e3 e4 hx1 hx hxs
      generalize hnn : scan (stp sSe) x 0 = n at *
      have g1 : ((tyTo t : Nat) : Int) + 1 ≤ (t.size : Int) := by omega
      have g2 : ((tyTo t : Int) + 1).toNat = tyTo t + 1 := by omega
      cases hn2 : needB (suOf t)
      · exact absurd hbT (by unfold saysB; rw [hn1, hn2, decide_eq_true h1]; simp)
      · rw [hn2] at HTK2
        clear hbT hn1 hn2
        generalize tyOf t = ty at *
        generalize suOf t = su at *
        generalize lowS ty = lty at *
        go_enter Tryz.func35, Tryz.ntmps35
        go_wp2_with fail
        rw [← hw0]
        clear hw0
        go_wp2_with fail
        refine (HT.out _).mono ?_
        rintro e w1 ⟨rfl, rfl⟩
        go_wp2_with fail
        refine (HU.out _).mono ?_
        rintro e w1 ⟨rfl, rfl⟩
        go_wp2_with fail
        rw [e2'.out]
        refine (HTK.out _).mono ?_
        rintro e w1 ⟨rfl, rfl⟩
        go_wp2_with fail
        rw [e2'.out]
        refine (HLT.out _).mono ?_
        rintro e w2 ⟨rfl, b2⟩
        have HB2 := Lib.hid (below_on HB0.out b2)
        have HR2 := Lib.hid (HR0.out.below b2 HR0.out.lt)
        clear b2 HB0 HR0 c0 c1 c2 z0 z1 z2
        obtain ⟨w3, hw3⟩ : ∃ w3, w3 = w2.alloc (.cells #[.string lty, .string ⟨#[]⟩, .slice none 0 0] 26) := ⟨_, rfl⟩
        have HB3 := Lib.hid (show Below w.heap.size w w3 from by rw [hw3]; exact HB2.out.alloc HB2.out.size _)
        have HR3 := Lib.hid (show Blk w3 w.heap.size 26 _ from by rw [hw3]; exact HR2.out.alloc _)
        have HM3 := Lib.hid (show Blk w3 w2.heap.size 26 #[.string lty, .string ⟨#[]⟩, .slice none 0 0] from by rw [hw3]; exact Blk.new _ _ _)
        have hrm : w.heap.size < w2.heap.size := HR2.out.lt
        have hml : w2.heap.size < w3.heap.size := HM3.out.lt
        clear HB2 HR2
        go_wp2_with fail
        rw [← hw3, ← HX.out]
        clear hw3
        generalize w2.heap.size = mb at *
        refine (HU2.out _).mono ?_
        rintro e w4 ⟨rfl, rfl⟩
        go_wp2_with fail
        refine (HBK.out _).mono ?_
        rintro e w4 ⟨rfl, rfl⟩
        go_wp2_with fail
        refine (HTK2.out _).mono ?_
        rintro e w4 ⟨rfl, rfl⟩
        have c0 := HR3.out.cell 0
        have c1 := HR3.out.cell 1
        have c2 := HR3.out.cell 2
        have z0 := HR3.out.frozen 0
        have z1 := HR3.out.frozen 1
        have z2 := HR3.out.frozen 2
        go_wp2
        refine bodyPost_ret (v := .tuple #[mimV ⟨#[]⟩ ⟨#[]⟩ none 0 0, .int .i64 2]) (by simp [results, Tryz.results35, go_sem, c0, c1, c2]; done) rfl ?_
        exact ⟨rfl, ((HB3.out.setCell (by exact Nat.le_refl _) _).setCell (by exact Nat.le_refl _) _).setCell (by exact Nat.le_refl _) _⟩
    · have d1 : ((tyTo t : Int) == (t.size : Int)) = true := by simp; omega
      clear hbT
      go_enter Tryz.func35, Tryz.ntmps35
      go_wp2_with fail
      rw [← hw0]
      clear hw0
      go_wp2_with fail
      refine (HT.out _).mono ?_
      rintro e w1 ⟨rfl, rfl⟩
      go_wp2_with fail
      refine (HU.out _).mono ?_
      rintro e w1 ⟨rfl, rfl⟩
      go_wp2_with fail
      rw [e2'.out]
      refine (HTK.out _).mono ?_
      rintro e w1 ⟨rfl, rfl⟩
      have c0 := HR0.out.cell 0
      have c1 := HR0.out.cell 1
      have c2 := HR0.out.cell 2
      have z0 := HR0.out.frozen 0
      have z1 := HR0.out.frozen 1
      have z2 := HR0.out.frozen 2
      go_wp2
      refine bodyPost_ret (v := .tuple #[mimV ⟨#[]⟩ ⟨#[]⟩ none 0 0, .int .i64 2]) (by simp [results, Tryz.results35, go_sem, c0, c1, c2]; done) rfl ?_
      exact ⟨rfl, ((HB0.out.setCell (by exact Nat.le_refl _) _).setCell (by exact Nat.le_refl _) _).setCell (by exact Nat.le_refl _) _⟩
  · rw [hn1] at HTK
    clear hbT
    go_enter Tryz.func35, Tryz.ntmps35
    go_wp2_with fail
    rw [← hw0]
    clear hw0
    go_wp2_with fail
    refine (HT.out _).mono ?_
    rintro e w1 ⟨rfl, rfl⟩
    go_wp2_with fail
    refine (HU.out _).mono ?_
    rintro e w1 ⟨rfl, rfl⟩
    go_wp2_with fail
    rw [e2'.out]
    refine (HTK.out _).mono ?_
    rintro e w1 ⟨rfl, rfl⟩
    have c0 := HR0.out.cell 0
    have c1 := HR0.out.cell 1
    have c2 := HR0.out.cell 2
    have z0 := HR0.out.frozen 0
    have z1 := HR0.out.frozen 1
    have z2 := HR0.out.frozen 2
    go_wp2
    refine bodyPost_ret (v := .tuple #[mimV ⟨#[]⟩ ⟨#[]⟩ none 0 0, .int .i64 2]) (by simp [results, Tryz.results35, go_sem, c0, c1, c2]; done) rfl ?_
    exact ⟨rfl, ((HB0.out.setCell (by exact Nat.le_refl _) _).setCell (by exact Nat.le_refl _) _).setCell (by exact Nat.le_refl _) _⟩

end Go.Proofs.YtighgoefmccagaaGreat
namespace Go.Proofs.YtighgoefmccagaaGreat
open Go.RowKit

/-- A type, and where its parameters lie. -/
structure Trw where
  m : Mty
  A : Option Addr
  c : Nat
def Mty.small (m : Mty) : Prop := m.t.size ≤ 1048576 ∧ m.u.size ≤ 1048576 ∧ AllIn 1048576 m.ps ∧ m.ps.length + 1 ≤ 1048576
def trwL (R : List Trw) : List Value := R.flatMap fun r => [.string r.m.t, .string r.m.u, .slice r.A r.m.ps.length r.c]
theorem trwL_snoc (R : List Trw) (r : Trw) : trwL (R ++ [r]) = trwL R ++ [.string r.m.t, .string r.m.u, .slice r.A r.m.ps.length r.c] := by simp [trwL]
theorem trwL_at : ∀ (R : List Trw) (i : Nat) (h : i < R.length), (trwL R)[i * 3]? = some (.string R[i].m.t) ∧ (trwL R)[i * 3 + 1]? = some (.string R[i].m.u) ∧ (trwL R)[i * 3 + 2]? = some (.slice R[i].A R[i].m.ps.length R[i].c)
  | r :: q, 0, _ => by
    simp [trwL]
  | r :: q, i + 1, h => by
    have := trwL_at q i (by simpa using h)
    have e : trwL (r :: q) = [.string r.m.t, .string r.m.u, .slice r.A r.m.ps.length r.c] ++ trwL q := by simp [trwL]
    rw [e]
    refine ⟨?_, ?_, ?_⟩ <;> rw [List.getElem?_append_right (by simp; omega)]
    · rw [show (i + 1) * 3 - ([.string r.m.t, .string r.m.u, .slice r.A r.m.ps.length r.c] : List Value).length = i * 3 from by simp; omega]; exact this.1
    · rw [show (i + 1) * 3 + 1 - ([.string r.m.t, .string r.m.u, .slice r.A r.m.ps.length r.c] : List Value).length = i * 3 + 1 from by simp; omega]; exact this.2.1
    · rw [show (i + 1) * 3 + 2 - ([.string r.m.t, .string r.m.u, .slice r.A r.m.ps.length r.c] : List Value).length = i * 3 + 2 from by simp; omega]; exact this.2.2

/-- Types whose parameters are of the call's own. -/
def Rows3 (w : World) (base : Nat) (R : List Trw) : Prop := ∀ r ∈ R, OwnPs w base r.A r.c r.m.ps ∧ r.m.small
theorem Rows3.nil (w : World) (base : Nat) : Rows3 w base [] := fun r hr => by cases hr
theorem Rows3.snoc {w : World} {base : Nat} {R : List Trw} (h : Rows3 w base R) {r : Trw} (h1 : OwnPs w base r.A r.c r.m.ps) (h2 : r.m.small) : Rows3 w base (R ++ [r]) := fun q hq => by
  rcases List.mem_append.1 hq with hq | hq
  · exact h q hq
  · simp at hq; rw [hq]; exact ⟨h1, h2⟩
theorem Rows3.below {w w' : World} {base : Nat} {R : List Trw} (h : Rows3 w base R) (hb : Below w.heap.size w w') : Rows3 w' base R := fun r hr => ⟨own_mv (h r hr).1 (Mv.of_below hb []) (by simp), (h r hr).2⟩
theorem Rows3.base {w : World} {base b : Nat} {R : List Trw} (h : Rows3 w base R) (hb : b ≤ base) : Rows3 w b R := fun r hr => ⟨own_base (h r hr).1 hb, (h r hr).2⟩
/-- An append to a slice of types leaves parameters as they are. -/
theorem own_apart {w w' : World} {base b n m size size' : Nat} {e e' : TypeId} {u v : Value} {ys xs : List Value} (h : w.ownsRow base e size u m ys) (hv : w.ownsRow b e' size' v n xs) (he : e ≠ e') (hg : w.grownBy w' v.ownBlock) : w'.ownsRow base e size u m ys := by
  refine ⟨h.1, ?_⟩
  rcases h.2 with h2 | ⟨g, cap, cur, e1, e2, e3, e4⟩
  · exact .inl h2
  · refine .inr ⟨g, cap, cur, e1, e2, (hg.block g (Array.getElem?_eq_some_iff.1 e3).1 (fun e => ?_)).trans e3, e4⟩
    rcases hv.2 with ⟨hv1, _⟩ | ⟨g', cap', cur', hv1, _, hv3, _⟩
    · rw [hv1] at e; cases e
    · rw [hv1] at e
      cases e
      rw [e3] at hv3
      injection hv3 with hv3
      injection hv3 with _ h9
      exact absurd h9 he
theorem own_other {w w' : World} {base b n : Nat} {A : Option Addr} {c : Nat} {ps : List Prm} {v : Value} {xs : List Value} (h : OwnPs w base A c ps) (hv : w.ownsRow b 26 3 v n xs) (hg : w.grownBy w' v.ownBlock) : OwnPs w' base A c ps := own_apart h hv (by decide) hg
theorem Rows3.grown {w w' : World} {base b n : Nat} {R : List Trw} {v : Value} {xs : List Value} (h : Rows3 w base R) (hv : w.ownsRow b 26 3 v n xs) (hg : w.grownBy w' v.ownBlock) : Rows3 w' base R := fun r hr => ⟨own_other (h r hr).1 hv hg, (h r hr).2⟩

theorem Tryz.infoMime : (Tryz.prog.info? 26).map (fun i => (i.zero, i.size, i.bytes)) = some (some (.agg #[.string ⟨#[]⟩, .string ⟨#[]⟩, .slice none 0 0]), 3, 56) := by kernel_rfl

/-- What a call of All gives. -/
def NewTys (l : List Mty) (w : World) (e : Ending) (w' : World) : Prop := ∃ v R, e = .returned v ∧ R.map Trw.m = l ∧ w'.ownsRow w.heap.size 26 3 v R.length (trwL R) ∧ Rows3 w' w.heap.size R ∧ Below w.heap.size w w'

/-- What is read of one piece. -/
def ParseGives (m : Mty) (w : World) (e : Ending) (w' : World) : Prop := ∃ A c, e = .returned (.tuple #[mimV m.t m.u A m.ps.length c, .int .i64 0]) ∧ OwnPs w' w.heap.size A c m.ps ∧ m.small ∧ Below w.heap.size w w'
theorem says_small {T : ByteArray} (h : T.size ≤ 1048575) (ha : AllIn T.size (prOf T)) : (⟨lowS (tyOf T), lowS (suOf T), prOf T⟩ : Mty).small := by
  have h1 := tyOf_size T
  have h2 := suOf_size T
  have h3 := prOf_len T
  refine ⟨?_, ?_, fun p hp => ?_, ?_⟩
  · show (lowS (tyOf T)).size ≤ _
    rw [lowS_size]; omega
  · show (lowS (suOf T)).size ≤ _
    rw [lowS_size]; omega
  · have := ha p hp; omega
  · show (prOf T).length + 1 ≤ _
    omega
theorem parse_gives {T : ByteArray} (p : ByteArray) (w : World) (hs : p.size ≤ 1048575) (hT : trimP whiB p = T) (h : saysB T = true) :
    Calls Tryz.prog 41 #[.string p] w (ParseGives ⟨lowS (tyOf T), lowS (suOf T), prOf T⟩ w) := by
  have hz : T.size ≤ p.size := by rw [← hT]; exact trimP_size whiB p
  have := parse_any p w (by omega)
  rw [hT, h] at this
  exact this.mono fun e w' hh => by
    obtain ⟨A, c, h1, h2, h3, h4⟩ := (show SaysYes T w e w' from hh)
    exact ⟨A, c, h1, h2, says_small (by omega) h3, h4⟩
theorem rparse_gives {T : ByteArray} (p : ByteArray) (w : World) (hs : p.size ≤ 1048575) (hT : trimP whiB p = T) (h : saysB T = true) :
    Calls Tryz.prog 35 #[.string p] w (ParseGives ⟨lowS (tyOf T), lowS (suOf T), prOf T⟩ w) := by
  have hz : T.size ≤ p.size := by rw [← hT]; exact trimP_size whiB p
  have := rparse_yes p w (by omega) (by rw [hT]; exact h)
  rw [hT] at this
  exact this.mono fun e w' hh => by
    obtain ⟨A, c, h1, h2, h3, h4⟩ := hh
    exact ⟨A, c, h1, h2, says_small (by omega) h3, h4⟩
theorem parse_not (p : ByteArray) (w : World) (hs : p.size ≤ 1048575) (h : saysB (trimP whiB p) = false) :
    Calls Tryz.prog 41 #[.string p] w (SaysNo w) := by
  have := parse_any p w (by omega)
  rw [h] at this
  exact this.mono fun _ _ hh => hh
/-- What a piece says, and what becomes of that. -/
def Says (p : ByteArray) (m : Mty) : Prop := ∃ T, trimP whiB p = T ∧ saysB T = true ∧ m = ⟨lowS (tyOf T), lowS (suOf T), prOf T⟩
theorem typO_cases (p : ByteArray) : (saysB (trimP whiB p) = false ∧ typO p = none) ∨ (∃ m, Says p m ∧ anyT m.t m.u = true ∧ typO p = none) ∨ (∃ m, Says p m ∧ anyT m.t m.u = false ∧ typO p = some m) := by
  obtain ⟨T, hT⟩ : ∃ T, trimP whiB p = T := ⟨_, rfl⟩
  unfold typO
  rw [hT]
  cases h1 : saysB T
  · exact .inl ⟨rfl, rfl⟩
  · cases h2 : anyT (lowS (tyOf T)) (lowS (suOf T))
    · exact .inr (.inr ⟨⟨lowS (tyOf T), lowS (suOf T), prOf T⟩, ⟨T, hT, h1, rfl⟩, h2, rfl⟩)
    · exact .inr (.inl ⟨⟨lowS (tyOf T), lowS (suOf T), prOf T⟩, ⟨T, hT, h1, rfl⟩, h2, rfl⟩)
theorem Says.parse {p : ByteArray} {m : Mty} (h : Says p m) (w : World) (hs : p.size ≤ 1048575) : Calls Tryz.prog 41 #[.string p] w (ParseGives m w) := by
  obtain ⟨T, hT, h1, rfl⟩ := h
  exact parse_gives p w hs hT h1
theorem Says.rparse {p : ByteArray} {m : Mty} (h : Says p m) (w : World) (hs : p.size ≤ 1048575) : Calls Tryz.prog 35 #[.string p] w (ParseGives m w) := by
  obtain ⟨T, hT, h1, rfl⟩ := h
  exact rparse_gives p w hs hT h1

set_option maxHeartbeats 4000000 in
set_option maxRecDepth 100000 in
theorem all_any (A : Option Addr) (c : Nat) (xs : List ByteArray) (w : World) (h : TxIn w A xs) (hn : xs.length ≤ 700) (hx : ∀ y ∈ xs, y.size ≤ 1000) (hc : xs.length ≤ c) :
    Calls Tryz.prog 28 #[.slice A xs.length c] w (NewTys (allT (valsL xs)) w) := by
  obtain ⟨i0, hi, hz0, hz1, hz2⟩ := info_parts Tryz.infoMime
  have HV := Lib.hid (values_any A c xs w h (by omega) hx hc)
  have hj := joinS_size hx
  have hnb : xs.length * (1000 + 2) ≤ 700 * 1002 := Nat.mul_le_mul hn (Nat.le_refl _)
  obtain ⟨hvs, hvn⟩ := valsL_sizes (n := 701400) (by omega : (joinS xs).size ≤ 701400)
  generalize valsL xs = L at *
  clear h hx hj hnb
  have HVS := Lib.hid (fun i (hi : i < L.length) => hvs L[i] (List.getElem_mem hi))
  obtain ⟨Z, hZ⟩ : ∃ Z, Z = allT L := ⟨_, rfl⟩
  rw [← hZ]
  have HZ := Lib.hid hZ
  clear hvs hZ
  go_enter Tryz.func28, Tryz.ntmps28
  go_wp2_with fail
  refine HV.out.mono ?_
  rintro e w1 ⟨v1, rfl, ho, b1⟩
  obtain ⟨B, d, rfl, hti, _⟩ := TxIn.of_own ho
  have HTI := Lib.hid hti
  have HB1 := Lib.hid b1
  clear ho hti b1 HV
  go_wp2
  go_loopw [3, 11] (fun v i wr => ∃ (k : Nat) (R : List Trw), k ≤ L.length ∧ i = .int .i64 k ∧ R.length ≤ k ∧ R.map Trw.m = allT (L.take k) ∧ wr.ownsRow w1.heap.size 26 3 v R.length (trwL R) ∧ Rows3 wr w1.heap.size R ∧ Below w1.heap.size w1 wr) (fun _ i _ => L.length - (intOf i).toNat)
  case atStart => exact ⟨0, [], Nat.zero_le _, rfl, Nat.zero_le _, rfl, World.ownsRow_nil _ _ _ _, Rows3.nil _ _, Below.refl _ _⟩
  case round =>
    obtain ⟨k, R, hk, rfl, hrk, hmap, hown, hrows, hw⟩ := hrel
    have HO := Lib.hid hown
    have HR := Lib.hid hrows
    have HW := Lib.hid hw
    have HMP := Lib.hid hmap
    have hws : w1.heap.size ≤ wr.heap.size := hw.size
    clear hown hrows hw hmap
    by_cases hlt : k < L.length
    · obtain ⟨g, rfl, hg, hck⟩ := HTI.out k hlt
      have hck' := (HW.out.cell (p := ⟨g, k, none⟩) hg).trans hck
      have HST := Lib.hid (allT_step hlt)
      have hps := HVS.out k hlt
      generalize L[k] = p at hck' hck HST hps
      clear hck
      rcases typO_cases p with ⟨t1, t2⟩ | ⟨m, t1, t2, t3⟩ | ⟨m, t1, t2, t3⟩
      · have HPA := Lib.hid (fun W => parse_not p W (by omega) t1)
        rw [t2] at HST
        have HE := Lib.hid (show R.map Trw.m = allT (L.take (k + 1)) from by rw [HST.out, HMP.out]; simp)
        clear t1 t2 HST HMP
        obtain ⟨ao, n', cap, rfl⟩ := own_slice HO.out
        go_wp2_with fail
        refine (HPA.out _).mono ?_
        rintro e w2 ⟨rfl, b2⟩
        have b3 : Below wr.heap.size wr (w2.alloc (.cells #[.string ⟨#[]⟩, .string ⟨#[]⟩, .slice none 0 0] 26)) := b2.alloc b2.size _
        have HO2 := Lib.hid (own_mv HO.out (Mv.of_below b3 []) (by simp))
        have HR2 := Lib.hid (HR.out.below b3)
        have HW2 := Lib.hid (below_on HW.out b3)
        clear b2 b3 HO HR HW
        go_wp2
        go_roundw
        case rel => exact ⟨k + 1, R, by omega, by go_num, by omega, HE.out, HO2.out, HR2.out, HW2.out⟩
        case measure => simp [intOf]; omega
      · have HPA := Lib.hid (fun W => t1.parse W (by omega))
        rw [t3] at HST
        have HE := Lib.hid (show R.map Trw.m = allT (L.take (k + 1)) from by rw [HST.out, HMP.out]; simp)
        have t4 : (essS m.t m.u).toList == anyS := t2
        clear t1 t2 t3 HST HMP
        obtain ⟨mt, mu, mp⟩ := m
        obtain ⟨ao, n', cap, rfl⟩ := own_slice HO.out
        go_wp2_with fail
        refine (HPA.out _).mono ?_
        rintro e w2 ⟨A2, c2, rfl, ho2, hs2, b2⟩
        have hs20 : mt.size ≤ 1048576 := hs2.1
        have hs21 : mu.size ≤ 1048576 := hs2.2.1
        obtain ⟨w3, hw3⟩ : ∃ w3, w3 = w2.alloc (.cells #[.string mt, .string mu, .slice A2 mp.length c2] 26) := ⟨_, rfl⟩
        have b3 : Below wr.heap.size wr w3 := by rw [hw3]; exact b2.alloc b2.size _
        have HES := Lib.hid (essence_any mt mu A2 mp.length c2 w3 hs20 hs21)
        have HX := Lib.hid (show (essS mt mu).toList == anyS from t4)
        have HC := Lib.hid (show Blk w3 w2.heap.size 26 _ from by rw [hw3]; exact Blk.new _ _ _)
        have c0 := HC.out.cell 0
        have c1 := HC.out.cell 1
        have c2' := HC.out.cell 2
        rw [hw3] at c0 c1 c2'
        go_wp2_with fail
        rw [← hw3]
        clear hw3
        refine HES.out.mono ?_
        rintro e w4 ⟨rfl, b4⟩
        have b5 := below_on b3 b4
        have HC4 := Lib.hid (HC.out.below b4 HC.out.lt)
        have HO2 := Lib.hid (own_mv HO.out (Mv.of_below b5 []) (by simp))
        have HR2 := Lib.hid (HR.out.below b5)
        have HW2 := Lib.hid (below_on HW.out b5)
        have HX2 : (essS mt mu).toList == anyS := HX.out
        clear b2 b3 b4 b5 HO HR HW HES HC c0 c1 c2' ho2
        have e5 : (⟨(essL mt mu).toArray⟩ : ByteArray) = essS mt mu := rfl
        rw [e5]
        generalize essS mt mu = ex at HX2 ⊢
        go_wp2
        go_roundw
        case rel => exact ⟨k + 1, R, by omega, by go_num, by omega, HE.out, HO2.out, HR2.out, HW2.out⟩
        case measure => simp [intOf]; omega
      · have HPA := Lib.hid (fun W => t1.parse W (by omega))
        rw [t3] at HST
        have HE := Lib.hid (show R.map Trw.m ++ [m] = allT (L.take (k + 1)) from by rw [HST.out, HMP.out]; simp)
        have t4 : ((essS m.t m.u).toList == anyS) = false := t2
        clear t1 t2 t3 HST HMP
        obtain ⟨mt, mu, mp⟩ := m
        obtain ⟨ao, n', cap, rfl⟩ := own_slice HO.out
        go_wp2_with fail
        refine (HPA.out _).mono ?_
        rintro e w2 ⟨A2, c2, rfl, ho2, hs2, b2⟩
        have hs20 : mt.size ≤ 1048576 := hs2.1
        have hs21 : mu.size ≤ 1048576 := hs2.2.1
        have HSM := Lib.hid hs2
        obtain ⟨w3, hw3⟩ : ∃ w3, w3 = w2.alloc (.cells #[.string mt, .string mu, .slice A2 mp.length c2] 26) := ⟨_, rfl⟩
        have b3 : Below wr.heap.size wr w3 := by rw [hw3]; exact b2.alloc b2.size _
        have b23 : Below w2.heap.size w2 w3 := by rw [hw3]; exact (Below.refl _ _).alloc (Nat.le_refl _) _
        have HES := Lib.hid (essence_any mt mu A2 mp.length c2 w3 hs20 hs21)
        have HX := Lib.hid (show ((essS mt mu).toList == anyS) = false from t4)
        have HC := Lib.hid (show Blk w3 w2.heap.size 26 _ from by rw [hw3]; exact Blk.new _ _ _)
        have c0 := HC.out.cell 0
        have c1 := HC.out.cell 1
        have c2' := HC.out.cell 2
        rw [hw3] at c0 c1 c2'
        go_wp2_with fail
        rw [← hw3]
        clear hw3
        refine HES.out.mono ?_
        rintro e w4 ⟨rfl, b4⟩
        have b5 := below_on b3 b4
        have HC4 := Lib.hid (HC.out.below b4 HC.out.lt)
        have HO2 := Lib.hid (own_mv HO.out (Mv.of_below b5 []) (by simp))
        have HR2 := Lib.hid (HR.out.below b5)
        have HW2 := Lib.hid (below_on HW.out b5)
        have HP2 := Lib.hid (show OwnPs w4 w1.heap.size A2 c2 mp from own_mv (own_base ho2 hws) (Mv.of_below (below_on b23 b4) []) (by simp))
        have HX2 : ((essS mt mu).toList == anyS) = false := HX.out
        have hw4 : w1.heap.size ≤ w4.heap.size := Nat.le_trans hws b5.size
        clear b2 b3 b23 b4 b5 HO HR HW HES HC c0 c1 c2' ho2 hs2
        have e5 : (⟨(essL mt mu).toArray⟩ : ByteArray) = essS mt mu := rfl
        rw [e5]
        generalize essS mt mu = ex at HX2 ⊢
        have c0 := HC4.out.cell 0
        have c1 := HC4.out.cell 1
        have c2' := HC4.out.cell 2
        go_wp2_with (at_builtin; refine wpList_append_own _ rfl _ _ 54 rfl w1.heap.size 26 i0 _ 3 56 Tryz.underlying54 hi hz0 hz1 hz2 rfl (by decide) _ _ _ rfl (HO2.out.alloc _) ⟨w4.heap.size, 0, none⟩ 1 1 [.string mt, .string mu, .slice A2 mp.length c2] rfl rfl ?c1 ?c2 ?c3 ?c4 ?c5 ?_)
        case c1 =>
          intro j u hj
          have hcb := Blk.new w4 26 #[.string mt, .string mu, .slice A2 mp.length c2]
          have e : (⟨w4.heap.size, 0, none⟩ : Addr).add j = ⟨w4.heap.size, j, none⟩ := by cases j <;> simp [Addr.add]
          rw [e, hcb.cell]
          simpa using hj
        case c2 =>
          intro u hu
          simp at hu
          rcases hu with rfl | rfl | rfl <;> rfl
        case c3 => unfold maxLen; omega
        case c4 => omega
        case c5 => simp; omega
        intro v' w5 hown' hgrow _
        have HO5 := Lib.hid (show w5.ownsRow w1.heap.size 26 3 v' (R ++ [(⟨⟨mt, mu, mp⟩, A2, c2⟩ : Trw)]).length (trwL (R ++ [⟨⟨mt, mu, mp⟩, A2, c2⟩])) from by rw [trwL_snoc, List.length_append]; exact hown')
        have HB5 := Lib.hid (Below.grown (HW2.out.alloc HW2.out.size _) hgrow (by simp; omega) (fun g hg => (HO2.out.lt g hg).1))
        have HR5 := Lib.hid (((HR2.out.below ((Below.refl _ _).alloc (Nat.le_refl _) _)).grown (HO2.out.alloc _) hgrow).snoc (r := ⟨⟨mt, mu, mp⟩, A2, c2⟩) (own_other (own_mv HP2.out (Mv.of_below ((Below.refl _ _).alloc (Nat.le_refl _) _) []) (by simp)) (HO2.out.alloc _) hgrow) HSM.out)
        clear hown' hgrow HO2 HR2 HW2 HP2 HC4 c0 c1 c2'
        go_wp2
        go_roundw
        case rel => exact ⟨k + 1, R ++ [⟨⟨mt, mu, mp⟩, A2, c2⟩], by omega, by go_num, by simp; omega, by rw [List.map_append]; exact HE.out, HO5.out, HR5.out, HB5.out⟩
        case measure => simp [intOf]; omega
    · obtain rfl : k = L.length := by omega
      have HE := Lib.hid (show R.map Trw.m = Z from by rw [HZ.out, ← allT_all L]; exact HMP.out)
      go_wp2
      go_ret
      exact ⟨_, R, rfl, HE.out, own_base HO.out HB1.out.size, HR.out.base HB1.out.size, below_on HB1.out HW.out⟩

end Go.Proofs.YtighgoefmccagaaGreat
