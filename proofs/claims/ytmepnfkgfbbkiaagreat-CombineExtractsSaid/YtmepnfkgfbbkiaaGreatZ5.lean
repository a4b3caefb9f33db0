/-
  What the document's Extract of layer 11 answers. Condition: seven hundred values of a thousand bytes.
  The law CombineParts returns true of any texts. Condition: texts are as long as a length can be; what an argument's reading gives.
  The law CombineExtracts returns true of any texts. Condition: texts are as long as a length can be; what an argument's reading gives.
-/
import Derived.Test.YtmepnfkgfbbkiaaGreatZ3
import Derived.Test.YtmepnfkgfbbkiaaGreatZ4
import Derived.Test.YtmepnfkgfbbkiaaGreatMt
import Derived.Test.YtmepnfkgfbbkiaaGreatMs
namespace Go.Proofs.YtmepnfkgfbbkiaaGreat
open Go.RowKit

set_option maxHeartbeats 4000000 in
set_option maxRecDepth 100000 in
theorem rextract_any (A : Option Addr) (c : Nat) (xs : List ByteArray) (w : World) (h : TxIn w A xs) (hn : xs.length ≤ 700) (hx : ∀ y ∈ xs, y.size ≤ 1000) :
    Calls Tryz.prog 16 #[.slice A xs.length c] w (ExtGives (extT (allT (valsL xs))).1 (codeOf (allT (valsL xs))) w.heap.size w) := by
  obtain ⟨w0, hw0⟩ : ∃ w0, w0 = w.alloc (.cells #[.string ⟨#[]⟩, .string ⟨#[]⟩, .slice none 0 0] 35) := ⟨_, rfl⟩
  have HB0 := Lib.hid (show Below w.heap.size w w0 from by rw [hw0]; exact (Below.refl _ _).alloc (Nat.le_refl _) _)
  have HR0 := Lib.hid (show Blk w0 w.heap.size 35 #[.string ⟨#[]⟩, .string ⟨#[]⟩, .slice none 0 0] from by rw [hw0]; exact Blk.new _ _ _)
  have HA := Lib.hid (rall_any A c xs w0 (h.below HB0.out) hn hx)
  have hzl := tys_len hn hx
  obtain ⟨Z, hZ⟩ : ∃ Z, Z = allT (valsL xs) := ⟨_, rfl⟩
  rw [← hZ] at HA hzl ⊢
  obtain ⟨E, hE⟩ : ∃ E, E = (extT Z).1 := ⟨_, rfl⟩
  obtain ⟨code, hco⟩ : ∃ code, code = codeOf Z := ⟨_, rfl⟩
  rw [← hE, ← hco]
  have HE := Lib.hid hE
  have HCO := Lib.hid hco
  clear hE hco
  obtain ⟨ft, fu, fp⟩ := E
  clear h hx hZ
  go_enter Tryz.func16, Tryz.ntmps16
  go_wp2_with fail
  rw [← hw0]
  clear hw0
  refine HA.out.mono ?_
  rintro e w1 ⟨v, R, rfl, hmap, ho, hr, b1⟩
  obtain ⟨B, d, rfl, hti⟩ := TyIn.of_own ho
  have HTI := Lib.hid hti
  have HRS := Lib.hid (hr.base HB0.out.size)
  have HR1 := Lib.hid (HR0.out.below b1 HR0.out.lt)
  have HB1 := Lib.hid (below_on HB0.out b1)
  have HMP := Lib.hid hmap
  have hl1 : w.heap.size < w1.heap.size := HR1.out.lt
  have HLN := Lib.hid (show R.length = Z.length from by rw [← hmap, List.length_map])
  have hrl : R.length ≤ 701401 := by have := HLN.out; omega
  have HSM := Lib.hid (show ∀ m ∈ Z, m.small from by rw [← hmap]; exact rows_small hr)
  have HEX := Lib.hid (extT_ok Z HSM.out)
  clear hti hr b1 ho hmap HA HR0 HB0
  have HM1 := Lib.hid (Blk.new w1 35 #[.string ⟨#[]⟩, .string ⟨#[]⟩, .slice none 0 0])
  have HBA := Lib.hid (show Below w1.heap.size w1 (w1.alloc (.cells #[.string ⟨#[]⟩, .string ⟨#[]⟩, .slice none 0 0] 35)) from (Below.refl _ _).alloc (Nat.le_refl _) _)
  go_wp2
  go_loopw [5, 7] (fun s i wr => ∃ (k : Nat) (A' : Option Addr) (c' : Nat), k ≤ R.length ∧ i = .int .i64 k ∧ s = .string (extT (Z.take k)).2 ∧ Blk wr w1.heap.size 35 #[.string (extT (Z.take k)).1.t, .string (extT (Z.take k)).1.u, .slice A' (extT (Z.take k)).1.ps.length c'] ∧ OwnPs wr w.heap.size A' c' (extT (Z.take k)).1.ps ∧ Below w1.heap.size w1 wr) (fun _ i _ => R.length - (intOf i).toNat)
  case atStart => exact ⟨0, none, 0, Nat.zero_le _, rfl, rfl, HM1.out, World.ownsRow_nil _ _ _ _, HBA.out⟩
  case round =>
    obtain ⟨k, A', c', hk, rfl, rfl, hbm, hps, hw⟩ := hrel
    have HBM := Lib.hid hbm
    have HPS := Lib.hid hps
    have HW := Lib.hid hw
    clear hbm hps hw HM1 HBA
    by_cases hlt : k < R.length
    · obtain ⟨g, rfl, hg, e0, e1, e2⟩ := HTI.out k hlt
      have c0 := (HW.out.cell (p := ⟨g, k * 3, none⟩) hg).trans e0
      have c1 := (HW.out.cell (p := ⟨g, k * 3 + 1, none⟩) hg).trans e1
      have c2 := (HW.out.cell (p := ⟨g, k * 3 + 2, none⟩) hg).trans e2
      clear e0 e1 e2
      have HXT := Lib.hid (show extT (Z.take (k + 1)) = stepT (extT (Z.take k)).1.t (extT (Z.take k)).1.u (extT (Z.take k)).2 R[k].m from by
        rw [extT_step (by have := HLN.out; omega)]
        congr 1
        have := HMP.out
        subst this
        simp)
      obtain ⟨hro, hrs⟩ := HRS.out R[k] (List.getElem_mem hlt)
      have HRO := Lib.hid (show OwnPs wr w.heap.size R[k].A R[k].c R[k].m.ps from own_mv hro (Mv.of_below HW.out []) (by simp))
      have HOK := extT_ok (Z.take k) (fun m hm => HSM.out m (List.mem_of_mem_take hm))
      have hst := stepT_ok (t := (extT (Z.take k)).1.t) (u := (extT (Z.take k)).1.u) hrs HOK.2
      generalize R[k] = r at *
      generalize extT (Z.take k) = E at *
      obtain ⟨⟨mt, mu, mp⟩, st⟩ := E
      obtain ⟨⟨nt, nu, np⟩, rA, rc⟩ := r
      obtain ⟨hm1, hm2, _, _⟩ := HOK.1
      have hm3 := HOK.2
      simp only at hm1 hm2 hm3 c0 c1 c2 ⊢
      have HHM1 := Lib.hid hm1
      have HHM2 := Lib.hid hm2
      have HHM3 := Lib.hid hm3
      have HRSM := Lib.hid hrs
      clear HOK hst hro hm1 hm2 hm3 hrs
      have b0 := HBM.out.cell 0
      have b1 := HBM.out.cell 1
      have b2 := HBM.out.cell 2
      have hmb := HBM.out.lt
      have hgl : g < wr.heap.size := Nat.lt_of_lt_of_le hg HW.out.size
      have hws : w.heap.size ≤ wr.heap.size := by have := HW.out.size; omega
      have HST := Lib.hid (fun W (hW : OwnPs W w.heap.size rA rc np) (hl : w.heap.size ≤ W.heap.size) => rstep_any mt mu A' mp.length c' st ⟨nt, nu, np⟩ rA rc w.heap.size W hW hl HRSM.out HHM1.out HHM2.out HHM3.out)
      generalize hsT : stepT mt mu st ⟨nt, nu, np⟩ = q at HXT HST
      obtain ⟨⟨qt, qu, qp⟩, qs⟩ := q
      clear hsT
      have HSU : Hid (∀ W, OwnPs W w.heap.size rA rc np → w.heap.size ≤ W.heap.size → Calls Tryz.prog 28 #[mimV mt mu A' mp.length c', .string st, mimV nt nu rA np.length rc] W fun e w' => ∃ A3 c3, e = .returned (.tuple #[mimV qt qu A3 qp.length c3, .string qs]) ∧ OwnPs w' w.heap.size A3 c3 qp ∧ Below W.heap.size W w') := HST.out
      clear HST
      have HRD := Lib.hid (show OwnPs wr.drew w.heap.size rA rc np from HRO.out)
      have HBD := Lib.hid (show Blk wr.drew w1.heap.size 35 _ from HBM.out)
      have HWW := Lib.hid (show Below w1.heap.size w1 wr.drew from HW.out.drew)
      have HWD := Lib.hid (show w.heap.size ≤ wr.drew.heap.size from hws)
      have HB := Lib.hid (Below.refl wr.heap.size wr)
      have z0 := HBM.out.frozen 0
      have z1 := HBM.out.frozen 1
      have z2 := HBM.out.frozen 2
      go_wp2_with fail
      go_region_with (go_at_call 28; (with_reducible refine (HSU.out _ HRD.out HWD.out).mono ?_); rintro e w3 ⟨A3, c3, rfl, ho3, b3⟩; have HBM3 := Lib.hid (HBD.out.below b3 HBD.out.lt); have HO3 := Lib.hid ho3; have HW3 := Lib.hid (below_on HWW.out b3); have e0 := HBM3.out.cell 0; have e1 := HBM3.out.cell 1; have e2 := HBM3.out.cell 2; have y0 := HBM3.out.frozen 0; have y1 := HBM3.out.frozen 1; have y2 := HBM3.out.frozen 2; clear ho3 b3)
      all_goals (
        have HF1 := Lib.hid (((HBM3.out.set_ 0 (.string qt)).set_ 1 (.string qu)).set_ 2 (.slice A3 qp.length c3))
        have HF2 := Lib.hid (OwnPs.set3 HO3.out HBM3.out (.string qt) (.string qu) (.slice A3 qp.length c3))
        have HF3 := Lib.hid (((HW3.out.setCell (p := ⟨w1.heap.size, 0, none⟩) (Nat.le_refl _) (.string qt)).setCell (p := ⟨w1.heap.size, 1, none⟩) (Nat.le_refl _) (.string qu)).setCell (p := ⟨w1.heap.size, 2, none⟩) (Nat.le_refl _) (.slice A3 qp.length c3))
        clear HBM3 HW3 HO3
        go_wp2
        go_roundw)
      case rel => exact ⟨k + 1, A3, c3, by omega, by go_num, by rw [HXT.out], by rw [HXT.out]; exact HF1.out, by rw [HXT.out]; exact HF2.out, HF3.out⟩
      case measure => simp [intOf]; omega
      case rel => exact ⟨k + 1, A3, c3, by omega, by go_num, by rw [HXT.out], by rw [HXT.out]; exact HF1.out, by rw [HXT.out]; exact HF2.out, HF3.out⟩
      case measure => simp [intOf]; omega
    · obtain rfl : k = R.length := by omega
      have htk : Z.take R.length = Z := List.take_of_length_le (by have := HLN.out; omega)
      rw [htk] at HBM HPS
      have HR2 := Lib.hid (HR1.out.below HW.out hl1)
      have HB2 := Lib.hid (below_on HB1.out HW.out)
      have r0 := HR2.out.cell 0
      have r1 := HR2.out.cell 1
      have r2 := HR2.out.cell 2
      have z0 := HR2.out.frozen 0
      have z1 := HR2.out.frozen 1
      have z2 := HR2.out.frozen 2
      by_cases h0 : R.length = 0
      · have d0 : ((R.length : Int) == 0) = true := beq_iff_eq.2 (by omega)
        have hz0 : Z = [] := List.eq_nil_of_length_eq_zero (by have := HLN.out; omega)
        subst hz0
        have hE0 : ft = ⟨#[]⟩ ∧ fu = ⟨#[]⟩ ∧ fp = [] ∧ code = 4 := by
          have h1 := HE.out
          have h2 := HCO.out
          injection h1 with h3 h4 h5
          exact ⟨h3, h4, h5, h2⟩
        obtain ⟨rfl, rfl, rfl, rfl⟩ := hE0
        clear HBM HPS htk
        go_wp2
        refine bodyPost_ret (v := .tuple #[mimV ⟨#[]⟩ ⟨#[]⟩ none 0 0, .int .i64 4]) (by simp [results, Tryz.results16, go_sem, r0, r1, r2]; done) rfl ?_
        exact ⟨none, 0, rfl, World.ownsRow_nil _ _ _ _, by rw [HE.out]; exact HEX.out.1, ((HB2.out.setCell (by exact Nat.le_refl _) _).setCell (by exact Nat.le_refl _) _).setCell (by exact Nat.le_refl _) _⟩
      · have d0 : ((R.length : Int) == 0) = false := beq_eq_false_iff_ne.2 (by omega)
        have hE1 : ft = (extT Z).1.t ∧ fu = (extT Z).1.u ∧ fp = (extT Z).1.ps ∧ code = 0 := by
          have h1 := HE.out
          refine ⟨congrArg Mty.t h1, congrArg Mty.u h1, congrArg Mty.ps h1, ?_⟩
          rw [HCO.out]
          exact if_neg (by have := HLN.out; omega)
        obtain ⟨hE2, hE3, hE4, hE5⟩ := hE1
        rw [← hE2, ← hE3, ← hE4] at HBM
        rw [← hE4] at HPS
        have HK1 := Lib.hid (show (⟨ft, fu, fp⟩ : Mty).ok from by rw [HE.out]; exact HEX.out.1)
        have HC0 := Lib.hid hE5
        clear HR1 HB1 HW htk HTI HRS HEX hE2 hE3 hE4 hE5 HE HCO
        have b0 := HBM.out.cell 0
        have b1 := HBM.out.cell 1
        have b2 := HBM.out.cell 2
        go_wp2
        refine bodyPost_ret (v := .tuple #[mimV ft fu A' fp.length c', .int .i64 0]) (by simp [results, Tryz.results16, go_sem, r0, r1, r2]; done) rfl ?_
        exact ⟨A', c', by rw [HC0.out], OwnPs.set3 HPS.out HR2.out _ _ _, HK1.out, ((HB2.out.setCell (by exact Nat.le_refl _) _).setCell (by exact Nat.le_refl _) _).setCell (by exact Nat.le_refl _) _⟩

end Go.Proofs.YtmepnfkgfbbkiaaGreat
namespace Go.Proofs.YtmepnfkgfbbkiaaGreat
open Go.RowKit

/-- These types, and their parameters, lie behind A. -/
def TyAt (w : World) (B : Option Addr) (Z : List Mty) : Prop := ∀ i (h : i < Z.length), ∃ g A c, B = some ⟨g, 0, none⟩ ∧ g < w.heap.size ∧ w.cell? ⟨g, i * 3, none⟩ = some (.string Z[i].t) ∧ w.cell? ⟨g, i * 3 + 1, none⟩ = some (.string Z[i].u) ∧ w.cell? ⟨g, i * 3 + 2, none⟩ = some (.slice A Z[i].ps.length c) ∧ PsIn w A Z[i].ps
theorem TyAt.below {w w' : World} {B : Option Addr} {Z : List Mty} (h : TyAt w B Z) (hb : Below w.heap.size w w') : TyAt w' B Z := fun i hi => by
  obtain ⟨g, A, c, e, hl, c0, c1, c2, hp⟩ := h i hi
  exact ⟨g, A, c, e, Nat.lt_of_lt_of_le hl hb.size, (hb.cell (p := ⟨g, i * 3, none⟩) hl).trans c0, (hb.cell (p := ⟨g, i * 3 + 1, none⟩) hl).trans c1, (hb.cell (p := ⟨g, i * 3 + 2, none⟩) hl).trans c2, hp.below hb⟩
theorem NewTys.at_ {Z : List Mty} {w w' : World} {e : Ending} (h : NewTys Z w e w') : ∃ B d, e = .returned (.slice B Z.length d) ∧ TyAt w' B Z ∧ (∀ m ∈ Z, m.small) ∧ Below w.heap.size w w' := by
  obtain ⟨v, R, rfl, hmap, ho, hr, hb⟩ := h
  obtain ⟨B, d, rfl, hti⟩ := TyIn.of_own ho
  subst hmap
  refine ⟨B, d, by rw [List.length_map], fun i hi => ?_, rows_small hr, hb⟩
  have hiR : i < R.length := by simpa using hi
  obtain ⟨g, e, hl, c0, c1, c2⟩ := hti i hiR
  have hp := OwnPs.ps (hr R[i] (List.getElem_mem hiR)).1
  have e9 : (R.map Trw.m)[i] = R[i].m := by simp
  rw [e9]
  exact ⟨g, R[i].A, R[i].c, e, hl, c0, c1, c2, hp⟩
theorem NewStrs.at_ {L : List ByteArray} {w w' : World} {e : Ending} (h : NewStrs L w e w') : ∃ A c, e = .returned (.slice A L.length c) ∧ TxIn w' A L ∧ L.length ≤ c ∧ Below w.heap.size w w' := by
  obtain ⟨v, rfl, ho, hb⟩ := h
  obtain ⟨A, c, rfl, ht, hc⟩ := TxIn.of_own ho
  exact ⟨A, c, rfl, ht, hc, hb⟩

set_option maxHeartbeats 4000000 in
set_option maxRecDepth 100000 in
theorem combineParts_any (A0 : Option Addr) (n c0 : Nat) (lp : Nat → ByteArray) (w : World) (h : TxCame w A0 n lp) (hn : n ≤ 9223372036854775807) :
    Calls Tryz.prog 3 #[.slice A0 n c0] w fun e w' => e = .returned (.bool true) ∧ Below w.heap.size w w' := by
  have HF := Lib.hid (fews_any A0 n c0 lp w h hn)
  have hll : (fewT lp (min n 6)).length ≤ 6 := by rw [fewT_len]; omega
  have hla : ∀ y ∈ fewT lp (min n 6), y.size ≤ 1000 := fun y hy => Nat.le_trans (fewT_all _ _ y hy) (by omega)
  generalize fewT lp (min n 6) = L at *
  have HAL := Lib.hid (fun W A c (hW : TxIn W A L) (hc : L.length ≤ c) => all_any A c L W hW (by omega) hla hc)
  have HRA := Lib.hid (fun W A c (hW : TxIn W A L) => rall_any A c L W hW (by omega) hla)
  have HJO := Lib.hid (fun W A c (hW : TxIn W A L) (hc : L.length ≤ c) => cjoin_any A c L W hW (by omega) (fun y hy => hla y hy) hc)
  have HRJ := Lib.hid (fun W A c (hW : TxIn W A L) => rjoin_any A c L W hW (by omega) (fun y hy => hla y hy))
  have HVA := Lib.hid (fun W A c (hW : TxIn W A L) (hc : L.length ≤ c) => values_any A c L W hW (by omega) (fun y hy => hla y hy) hc)
  have HRV := Lib.hid (fun W A c (hW : TxIn W A L) => rvalues_any A c L W hW (by omega) (fun y hy => hla y hy))
  have hzl := tys_len (by omega : L.length ≤ 700) hla
  have hj := joinS_size hla
  have hvl := (valsL_sizes (xs := L) (n := 701400) (by have : L.length * (1000 + 2) ≤ 6 * 1002 := Nat.mul_le_mul hll (Nat.le_refl _); omega)).2
  have HS4 := Lib.hid (fun W A B c d (hW : TxIn W A (valsL L)) (hW' : TxIn W B (valsL L)) => rsame4_any A B c d (valsL L) W hW hW' (by omega))
  have HLV := Lib.hid lives11_any
  generalize allT (valsL L) = Z at *
  generalize valsL L = V at *
  generalize joinS L = J at *
  clear h hla hj hll
  go_enter Tryz.func3, Tryz.ntmps3
  go_wp2_with fail
  refine HF.out.mono ?_
  intro e w1 h1
  obtain ⟨A, c, rfl, ht1, hcap, b1⟩ := h1.at_
  have HT1 := Lib.hid ht1
  have HB1 := Lib.hid b1
  have HCAP := Lib.hid hcap
  clear h1 ht1 b1 hcap HF
  go_wp2_with fail
  refine (HAL.out w1 A c HT1.out HCAP.out).mono ?_
  intro e w2 h2
  obtain ⟨B, d, rfl, hta2, hsm, b2⟩ := h2.at_
  have HX2 := Lib.hid hta2
  have HSM := Lib.hid hsm
  have HL2 := Lib.hid b2
  clear h2 hta2 hsm b2 HAL
  go_wp2_with fail
  refine (HRA.out w2 A c (HT1.out.below HL2.out)).mono ?_
  intro e w3 h3
  obtain ⟨B', d', rfl, hta3, _, b3⟩ := h3.at_
  have HX3 := Lib.hid hta3
  have HY3 := Lib.hid (HX2.out.below b3)
  have HL3 := Lib.hid (below_on HL2.out b3)
  clear h3 hta3 b3 HRA HX2 HL2
  go_wp2_with fail
  refine (HJO.out w3 A c (HT1.out.below HL3.out) HCAP.out).mono ?_
  rintro e w4 ⟨rfl, b4⟩
  have HX4 := Lib.hid (HX3.out.below b4)
  have HY4 := Lib.hid (HY3.out.below b4)
  have HL4 := Lib.hid (below_on HL3.out b4)
  clear b4 HX3 HY3 HL3 HJO
  go_wp2_with fail
  refine (HRJ.out w4 A c (HT1.out.below HL4.out)).mono ?_
  rintro e wx ⟨rfl, rfl⟩
  go_wp2_with fail
  refine (HVA.out w4 A c (HT1.out.below HL4.out) HCAP.out).mono ?_
  intro e w5 h5
  obtain ⟨C, a5, rfl, ht5, _, b5⟩ := h5.at_
  have HX5 := Lib.hid (HX4.out.below b5)
  have HY5 := Lib.hid (HY4.out.below b5)
  have HL5 := Lib.hid (below_on HL4.out b5)
  have HV5 := Lib.hid ht5
  clear h5 ht5 b5 HX4 HY4 HL4 HVA HRJ
  go_wp2_with fail
  refine (HRV.out w5 A c (HT1.out.below HL5.out)).mono ?_
  intro e w6 h6
  obtain ⟨D, a6, rfl, ht6, _, b6⟩ := h6.at_
  have HX6 := Lib.hid (HX5.out.below b6)
  have HY6 := Lib.hid (HY5.out.below b6)
  have HL6 := Lib.hid (below_on HL5.out b6)
  have HV6 := Lib.hid (HV5.out.below b6)
  have HU6 := Lib.hid ht6
  clear h6 ht6 b6 HX5 HY5 HL5 HRV HV5
  go_wp2_with fail
  refine (HS4.out w6 C D a5 a6 HV6.out HU6.out).mono ?_
  rintro e w7 ⟨rfl, b7⟩
  have HX7 := Lib.hid (HX6.out.below b7)
  have HY7 := Lib.hid (HY6.out.below b7)
  have HB7 := Lib.hid (below_on (below_on HB1.out HL6.out) b7)
  clear b7 HX6 HY6 HL6 HV6 HU6 HS4 HB1 HT1 HCAP
  go_wp2
  go_loopw [5] (fun i wr => ∃ k : Nat, k ≤ Z.length ∧ i = .int .i64 k ∧ Below w7.heap.size w7 wr) (fun i _ => Z.length - (intOf i).toNat)
  case atStart => exact ⟨0, Nat.zero_le _, rfl, Below.refl _ _⟩
  case round =>
    obtain ⟨k, hk, rfl, hw⟩ := hrel
    have HW := Lib.hid hw
    clear hw
    by_cases hlt : k < Z.length
    · obtain ⟨g, P, pc, rfl, hgl, e0, e1, e2, hp⟩ := (HX7.out.below HW.out) k hlt
      obtain ⟨g', P', pc', rfl, hgl', f0, f1, f2, hp'⟩ := (HY7.out.below HW.out) k hlt
      have hsm := HSM.out Z[k] (List.getElem_mem hlt)
      generalize Z[k] = m at *
      obtain ⟨mt, mu, mp⟩ := m
      have hml : mp.length ≤ 1048576 := by have := hsm.2.2.2; simp only at this; omega
      simp only at e0 e1 e2 f0 f1 f2 hp hp'
      have HP := Lib.hid hp
      have HP' := Lib.hid hp'
      have HSA := Lib.hid (fun W (hb : Below wr.heap.size wr W) => show Calls Tryz.prog 13 #[mimV mt mu P' mp.length pc', mimV mt mu P mp.length pc] W fun e w' => e = .returned (.bool true) ∧ Below W.heap.size W w' from by
        have := rsame_any mt mu mt mu P' P mp mp pc' pc W (HP'.out.below hb) (HP.out.below hb) hml hml
        rw [sameM_self] at this
        exact this)
      clear hsm hp hp'
      have HB := Lib.hid (Below.refl wr.heap.size wr)
      have HBD := Lib.hid (Below.refl wr.heap.size wr).drew
      go_wp2_with fail
      go_region_held3 (fun w' => w'.cell? ⟨g, k * 3, none⟩ = some (.string mt) ∧ w'.cell? ⟨g, k * 3 + 1, none⟩ = some (.string mu) ∧ w'.cell? ⟨g, k * 3 + 2, none⟩ = some (.slice P mp.length pc) ∧
          w'.cell? ⟨g', k * 3, none⟩ = some (.string mt) ∧ w'.cell? ⟨g', k * 3 + 1, none⟩ = some (.string mu) ∧ w'.cell? ⟨g', k * 3 + 2, none⟩ = some (.slice P' mp.length pc'))
        (first | go_keep | exact ⟨(HB.out.cell (p := ⟨g, k * 3, none⟩) hgl).trans e0, (HB.out.cell (p := ⟨g, k * 3 + 1, none⟩) hgl).trans e1, (HB.out.cell (p := ⟨g, k * 3 + 2, none⟩) hgl).trans e2, (HB.out.cell (p := ⟨g', k * 3, none⟩) hgl').trans f0, (HB.out.cell (p := ⟨g', k * 3 + 1, none⟩) hgl').trans f1, (HB.out.cell (p := ⟨g', k * 3 + 2, none⟩) hgl').trans f2⟩)
        (first
          | (go_at_call 13; (with_reducible refine (HSA.out _ HBD.out).mono ?_); rintro e w8 ⟨rfl, b8⟩
             have HB := Lib.hid (below_on HBD.out b8)
             clear b8))
      have HW8 := Lib.hid (below_on HW.out HB.out)
      clear HB e0 e1 e2 f0 f1 f2
      go_wp2
      go_roundw
      case rel => exact ⟨k + 1, by omega, by go_num, HW8.out⟩
      case measure => simp [intOf]; omega
    · obtain rfl : k = Z.length := by omega
      go_wp2_with fail
      refine (HLV.out wr).mono ?_
      rintro e w8 ⟨rfl, b8⟩
      have HB8 := Lib.hid (below_on (below_on HB7.out HW.out) b8)
      clear b8
      go_wp2
      go_ret
      exact ⟨rfl, HB8.out⟩

end Go.Proofs.YtmepnfkgfbbkiaaGreat
namespace Go.Proofs.YtmepnfkgfbbkiaaGreat
open Go.RowKit

set_option maxHeartbeats 4000000 in
set_option maxRecDepth 100000 in
theorem extracts_none (A0 : Option Addr) (n c0 : Nat) (lp : Nat → ByteArray) (w : World) (h : TxCame w A0 n lp) (hn : n ≤ 9223372036854775807)
    (hz : (allT (valsL (fewT lp (min n 6)))).length = 0) (hv : seenB (extT (allT (valsL (fewT lp (min n 6))))).1.ps chrS = false) :
    Calls Tryz.prog 4 #[.slice A0 n c0] w fun e w' => e = .returned (.bool true) ∧ Below w.heap.size w w' := by
  have HF := Lib.hid (fews_any A0 n c0 lp w h hn)
  have hll : (fewT lp (min n 6)).length ≤ 6 := by rw [fewT_len]; omega
  have hla : ∀ y ∈ fewT lp (min n 6), y.size ≤ 1000 := fun y hy => Nat.le_trans (fewT_all _ _ y hy) (by omega)
  generalize fewT lp (min n 6) = L at *
  have HXE := Lib.hid (fun W A c (hW : TxIn W A L) (hc : L.length ≤ c) => extract_any A c L W hW (by omega) hla hc)
  have HRX := Lib.hid (fun W A c (hW : TxIn W A L) => rextract_any A c L W hW (by omega) hla)
  have HCH := Lib.hid (fun W A c (hW : TxIn W A L) (hc : L.length ≤ c) => charset_any A c L W hW (by omega) hla hc)
  have HRA := Lib.hid (fun W A c (hW : TxIn W A L) => rall_any A c L W hW (by omega) hla)
  have hzl := tys_len (by omega : L.length ≤ 700) hla
  have HLV := Lib.hid lives11_any
  have hgd : ∀ m ∈ allT (valsL L), goodM m.t m.u m.ps = true := fun m hm => allT_good hm
  generalize allT (valsL L) = Z at *
  have hz0 : Z = [] := List.eq_nil_of_length_eq_zero hz
  have hco : codeOf Z = 4 := if_pos hz
  rw [hco] at HXE HRX
  clear hgd
  clear h hla hll hco
  obtain ⟨E, hE⟩ : ∃ E, E = (extT Z).1 := ⟨_, rfl⟩
  rw [← hE] at HXE HRX HCH hv
  clear hE
  obtain ⟨et, eu, ep⟩ := E
  simp only at HCH hv
  rw [hv] at HCH
  have hge := atI_ge ep chrS
  rw [hv] at hge
  rw [parV_none hv] at HCH
  have HAT := Lib.hid (fun W A c (hW : PsIn W A ep) (hl : ep.length ≤ 1048576) => rAt_any et eu A ep c chrS W hW hl)
  obtain ⟨ai, hai⟩ : ∃ ai, ai = atI ep chrS := ⟨_, rfl⟩
  rw [← hai] at HAT hge
  have g0 : ¬ (0 : Int) ≤ ai := by simpa using hge
  clear hai hge
  have HSA := Lib.hid (fun W P P' pc pc' (hp : PsIn W P ep) (hp' : PsIn W P' ep) (hl : ep.length ≤ 1048576) => show Calls Tryz.prog 13 #[mimV et eu P ep.length pc, mimV et eu P' ep.length pc'] W fun e w' => e = .returned (.bool true) ∧ Below W.heap.size W w' from by
    have := rsame_any et eu et eu P P' ep ep pc pc' W hp hp' hl hl
    rw [sameM_self] at this
    exact this)
  go_enter Tryz.func4, Tryz.ntmps4
  go_wp2_with fail
  refine HF.out.mono ?_
  intro e w1 h1
  obtain ⟨A, c, rfl, ht1, hcap, b1⟩ := h1.at_
  have HT1 := Lib.hid ht1
  have HB1 := Lib.hid b1
  have HCAP := Lib.hid hcap
  clear h1 ht1 b1 hcap HF
  go_wp2_with fail
  refine (HXE.out w1 A c HT1.out HCAP.out).mono ?_
  rintro e w2 ⟨P, pc, rfl, ho2, hok, b2⟩
  have hel : ep.length ≤ 1048576 := hok.2.2.2
  have HOK := Lib.hid hok
  obtain ⟨w3, hw3⟩ : ∃ w3, w3 = w2.alloc (.cells #[.string et, .string eu, .slice P ep.length pc] 35) := ⟨_, rfl⟩
  have b3 : Below w2.heap.size w2 w3 := by rw [hw3]; exact (Below.refl _ _).alloc (Nat.le_refl _) _
  have HM3 := Lib.hid (show Blk w3 w2.heap.size 35 #[.string et, .string eu, .slice P ep.length pc] from by rw [hw3]; exact Blk.new _ _ _)
  have HP3 := Lib.hid ((OwnPs.ps ho2).below b3)
  have HL3 := Lib.hid (below_on b2 b3)
  clear ho2 hok b2 b3 HXE
  go_wp2_with fail
  rw [← hw3]
  generalize w2.heap.size = mb at *
  clear hw3
  refine (HRX.out w3 A c (HT1.out.below HL3.out)).mono ?_
  rintro e w4 ⟨Q, qc, rfl, ho4, _, b4⟩
  obtain ⟨w5, hw5⟩ : ∃ w5, w5 = w4.alloc (.cells #[.string et, .string eu, .slice Q ep.length qc] 35) := ⟨_, rfl⟩
  have b5 : Below w4.heap.size w4 w5 := by rw [hw5]; exact (Below.refl _ _).alloc (Nat.le_refl _) _
  have HX5 := Lib.hid (show Blk w5 w4.heap.size 35 #[.string et, .string eu, .slice Q ep.length qc] from by rw [hw5]; exact Blk.new _ _ _)
  have HQ5 := Lib.hid ((OwnPs.ps ho4).below b5)
  have HM5 := Lib.hid (HM3.out.below (below_on b4 b5) HM3.out.lt)
  have HP5 := Lib.hid (HP3.out.below (below_on b4 b5))
  have HL5 := Lib.hid (below_on HL3.out (below_on b4 b5))
  clear ho4 b4 b5 HRX HM3 HP3 HL3
  go_wp2_with fail
  rw [← hw5]
  generalize w4.heap.size = xb at *
  clear hw5
  refine (HCH.out w5 A c (HT1.out.below HL5.out) HCAP.out).mono ?_
  rintro e w6 ⟨rfl, b6⟩
  have HM6 := Lib.hid (HM5.out.below b6 HM5.out.lt)
  have HX6 := Lib.hid (HX5.out.below b6 HX5.out.lt)
  have HP6 := Lib.hid (HP5.out.below b6)
  have HQ6 := Lib.hid (HQ5.out.below b6)
  have HL6 := Lib.hid (below_on HL5.out b6)
  clear b6 HM5 HX5 HP5 HQ5 HL5 HCH
  have m0 := HM6.out.cell 0
  have m1 := HM6.out.cell 1
  have m2 := HM6.out.cell 2
  have x0 := HX6.out.cell 0
  have x1 := HX6.out.cell 1
  have x2 := HX6.out.cell 2
  go_wp2_with fail
  refine (HSA.out w6 P Q pc qc HP6.out HQ6.out hel).mono ?_
  rintro e w7 ⟨rfl, b7⟩
  have HM7 := Lib.hid (HM6.out.below b7 HM6.out.lt)
  have HX7 := Lib.hid (HX6.out.below b7 HX6.out.lt)
  have HP7 := Lib.hid (HP6.out.below b7)
  have HQ7 := Lib.hid (HQ6.out.below b7)
  have HL7 := Lib.hid (below_on HL6.out b7)
  clear b7 HM6 HX6 HP6 HQ6 HL6 HSA m0 m1 m2 x0 x1 x2
  have m0 := HM7.out.cell 0
  have m1 := HM7.out.cell 1
  have m2 := HM7.out.cell 2
  have x0 := HX7.out.cell 0
  have x1 := HX7.out.cell 1
  have x2 := HX7.out.cell 2
  go_wp2_with fail
  refine (HAT.out w7 Q qc HQ7.out hel).mono ?_
  rintro e w8 ⟨rfl, b8⟩
  have HM8 := Lib.hid (HM7.out.below b8 HM7.out.lt)
  have HX8 := Lib.hid (HX7.out.below b8 HX7.out.lt)
  have HP8 := Lib.hid (HP7.out.below b8)
  have HQ8 := Lib.hid (HQ7.out.below b8)
  have HL8 := Lib.hid (below_on HL7.out b8)
  clear b8 HM7 HX7 HP7 HQ7 HL7 HAT m0 m1 m2 x0 x1 x2
  have m0 := HM8.out.cell 0
  have m1 := HM8.out.cell 1
  have m2 := HM8.out.cell 2
  have x0 := HX8.out.cell 0
  have x1 := HX8.out.cell 1
  have x2 := HX8.out.cell 2
  go_wp2_with fail
  refine (HRA.out w8 A c (HT1.out.below HL8.out)).mono ?_
  intro e w9 h9
  obtain ⟨B, d, rfl, hta, _, b9⟩ := h9.at_
  have HM9 := Lib.hid (HM8.out.below b9 HM8.out.lt)
  have HP9 := Lib.hid (HP8.out.below b9)
  have HL9 := Lib.hid (below_on HL8.out b9)
  have HTA := Lib.hid hta
  clear h9 hta b9 HM8 HX8 HP8 HQ8 HL8 HRA m0 m1 m2 x0 x1 x2
  subst hz0
  go_wp2_with fail
  refine (HLV.out _).mono ?_
  rintro e w10 ⟨rfl, b10⟩
  have HB10 := Lib.hid (below_on HB1.out (below_on HL9.out b10))
  clear b10
  go_wp2
  go_ret
  exact ⟨rfl, HB10.out⟩

set_option maxHeartbeats 4000000 in
set_option maxRecDepth 100000 in
theorem extracts_seen (A0 : Option Addr) (n c0 : Nat) (lp : Nat → ByteArray) (w : World) (h : TxCame w A0 n lp) (hn : n ≤ 9223372036854775807)
    (hz : ¬ (allT (valsL (fewT lp (min n 6)))).length = 0) (hv : seenB (extT (allT (valsL (fewT lp (min n 6))))).1.ps chrS = true) :
    Calls Tryz.prog 4 #[.slice A0 n c0] w fun e w' => e = .returned (.bool true) ∧ Below w.heap.size w w' := by
  have HF := Lib.hid (fews_any A0 n c0 lp w h hn)
  have hll : (fewT lp (min n 6)).length ≤ 6 := by rw [fewT_len]; omega
  have hla : ∀ y ∈ fewT lp (min n 6), y.size ≤ 1000 := fun y hy => Nat.le_trans (fewT_all _ _ y hy) (by omega)
  generalize fewT lp (min n 6) = L at *
  have HXE := Lib.hid (fun W A c (hW : TxIn W A L) (hc : L.length ≤ c) => extract_any A c L W hW (by omega) hla hc)
  have HRX := Lib.hid (fun W A c (hW : TxIn W A L) => rextract_any A c L W hW (by omega) hla)
  have HCH := Lib.hid (fun W A c (hW : TxIn W A L) (hc : L.length ≤ c) => charset_any A c L W hW (by omega) hla hc)
  have HRA := Lib.hid (fun W A c (hW : TxIn W A L) => rall_any A c L W hW (by omega) hla)
  have hzl := tys_len (by omega : L.length ≤ 700) hla
  have HLV := Lib.hid lives11_any
  have hgd : ∀ m ∈ allT (valsL L), goodM m.t m.u m.ps = true := fun m hm => allT_good hm
  generalize allT (valsL L) = Z at *
  have hco : codeOf Z = 0 := if_neg hz
  rw [hco] at HXE HRX
  obtain ⟨k, hk⟩ : ∃ k, Z.length = k + 1 := ⟨Z.length - 1, by omega⟩
  have hkl : k < Z.length := by omega
  have hlast : (extT Z).1.t = (Z[k]'hkl).t ∧ (extT Z).1.u = (Z[k]'hkl).u := extT_last hk
  have hgood := extT_good hk hgd
  clear hgd
  clear h hla hll hco
  obtain ⟨E, hE⟩ : ∃ E, E = (extT Z).1 := ⟨_, rfl⟩
  rw [← hE] at HXE HRX HCH hv hlast hgood
  clear hE
  obtain ⟨et, eu, ep⟩ := E
  simp only at HCH hv hlast hgood
  rw [hv] at HCH
  have hge := atI_ge ep chrS
  rw [hv] at hge
  have HLA := Lib.hid hlast
  have HK := Lib.hid hk
  have HGO := Lib.hid hgood
  clear hlast hk hgood
  obtain ⟨j, hj⟩ : ∃ j, j = atN ep chrS := ⟨_, rfl⟩
  have hjl : j < ep.length := by
    have := atN_seen ep chrS
    rw [hv] at this
    rw [hj]
    exact of_decide_eq_true this
  have hatk : atI ep chrS = (j : Int) := by unfold atI; rw [← hj, if_pos hjl]
  have hpv : parV ep chrS = ep[j].v := by unfold parV; simp only [← hj]; rw [dif_pos hjl]
  obtain ⟨pv, hpv2⟩ : ∃ pv, pv = ep[j].v := ⟨_, rfl⟩
  rw [hpv, ← hpv2] at HCH
  have HPV := Lib.hid hpv2
  clear hpv hpv2 hj
  have HAT := Lib.hid (fun W A c (hW : PsIn W A ep) (hl : ep.length ≤ 1048576) => rAt_any et eu A ep c chrS W hW hl)
  rw [hatk] at HAT
  have g0 : (0 : Int) ≤ (j : Int) := by omega
  clear hatk hge
  have HSA := Lib.hid (fun W P P' pc pc' (hp : PsIn W P ep) (hp' : PsIn W P' ep) (hl : ep.length ≤ 1048576) => show Calls Tryz.prog 13 #[mimV et eu P ep.length pc, mimV et eu P' ep.length pc'] W fun e w' => e = .returned (.bool true) ∧ Below W.heap.size W w' from by
    have := rsame_any et eu et eu P P' ep ep pc pc' W hp hp' hl hl
    rw [sameM_self] at this
    exact this)
  go_enter Tryz.func4, Tryz.ntmps4
  go_wp2_with fail
  refine HF.out.mono ?_
  intro e w1 h1
  obtain ⟨A, c, rfl, ht1, hcap, b1⟩ := h1.at_
  have HT1 := Lib.hid ht1
  have HB1 := Lib.hid b1
  have HCAP := Lib.hid hcap
  clear h1 ht1 b1 hcap HF
  go_wp2_with fail
  refine (HXE.out w1 A c HT1.out HCAP.out).mono ?_
  rintro e w2 ⟨P, pc, rfl, ho2, hok, b2⟩
  have hel : ep.length ≤ 1048576 := hok.2.2.2
  have HOK := Lib.hid hok
  obtain ⟨w3, hw3⟩ : ∃ w3, w3 = w2.alloc (.cells #[.string et, .string eu, .slice P ep.length pc] 35) := ⟨_, rfl⟩
  have b3 : Below w2.heap.size w2 w3 := by rw [hw3]; exact (Below.refl _ _).alloc (Nat.le_refl _) _
  have HM3 := Lib.hid (show Blk w3 w2.heap.size 35 #[.string et, .string eu, .slice P ep.length pc] from by rw [hw3]; exact Blk.new _ _ _)
  have HP3 := Lib.hid ((OwnPs.ps ho2).below b3)
  have HL3 := Lib.hid (below_on b2 b3)
  clear ho2 hok b2 b3 HXE
  go_wp2_with fail
  rw [← hw3]
  generalize w2.heap.size = mb at *
  clear hw3
  refine (HRX.out w3 A c (HT1.out.below HL3.out)).mono ?_
  rintro e w4 ⟨Q, qc, rfl, ho4, _, b4⟩
  obtain ⟨w5, hw5⟩ : ∃ w5, w5 = w4.alloc (.cells #[.string et, .string eu, .slice Q ep.length qc] 35) := ⟨_, rfl⟩
  have b5 : Below w4.heap.size w4 w5 := by rw [hw5]; exact (Below.refl _ _).alloc (Nat.le_refl _) _
  have HX5 := Lib.hid (show Blk w5 w4.heap.size 35 #[.string et, .string eu, .slice Q ep.length qc] from by rw [hw5]; exact Blk.new _ _ _)
  have HQ5 := Lib.hid ((OwnPs.ps ho4).below b5)
  have HM5 := Lib.hid (HM3.out.below (below_on b4 b5) HM3.out.lt)
  have HP5 := Lib.hid (HP3.out.below (below_on b4 b5))
  have HL5 := Lib.hid (below_on HL3.out (below_on b4 b5))
  clear ho4 b4 b5 HRX HM3 HP3 HL3
  go_wp2_with fail
  rw [← hw5]
  generalize w4.heap.size = xb at *
  clear hw5
  refine (HCH.out w5 A c (HT1.out.below HL5.out) HCAP.out).mono ?_
  rintro e w6 ⟨rfl, b6⟩
  have HM6 := Lib.hid (HM5.out.below b6 HM5.out.lt)
  have HX6 := Lib.hid (HX5.out.below b6 HX5.out.lt)
  have HP6 := Lib.hid (HP5.out.below b6)
  have HQ6 := Lib.hid (HQ5.out.below b6)
  have HL6 := Lib.hid (below_on HL5.out b6)
  clear b6 HM5 HX5 HP5 HQ5 HL5 HCH
  have m0 := HM6.out.cell 0
  have m1 := HM6.out.cell 1
  have m2 := HM6.out.cell 2
  have x0 := HX6.out.cell 0
  have x1 := HX6.out.cell 1
  have x2 := HX6.out.cell 2
  go_wp2_with fail
  refine (HSA.out w6 P Q pc qc HP6.out HQ6.out hel).mono ?_
  rintro e w7 ⟨rfl, b7⟩
  have HM7 := Lib.hid (HM6.out.below b7 HM6.out.lt)
  have HX7 := Lib.hid (HX6.out.below b7 HX6.out.lt)
  have HP7 := Lib.hid (HP6.out.below b7)
  have HQ7 := Lib.hid (HQ6.out.below b7)
  have HL7 := Lib.hid (below_on HL6.out b7)
  clear b7 HM6 HX6 HP6 HQ6 HL6 HSA m0 m1 m2 x0 x1 x2
  have m0 := HM7.out.cell 0
  have m1 := HM7.out.cell 1
  have m2 := HM7.out.cell 2
  have x0 := HX7.out.cell 0
  have x1 := HX7.out.cell 1
  have x2 := HX7.out.cell 2
  go_wp2_with fail
  refine (HAT.out w7 Q qc HQ7.out hel).mono ?_
  rintro e w8 ⟨rfl, b8⟩
  have HM8 := Lib.hid (HM7.out.below b8 HM7.out.lt)
  have HX8 := Lib.hid (HX7.out.below b8 HX7.out.lt)
  have HP8 := Lib.hid (HP7.out.below b8)
  have HQ8 := Lib.hid (HQ7.out.below b8)
  have HL8 := Lib.hid (below_on HL7.out b8)
  clear b8 HM7 HX7 HP7 HQ7 HL7 HAT m0 m1 m2 x0 x1 x2
  have m0 := HM8.out.cell 0
  have m1 := HM8.out.cell 1
  have m2 := HM8.out.cell 2
  have x0 := HX8.out.cell 0
  have x1 := HX8.out.cell 1
  have x2 := HX8.out.cell 2
  obtain ⟨q, rfl, hql, _, hq1⟩ := HQ8.out j hjl
  rw [← HPV.out] at hq1
  go_wp2_with fail
  refine (HRA.out w8 A c (HT1.out.below HL8.out)).mono ?_
  intro e w9 h9
  obtain ⟨B, d, rfl, hta, _, b9⟩ := h9.at_
  have HM9 := Lib.hid (HM8.out.below b9 HM8.out.lt)
  have HP9 := Lib.hid (HP8.out.below b9)
  have HL9 := Lib.hid (below_on HL8.out b9)
  have HTA := Lib.hid hta
  clear h9 hta b9 HM8 HX8 HP8 HQ8 HL8 HRA m0 m1 m2 x0 x1 x2
  obtain ⟨g, T, tc, rfl, hgl, f0, f1, f2, _⟩ := HTA.out k hkl
  obtain ⟨hlt, hlu⟩ := HLA.out
  rw [← hlt] at f0
  rw [← hlu] at f1
  have g1 : ((Z.length : Int) - 1) = (k : Int) := by have := HK.out; omega
  have d9 : ((Z.length : Int) == 0) = false := beq_eq_false_iff_ne.2 (by omega)
  generalize hps : Z[k].ps.length = pl at *
  have HGD := Lib.hid (fun W (hW : PsIn W P ep) => rgood_any et eu P ep pc W (HOK.out.mim hW))
  have hgood : goodM et eu ep = true := HGO.out
  rw [hgood] at HGD
  clear hgood hlt hlu hps hz
  have HMX := HM9
  have m0 := HM9.out.cell 0
  have m1 := HM9.out.cell 1
  have m2 := HM9.out.cell 2
  obtain ⟨w10, hw10⟩ : ∃ w10, w10 = w9.alloc (.cells #[.string et, .string eu, .slice T pl tc] 35) := ⟨_, rfl⟩
  have b10 : Below w9.heap.size w9 w10 := by rw [hw10]; exact (Below.refl _ _).alloc (Nat.le_refl _) _
  have HM10 := Lib.hid (HM9.out.below b10 HM9.out.lt)
  have HY10 := Lib.hid (show Blk w10 w9.heap.size 35 #[.string et, .string eu, .slice T pl tc] from by rw [hw10]; exact Blk.new _ _ _)
  have HP10 := Lib.hid (HP9.out.below b10)
  have HL10 := Lib.hid (below_on HL9.out b10)
  have hmb := HM9.out.lt
  clear b10
  go_wp2_with fail
  rw [← hw10]
  generalize w9.heap.size = yb at *
  clear hw10 m0 m1 m2 f0 f1 f2
  refine (HGD.out w10 HP10.out).mono ?_
  rintro e w11 ⟨rfl, b11⟩
  have HM11 := Lib.hid (HM10.out.below b11 HM10.out.lt)
  have HY11 := Lib.hid (HY10.out.below b11 HY10.out.lt)
  have HL11 := Lib.hid (below_on HL10.out b11)
  clear b11 HM10 HY10 HP10 HL10 HGD HMX
  have m0 := HM11.out.cell 0
  have m1 := HM11.out.cell 1
  have y0 := HY11.out.cell 0
  have y1 := HY11.out.cell 1
  go_wp2_with fail
  refine (HLV.out _).mono ?_
  rintro e w12 ⟨rfl, b12⟩
  have HB12 := Lib.hid (below_on HB1.out (below_on HL11.out b12))
  clear b12
  go_wp2
  go_ret
  exact ⟨rfl, HB12.out⟩

set_option maxHeartbeats 4000000 in
set_option maxRecDepth 100000 in
theorem extracts_unseen (A0 : Option Addr) (n c0 : Nat) (lp : Nat → ByteArray) (w : World) (h : TxCame w A0 n lp) (hn : n ≤ 9223372036854775807)
    (hz : ¬ (allT (valsL (fewT lp (min n 6)))).length = 0) (hv : seenB (extT (allT (valsL (fewT lp (min n 6))))).1.ps chrS = false) :
    Calls Tryz.prog 4 #[.slice A0 n c0] w fun e w' => e = .returned (.bool true) ∧ Below w.heap.size w w' := by
  have HF := Lib.hid (fews_any A0 n c0 lp w h hn)
  have hll : (fewT lp (min n 6)).length ≤ 6 := by rw [fewT_len]; omega
  have hla : ∀ y ∈ fewT lp (min n 6), y.size ≤ 1000 := fun y hy => Nat.le_trans (fewT_all _ _ y hy) (by omega)
  generalize fewT lp (min n 6) = L at *
  have HXE := Lib.hid (fun W A c (hW : TxIn W A L) (hc : L.length ≤ c) => extract_any A c L W hW (by omega) hla hc)
  have HRX := Lib.hid (fun W A c (hW : TxIn W A L) => rextract_any A c L W hW (by omega) hla)
  have HCH := Lib.hid (fun W A c (hW : TxIn W A L) (hc : L.length ≤ c) => charset_any A c L W hW (by omega) hla hc)
  have HRA := Lib.hid (fun W A c (hW : TxIn W A L) => rall_any A c L W hW (by omega) hla)
  have hzl := tys_len (by omega : L.length ≤ 700) hla
  have HLV := Lib.hid lives11_any
  have hgd : ∀ m ∈ allT (valsL L), goodM m.t m.u m.ps = true := fun m hm => allT_good hm
  generalize allT (valsL L) = Z at *
  have hco : codeOf Z = 0 := if_neg hz
  rw [hco] at HXE HRX
  obtain ⟨k, hk⟩ : ∃ k, Z.length = k + 1 := ⟨Z.length - 1, by omega⟩
  have hkl : k < Z.length := by omega
  have hlast : (extT Z).1.t = (Z[k]'hkl).t ∧ (extT Z).1.u = (Z[k]'hkl).u := extT_last hk
  have hgood := extT_good hk hgd
  clear hgd
  clear h hla hll hco
  obtain ⟨E, hE⟩ : ∃ E, E = (extT Z).1 := ⟨_, rfl⟩
  rw [← hE] at HXE HRX HCH hv hlast hgood
  clear hE
  obtain ⟨et, eu, ep⟩ := E
  simp only at HCH hv hlast hgood
  rw [hv] at HCH
  have hge := atI_ge ep chrS
  rw [hv] at hge
  have HLA := Lib.hid hlast
  have HK := Lib.hid hk
  have HGO := Lib.hid hgood
  clear hlast hk hgood
  rw [parV_none hv] at HCH
  have HAT := Lib.hid (fun W A c (hW : PsIn W A ep) (hl : ep.length ≤ 1048576) => rAt_any et eu A ep c chrS W hW hl)
  obtain ⟨ai, hai⟩ : ∃ ai, ai = atI ep chrS := ⟨_, rfl⟩
  rw [← hai] at HAT hge
  have g0 : ¬ (0 : Int) ≤ ai := by simpa using hge
  clear hai hge
  have HSA := Lib.hid (fun W P P' pc pc' (hp : PsIn W P ep) (hp' : PsIn W P' ep) (hl : ep.length ≤ 1048576) => show Calls Tryz.prog 13 #[mimV et eu P ep.length pc, mimV et eu P' ep.length pc'] W fun e w' => e = .returned (.bool true) ∧ Below W.heap.size W w' from by
    have := rsame_any et eu et eu P P' ep ep pc pc' W hp hp' hl hl
    rw [sameM_self] at this
    exact this)
  go_enter Tryz.func4, Tryz.ntmps4
  go_wp2_with fail
  refine HF.out.mono ?_
  intro e w1 h1
  obtain ⟨A, c, rfl, ht1, hcap, b1⟩ := h1.at_
  have HT1 := Lib.hid ht1
  have HB1 := Lib.hid b1
  have HCAP := Lib.hid hcap
  clear h1 ht1 b1 hcap HF
  go_wp2_with fail
  refine (HXE.out w1 A c HT1.out HCAP.out).mono ?_
  rintro e w2 ⟨P, pc, rfl, ho2, hok, b2⟩
  have hel : ep.length ≤ 1048576 := hok.2.2.2
  have HOK := Lib.hid hok
  obtain ⟨w3, hw3⟩ : ∃ w3, w3 = w2.alloc (.cells #[.string et, .string eu, .slice P ep.length pc] 35) := ⟨_, rfl⟩
  have b3 : Below w2.heap.size w2 w3 := by rw [hw3]; exact (Below.refl _ _).alloc (Nat.le_refl _) _
  have HM3 := Lib.hid (show Blk w3 w2.heap.size 35 #[.string et, .string eu, .slice P ep.length pc] from by rw [hw3]; exact Blk.new _ _ _)
  have HP3 := Lib.hid ((OwnPs.ps ho2).below b3)
  have HL3 := Lib.hid (below_on b2 b3)
  clear ho2 hok b2 b3 HXE
  go_wp2_with fail
  rw [← hw3]
  generalize w2.heap.size = mb at *
  clear hw3
  refine (HRX.out w3 A c (HT1.out.below HL3.out)).mono ?_
  rintro e w4 ⟨Q, qc, rfl, ho4, _, b4⟩
  obtain ⟨w5, hw5⟩ : ∃ w5, w5 = w4.alloc (.cells #[.string et, .string eu, .slice Q ep.length qc] 35) := ⟨_, rfl⟩
  have b5 : Below w4.heap.size w4 w5 := by rw [hw5]; exact (Below.refl _ _).alloc (Nat.le_refl _) _
  have HX5 := Lib.hid (show Blk w5 w4.heap.size 35 #[.string et, .string eu, .slice Q ep.length qc] from by rw [hw5]; exact Blk.new _ _ _)
  have HQ5 := Lib.hid ((OwnPs.ps ho4).below b5)
  have HM5 := Lib.hid (HM3.out.below (below_on b4 b5) HM3.out.lt)
  have HP5 := Lib.hid (HP3.out.below (below_on b4 b5))
  have HL5 := Lib.hid (below_on HL3.out (below_on b4 b5))
  clear ho4 b4 b5 HRX HM3 HP3 HL3
  go_wp2_with fail
  rw [← hw5]
  generalize w4.heap.size = xb at *
  clear hw5
  refine (HCH.out w5 A c (HT1.out.below HL5.out) HCAP.out).mono ?_
  rintro e w6 ⟨rfl, b6⟩
  have HM6 := Lib.hid (HM5.out.below b6 HM5.out.lt)
  have HX6 := Lib.hid (HX5.out.below b6 HX5.out.lt)
  have HP6 := Lib.hid (HP5.out.below b6)
  have HQ6 := Lib.hid (HQ5.out.below b6)
  have HL6 := Lib.hid (below_on HL5.out b6)
  clear b6 HM5 HX5 HP5 HQ5 HL5 HCH
  have m0 := HM6.out.cell 0
  have m1 := HM6.out.cell 1
  have m2 := HM6.out.cell 2
  have x0 := HX6.out.cell 0
  have x1 := HX6.out.cell 1
  have x2 := HX6.out.cell 2
  go_wp2_with fail
  refine (HSA.out w6 P Q pc qc HP6.out HQ6.out hel).mono ?_
  rintro e w7 ⟨rfl, b7⟩
  have HM7 := Lib.hid (HM6.out.below b7 HM6.out.lt)
  have HX7 := Lib.hid (HX6.out.below b7 HX6.out.lt)
  have HP7 := Lib.hid (HP6.out.below b7)
  have HQ7 := Lib.hid (HQ6.out.below b7)
  have HL7 := Lib.hid (below_on HL6.out b7)
  clear b7 HM6 HX6 HP6 HQ6 HL6 HSA m0 m1 m2 x0 x1 x2
  have m0 := HM7.out.cell 0
  have m1 := HM7.out.cell 1
  have m2 := HM7.out.cell 2
  have x0 := HX7.out.cell 0
  have x1 := HX7.out.cell 1
  have x2 := HX7.out.cell 2
  go_wp2_with fail
  refine (HAT.out w7 Q qc HQ7.out hel).mono ?_
  rintro e w8 ⟨rfl, b8⟩
  have HM8 := Lib.hid (HM7.out.below b8 HM7.out.lt)
  have HX8 := Lib.hid (HX7.out.below b8 HX7.out.lt)
  have HP8 := Lib.hid (HP7.out.below b8)
  have HQ8 := Lib.hid (HQ7.out.below b8)
  have HL8 := Lib.hid (below_on HL7.out b8)
  clear b8 HM7 HX7 HP7 HQ7 HL7 HAT m0 m1 m2 x0 x1 x2
  have m0 := HM8.out.cell 0
  have m1 := HM8.out.cell 1
  have m2 := HM8.out.cell 2
  have x0 := HX8.out.cell 0
  have x1 := HX8.out.cell 1
  have x2 := HX8.out.cell 2
  go_wp2_with fail
  refine (HRA.out w8 A c (HT1.out.below HL8.out)).mono ?_
  intro e w9 h9
  obtain ⟨B, d, rfl, hta, _, b9⟩ := h9.at_
  have HM9 := Lib.hid (HM8.out.below b9 HM8.out.lt)
  have HP9 := Lib.hid (HP8.out.below b9)
  have HL9 := Lib.hid (below_on HL8.out b9)
  have HTA := Lib.hid hta
  clear h9 hta b9 HM8 HX8 HP8 HQ8 HL8 HRA m0 m1 m2 x0 x1 x2
  obtain ⟨g, T, tc, rfl, hgl, f0, f1, f2, _⟩ := HTA.out k hkl
  obtain ⟨hlt, hlu⟩ := HLA.out
  rw [← hlt] at f0
  rw [← hlu] at f1
  have g1 : ((Z.length : Int) - 1) = (k : Int) := by have := HK.out; omega
  have d9 : ((Z.length : Int) == 0) = false := beq_eq_false_iff_ne.2 (by omega)
  generalize hps : Z[k].ps.length = pl at *
  have HGD := Lib.hid (fun W (hW : PsIn W P ep) => rgood_any et eu P ep pc W (HOK.out.mim hW))
  have hgood : goodM et eu ep = true := HGO.out
  rw [hgood] at HGD
  clear hgood hlt hlu hps hz
  have HMX := HM9
  have m0 := HM9.out.cell 0
  have m1 := HM9.out.cell 1
  have m2 := HM9.out.cell 2
  obtain ⟨w10, hw10⟩ : ∃ w10, w10 = w9.alloc (.cells #[.string et, .string eu, .slice T pl tc] 35) := ⟨_, rfl⟩
  have b10 : Below w9.heap.size w9 w10 := by rw [hw10]; exact (Below.refl _ _).alloc (Nat.le_refl _) _
  have HM10 := Lib.hid (HM9.out.below b10 HM9.out.lt)
  have HY10 := Lib.hid (show Blk w10 w9.heap.size 35 #[.string et, .string eu, .slice T pl tc] from by rw [hw10]; exact Blk.new _ _ _)
  have HP10 := Lib.hid (HP9.out.below b10)
  have HL10 := Lib.hid (below_on HL9.out b10)
  have hmb := HM9.out.lt
  clear b10
  go_wp2_with fail
  rw [← hw10]
  generalize w9.heap.size = yb at *
  clear hw10 m0 m1 m2 f0 f1 f2
  refine (HGD.out w10 HP10.out).mono ?_
  rintro e w11 ⟨rfl, b11⟩
  have HM11 := Lib.hid (HM10.out.below b11 HM10.out.lt)
  have HY11 := Lib.hid (HY10.out.below b11 HY10.out.lt)
  have HL11 := Lib.hid (below_on HL10.out b11)
  clear b11 HM10 HY10 HP10 HL10 HGD HMX
  have m0 := HM11.out.cell 0
  have m1 := HM11.out.cell 1
  have y0 := HY11.out.cell 0
  have y1 := HY11.out.cell 1
  go_wp2_with fail
  refine (HLV.out _).mono ?_
  rintro e w12 ⟨rfl, b12⟩
  have HB12 := Lib.hid (below_on HB1.out (below_on HL11.out b12))
  clear b12
  go_wp2
  go_ret
  exact ⟨rfl, HB12.out⟩

theorem none_seen {Z : List Mty} (hz : Z.length = 0) : seenB (extT Z).1.ps chrS = false := by
  have hz0 : Z = [] := List.eq_nil_of_length_eq_zero hz
  rw [hz0]
  rfl
theorem combineExtracts_any (A0 : Option Addr) (n c0 : Nat) (lp : Nat → ByteArray) (w : World) (h : TxCame w A0 n lp) (hn : n ≤ 9223372036854775807) :
    Calls Tryz.prog 4 #[.slice A0 n c0] w fun e w' => e = .returned (.bool true) ∧ Below w.heap.size w w' := by
  by_cases hz : (allT (valsL (fewT lp (min n 6)))).length = 0
  · exact extracts_none A0 n c0 lp w h hn hz (none_seen hz)
  · cases hv : seenB (extT (allT (valsL (fewT lp (min n 6))))).1.ps chrS
    · exact extracts_unseen A0 n c0 lp w h hn hz hv
    · exact extracts_seen A0 n c0 lp w h hn hz hv

end Go.Proofs.YtmepnfkgfbbkiaaGreat
