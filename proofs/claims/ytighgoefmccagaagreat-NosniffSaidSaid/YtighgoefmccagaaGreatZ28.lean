/-
  What the document's Raw and Said of layer 23 answer. Condition: at most seven hundred headers, with texts of at most a thousand bytes.
  The law NosniffSaid. No condition.
-/
import Derived.Test.YtighgoefmccagaaGreatZ23
import Derived.Test.YtighgoefmccagaaGreatZ24
import Derived.Test.YtighgoefmccagaaGreatZ27
import Derived.Test.YtighgoefmccagaaGreatZ26
import Derived.Test.YtighgoefmccagaaGreatZ19
namespace Go.Proofs.YtighgoefmccagaaGreat
open Go.RowKit

set_option maxHeartbeats 1000000 in
theorem rraw23_any (A : Option Addr) (c : Nat) (l : List Prm) (w : World) (h : HdIn w A l) (ha : AllIn 1000 l) (hn : l.length ≤ 700) :
    Calls Tryz.prog 9 #[.slice A l.length c] w fun e w' => e = .returned (.tuple #[.string (rawB l), .bool (hasT l)]) ∧ Below w.heap.size w w' := by
  have HG := Lib.hid (rget_any ctS A c l w h (big_all ha) (by omega) (by decide))
  have hln := getN_len ctS l
  have hrn := rawB_none (l := l)
  have hrl : ∀ h : (getN ctS l).length - 1 < (getN ctS l).length, rawB l = (getN ctS l)[(getN ctS l).length - 1]'h := fun h => rawB_last (by omega)
  have hht : hasT l = decide (0 < (getN ctS l).length) := rfl
  generalize getN ctS l = V at *
  obtain ⟨z, hz⟩ : ∃ z, z = rawB l := ⟨_, rfl⟩
  rw [← hz] at hrn hrl ⊢
  rw [hht]
  clear hz h ha hht
  by_cases h0 : V.length = 0
  · obtain rfl : z = ⟨#[]⟩ := hrn h0
    have d0 : ((V.length : Int) == 0) = true := beq_iff_eq.2 (by omega)
    rw [decide_eq_false (by omega : ¬ 0 < V.length)]
    clear hrn hrl
    go_enter Tryz.func9, Tryz.ntmps9
    go_wp2_with fail
    refine HG.out.mono ?_
    rintro e w1 ⟨v, rfl, ho, b1⟩
    obtain ⟨A', c', rfl, ht, hc⟩ := TxIn.of_own ho
    have HB := Lib.hid b1
    clear b1 ho ht hc
    go_wp2
    go_ret2
    exact ⟨rfl, HB.out⟩
  · have hp : 0 < V.length := by omega
    have hl1 : V.length - 1 < V.length := by omega
    obtain hz : z = V[V.length - 1] := hrl hl1
    have d0 : ((V.length : Int) == 0) = false := beq_eq_false_iff_ne.2 (by omega)
    rw [decide_eq_true hp]
    have HGET := Lib.hid (fun W A' (ht : TxIn W A' V) => ht (V.length - 1) hl1)
    rw [← hz] at HGET
    have g1 : ((V.length : Int) - 1) = ((V.length - 1 : Nat) : Int) := by omega
    clear hrn hrl hz
    go_enter Tryz.func9, Tryz.ntmps9
    go_wp2_with fail
    refine HG.out.mono ?_
    rintro e w1 ⟨v, rfl, ho, b1⟩
    obtain ⟨A', c', rfl, ht, hc⟩ := TxIn.of_own ho
    obtain ⟨g, rfl, hgl, hgc⟩ := HGET.out _ _ ht
    have HB := Lib.hid b1
    clear b1 ho ht hc
    go_wp2
    go_ret2
    exact ⟨rfl, HB.out⟩

set_option maxHeartbeats 2000000 in
set_option maxRecDepth 100000 in
theorem rsaid23_any (A : Option Addr) (c : Nat) (l : List Prm) (w : World) (h : HdIn w A l) (ha : AllIn 1000 l) (hn : l.length ≤ 700) :
    Calls Tryz.prog 6 #[.slice A l.length c] w (SaiGives (tyM l) (tyB l) (nosB l) (bugB (rawB l)) w.heap.size w) := by
  obtain ⟨w0, hw0⟩ : ∃ w0, w0 = w.alloc (.cells #[.string ⟨#[]⟩, .string ⟨#[]⟩, .slice none 0 0, .bool false, .bool false, .bool false] 28) := ⟨_, rfl⟩
  have HB0 := Lib.hid (show Below w.heap.size w w0 from by rw [hw0]; exact (Below.refl _ _).alloc (Nat.le_refl _) _)
  have HR0 := Lib.hid (show Blk w0 w.heap.size 28 #[.string ⟨#[]⟩, .string ⟨#[]⟩, .slice none 0 0, .bool false, .bool false, .bool false] from by rw [hw0]; exact Blk.new _ _ _)
  have HG := Lib.hid (rget_any ctS A c l w0 (h.below HB0.out) (big_all ha) (by omega) (by decide))
  have hln := getN_len ctS l
  have hvs := getN_le (name := ctS) (l := l) (m := 1000) fun p hp => (ha p hp).2
  have hcd := code_ty l
  have HM : Hid (tyM l = (extT (allT (valsL (getN ctS l)))).1) := Lib.hid rfl
  have HE := Lib.hid (fun W A' c' (ht : TxIn W A' (getN ctS l)) => rextract_any A' c' (getN ctS l) W ht (by omega) hvs)
  rw [← HM.out] at HE
  generalize getN ctS l = V at *
  generalize codeOf (allT (valsL V)) = code at *
  have HRA := Lib.hid (fun W (hW : Below w.heap.size w W) => rraw23_any A c l W (h.below hW) ha hn)
  have HIS := Lib.hid (fun W (hW : Below w.heap.size w W) => ris23_any A c l W (h.below hW) ha hn)
  generalize rawB l = raw at *
  generalize hasT l = hasr at *
  have HBU := Lib.hid (fun W => rbug_any raw W)
  generalize bugB raw = bug at *
  generalize nosB l = ns at *
  obtain ⟨has, hhas⟩ : ∃ has, has = tyB l := ⟨_, rfl⟩
  rw [← hhas] at hcd ⊢
  clear hhas HM hvs
  obtain ⟨m, hm⟩ : ∃ m, m = tyM l := ⟨_, rfl⟩
  rw [← hm] at HE ⊢
  clear hm hln
  obtain ⟨mt, mu, mp⟩ := m
  generalize l.length = n at *
  clear h ha
  go_enter Tryz.func6, Tryz.ntmps6
  go_wp2_with fail
  rw [← hw0]
  clear hw0
  refine HG.out.mono ?_
  rintro e w1 ⟨v, rfl, ho, b1⟩
  obtain ⟨A', c', rfl, ht, hc⟩ := TxIn.of_own ho
  have HT := Lib.hid ht
  have HRz := Lib.hid (HR0.out.below b1 HR0.out.lt)
  have HBz := Lib.hid (below_on HB0.out b1)
  clear ho ht hc b1 HG HR0 HB0
  go_wp2_with fail
  refine (HE.out _ _ _ HT.out).mono ?_
  rintro e w1 ⟨P, pc, rfl, ho, hok, b1⟩
  have HR1 := Lib.hid (HRz.out.below b1 HRz.out.lt)
  have HB1 := Lib.hid (below_on HBz.out b1)
  have HO1 := Lib.hid (own_base ho HBz.out.size)
  have HOK := Lib.hid hok
  obtain ⟨w2, hw2⟩ : ∃ w2, w2 = w1.alloc (.cells #[.string mt, .string mu, .slice P mp.length pc] 26) := ⟨_, rfl⟩
  have b2 : Below w1.heap.size w1 w2 := by rw [hw2]; exact (Below.refl _ _).alloc (Nat.le_refl _) _
  have HX2 := Lib.hid (show Blk w2 w1.heap.size 26 #[.string mt, .string mu, .slice P mp.length pc] from by rw [hw2]; exact Blk.new _ _ _)
  have HR2 := Lib.hid (HR1.out.below b2 HR1.out.lt)
  have HB2 := Lib.hid (below_on HB1.out b2)
  have HO2 := Lib.hid (show OwnPs w2 w.heap.size P pc mp from own_mv HO1.out (Mv.of_below b2 []) (by simp))
  have hne : w.heap.size ≠ w1.heap.size := by have := HR1.out.lt; omega
  clear ho hok b1 b2 HE HRz HBz HR1 HB1 HO1 HT
  go_wp2_with fail
  rw [← hw2]
  generalize w1.heap.size = mb at *
  clear hw2
  refine (HRA.out _ HB2.out).mono ?_
  rintro e w3 ⟨rfl, b3⟩
  have HX := Lib.hid (HX2.out.below b3 HX2.out.lt)
  have HR := Lib.hid (HR2.out.below b3 HR2.out.lt)
  have HB3 := Lib.hid (below_on HB2.out b3)
  have HO := Lib.hid (show OwnPs w3 w.heap.size P pc mp from own_mv HO2.out (Mv.of_below b3 []) (by simp))
  clear b3 HX2 HR2 HB2 HO2 HRA
  have HI2 := Lib.hid (fun W (hW : Below w3.heap.size w3 W) => HIS.out W (below_on HB3.out hW))
  have HB := Lib.hid (Below.refl w3.heap.size w3)
  clear HIS
  obtain ⟨c0, c1, c2⟩ := three_keep HX.out HB.out
  go_wp2_with fail
  go_region_held3 (fun w' => w'.cell? ⟨mb, 0, none⟩ = some (.string mt) ∧ w'.cell? ⟨mb, 1, none⟩ = some (.string mu) ∧ w'.cell? ⟨mb, 2, none⟩ = some (.slice P mp.length pc))
    (first | with_reducible exact three_keep HX.out HB.out | with_reducible exact three_keep HX.out HB.out.drew | with_reducible exact three_six (three_keep HX.out HB.out) hne _ _ _ _ _ _ | go_keep)
    (first
      | (go_at_call 17; (with_reducible refine (HI2.out _ (by first | exact HB.out | exact HB.out.drew)).mono ?_); rintro e w4 ⟨rfl, b4⟩
         have HB := Lib.hid (below_on (w := _) (by first | exact HB.out | exact HB.out.drew) b4)
         clear b4
         have HRR := Lib.hid (HR.out.below HB.out HR.out.lt)
         have r0 := HRR.out.cell 0
         have r1 := HRR.out.cell 1
         have r2 := HRR.out.cell 2
         have r3 := HRR.out.cell 3
         have r4 := HRR.out.cell 4
         have r5 := HRR.out.cell 5
         have z0 := HRR.out.frozen 0
         have z1 := HRR.out.frozen 1
         have z2 := HRR.out.frozen 2
         have z3 := HRR.out.frozen 3
         have z4 := HRR.out.frozen 4
         have z5 := HRR.out.frozen 5)
      | (go_at_call 18; (with_reducible refine (HBU.out _).mono ?_); rintro e w4 ⟨rfl, rfl⟩))
  all_goals
    have HF2 := Lib.hid (own_six (show OwnPs w4 w.heap.size P pc mp from own_mv HO.out (Mv.of_below HB.out []) (by simp)) HRR.out (.string mt) (.string mu) (.slice P mp.length pc) (.bool has) (.bool ns) (.bool bug))
    have HF1 := Lib.hid (((((((HRR.out.set_ 0 (.string mt)).set_ 1 (.string mu)).set_ 2 (.slice P mp.length pc)).set_ 3 (.bool has)).set_ 4 (.bool ns)).set_ 5 (.bool bug)))
    have HF3 := Lib.hid (below_six (below_on HB3.out HB.out) (Nat.le_refl _) (.string mt) (.string mu) (.slice P mp.length pc) (.bool has) (.bool ns) (.bool bug))
    clear r0 r1 r2 r3 r4 r5 z0 z1 z2 z3 z4 z5 HRR HO HR HX HB3 c0 c1 c2
    generalize ((((((w4.setCell { block := w.heap.size, off := 0 } (Value.string mt)).setCell { block := w.heap.size, off := 1 } (Value.string mu)).setCell { block := w.heap.size, off := 2 } (Value.slice P mp.length pc)).setCell { block := w.heap.size, off := 3 } (Value.bool has)).setCell { block := w.heap.size, off := 4 } (Value.bool ns)).setCell { block := w.heap.size, off := 5 } (Value.bool bug)) = W at *
    have r0 := HF1.out.cell 0
    have r1 := HF1.out.cell 1
    have r2 := HF1.out.cell 2
    have r3 := HF1.out.cell 3
    have r4 := HF1.out.cell 4
    have r5 := HF1.out.cell 5
    go_wp2
    refine bodyPost_ret (v := saidV mt mu P mp.length pc has ns bug) (by simp [results, Tryz.results6, go_sem, r0, r1, r2, r3, r4, r5]; done) rfl ?_
    exact ⟨P, pc, rfl, HF2.out, HOK.out, HF3.out⟩

end Go.Proofs.YtighgoefmccagaaGreat
namespace Go.Proofs.YtighgoefmccagaaGreat
open Go.RowKit

set_option maxHeartbeats 4000000 in
set_option maxRecDepth 100000 in
theorem said_walk (m : Mty) (has ns bug hasr : Bool) (raw : ByteArray) (A : Option Addr) (n c : Nat) (L : List Prm) (w : World)
    (HLV : Hid (∀ W, Calls Tryz.prog 11 #[] W fun e w' => e = .returned (.bool true) ∧ Below W.heap.size W w'))
    (HF1 : Hid (∀ W, Below w.heap.size w W → Calls Tryz.prog 4 #[.slice A n c, .int .i64 10] W fun e w' => ∃ b c', e = .returned (.slice (some b) L.length c') ∧ OwnHd w' W.heap.size (some b) c' L ∧ Below W.heap.size W w'))
    (HF2 : Hid (∀ A c W, HdIn W A L → Calls Tryz.prog 4 #[.slice A L.length c, .int .i64 10] W fun e w' => ∃ b c', e = .returned (.slice (some b) L.length c') ∧ OwnHd w' W.heap.size (some b) c' L ∧ Below W.heap.size W w'))
    (HSD : Hid (∀ A c W, HdIn W A L → Calls Tryz.prog 5 #[.slice A L.length c] W (SaiGives m has ns bug W.heap.size W)))
    (HRD : Hid (∀ A c W, HdIn W A L → Calls Tryz.prog 6 #[.slice A L.length c] W (SaiGives m has ns bug W.heap.size W)))
    (HMI : Hid (∀ A c W, HdIn W A L → Calls Tryz.prog 7 #[.slice A L.length c] W (MimGives m has W.heap.size W)))
    (HRA : Hid (∀ A c W, HdIn W A L → Calls Tryz.prog 8 #[.slice A L.length c] W fun e w' => e = .returned (.tuple #[.string raw, .bool hasr]) ∧ Below W.heap.size W w'))
    (HRR : Hid (∀ A c W, HdIn W A L → Calls Tryz.prog 9 #[.slice A L.length c] W fun e w' => e = .returned (.tuple #[.string raw, .bool hasr]) ∧ Below W.heap.size W w')) :
    Calls Tryz.prog 3 #[.slice A n c] w fun e w' => e = .returned (.bool true) ∧ Below w.heap.size w w' := by
  have HB := Lib.hid (Below.refl w.heap.size w)
  obtain ⟨mt, mu, mp⟩ := m
  have HSA := Lib.hid (fun W P P' pc pc' (hp : PsIn W P mp) (hp' : PsIn W P' mp) (hl : mp.length ≤ 1048576) => show Calls Tryz.prog 10 #[mimV mt mu P mp.length pc, mimV mt mu P' mp.length pc'] W fun e w' => e = .returned (.bool true) ∧ Below W.heap.size W w' from by
    have := rsame_any mt mu mt mu P P' mp mp pc pc' W hp hp' hl hl
    rw [sameM_self] at this
    exact this)
  have d0 : (raw.toList == raw.toList) = true := beq_self_eq_true _
  go_enter Tryz.func3, Tryz.ntmps3
  go_wp2_with (first
    | (go_at_call 4; (with_reducible refine (HF1.out _ HB.out).mono ?_); rintro e w1 ⟨b, d, rfl, o1, b1⟩; have HL := Lib.hid o1.hd; replace HB := Lib.hid (HB.out.trans (b1.mono HB.out.size)); clear o1 b1 HF1)
    | (go_at_call 4; (with_reducible refine (HF2.out _ _ _ HL.out).mono ?_); rintro e w1 ⟨b', d', rfl, o1, b1⟩; have HF := Lib.hid o1.hd; replace HL := Lib.hid (HL.out.below b1); replace HB := Lib.hid (HB.out.trans (b1.mono HB.out.size)); clear o1 b1)
    | (go_at_call 5; (with_reducible refine (HSD.out _ _ _ HF.out).mono ?_); rintro e w1 ⟨P, pc, rfl, ho, hok, b1⟩; have HP := Lib.hid ho.ps; have HOK := Lib.hid hok; replace HL := Lib.hid (HL.out.below b1); replace HB := Lib.hid (HB.out.trans (b1.mono HB.out.size)); clear ho hok b1 HF)
    | (go_at_call 6; (with_reducible refine (HRD.out _ _ _ HL.out).mono ?_); rintro e w1 ⟨Q, qc, rfl, ho, _, b1⟩; have HQ := Lib.hid ho.ps; replace HP := Lib.hid (HP.out.below b1); replace HL := Lib.hid (HL.out.below b1); replace HB := Lib.hid (HB.out.trans (b1.mono HB.out.size)); clear ho b1 HRD HSD))
  obtain ⟨w2, hw2⟩ : ∃ w2, w2 = (w1.alloc (.cells #[.string mt, .string mu, .slice P mp.length pc, .bool has, .bool ns, .bool bug] 28)).alloc (.cells #[.string mt, .string mu, .slice Q mp.length qc, .bool has, .bool ns, .bool bug] 28) := ⟨_, rfl⟩
  have hb2 : Below w1.heap.size w1 w2 := by rw [hw2]; exact ((Below.refl _ _).alloc (Nat.le_refl _) _).alloc (by simp) _
  have HX := Lib.hid (show Blk w2 w1.heap.size 28 #[.string mt, .string mu, .slice P mp.length pc, .bool has, .bool ns, .bool bug] from by rw [hw2]; exact (Blk.new _ _ _).alloc _)
  have HY := Lib.hid (show Blk w2 (w1.heap.size + 1) 28 #[.string mt, .string mu, .slice Q mp.length qc, .bool has, .bool ns, .bool bug] from by rw [hw2]; have := Blk.new (w1.alloc (.cells #[.string mt, .string mu, .slice P mp.length pc, .bool has, .bool ns, .bool bug] 28)) 28 #[.string mt, .string mu, .slice Q mp.length qc, .bool has, .bool ns, .bool bug]; simpa using this)
  rw [← hw2]
  clear hw2
  replace HP := Lib.hid (HP.out.below hb2)
  replace HQ := Lib.hid (HQ.out.below hb2)
  replace HL := Lib.hid (HL.out.below hb2)
  replace HB := Lib.hid (below_on HB.out hb2)
  generalize w1.heap.size + 1 = yb at *
  generalize w1.heap.size = xb at *
  clear hb2
  refine (HF2.out _ _ _ HL.out).mono ?_
  rintro e w3 ⟨b', d', rfl, o1, b1⟩
  have HF := Lib.hid o1.hd
  replace HX := Lib.hid (HX.out.below b1 HX.out.lt)
  replace HY := Lib.hid (HY.out.below b1 HY.out.lt)
  replace HP := Lib.hid (HP.out.below b1)
  replace HQ := Lib.hid (HQ.out.below b1)
  replace HL := Lib.hid (HL.out.below b1)
  replace HB := Lib.hid (below_on HB.out b1)
  clear o1 b1
  go_wp2_with fail
  refine (HMI.out _ _ _ HF.out).mono ?_
  rintro e w4 ⟨M, mc, rfl, ho, _, b1⟩
  have HM := Lib.hid ho.ps
  replace HX := Lib.hid (HX.out.below b1 HX.out.lt)
  replace HY := Lib.hid (HY.out.below b1 HY.out.lt)
  replace HP := Lib.hid (HP.out.below b1)
  replace HQ := Lib.hid (HQ.out.below b1)
  replace HL := Lib.hid (HL.out.below b1)
  replace HB := Lib.hid (below_on HB.out b1)
  clear ho b1 HF HMI
  obtain ⟨w5, hw5⟩ : ∃ w5, w5 = w4.alloc (.cells #[.string mt, .string mu, .slice M mp.length mc] 26) := ⟨_, rfl⟩
  have hb5 : Below w4.heap.size w4 w5 := by rw [hw5]; exact (Below.refl _ _).alloc (Nat.le_refl _) _
  have HZ := Lib.hid (show Blk w5 w4.heap.size 26 #[.string mt, .string mu, .slice M mp.length mc] from by rw [hw5]; exact Blk.new _ _ _)
  replace HX := Lib.hid (HX.out.below hb5 HX.out.lt)
  replace HY := Lib.hid (HY.out.below hb5 HY.out.lt)
  replace HP := Lib.hid (HP.out.below hb5)
  replace HQ := Lib.hid (HQ.out.below hb5)
  replace HM := Lib.hid (HM.out.below hb5)
  replace HL := Lib.hid (HL.out.below hb5)
  replace HB := Lib.hid (below_on HB.out hb5)
  clear hb5
  go_wp2_with fail
  rw [← hw5]
  clear hw5
  generalize w4.heap.size = zb at *
  refine (HF2.out _ _ _ HL.out).mono ?_
  rintro e w6 ⟨b', d', rfl, o1, b1⟩
  have HF := Lib.hid o1.hd
  replace HX := Lib.hid (HX.out.below b1 HX.out.lt)
  replace HY := Lib.hid (HY.out.below b1 HY.out.lt)
  replace HZ := Lib.hid (HZ.out.below b1 HZ.out.lt)
  replace HP := Lib.hid (HP.out.below b1)
  replace HQ := Lib.hid (HQ.out.below b1)
  replace HM := Lib.hid (HM.out.below b1)
  replace HL := Lib.hid (HL.out.below b1)
  replace HB := Lib.hid (below_on HB.out b1)
  clear o1 b1
  go_wp2_with fail
  refine (HRA.out _ _ _ HF.out).mono ?_
  rintro e w7 ⟨rfl, b1⟩
  replace HX := Lib.hid (HX.out.below b1 HX.out.lt)
  replace HY := Lib.hid (HY.out.below b1 HY.out.lt)
  replace HZ := Lib.hid (HZ.out.below b1 HZ.out.lt)
  replace HP := Lib.hid (HP.out.below b1)
  replace HQ := Lib.hid (HQ.out.below b1)
  replace HM := Lib.hid (HM.out.below b1)
  replace HL := Lib.hid (HL.out.below b1)
  replace HB := Lib.hid (below_on HB.out b1)
  clear b1 HF
  go_wp2_with fail
  refine (HRR.out _ _ _ HL.out).mono ?_
  rintro e w8 ⟨rfl, b1⟩
  replace HX := Lib.hid (HX.out.below b1 HX.out.lt)
  replace HY := Lib.hid (HY.out.below b1 HY.out.lt)
  replace HZ := Lib.hid (HZ.out.below b1 HZ.out.lt)
  replace HP := Lib.hid (HP.out.below b1)
  replace HQ := Lib.hid (HQ.out.below b1)
  replace HM := Lib.hid (HM.out.below b1)
  replace HB := Lib.hid (below_on HB.out b1)
  clear b1 HL HF2 HRA HRR
  have y0 := HY.out.cell 0
  have y1 := HY.out.cell 1
  have y2 := HY.out.cell 2
  have y3 := HY.out.cell 3
  have z0 := HZ.out.cell 0
  have z1 := HZ.out.cell 1
  have z2 := HZ.out.cell 2
  go_wp2_with fail
  refine (HSA.out _ _ _ _ _ HM.out HQ.out HOK.out.2.2.2).mono ?_
  rintro e w9 ⟨rfl, b1⟩
  replace HX := Lib.hid (HX.out.below b1 HX.out.lt)
  replace HY := Lib.hid (HY.out.below b1 HY.out.lt)
  replace HP := Lib.hid (HP.out.below b1)
  replace HQ := Lib.hid (HQ.out.below b1)
  replace HB := Lib.hid (below_on HB.out b1)
  clear b1 y0 y1 y2 y3 z0 z1 z2 HZ HM
  have x0 := HX.out.cell 0
  have x1 := HX.out.cell 1
  have x2 := HX.out.cell 2
  have y0 := HY.out.cell 0
  have y1 := HY.out.cell 1
  have y2 := HY.out.cell 2
  go_wp2_with fail
  refine (HSA.out _ _ _ _ _ HP.out HQ.out HOK.out.2.2.2).mono ?_
  rintro e w10 ⟨rfl, b1⟩
  replace HX := Lib.hid (HX.out.below b1 HX.out.lt)
  replace HY := Lib.hid (HY.out.below b1 HY.out.lt)
  replace HB := Lib.hid (below_on HB.out b1)
  clear b1 x0 x1 x2 y0 y1 y2 HP HQ
  have x3 := HX.out.cell 3
  have x4 := HX.out.cell 4
  have x5 := HX.out.cell 5
  have y3 := HY.out.cell 3
  have y4 := HY.out.cell 4
  have y5 := HY.out.cell 5
  go_wp2_with (first
    | (go_at_call 11; (with_reducible refine (HLV.out _).mono ?_); rintro e w1 ⟨rfl, b1⟩; replace HB := Lib.hid (HB.out.trans (b1.mono HB.out.size)); clear b1))
  go_ret
  exact ⟨rfl, HB.out⟩

set_option maxHeartbeats 2000000 in
theorem nsaidLaw_any (A : Option Addr) (n c : Nat) (lp : Nat → Prm) (w : World) (h : Came w A n lp) (hn : n ≤ 9223372036854775807) :
    Calls Tryz.prog 3 #[.slice A n c] w fun e w' => e = .returned (.bool true) ∧ Below w.heap.size w w' := by
  have HF1 := Lib.hid (fun W (hW : Below w.heap.size w W) => few22_any A n c 10 lp W (h.below hW) hn (by omega))
  have hll := fewHs_len lp (min n 10)
  have hall := fewHs_all lp (min n 10)
  have hmin : min n 10 ≤ 10 := Nat.min_le_right _ _
  rw [← hll] at hmin
  generalize fewHs lp (min n 10) = L at *
  rw [← hll] at HF1
  clear hll h
  have h2 := small_all hall (m := 1000) (by omega)
  refine said_walk (tyM L) (tyB L) (nosB L) (bugB (rawB L)) (hasT L) (rawB L) A n c L w (Lib.hid lives23_any) HF1 ?_ ?_ ?_ ?_ ?_ ?_
  · exact fun A c W h => few22_own A c 10 L W h hall hmin (by omega)
  · exact fun A c W h => nsaid_any A c L W h h2 (by omega)
  · exact fun A c W h => rsaid23_any A c L W h h2 (by omega)
  · exact fun A c W h => nmime_any A c L W h h2 (by omega)
  · exact fun A c W h => nraw_any A c L W h h2 (by omega)
  · exact fun A c W h => rraw23_any A c L W h h2 (by omega)

end Go.Proofs.YtighgoefmccagaaGreat
