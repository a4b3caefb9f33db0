/-
  What the functions of package nosniff answer. Condition: at most seven hundred headers, with texts of at most a thousand bytes.
  What package nosniff's Said answers. Condition: at most seven hundred headers, with texts of at most a thousand bytes.
  What Clone and DeleteFunc of the library do with headers, and what Cut of package header answers. Condition: texts are shorter than a mebibyte, headers no more than that.
-/
import Derived.Test.YtighgoefmccagaaGreatZ12
import Derived.Test.YtighgoefmccagaaGreatZ18
import Derived.Test.YtighgoefmccagaaGreatZ17
import Derived.Test.YtighgoefmccagaaGreatZ21
import Derived.Test.YtighgoefmccagaaGreatZ22
import Derived.Deep.RegionHeld3
import Derived.Test.YtighgoefmccagaaGreatZ16
import Derived.Test.YtighgoefmccagaaGreatZ8
import Derived.Lib.SliceRun
namespace Go.Proofs.YtighgoefmccagaaGreat
open Go.RowKit

/-- The type that headers come to, and whether there is one. -/
def tyM (l : List Prm) : Mty := (extT (allT (valsL (getN ctS l)))).1
def tyB (l : List Prm) : Bool := decide ((allT (valsL (getN ctS l))).length ≠ 0)
theorem code_ty (l : List Prm) : ((codeOf (allT (valsL (getN ctS l)))) == 0) = tyB l := by
  unfold codeOf tyB
  by_cases h : (allT (valsL (getN ctS l))).length = 0
  · rw [if_pos h, decide_eq_false (by omega)]; rfl
  · rw [if_neg h, decide_eq_true h]; rfl
theorem tyM_cut {name : ByteArray} (h : sameB name ctS = false) (l : List Prm) : tyM (cutN name l) = tyM l := by unfold tyM; rw [getN_cut h]
theorem tyB_cut {name : ByteArray} (h : sameB name ctS = false) (l : List Prm) : tyB (cutN name l) = tyB l := by unfold tyB; rw [getN_cut h]
theorem big_all {l : List Prm} (h : AllIn 1000 l) : AllIn 1048576 l := fun p hp => ⟨by have := (h p hp).1; omega, by have := (h p hp).2; omega⟩
theorem join_le {x : ByteArray} {l : List Prm} (ha : AllIn 1000 l) (hn : l.length ≤ 700) : (joinS (getN x l)).size ≤ 701400 := by
  have h1 := joinS_size (getN_le (name := x) fun p hp => (ha p hp).2)
  have h2 := Nat.mul_le_mul (Nat.le_trans (getN_len x l) hn) (Nat.le_refl (1000 + 2))
  omega
theorem nosV_sizes {l : List Prm} (ha : AllIn 1000 l) (hn : l.length ≤ 700) : (∀ y ∈ nosV l, y.size ≤ 701400) ∧ (nosV l).length ≤ 701401 := valsL_sizes (n := 701400) (join_le ha hn)

set_option maxHeartbeats 1000000 in
theorem nvalues_any (A : Option Addr) (c : Nat) (l : List Prm) (w : World) (h : HdIn w A l) (ha : AllIn 1000 l) (hn : l.length ≤ 700) :
    Calls Tryz.prog 21 #[.slice A l.length c] w (NewStrs (nosV l) w) := by
  have hj := join_le (x := xctS) ha hn
  have HC := Lib.hid (combined_any xctG A c l w h ha (by omega) (by decide))
  rw [getN_low xct_low] at HC
  have hvn := nosV_none (l := l)
  have hvs := nosV_some (l := l)
  generalize getN xctS l = xs at *
  obtain ⟨V, hV⟩ : ∃ V, V = nosV l := ⟨_, rfl⟩
  rw [← hV] at hvn hvs ⊢
  clear hV h ha
  by_cases h0 : xs.length = 0
  · obtain rfl : V = [] := hvn h0
    rw [decide_eq_false (by omega : ¬ 0 < xs.length)] at HC
    generalize joinS xs = j at *
    clear hvn hvs
    go_enter Tryz.func21, Tryz.ntmps21
    go_wp2_with fail
    refine HC.out.mono ?_
    rintro e w1 ⟨rfl, b1⟩
    have HB := Lib.hid b1
    clear b1
    go_wp2
    go_ret
    exact ⟨_, rfl, World.ownsRow_nil _ _ _ _, HB.out⟩
  · obtain hv : V = splitL (joinS xs) 0 := hvs h0
    rw [decide_eq_true (by omega : 0 < xs.length)] at HC
    have HS := Lib.hid (fun W => split_any (joinS xs) W (by omega))
    rw [← hv] at HS
    generalize joinS xs = j at *
    clear hvn hvs hv
    go_enter Tryz.func21, Tryz.ntmps21
    go_wp2_with fail
    refine HC.out.mono ?_
    rintro e w1 ⟨rfl, b1⟩
    have HB := Lib.hid b1
    clear b1
    go_wp2_with fail
    refine (HS.out _).mono ?_
    rintro e w2 ⟨v, rfl, ho, b2⟩
    have HO := Lib.hid (own_base ho HB.out.size)
    replace HB := Lib.hid (below_on HB.out b2)
    clear ho b2
    go_wp2
    go_ret
    exact ⟨v, rfl, HO.out, HB.out⟩

set_option maxHeartbeats 1000000 in
theorem nis_any (A : Option Addr) (c : Nat) (l : List Prm) (w : World) (h : HdIn w A l) (ha : AllIn 1000 l) (hn : l.length ≤ 700) :
    Calls Tryz.prog 13 #[.slice A l.length c] w fun e w' => e = .returned (.bool (nosB l)) ∧ Below w.heap.size w w' := by
  have HV := Lib.hid (nvalues_any A c l w h ha hn)
  have hsz := nosV_sizes ha hn
  have hbn := nosB_none (l := l)
  have hbs := nosB_same (l := l)
  unfold NewStrs at HV
  generalize nosV l = V at *
  obtain ⟨z, hz⟩ : ∃ z, z = nosB l := ⟨_, rfl⟩
  rw [← hz] at hbn hbs ⊢
  clear hz h ha
  by_cases h0 : V.length = 0
  · obtain rfl : z = false := hbn h0
    have d0 : decide ((0 : Int) < (V.length : Int)) = false := decide_eq_false (by omega)
    clear hbn hbs hsz
    go_enter Tryz.func13, Tryz.ntmps13
    go_wp2_with fail
    refine HV.out.mono ?_
    rintro e w1 ⟨v, rfl, ho, b1⟩
    obtain ⟨A', c', rfl, ht, hc⟩ := TxIn.of_own ho
    have HB := Lib.hid b1
    clear b1 ho ht hc
    go_wp2
    go_ret
    exact ⟨rfl, HB.out⟩
  · have hp : 0 < V.length := by omega
    obtain hz : z = sameB V[0] nosS := hbs hp
    have hs0 := hsz.1 V[0] (List.getElem_mem hp)
    have d0 : decide ((0 : Int) < (V.length : Int)) = true := decide_eq_true (by omega)
    have HS := Lib.hid (fun W => same_any V[0] nosS W (by omega) (by decide))
    rw [← hz] at HS
    have HGET := Lib.hid (fun W A' (ht : TxIn W A' V) => ht 0 hp)
    generalize V[0] = x at *
    clear hbn hbs hsz hz hs0
    go_enter Tryz.func13, Tryz.ntmps13
    go_wp2_with fail
    refine HV.out.mono ?_
    rintro e w1 ⟨v, rfl, ho, b1⟩
    obtain ⟨A', c', rfl, ht, hc⟩ := TxIn.of_own ho
    obtain ⟨g, rfl, hgl, hgc⟩ := HGET.out _ _ ht
    have HB := Lib.hid b1
    clear b1 ho ht hc
    go_wp2_with fail
    refine (HS.out _).mono ?_
    rintro e w2 ⟨rfl, m, rfl⟩
    replace HB := Lib.hid (Below.drewN' HB.out m)
    go_wp2
    go_ret
    exact ⟨rfl, HB.out⟩

set_option maxHeartbeats 1000000 in
theorem nraw_any (A : Option Addr) (c : Nat) (l : List Prm) (w : World) (h : HdIn w A l) (ha : AllIn 1000 l) (hn : l.length ≤ 700) :
    Calls Tryz.prog 8 #[.slice A l.length c] w fun e w' => e = .returned (.tuple #[.string (rawB l), .bool (hasT l)]) ∧ Below w.heap.size w w' := by
  have HG := Lib.hid (hget_any ctG A c l w h (big_all ha) (by omega) (by decide))
  rw [getN_low ct_low] at HG
  have hln := getN_len ctS l
  have hrn := rawB_none (l := l)
  have hrl : ∀ h : (getN ctS l).length - 1 < (getN ctS l).length, rawB l = (getN ctS l)[(getN ctS l).length - 1]'h := fun h => rawB_last (by omega)
  have hht : hasT l = decide (0 < (getN ctS l).length) := rfl
  generalize getN ctS l = V at *
  obtain ⟨z, hz⟩ : ∃ z, z = rawB l := ⟨_, rfl⟩
  rw [← hz] at hrn hrl ⊢
  rw [hht]
  clear hz h ha hht
  by_cases h0 : V.length = 0
  · obtain rfl : z = ⟨#[]⟩ := hrn h0
    have d0 : ((V.length : Int) == 0) = true := beq_iff_eq.2 (by omega)
    rw [decide_eq_false (by omega : ¬ 0 < V.length)]
    clear hrn hrl
    go_enter Tryz.func8, Tryz.ntmps8
    go_wp2_with fail
    refine HG.out.mono ?_
    rintro e w1 ⟨v, rfl, ho, b1⟩
    obtain ⟨A', c', rfl, ht, hc⟩ := TxIn.of_own ho
    have HB := Lib.hid b1
    clear b1 ho ht hc
    go_wp2
    go_ret2
    exact ⟨rfl, HB.out⟩
  · have hp : 0 < V.length := by omega
    have hl1 : V.length - 1 < V.length := by omega
    obtain hz : z = V[V.length - 1] := hrl hl1
    have d0 : ((V.length : Int) == 0) = false := beq_eq_false_iff_ne.2 (by omega)
    rw [decide_eq_true hp]
    have HGET := Lib.hid (fun W A' (ht : TxIn W A' V) => ht (V.length - 1) hl1)
    rw [← hz] at HGET
    have g1 : ((V.length : Int) - 1) = ((V.length - 1 : Nat) : Int) := by omega
    clear hrn hrl hz
    go_enter Tryz.func8, Tryz.ntmps8
    go_wp2_with fail
    refine HG.out.mono ?_
    rintro e w1 ⟨v, rfl, ho, b1⟩
    obtain ⟨A', c', rfl, ht, hc⟩ := TxIn.of_own ho
    obtain ⟨g, rfl, hgl, hgc⟩ := HGET.out _ _ ht
    have HB := Lib.hid b1
    clear b1 ho ht hc
    go_wp2
    go_ret2
    exact ⟨rfl, HB.out⟩

/-- What a call of Mime gives. -/
def MimGives (m : Mty) (has : Bool) (base : Nat) (w : World) (e : Ending) (w' : World) : Prop := ∃ A c, e = .returned (.tuple #[mimV m.t m.u A m.ps.length c, .bool has]) ∧ OwnPs w' base A c m.ps ∧ m.ok ∧ Below w.heap.size w w'

set_option maxHeartbeats 2000000 in
theorem nmime_any (A : Option Addr) (c : Nat) (l : List Prm) (w : World) (h : HdIn w A l) (ha : AllIn 1000 l) (hn : l.length ≤ 700) :
    Calls Tryz.prog 7 #[.slice A l.length c] w (MimGives (tyM l) (tyB l) w.heap.size w) := by
  obtain ⟨w0, hw0⟩ : ∃ w0, w0 = w.alloc (.cells #[.string ⟨#[]⟩, .string ⟨#[]⟩, .slice none 0 0] 26) := ⟨_, rfl⟩
  have HB0 := Lib.hid (show Below w.heap.size w w0 from by rw [hw0]; exact (Below.refl _ _).alloc (Nat.le_refl _) _)
  have HR0 := Lib.hid (show Blk w0 w.heap.size 26 #[.string ⟨#[]⟩, .string ⟨#[]⟩, .slice none 0 0] from by rw [hw0]; exact Blk.new _ _ _)
  have HG := Lib.hid (hget_any ctG A c l w0 (h.below HB0.out) (big_all ha) (by omega) (by decide))
  rw [getN_low ct_low] at HG
  have hln := getN_len ctS l
  have hvs := getN_le (name := ctS) (l := l) (m := 1000) fun p hp => (ha p hp).2
  have hcd := code_ty l
  have HM : Hid (tyM l = (extT (allT (valsL (getN ctS l)))).1) := Lib.hid rfl
  have HE := Lib.hid (fun W A' c' (ht : TxIn W A' (getN ctS l)) (hc : (getN ctS l).length ≤ c') => extract_any A' c' (getN ctS l) W ht (by omega) hvs hc)
  rw [← HM.out] at HE
  generalize getN ctS l = V at *
  generalize codeOf (allT (valsL V)) = code at *
  obtain ⟨has, hhas⟩ : ∃ has, has = tyB l := ⟨_, rfl⟩
  rw [← hhas] at hcd ⊢
  clear hhas HM hvs h ha
  obtain ⟨m, hm⟩ : ∃ m, m = tyM l := ⟨_, rfl⟩
  rw [← hm] at HE ⊢
  clear hm
  obtain ⟨mt, mu, mp⟩ := m
  go_enter Tryz.func7, Tryz.ntmps7
  go_wp2_with fail
  rw [← hw0]
  clear hw0
  refine HG.out.mono ?_
  rintro e w1 ⟨v, rfl, ho, b1⟩
  obtain ⟨A', c', rfl, ht, hc⟩ := TxIn.of_own ho
  have HT := Lib.hid ht
  have HR1 := Lib.hid (HR0.out.below b1 HR0.out.lt)
  have HB1 := Lib.hid (below_on HB0.out b1)
  clear ho ht b1 HG HR0 HB0
  go_wp2_with fail
  refine (HE.out _ _ _ HT.out hc).mono ?_
  rintro e w2 ⟨P, pc, rfl, ho2, hok, b2⟩
  have HR2 := Lib.hid (HR1.out.below b2 HR1.out.lt)
  have HB2 := Lib.hid (below_on HB1.out b2)
  have HO2 := Lib.hid (own_base ho2 HB1.out.size)
  have HOK := Lib.hid hok
  obtain ⟨w3, hw3⟩ : ∃ w3, w3 = w2.alloc (.cells #[.string mt, .string mu, .slice P mp.length pc] 26) := ⟨_, rfl⟩
  have b3 : Below w2.heap.size w2 w3 := by rw [hw3]; exact (Below.refl _ _).alloc (Nat.le_refl _) _
  have HX := Lib.hid (show Blk w3 w2.heap.size 26 #[.string mt, .string mu, .slice P mp.length pc] from by rw [hw3]; exact Blk.new _ _ _)
  have HR3 := Lib.hid (HR2.out.below b3 HR2.out.lt)
  have HB3 := Lib.hid (below_on HB2.out b3)
  have HO3 := Lib.hid (show OwnPs w3 w.heap.size P pc mp from own_mv HO2.out (Mv.of_below b3 []) (by simp))
  clear ho2 hok b2 b3 HE HR1 HB1 HR2 HB2 HO2
  have c0 := HX.out.cell 0
  have c1 := HX.out.cell 1
  have c2 := HX.out.cell 2
  have r0 := HR3.out.cell 0
  have r1 := HR3.out.cell 1
  have r2 := HR3.out.cell 2
  have z0 := HR3.out.frozen 0
  have z1 := HR3.out.frozen 1
  have z2 := HR3.out.frozen 2
  rw [hw3] at c0 c1 c2 r0 r1 r2 z0 z1 z2
  go_wp2
  rw [← hw3] at *
  refine bodyPost_ret (v := .tuple #[mimV mt mu P mp.length pc, .bool has]) (by simp [results, Tryz.results7, go_sem, r0, r1, r2]; done) rfl ?_
  exact ⟨P, pc, rfl, OwnPs.set3 HO3.out HR3.out _ _ _, HOK.out, ((HB3.out.setCell (by exact Nat.le_refl _) _).setCell (by exact Nat.le_refl _) _).setCell (by exact Nat.le_refl _) _⟩

end Go.Proofs.YtighgoefmccagaaGreat
namespace Go.Proofs.YtighgoefmccagaaGreat
open Go.RowKit

theorem below_six {w W : World} {g : Nat} (h : Below w.heap.size w W) (hg : w.heap.size ≤ g) (v0 v1 v2 v3 v4 v5 : Value) :
    Below w.heap.size w ((((((W.setCell ⟨g, 0, none⟩ v0).setCell ⟨g, 1, none⟩ v1).setCell ⟨g, 2, none⟩ v2).setCell ⟨g, 3, none⟩ v3).setCell ⟨g, 4, none⟩ v4).setCell ⟨g, 5, none⟩ v5) :=
  (((((h.setCell hg _).setCell hg _).setCell hg _).setCell hg _).setCell hg _).setCell hg _
theorem own_six {w : World} {base c b : Nat} {A : Option Addr} {ps : List Prm} {cs : Array Value} (h : OwnPs w base A c ps) (hb : Blk w b 28 cs) (v0 v1 v2 v3 v4 v5 : Value) :
    OwnPs ((((((w.setCell ⟨b, 0, none⟩ v0).setCell ⟨b, 1, none⟩ v1).setCell ⟨b, 2, none⟩ v2).setCell ⟨b, 3, none⟩ v3).setCell ⟨b, 4, none⟩ v4).setCell ⟨b, 5, none⟩ v5) base A c ps := by
  have hne := own_ne h hb (by decide)
  exact own_mv h (((((((Mv.refl _ [b] _).setCell (.inl (by simp)) _).setCell (.inl (by simp)) _).setCell (.inl (by simp)) _).setCell (.inl (by simp)) _).setCell (.inl (by simp)) _).setCell (.inl (by simp)) _) (by simpa using hne)
theorem three_keep {w W : World} {g : Nat} {t : TypeId} {a0 a1 a2 : Value} (h : Blk w g t #[a0, a1, a2]) (hb : Below w.heap.size w W) :
    W.cell? ⟨g, 0, none⟩ = some a0 ∧ W.cell? ⟨g, 1, none⟩ = some a1 ∧ W.cell? ⟨g, 2, none⟩ = some a2 :=
  ⟨(h.below hb h.lt).cell 0, (h.below hb h.lt).cell 1, (h.below hb h.lt).cell 2⟩
theorem three_six {W : World} {g b : Nat} {a0 a1 a2 : Value} (h : W.cell? ⟨g, 0, none⟩ = some a0 ∧ W.cell? ⟨g, 1, none⟩ = some a1 ∧ W.cell? ⟨g, 2, none⟩ = some a2) (hne : b ≠ g) (v0 v1 v2 v3 v4 v5 : Value) :
    ((((((W.setCell ⟨b, 0, none⟩ v0).setCell ⟨b, 1, none⟩ v1).setCell ⟨b, 2, none⟩ v2).setCell ⟨b, 3, none⟩ v3).setCell ⟨b, 4, none⟩ v4).setCell ⟨b, 5, none⟩ v5).cell? ⟨g, 0, none⟩ = some a0 ∧
    ((((((W.setCell ⟨b, 0, none⟩ v0).setCell ⟨b, 1, none⟩ v1).setCell ⟨b, 2, none⟩ v2).setCell ⟨b, 3, none⟩ v3).setCell ⟨b, 4, none⟩ v4).setCell ⟨b, 5, none⟩ v5).cell? ⟨g, 1, none⟩ = some a1 ∧
    ((((((W.setCell ⟨b, 0, none⟩ v0).setCell ⟨b, 1, none⟩ v1).setCell ⟨b, 2, none⟩ v2).setCell ⟨b, 3, none⟩ v3).setCell ⟨b, 4, none⟩ v4).setCell ⟨b, 5, none⟩ v5).cell? ⟨g, 2, none⟩ = some a2 := by
  obtain ⟨h0, h1, h2⟩ := h
  simp [World.cell?_setCell_far, hne, h0, h1, h2]

/-- What a call of Said gives. -/
def SaiGives (m : Mty) (has ns bug : Bool) (base : Nat) (w : World) (e : Ending) (w' : World) : Prop := ∃ A c, e = .returned (saidV m.t m.u A m.ps.length c has ns bug) ∧ OwnPs w' base A c m.ps ∧ m.ok ∧ Below w.heap.size w w'

set_option maxHeartbeats 2000000 in
set_option maxRecDepth 100000 in
theorem nsaid_any (A : Option Addr) (c : Nat) (l : List Prm) (w : World) (h : HdIn w A l) (ha : AllIn 1000 l) (hn : l.length ≤ 700) :
    Calls Tryz.prog 5 #[.slice A l.length c] w (SaiGives (tyM l) (tyB l) (nosB l) (bugB (rawB l)) w.heap.size w) := by
  obtain ⟨w0, hw0⟩ : ∃ w0, w0 = w.alloc (.cells #[.string ⟨#[]⟩, .string ⟨#[]⟩, .slice none 0 0, .bool false, .bool false, .bool false] 28) := ⟨_, rfl⟩
  have HB0 := Lib.hid (show Below w.heap.size w w0 from by rw [hw0]; exact (Below.refl _ _).alloc (Nat.le_refl _) _)
  have HR0 := Lib.hid (show Blk w0 w.heap.size 28 #[.string ⟨#[]⟩, .string ⟨#[]⟩, .slice none 0 0, .bool false, .bool false, .bool false] from by rw [hw0]; exact Blk.new _ _ _)
  have HMI := Lib.hid (nmime_any A c l w0 (h.below HB0.out) ha hn)
  have HRA := Lib.hid (fun W (hW : Below w.heap.size w W) => nraw_any A c l W (h.below hW) ha hn)
  have HIS := Lib.hid (fun W (hW : Below w.heap.size w W) => nis_any A c l W (h.below hW) ha hn)
  generalize rawB l = raw at *
  generalize hasT l = hasr at *
  have HBU := Lib.hid (fun W => sbug_any raw W)
  generalize bugB raw = bug at *
  generalize nosB l = ns at *
  generalize tyB l = has at *
  generalize tyM l = m at *
  obtain ⟨mt, mu, mp⟩ := m
  generalize l.length = n at *
  unfold MimGives at HMI
  clear h ha
  go_enter Tryz.func5, Tryz.ntmps5
  go_wp2_with fail
  rw [← hw0]
  clear hw0
  refine HMI.out.mono ?_
  rintro e w1 ⟨P, pc, rfl, ho, hok, b1⟩
  have HR1 := Lib.hid (HR0.out.below b1 HR0.out.lt)
  have HB1 := Lib.hid (below_on HB0.out b1)
  have HO1 := Lib.hid (own_base ho HB0.out.size)
  have HOK := Lib.hid hok
  obtain ⟨w2, hw2⟩ : ∃ w2, w2 = w1.alloc (.cells #[.string mt, .string mu, .slice P mp.length pc] 26) := ⟨_, rfl⟩
  have b2 : Below w1.heap.size w1 w2 := by rw [hw2]; exact (Below.refl _ _).alloc (Nat.le_refl _) _
  have HX2 := Lib.hid (show Blk w2 w1.heap.size 26 #[.string mt, .string mu, .slice P mp.length pc] from by rw [hw2]; exact Blk.new _ _ _)
  have HR2 := Lib.hid (HR1.out.below b2 HR1.out.lt)
  have HB2 := Lib.hid (below_on HB1.out b2)
  have HO2 := Lib.hid (show OwnPs w2 w.heap.size P pc mp from own_mv HO1.out (Mv.of_below b2 []) (by simp))
  have hne : w.heap.size ≠ w1.heap.size := by have := HR1.out.lt; omega
  clear ho hok b1 b2 HMI HR0 HB0 HR1 HB1 HO1
  go_wp2_with fail
  rw [← hw2]
  generalize w1.heap.size = mb at *
  clear hw2
  refine (HRA.out _ HB2.out).mono ?_
  rintro e w3 ⟨rfl, b3⟩
  have HX := Lib.hid (HX2.out.below b3 HX2.out.lt)
  have HR := Lib.hid (HR2.out.below b3 HR2.out.lt)
  have HB3 := Lib.hid (below_on HB2.out b3)
  have HO := Lib.hid (show OwnPs w3 w.heap.size P pc mp from own_mv HO2.out (Mv.of_below b3 []) (by simp))
  clear b3 HX2 HR2 HB2 HO2 HRA
  have HI2 := Lib.hid (fun W (hW : Below w3.heap.size w3 W) => HIS.out W (below_on HB3.out hW))
  have HB := Lib.hid (Below.refl w3.heap.size w3)
  clear HIS
  obtain ⟨c0, c1, c2⟩ := three_keep HX.out HB.out
  go_wp2_with fail
  go_region_held3 (fun w' => w'.cell? ⟨mb, 0, none⟩ = some (.string mt) ∧ w'.cell? ⟨mb, 1, none⟩ = some (.string mu) ∧ w'.cell? ⟨mb, 2, none⟩ = some (.slice P mp.length pc))
    (first | with_reducible exact three_keep HX.out HB.out | with_reducible exact three_keep HX.out HB.out.drew | with_reducible exact three_six (three_keep HX.out HB.out) hne _ _ _ _ _ _ | go_keep)
    (first
      | (go_at_call 13; (with_reducible refine (HI2.out _ (by first | exact HB.out | exact HB.out.drew)).mono ?_); rintro e w4 ⟨rfl, b4⟩
         have HB := Lib.hid (below_on (w := _) (by first | exact HB.out | exact HB.out.drew) b4)
         clear b4
         have HRR := Lib.hid (HR.out.below HB.out HR.out.lt)
         have r0 := HRR.out.cell 0
         have r1 := HRR.out.cell 1
         have r2 := HRR.out.cell 2
         have r3 := HRR.out.cell 3
         have r4 := HRR.out.cell 4
         have r5 := HRR.out.cell 5
         have z0 := HRR.out.frozen 0
         have z1 := HRR.out.frozen 1
         have z2 := HRR.out.frozen 2
         have z3 := HRR.out.frozen 3
         have z4 := HRR.out.frozen 4
         have z5 := HRR.out.frozen 5)
      | (go_at_call 14; (with_reducible refine (HBU.out _).mono ?_); rintro e w4 ⟨rfl, rfl⟩))
  all_goals
    have HF2 := Lib.hid (own_six (show OwnPs w4 w.heap.size P pc mp from own_mv HO.out (Mv.of_below HB.out []) (by simp)) HRR.out (.string mt) (.string mu) (.slice P mp.length pc) (.bool has) (.bool ns) (.bool bug))
    have HF1 := Lib.hid (((((((HRR.out.set_ 0 (.string mt)).set_ 1 (.string mu)).set_ 2 (.slice P mp.length pc)).set_ 3 (.bool has)).set_ 4 (.bool ns)).set_ 5 (.bool bug)))
    have HF3 := Lib.hid (below_six (below_on HB3.out HB.out) (Nat.le_refl _) (.string mt) (.string mu) (.slice P mp.length pc) (.bool has) (.bool ns) (.bool bug))
    clear r0 r1 r2 r3 r4 r5 z0 z1 z2 z3 z4 z5 HRR HO HR HX HB3 c0 c1 c2
    generalize ((((((w4.setCell { block := w.heap.size, off := 0 } (Value.string mt)).setCell { block := w.heap.size, off := 1 } (Value.string mu)).setCell { block := w.heap.size, off := 2 } (Value.slice P mp.length pc)).setCell { block := w.heap.size, off := 3 } (Value.bool has)).setCell { block := w.heap.size, off := 4 } (Value.bool ns)).setCell { block := w.heap.size, off := 5 } (Value.bool bug)) = W at *
    have r0 := HF1.out.cell 0
    have r1 := HF1.out.cell 1
    have r2 := HF1.out.cell 2
    have r3 := HF1.out.cell 3
    have r4 := HF1.out.cell 4
    have r5 := HF1.out.cell 5
    go_wp2
    refine bodyPost_ret (v := saidV mt mu P mp.length pc has ns bug) (by simp [results, Tryz.results5, go_sem, r0, r1, r2, r3, r4, r5]; done) rfl ?_
    exact ⟨P, pc, rfl, HF2.out, HOK.out, HF3.out⟩

end Go.Proofs.YtighgoefmccagaaGreat
namespace Go.Proofs.YtighgoefmccagaaGreat
open Go.RowKit

theorem own_set1 {w : World} {B size n cap g : Nat} {e : TypeId} {xs : List Value} (h : w.ownsRow B e size (.slice (some ⟨g, 0, none⟩) n cap) n xs) (i : Nat) (u : Value) :
    (w.setCell ⟨g, i, none⟩ u).ownsRow B e size (.slice (some ⟨g, 0, none⟩) n cap) n (xs.set i u) := by
  refine ⟨by rw [List.length_set]; exact h.1, ?_⟩
  rcases h.2 with ⟨h1, _⟩ | ⟨g', cap', cur, h1, hB, hg, hc, hm, hs, ht⟩
  · cases h1
  · cases h1
    refine .inr ⟨g, cap, cur.setIfInBounds i u, rfl, hB, ?_, hc, hm, by simp [hs], ?_⟩
    · simp [World.setCell, Array.getElem?_modify, hg]
    · rw [Array.toList_setIfInBounds, List.take_set, ht]
theorem own_take {w : World} {B size n cap i : Nat} {A : Option Addr} {e : TypeId} {xs : List Value} (h : w.ownsRow B e size (.slice A n cap) n xs) (hi : i ≤ n) :
    w.ownsRow B e size (.slice A i cap) i (xs.take (i * size)) := by
  have hle : i * size ≤ n * size := Nat.mul_le_mul_right _ hi
  refine ⟨by rw [List.length_take, h.1]; omega, ?_⟩
  rcases h.2 with ⟨h1, h2⟩ | ⟨g', cap', cur, h1, hB, hg, hc, hm, hs, ht⟩
  · cases h1
    exact .inl ⟨by rw [show i = 0 by omega], by omega⟩
  · cases h1
    exact .inr ⟨g', cap, cur, rfl, hB, hg, by omega, hm, hs, by rw [← ht, List.take_take, Nat.min_eq_left hle]⟩
theorem prmL_set : ∀ (l : List Prm) (k : Nat) (p : Prm), prmL (l.set k p) = ((prmL l).set (k * 2) (.string p.n)).set (k * 2 + 1) (.string p.v)
  | [], _, _ => rfl
  | q :: r, 0, p => by simp [prmL]
  | q :: r, k + 1, p => by
    have ih := prmL_set r k p
    have e : prmL (q :: r) = .string q.n :: .string q.v :: prmL r := by simp [prmL]
    have e2 : prmL (q :: r.set k p) = .string q.n :: .string q.v :: prmL (r.set k p) := by simp [prmL]
    rw [List.set_cons_succ, e2, ih, e, show (k + 1) * 2 = k * 2 + 1 + 1 by omega]
    rfl
theorem prmL_take (l : List Prm) (k : Nat) : (prmL l).take (k * 2) = prmL (l.take k) := by
  induction l generalizing k with
  | nil => simp [prmL]
  | cons q r ih =>
    have e : prmL (q :: r) = .string q.n :: .string q.v :: prmL r := by simp [prmL]
    cases k with
    | zero => simp [prmL]
    | succ k =>
      have e2 : prmL (q :: r.take k) = .string q.n :: .string q.v :: prmL (r.take k) := by simp [prmL]
      rw [e, show (k + 1) * 2 = k * 2 + 1 + 1 by omega, List.take_succ_cons, List.take_succ_cons, ih, List.take_succ_cons, e2]

/-- Headers that lie in a row of the call's own. -/
def OwnHd (w : World) (base : Nat) (A : Option Addr) (c : Nat) (l : List Prm) : Prop := w.ownsRow base 41 2 (.slice A l.length c) l.length (prmL l)
theorem OwnHd.ps {w : World} {base c : Nat} {A : Option Addr} {l : List Prm} (h : OwnHd w base A c l) : PsIn w A l := by
  obtain ⟨A', c', e, hp⟩ := hdrs_of_own h
  cases e
  exact hp
theorem OwnHd.hd {w : World} {base c : Nat} {A : Option Addr} {l : List Prm} (h : OwnHd w base A c l) : HdIn w A l := HdIn.ps h.ps
theorem OwnHd.set {w : World} {base c g : Nat} {l : List Prm} (h : OwnHd w base (some ⟨g, 0, none⟩) c l) (k : Nat) (p : Prm) :
    OwnHd ((w.setCell ⟨g, k * 2, none⟩ (.string p.n)).setCell ⟨g, k * 2 + 1, none⟩ (.string p.v)) base (some ⟨g, 0, none⟩) c (l.set k p) := by
  have := own_set1 (own_set1 h (k * 2) (.string p.n)) (k * 2 + 1) (.string p.v)
  rw [← prmL_set] at this
  unfold OwnHd
  rw [List.length_set]
  exact this
theorem OwnHd.take {w : World} {base c : Nat} {A : Option Addr} {l : List Prm} (h : OwnHd w base A c l) {i : Nat} (hi : i ≤ l.length) : OwnHd w base A c (l.take i) := by
  have := own_take h hi
  rw [prmL_take] at this
  unfold OwnHd
  rw [List.length_take, Nat.min_eq_left hi]
  exact this
theorem OwnHd.below {w w' : World} {B base c : Nat} {A : Option Addr} {l : List Prm} (h : OwnHd w base A c l) (hb : Below B w w') (hB : w.heap.size ≤ B) : OwnHd w' base A c l :=
  own_mv h (Mv.of_below (hb.mono hB) []) (by simp)
theorem OwnHd.cap {w : World} {base c : Nat} {A : Option Addr} {l : List Prm} (h : OwnHd w base A c l) : l.length ≤ c := by
  rcases h.2 with ⟨h1, h2⟩ | ⟨_, _, _, h1, _, _, hc, _⟩
  · rw [h2]; exact Nat.zero_le _
  · cases h1; exact hc
theorem HdIn.cells {w : World} {a : Addr} {ps : List Prm} (h : HdIn w (some a) ps) : ∀ j u, (prmL ps)[j]? = some u → w.cell? (a.add j) = some u := fun j u hj => by
  have hjl : j < (prmL ps).length := (List.getElem?_eq_some_iff.1 hj).1
  rw [prmL_len] at hjl
  obtain ⟨i, hi⟩ : ∃ i, i = j / 2 := ⟨_, rfl⟩
  have hil : i < ps.length := by omega
  obtain ⟨a', e, _, h0, h1⟩ := h i hil
  cases e
  rcases (by omega : j = i * 2 ∨ j = i * 2 + 1) with e2 | e2
  · rw [e2] at hj ⊢
    rw [(prmL_at ps i hil).1] at hj
    rw [h0]; exact hj
  · rw [e2] at hj ⊢
    rw [(prmL_at ps i hil).2] at hj
    have ea : a.add (i * 2 + 1) = ⟨(a.add (i * 2)).block, (a.add (i * 2)).off + 1, none⟩ := by
      unfold Addr.add
      by_cases h0 : i * 2 = 0
      · simp [h0]
      · simp [h0, Nat.add_assoc]
    rw [ea, h1]; exact hj

end Go.Proofs.YtighgoefmccagaaGreat
