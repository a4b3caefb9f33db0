/-
  Plain facts on films of boxes: the first box, the names in it, and all boxes. No condition.
  What the functions of package sniff, and the document's own, answer. Condition: a type's names are as long as a mebibyte; texts are not longer than memory.
  What the functions of package nosniff answer. Condition: at most seven hundred headers, with texts of at most a thousand bytes.
-/
import Derived.Test.YtighgoefmccagaaZ1
import Derived.Test.YtighgoefmccagaaZ2
import Derived.Test.YtighgoefmccagaaZ3
import Derived.Test.YtighgoefmccagaaZ7
import Derived.BigQuiet
import Derived.Deep.QuietTactic
import Derived.OwnWalk
import Derived.LoopTactic
import Derived.Laws.BitsAllLaws
import Derived.OneCell
import Derived.Lib.Hide
import Derived.Lib.MinMax
import Derived.Test.YtighgoefmccagaaZ20
import Derived.Test.YtighgoefmccagaaZ5
import Derived.Test.YtighgoefmccagaaZ6
import Derived.Test.YtighgoefmccagaaZ17
import Derived.Test.YtighgoefmccagaaZ14
import Derived.Test.YtighgoefmccagaaZ13
import Derived.Test.YtighgoefmccagaaZ16
import Derived.Test.YtighgoefmccagaaZ11
import Derived.Test.YtighgoefmccagaaZ12
import Derived.Laws.MakeOwn
import Derived.RegionTactic
import Derived.Test.YtighgoefmccagaaRows
import Derived.WalkKit
import Derived.Laws.OwnMore
import Derived.Laws.AppendOwn
import Derived.Laws.FloatArith
import Derived.KernelRfl
import Derived.WalkSpells
import Derived.WalkLawsBesides
import Derived.Laws.Externs
import Derived.Deep.RegionWith
import Derived.Deep.DeepCutAuto
import Derived.Laws.IdiomStrings
import Derived.Outline
import Derived.Lib.Builder
import Derived.StillTailTactics
import Derived.Lib.SlBytesConst
import Derived.Lib.SlBytesRow
import Derived.Lib.SmallJoins
import Derived.Lib.Strings
import Derived.Lib.TrimByte
import Derived.Lib.BitFns
import Derived.ScopeJumps
import Derived.WalkMore
import Derived.Deep.WholeRow
namespace Go.Proofs.Ytighgoefmccagaa

/-- A box: its name, and how many bytes it has. -/
structure Bx where
  nm : ByteArray
  n : Nat
end Go.Proofs.Ytighgoefmccagaa
namespace Go.Proofs.Ytighgoefmccagaa
open Go.RowKit

set_option maxHeartbeats 1000000 in
theorem sbug_any (s : ByteArray) (w : World) :
    Calls Try.prog 26 #[.string s] w fun e w' => e = .returned (.bool (bugB s)) ∧ w = w' := by
  obtain ⟨v, hv⟩ : ∃ v, v = bugB s := ⟨_, rfl⟩
  rw [← hv]
  unfold bugB at hv
  have HV := Lib.hid hv
  clear hv
  cases d0 : (s.toList == bugL0) <;> cases d1 : (s.toList == bugL1) <;> cases d2 : (s.toList == bugL2) <;> cases d3 : (s.toList == bugL3)
  all_goals
    rw [d0, d1, d2, d3] at HV
  all_goals
    go_enter Try.func26, Try.ntmps26
    go_wp2
    go_ret
    exact ⟨by rw [HV.out]; rfl, rfl⟩

end Go.Proofs.Ytighgoefmccagaa
namespace Go.Proofs.Ytighgoefmccagaa
open Go.RowKit

/-- The type that headers come to, and whether there is one. -/
def tyM (l : List Prm) : Mty := (extT (allT (valsL (getN ctS l)))).1
def tyB (l : List Prm) : Bool := decide ((allT (valsL (getN ctS l))).length ≠ 0)
theorem code_ty (l : List Prm) : ((codeOf (allT (valsL (getN ctS l)))) == 0) = tyB l := by
  unfold codeOf tyB
  by_cases h : (allT (valsL (getN ctS l))).length = 0
  · rw [if_pos h, decide_eq_false (by omega)]; rfl
  · rw [if_neg h, decide_eq_true h]; rfl
theorem tyM_cut {name : ByteArray} (h : sameB name ctS = false) (l : List Prm) : tyM (cutN name l) = tyM l := by unfold tyM; rw [getN_cut h]
theorem tyB_cut {name : ByteArray} (h : sameB name ctS = false) (l : List Prm) : tyB (cutN name l) = tyB l := by unfold tyB; rw [getN_cut h]
theorem big_all {l : List Prm} (h : AllIn 1000 l) : AllIn 1048576 l := fun p hp => ⟨by have := (h p hp).1; omega, by have := (h p hp).2; omega⟩
theorem join_le {x : ByteArray} {l : List Prm} (ha : AllIn 1000 l) (hn : l.length ≤ 700) : (joinS (getN x l)).size ≤ 701400 := by
  have h1 := joinS_size (getN_le (name := x) fun p hp => (ha p hp).2)
  have h2 := Nat.mul_le_mul (Nat.le_trans (getN_len x l) hn) (Nat.le_refl (1000 + 2))
  omega
theorem nosV_sizes {l : List Prm} (ha : AllIn 1000 l) (hn : l.length ≤ 700) : (∀ y ∈ nosV l, y.size ≤ 701400) ∧ (nosV l).length ≤ 701401 := valsL_sizes (n := 701400) (join_le ha hn)

set_option maxHeartbeats 1000000 in
theorem nvalues_any (A : Option Addr) (c : Nat) (l : List Prm) (w : World) (h : HdIn w A l) (ha : AllIn 1000 l) (hn : l.length ≤ 700) :
    Calls Try.prog 7 #[.slice A l.length c] w (NewStrs (nosV l) w) := by
  have hj := join_le (x := xctS) ha hn
  have HC := Lib.hid (combined_any xctG A c l w h ha (by omega) (by decide))
  rw [getN_low xct_low] at HC
  have hvn := nosV_none (l := l)
  have hvs := nosV_some (l := l)
  generalize getN xctS l = xs at *
  obtain ⟨V, hV⟩ : ∃ V, V = nosV l := ⟨_, rfl⟩
  rw [← hV] at hvn hvs ⊢
  clear hV h ha
  by_cases h0 : xs.length = 0
  · obtain rfl : V = [] := hvn h0
    rw [decide_eq_false (by omega : ¬ 0 < xs.length)] at HC
    generalize joinS xs = j at *
    clear hvn hvs
    go_enter Try.func7, Try.ntmps7
    go_wp2_with fail
    refine HC.out.mono ?_
    rintro e w1 ⟨rfl, b1⟩
    have HB := Lib.hid b1
    clear b1
    go_wp2
    go_ret
    exact ⟨_, rfl, World.ownsRow_nil _ _ _ _, HB.out⟩
  · obtain hv : V = splitL (joinS xs) 0 := hvs h0
    rw [decide_eq_true (by omega : 0 < xs.length)] at HC
    have HS := Lib.hid (fun W => split_any (joinS xs) W (by omega))
    rw [← hv] at HS
    generalize joinS xs = j at *
    clear hvn hvs hv
    go_enter Try.func7, Try.ntmps7
    go_wp2_with fail
    refine HC.out.mono ?_
    rintro e w1 ⟨rfl, b1⟩
    have HB := Lib.hid b1
    clear b1
    go_wp2_with fail
    refine (HS.out _).mono ?_
    rintro e w2 ⟨v, rfl, ho, b2⟩
    have HO := Lib.hid (own_base ho HB.out.size)
    replace HB := Lib.hid (below_on HB.out b2)
    clear ho b2
    go_wp2
    go_ret
    exact ⟨v, rfl, HO.out, HB.out⟩

set_option maxHeartbeats 1000000 in
theorem nis_any (A : Option Addr) (c : Nat) (l : List Prm) (w : World) (h : HdIn w A l) (ha : AllIn 1000 l) (hn : l.length ≤ 700) :
    Calls Try.prog 9 #[.slice A l.length c] w fun e w' => e = .returned (.bool (nosB l)) ∧ Below w.heap.size w w' := by
  have HV := Lib.hid (nvalues_any A c l w h ha hn)
  have hsz := nosV_sizes ha hn
  have hbn := nosB_none (l := l)
  have hbs := nosB_same (l := l)
  unfold NewStrs at HV
  generalize nosV l = V at *
  obtain ⟨z, hz⟩ : ∃ z, z = nosB l := ⟨_, rfl⟩
  rw [← hz] at hbn hbs ⊢
  clear hz h ha
  by_cases h0 : V.length = 0
  · obtain rfl : z = false := hbn h0
    have d0 : decide ((0 : Int) < (V.length : Int)) = false := decide_eq_false (by omega)
    clear hbn hbs hsz
    go_enter Try.func9, Try.ntmps9
    go_wp2_with fail
    refine HV.out.mono ?_
    rintro e w1 ⟨v, rfl, ho, b1⟩
    obtain ⟨A', c', rfl, ht, hc⟩ := TxIn.of_own ho
    have HB := Lib.hid b1
    clear b1 ho ht hc
    go_wp2
    go_ret
    exact ⟨rfl, HB.out⟩
  · have hp : 0 < V.length := by omega
    obtain hz : z = sameB V[0] nosS := hbs hp
    have hs0 := hsz.1 V[0] (List.getElem_mem hp)
    have d0 : decide ((0 : Int) < (V.length : Int)) = true := decide_eq_true (by omega)
    have HS := Lib.hid (fun W => same_any V[0] nosS W (by omega) (by decide))
    rw [← hz] at HS
    have HGET := Lib.hid (fun W A' (ht : TxIn W A' V) => ht 0 hp)
    generalize V[0] = x at *
    clear hbn hbs hsz hz hs0
    go_enter Try.func9, Try.ntmps9
    go_wp2_with fail
    refine HV.out.mono ?_
    rintro e w1 ⟨v, rfl, ho, b1⟩
    obtain ⟨A', c', rfl, ht, hc⟩ := TxIn.of_own ho
    obtain ⟨g, rfl, hgl, hgc⟩ := HGET.out _ _ ht
    have HB := Lib.hid b1
    clear b1 ho ht hc
    go_wp2_with fail
    refine (HS.out _).mono ?_
    rintro e w2 ⟨rfl, m, rfl⟩
    replace HB := Lib.hid (Below.drewN' HB.out m)
    go_wp2
    go_ret
    exact ⟨rfl, HB.out⟩

set_option maxHeartbeats 1000000 in
theorem nraw_any (A : Option Addr) (c : Nat) (l : List Prm) (w : World) (h : HdIn w A l) (ha : AllIn 1000 l) (hn : l.length ≤ 700) :
    Calls Try.prog 25 #[.slice A l.length c] w fun e w' => e = .returned (.tuple #[.string (rawB l), .bool (hasT l)]) ∧ Below w.heap.size w w' := by
  have HG := Lib.hid (hget_any ctG A c l w h (big_all ha) (by omega) (by decide))
  rw [getN_low ct_low] at HG
  have hln := getN_len ctS l
  have hrn := rawB_none (l := l)
  have hrl : ∀ h : (getN ctS l).length - 1 < (getN ctS l).length, rawB l = (getN ctS l)[(getN ctS l).length - 1]'h := fun h => rawB_last (by omega)
  have hht : hasT l = decide (0 < (getN ctS l).length) := rfl
  generalize getN ctS l = V at *
  obtain ⟨z, hz⟩ : ∃ z, z = rawB l := ⟨_, rfl⟩
  rw [← hz] at hrn hrl ⊢
  rw [hht]
  clear hz h ha hht
  by_cases h0 : V.length = 0
  · obtain rfl : z = ⟨#[]⟩ := hrn h0
    have d0 : ((V.length : Int) == 0) = true := beq_iff_eq.2 (by omega)
    rw [decide_eq_false (by omega : ¬ 0 < V.length)]
    clear hrn hrl
    go_enter Try.func25, Try.ntmps25
    go_wp2_with fail
    refine HG.out.mono ?_
    rintro e w1 ⟨v, rfl, ho, b1⟩
    obtain ⟨A', c', rfl, ht, hc⟩ := TxIn.of_own ho
    have HB := Lib.hid b1
    clear b1 ho ht hc
    go_wp2
    go_ret2
    exact ⟨rfl, HB.out⟩
  · have hp : 0 < V.length := by omega
    have hl1 : V.length - 1 < V.length := by omega
    obtain hz : z = V[V.length - 1] := hrl hl1
    have d0 : ((V.length : Int) == 0) = false := beq_eq_false_iff_ne.2 (by omega)
    rw [decide_eq_true hp]
    have HGET := Lib.hid (fun W A' (ht : TxIn W A' V) => ht (V.length - 1) hl1)
    rw [← hz] at HGET
    have g1 : ((V.length : Int) - 1) = ((V.length - 1 : Nat) : Int) := by omega
    clear hrn hrl hz
    go_enter Try.func25, Try.ntmps25
    go_wp2_with fail
    refine HG.out.mono ?_
    rintro e w1 ⟨v, rfl, ho, b1⟩
    obtain ⟨A', c', rfl, ht, hc⟩ := TxIn.of_own ho
    obtain ⟨g, rfl, hgl, hgc⟩ := HGET.out _ _ ht
    have HB := Lib.hid b1
    clear b1 ho ht hc
    go_wp2
    go_ret2
    exact ⟨rfl, HB.out⟩

/-- What a call of Mime gives. -/
def MimGives (m : Mty) (has : Bool) (base : Nat) (w : World) (e : Ending) (w' : World) : Prop := ∃ A c, e = .returned (.tuple #[mimV m.t m.u A m.ps.length c, .bool has]) ∧ OwnPs w' base A c m.ps ∧ m.ok ∧ Below w.heap.size w w'

set_option maxHeartbeats 2000000 in
theorem nmime_any (A : Option Addr) (c : Nat) (l : List Prm) (w : World) (h : HdIn w A l) (ha : AllIn 1000 l) (hn : l.length ≤ 700) :
    Calls Try.prog 24 #[.slice A l.length c] w (MimGives (tyM l) (tyB l) w.heap.size w) := by
  obtain ⟨w0, hw0⟩ : ∃ w0, w0 = w.alloc (.cells #[.string ⟨#[]⟩, .string ⟨#[]⟩, .slice none 0 0] 36) := ⟨_, rfl⟩
  have HB0 := Lib.hid (show Below w.heap.size w w0 from by rw [hw0]; exact (Below.refl _ _).alloc (Nat.le_refl _) _)
  have HR0 := Lib.hid (show Blk w0 w.heap.size 36 #[.string ⟨#[]⟩, .string ⟨#[]⟩, .slice none 0 0] from by rw [hw0]; exact Blk.new _ _ _)
  have HG := Lib.hid (hget_any ctG A c l w0 (h.below HB0.out) (big_all ha) (by omega) (by decide))
  rw [getN_low ct_low] at HG
  have hln := getN_len ctS l
  have hvs := getN_le (name := ctS) (l := l) (m := 1000) fun p hp => (ha p hp).2
  have hcd := code_ty l
  have HM : Hid (tyM l = (extT (allT (valsL (getN ctS l)))).1) := Lib.hid rfl
  have HE := Lib.hid (fun W A' c' (ht : TxIn W A' (getN ctS l)) (hc : (getN ctS l).length ≤ c') => extract_any A' c' (getN ctS l) W ht (by omega) hvs hc)
  rw [← HM.out] at HE
  generalize getN ctS l = V at *
  generalize codeOf (allT (valsL V)) = code at *
  obtain ⟨has, hhas⟩ : ∃ has, has = tyB l := ⟨_, rfl⟩
  rw [← hhas] at hcd ⊢
  clear hhas HM hvs h ha
  obtain ⟨m, hm⟩ : ∃ m, m = tyM l := ⟨_, rfl⟩
  rw [← hm] at HE ⊢
  clear hm
  obtain ⟨mt, mu, mp⟩ := m
  go_enter Try.func24, Try.ntmps24
  go_wp2_with fail
  rw [← hw0]
  clear hw0
  refine HG.out.mono ?_
  rintro e w1 ⟨v, rfl, ho, b1⟩
  obtain ⟨A', c', rfl, ht, hc⟩ := TxIn.of_own ho
  have HT := Lib.hid ht
  have HR1 := Lib.hid (HR0.out.below b1 HR0.out.lt)
  have HB1 := Lib.hid (below_on HB0.out b1)
  clear ho ht b1 HG HR0 HB0
  go_wp2_with fail
  refine (HE.out _ _ _ HT.out hc).mono ?_
  rintro e w2 ⟨P, pc, rfl, ho2, hok, b2⟩
  have HR2 := Lib.hid (HR1.out.below b2 HR1.out.lt)
  have HB2 := Lib.hid (below_on HB1.out b2)
  have HO2 := Lib.hid (own_base ho2 HB1.out.size)
  have HOK := Lib.hid hok
  obtain ⟨w3, hw3⟩ : ∃ w3, w3 = w2.alloc (.cells #[.string mt, .string mu, .slice P mp.length pc] 36) := ⟨_, rfl⟩
  have b3 : Below w2.heap.size w2 w3 := by rw [hw3]; exact (Below.refl _ _).alloc (Nat.le_refl _) _
  have HX := Lib.hid (show Blk w3 w2.heap.size 36 #[.string mt, .string mu, .slice P mp.length pc] from by rw [hw3]; exact Blk.new _ _ _)
  have HR3 := Lib.hid (HR2.out.below b3 HR2.out.lt)
  have HB3 := Lib.hid (below_on HB2.out b3)
  have HO3 := Lib.hid (show OwnPs w3 w.heap.size P pc mp from own_mv HO2.out (Mv.of_below b3 []) (by simp))
  clear ho2 hok b2 b3 HE HR1 HB1 HR2 HB2 HO2
  have c0 := HX.out.cell 0
  have c1 := HX.out.cell 1
  have c2 := HX.out.cell 2
  have r0 := HR3.out.cell 0
  have r1 := HR3.out.cell 1
  have r2 := HR3.out.cell 2
  have z0 := HR3.out.frozen 0
  have z1 := HR3.out.frozen 1
  have z2 := HR3.out.frozen 2
  rw [hw3] at c0 c1 c2 r0 r1 r2 z0 z1 z2
  go_wp2
  rw [← hw3] at *
  refine bodyPost_ret (v := .tuple #[mimV mt mu P mp.length pc, .bool has]) (by simp [results, Try.results24, go_sem, r0, r1, r2]; done) rfl ?_
  exact ⟨P, pc, rfl, OwnPs.set3 HO3.out HR3.out _ _ _, HOK.out, ((HB3.out.setCell (by exact Nat.le_refl _) _).setCell (by exact Nat.le_refl _) _).setCell (by exact Nat.le_refl _) _⟩

end Go.Proofs.Ytighgoefmccagaa
