/-
  What the document's Is, Good, Get, Cut and Same of headers answer. Condition: texts are shorter than a mebibyte, headers no more than that.
  What the document's Values and Is of layer 23 answer. Condition: at most seven hundred headers, with texts of at most a thousand bytes.
  What Parse of package header answers. Condition: the text is shorter than a mebibyte.
-/
import Derived.Test.YtighgoefmccagaaGreatZ16
import Derived.Test.YtighgoefmccagaaGreatZ23
import Derived.Test.YtighgoefmccagaaGreatZ10
import Derived.Maps.AppendAt
import Derived.BigQuiet
import Derived.Test.YtighgoefmccagaaGreatZ19
import Derived.Test.YtighgoefmccagaaGreatZ2
import Derived.Test.YtighgoefmccagaaGreatZ15
import Derived.Test.YtighgoefmccagaaGreatRows
import Derived.WalkKit
import Derived.IntWalk
import Derived.Deep.RegionHeld3
import Derived.Deep.RegionWith
namespace Go.Proofs.YtighgoefmccagaaGreat
open Go.RowKit

set_option maxHeartbeats 1000000 in
theorem ris_any (name n v : ByteArray) (w : World) (hn : n.size ≤ 1048576) (hm : name.size ≤ 1048576) :
    Calls Tryz.prog 25 #[.agg #[.string n, .string v], .string name] w fun e w' => e = .returned (.bool (hasN name ⟨n, v⟩)) ∧ Below w.heap.size w w' := by
  have HN := Lib.hid (fun W => refLowerS_any n W (by omega))
  have HM := Lib.hid (fun W => refLowerS_any name W (by omega))
  have HE : Hid (hasN name ⟨n, v⟩ = ((lowS n).toList == (lowS name).toList)) := Lib.hid rfl
  rw [HE.out]
  obtain ⟨a, ha⟩ : ∃ a, a = lowS n := ⟨_, rfl⟩
  obtain ⟨b, hb⟩ : ∃ b, b = lowS name := ⟨_, rfl⟩
  rw [← ha] at HN ⊢
  rw [← hb] at HM ⊢
  clear ha hb HE
  obtain ⟨z, hz⟩ : ∃ z, (a.toList == b.toList) = z := ⟨_, rfl⟩
  rw [hz]
  have HB0 := Lib.hid ((Below.refl w.heap.size w).alloc (Nat.le_refl _) (.cells #[.string n, .string v] 41))
  go_enter Tryz.func25, Tryz.ntmps25
  go_wp2_with fail
  refine (HN.out _).mono ?_
  rintro e w1 ⟨rfl, b1⟩
  have HB1 := Lib.hid (below_on HB0.out b1)
  clear b1
  go_wp2_with fail
  refine (HM.out _).mono ?_
  rintro e w2 ⟨rfl, b2⟩
  have HB2 := Lib.hid (below_on HB1.out b2)
  clear b2
  go_wp2
  go_ret
  exact ⟨by first | rfl | (rw [← hz]; rfl) | simp [hz], HB2.out⟩

theorem strs_app (xs ys : List ByteArray) : strs (xs ++ ys) = strs xs ++ strs ys := by simp [strs]
theorem Tryz.infoS23 : (Tryz.prog.info? 9).map (fun i => (i.zero, i.size, i.bytes)) = some (some (.string ⟨#[]⟩), 1, 16) := by kernel_rfl

set_option maxHeartbeats 2000000 in
set_option maxRecDepth 100000 in
theorem rget_any (name : ByteArray) (A : Option Addr) (c : Nat) (l : List Prm) (w : World) (h : HdIn w A l) (ha : AllIn 1048576 l) (hn : l.length ≤ 1048576) (hm : name.size ≤ 1048576) :
    Calls Tryz.prog 16 #[.string name, .slice A l.length c] w fun e w' => ∃ v, e = .returned v ∧ w'.ownsRow w.heap.size 9 1 v (getN name l).length (strs (getN name l)) ∧ Below w.heap.size w w' := by
  obtain ⟨i0, hi, hz0, hz1, hz2⟩ := info_parts Tryz.infoS23
  have HH := Lib.hid h
  have HA := Lib.hid ha
  have HALL := Lib.hid (show l.take l.length = l from List.take_length)
  have HO0 := Lib.hid (World.ownsRow_made (base := w.heap.size) (e := 9) (size := 1) w #[] 0 (Nat.le_refl _) (Nat.zero_le _) rfl)
  have HB0 := Lib.hid ((Below.refl w.heap.size w).alloc (Nat.le_refl _) (.cells #[] 9))
  clear h ha
  go_enter Tryz.func16, Tryz.ntmps16
  go_wp2
  go_loopw [5, 6] (fun v i wr => ∃ k : Nat, k ≤ l.length ∧ i = .int .i64 k ∧ Hid (wr.ownsRow w.heap.size 9 1 v (getN name (l.take k)).length (strs (getN name (l.take k)))) ∧ Hid (Below w.heap.size w wr)) (fun _ i _ => l.length - (intOf i).toNat)
  case atStart => exact ⟨0, by omega, rfl, HO0, HB0⟩
  case round =>
    obtain ⟨k, hk, rfl, HO, HW⟩ := hrel
    have hwr := HW.out.size
    by_cases hlt : k < l.length
    · obtain ⟨a, rfl, hal, c0, c1⟩ := (HH.out.below HW.out) k hlt
      have hsz := HA.out.at_ hlt
      have HST := Lib.hid (getN_step name l hlt)
      have HHB := Lib.hid (fun W (hW : Below wr.heap.size wr W) => (((HH.out.below HW.out).below hW) k hlt))
      have hgl := Nat.le_trans (getN_len name (l.take k)) (List.length_take_le _ _)
      obtain ⟨p, hp⟩ : ∃ p, l[k] = p := ⟨_, rfl⟩
      rw [hp] at c0 c1 hsz HST HHB
      clear hp
      obtain ⟨n, v⟩ := p
      simp only at c0 c1 hsz
      have HI := Lib.hid (fun W => ris_any name n v W (by omega) hm)
      have HC1 := Lib.hid (fun W (hW : Below wr.heap.size wr W) => show W.cell? ⟨(a.add (k * 2)).block, (a.add (k * 2)).off + 1, none⟩ = some (.string v) from by
        obtain ⟨a', e, _, _, d1⟩ := HHB.out W hW
        cases e
        exact d1)
      obtain ⟨X, hX⟩ : ∃ X, X = getN name (l.take k) := ⟨_, rfl⟩
      rw [← hX] at HST HO hgl
      clear hX HHB
      cases hb : hasN name ⟨n, v⟩
      · rw [hb] at HI HST
        have HST2 := Lib.hid (show getN name (l.take (k + 1)) = X from by rw [HST.out]; simp)
        clear HST
        clear hb
        go_wp2_with (go_at_call 25; (with_reducible refine (HI.out _).mono ?_); rintro e w1 ⟨rfl, b1⟩; have HB1 := Lib.hid (HW.out.trans (b1.mono hwr)); have HO1 := Lib.hid (own_mv HO.out (Mv.of_below b1 []) (by simp)); clear b1)
        go_roundw
        case rel => exact ⟨k + 1, by omega, by go_num, by rw [HST2.out]; exact HO1, HB1⟩
        case measure => simp [intOf]; omega
      · rw [hb] at HI HST
        have HST2 := Lib.hid (show getN name (l.take (k + 1)) = X ++ [v] from by rw [HST.out]; simp)
        clear HST
        have HSS := Lib.hid (show strs (X ++ [v]) = strs X ++ [.string v] from by rw [strs_app]; rfl)
        have HSL := Lib.hid (show (X ++ [v]).length = X.length + 1 from by simp)
        clear hb
        go_wp2_with (first
          | (go_at_call 25; (with_reducible refine (HI.out _).mono ?_); rintro e w1 ⟨rfl, b1⟩
             have HB1 := Lib.hid (HW.out.trans (b1.mono hwr))
             have HO1 := Lib.hid (own_mv HO.out (Mv.of_below b1 []) (by simp))
             have d1 := HC1.out w1 b1
             have hw1 : w.heap.size ≤ w1.heap.size := HB1.out.size
             clear b1 c0 c1)
          | (at_builtin; refine wpList_append_own _ rfl _ _ 47 rfl w.heap.size 9 i0 _ 1 16 Tryz.underlying47 hi hz0 hz1 hz2 rfl (by decide) _ _ _ rfl (HO1.out.alloc _) ⟨w1.heap.size, 0, none⟩ 1 1 [.string v] rfl rfl (cell_one_new _ _ _) (by simp [Value.oneCell']) (by unfold maxLen; omega) (by omega) (by simp; omega) ?_; intro v' w2 hown hgrow _
             have HB2 := Lib.hid ((HB1.out.alloc hw1 (.cells #[.string v] 9)).grown hgrow (by simp; omega) (fun g hg => (HO1.out.lt g hg).1))
             have HO2 := Lib.hid hown
             clear hown hgrow))
        go_roundw
        case rel => exact ⟨k + 1, by omega, by go_num, by rw [HST2.out, HSS.out, HSL.out]; exact HO2, HB2⟩
        case measure => simp [intOf]; omega
    · obtain rfl : k = l.length := by omega
      rw [HALL.out] at HO
      go_wp2
      go_ret
      exact ⟨_, rfl, HO.out, HW.out⟩

end Go.Proofs.YtighgoefmccagaaGreat
namespace Go.Proofs.YtighgoefmccagaaGreat
open Go.RowKit

theorem nos_list : nosS.toList = [110, 111, 115, 110, 105, 102, 102] := by kernel_rfl

set_option maxHeartbeats 1000000 in
theorem rvalues23_any (A : Option Addr) (c : Nat) (l : List Prm) (w : World) (h : HdIn w A l) (ha : AllIn 1000 l) (hn : l.length ≤ 700) :
    Calls Tryz.prog 26 #[.slice A l.length c] w (NewStrs (nosV l) w) := by
  have hj := join_le (x := xctS) ha hn
  have HG := Lib.hid (rget_any xctS A c l w h (big_all ha) (by omega) (by decide))
  have hln := getN_len xctS l
  have hvs0 := getN_le (name := xctS) (l := l) (m := 1000) fun p hp => (ha p hp).2
  have HJ := Lib.hid (fun W A' c' (ht : TxIn W A' (getN xctS l)) => rjoin_any A' c' (getN xctS l) W ht (by omega) hvs0)
  have hvn := nosV_none (l := l)
  have hvs := nosV_some (l := l)
  generalize getN xctS l = xs at *
  obtain ⟨V, hV⟩ : ∃ V, V = nosV l := ⟨_, rfl⟩
  rw [← hV] at hvn hvs ⊢
  clear hV h ha hvs0
  by_cases h0 : xs.length = 0
  · obtain rfl : V = [] := hvn h0
    have d0 : ((xs.length : Int) == 0) = true := beq_iff_eq.2 (by omega)
    generalize joinS xs = j at *
    clear hvn hvs HJ
    go_enter Tryz.func26, Tryz.ntmps26
    go_wp2_with fail
    refine HG.out.mono ?_
    rintro e w1 ⟨v, rfl, ho, b1⟩
    obtain ⟨A', c', rfl, ht, hc⟩ := TxIn.of_own ho
    have HB := Lib.hid b1
    clear b1 ho ht hc
    go_wp2
    go_ret
    exact ⟨_, rfl, World.ownsRow_nil _ _ _ _, HB.out⟩
  · obtain hv : V = splitL (joinS xs) 0 := hvs h0
    have d0 : ((xs.length : Int) == 0) = false := beq_eq_false_iff_ne.2 (by omega)
    have HS := Lib.hid (fun W => rsplit_any (joinS xs) W (by omega))
    rw [← hv] at HS
    generalize joinS xs = j at *
    clear hvn hvs hv
    go_enter Tryz.func26, Tryz.ntmps26
    go_wp2_with fail
    refine HG.out.mono ?_
    rintro e w1 ⟨v, rfl, ho, b1⟩
    obtain ⟨A', c', rfl, ht, hc⟩ := TxIn.of_own ho
    have HB := Lib.hid b1
    have HT := Lib.hid ht
    clear b1 ho hc ht
    go_wp2_with fail
    refine (HJ.out _ _ _ HT.out).mono ?_
    rintro e w2 ⟨rfl, rfl⟩
    go_wp2_with fail
    refine (HS.out _).mono ?_
    rintro e w2 ⟨v, rfl, ho, b2⟩
    have HO := Lib.hid (own_base ho HB.out.size)
    replace HB := Lib.hid (below_on HB.out b2)
    clear ho b2
    go_wp2
    go_ret
    exact ⟨v, rfl, HO.out, HB.out⟩

set_option maxHeartbeats 1000000 in
theorem ris23_any (A : Option Addr) (c : Nat) (l : List Prm) (w : World) (h : HdIn w A l) (ha : AllIn 1000 l) (hn : l.length ≤ 700) :
    Calls Tryz.prog 17 #[.slice A l.length c] w fun e w' => e = .returned (.bool (nosB l)) ∧ Below w.heap.size w w' := by
  have HV := Lib.hid (rvalues23_any A c l w h ha hn)
  have hsz := nosV_sizes ha hn
  have hbn := nosB_none (l := l)
  have hbs := nosB_first (l := l)
  unfold NewStrs at HV
  generalize nosV l = V at *
  obtain ⟨z, hz⟩ : ∃ z, z = nosB l := ⟨_, rfl⟩
  rw [← hz] at hbn hbs ⊢
  clear hz h ha
  by_cases h0 : V.length = 0
  · obtain rfl : z = false := hbn h0
    have d0 : decide ((0 : Int) < (V.length : Int)) = false := decide_eq_false (by omega)
    clear hbn hbs hsz
    go_enter Tryz.func17, Tryz.ntmps17
    go_wp2_with fail
    refine HV.out.mono ?_
    rintro e w1 ⟨v, rfl, ho, b1⟩
    obtain ⟨A', c', rfl, ht, hc⟩ := TxIn.of_own ho
    have HB := Lib.hid b1
    clear b1 ho ht hc
    go_wp2
    go_ret
    exact ⟨rfl, HB.out⟩
  · have hp : 0 < V.length := by omega
    have hz := hbs hp
    have hs0 := hsz.1 V[0] (List.getElem_mem hp)
    have d0 : decide ((0 : Int) < (V.length : Int)) = true := decide_eq_true (by omega)
    have HS := Lib.hid (fun W => refLowerS_any V[0] W (by omega))
    have HGET := Lib.hid (fun W A' (ht : TxIn W A' V) => ht 0 hp)
    generalize V[0] = x at *
    generalize lowS x = y at *
    obtain ⟨ys, hys⟩ : ∃ ys, ys = y.toList := ⟨_, rfl⟩
    rw [← hys] at hz
    have hz2 : ((y.toList == [110, 111, 115, 110, 105, 102, 102]) = z) := by rw [← hys, hz, nos_list]
    clear hbn hbs hsz hz hs0 hys
    go_enter Tryz.func17, Tryz.ntmps17
    go_wp2_with fail
    refine HV.out.mono ?_
    rintro e w1 ⟨v, rfl, ho, b1⟩
    obtain ⟨A', c', rfl, ht, hc⟩ := TxIn.of_own ho
    obtain ⟨g, rfl, hgl, hgc⟩ := HGET.out _ _ ht
    have HB := Lib.hid b1
    clear b1 ho ht hc
    go_wp2_with fail
    refine (HS.out _).mono ?_
    rintro e w2 ⟨rfl, b2⟩
    replace HB := Lib.hid (below_on HB.out b2)
    clear b2
    go_wp2
    go_ret
    exact ⟨rfl, HB.out⟩

end Go.Proofs.YtighgoefmccagaaGreat
namespace Go.Proofs.YtighgoefmccagaaGreat
open Go.RowKit Go.Shelf
attribute [local go_sem] Oper.semAt_some

theorem two_new (w : World) (n v : ByteArray) : ∀ j u, ([.string n, .string v] : List Value)[j]? = some u → (w.alloc (.cells #[.string n, .string v] 41)).cell? ((⟨w.heap.size, 0, none⟩ : Addr).add j) = some u := fun j u hj => by
  have e : (⟨w.heap.size, 0, none⟩ : Addr).add j = ⟨w.heap.size, j, none⟩ := by cases j <;> simp [Addr.add]
  rw [e, (Blk.new w 41 #[.string n, .string v]).cell]
  simpa using hj
theorem two_one22 {n v : ByteArray} : ∀ u ∈ ([.string n, .string v] : List Value), u.oneCell' = true := fun u hu => by
  simp at hu
  rcases hu with rfl | rfl <;> rfl
end Go.Proofs.YtighgoefmccagaaGreat
