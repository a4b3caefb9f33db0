/-
  What the document's Values and Is of layer 23 answer. Condition: at most seven hundred headers, with texts of at most a thousand bytes.
  What Parse of package header answers. Condition: the text is shorter than a mebibyte.
  What Grow and Concat of the library do with headers. Condition: there are some headers in all, and no more than a mebibyte.
-/
import Derived.Test.YtighgoefmccagaaZ21
import Derived.Test.YtighgoefmccagaaZ22
import Derived.Test.YtighgoefmccagaaZ18
import Derived.Test.YtighgoefmccagaaZ10
import Derived.Test.YtighgoefmccagaaZ2
import Derived.Test.YtighgoefmccagaaZ15
import Derived.Test.YtighgoefmccagaaZ16
import Derived.Maps.AppendAt
import Derived.Test.YtighgoefmccagaaRows
import Derived.WalkKit
import Derived.BigQuiet
import Derived.IntWalk
import Derived.Deep.RegionHeld3
import Derived.Deep.RegionWith
import Derived.Lib.AppendZeros
namespace Go.Proofs.Ytighgoefmccagaa
open Go.RowKit

theorem nos_list : nosS.toList = [110, 111, 115, 110, 105, 102, 102] := by kernel_rfl

set_option maxHeartbeats 1000000 in
theorem rvalues23_any (A : Option Addr) (c : Nat) (l : List Prm) (w : World) (h : HdIn w A l) (ha : AllIn 1000 l) (hn : l.length ≤ 700) :
    Calls Try.prog 8 #[.slice A l.length c] w (NewStrs (nosV l) w) := by
  have hj := join_le (x := xctS) ha hn
  have HG := Lib.hid (rget_any xctS A c l w h (big_all ha) (by omega) (by decide))
  have hln := getN_len xctS l
  have hvs0 := getN_le (name := xctS) (l := l) (m := 1000) fun p hp => (ha p hp).2
  have HJ := Lib.hid (fun W A' c' (ht : TxIn W A' (getN xctS l)) => rjoin_any A' c' (getN xctS l) W ht (by omega) hvs0)
  have hvn := nosV_none (l := l)
  have hvs := nosV_some (l := l)
  generalize getN xctS l = xs at *
  obtain ⟨V, hV⟩ : ∃ V, V = nosV l := ⟨_, rfl⟩
  rw [← hV] at hvn hvs ⊢
  clear hV h ha hvs0
  by_cases h0 : xs.length = 0
  · obtain rfl : V = [] := hvn h0
    have d0 : ((xs.length : Int) == 0) = true := beq_iff_eq.2 (by omega)
    generalize joinS xs = j at *
    clear hvn hvs HJ
    go_enter Try.func8, Try.ntmps8
    go_wp2_with fail
    refine HG.out.mono ?_
    rintro e w1 ⟨v, rfl, ho, b1⟩
    obtain ⟨A', c', rfl, ht, hc⟩ := TxIn.of_own ho
    have HB := Lib.hid b1
    clear b1 ho ht hc
    go_wp2
    go_ret
    exact ⟨_, rfl, World.ownsRow_nil _ _ _ _, HB.out⟩
  · obtain hv : V = splitL (joinS xs) 0 := hvs h0
    have d0 : ((xs.length : Int) == 0) = false := beq_eq_false_iff_ne.2 (by omega)
    have HS := Lib.hid (fun W => rsplit_any (joinS xs) W (by omega))
    rw [← hv] at HS
    generalize joinS xs = j at *
    clear hvn hvs hv
    go_enter Try.func8, Try.ntmps8
    go_wp2_with fail
    refine HG.out.mono ?_
    rintro e w1 ⟨v, rfl, ho, b1⟩
    obtain ⟨A', c', rfl, ht, hc⟩ := TxIn.of_own ho
    have HB := Lib.hid b1
    have HT := Lib.hid ht
    clear b1 ho hc ht
    go_wp2_with fail
    refine (HJ.out _ _ _ HT.out).mono ?_
    rintro e w2 ⟨rfl, rfl⟩
    go_wp2_with fail
    refine (HS.out _).mono ?_
    rintro e w2 ⟨v, rfl, ho, b2⟩
    have HO := Lib.hid (own_base ho HB.out.size)
    replace HB := Lib.hid (below_on HB.out b2)
    clear ho b2
    go_wp2
    go_ret
    exact ⟨v, rfl, HO.out, HB.out⟩

set_option maxHeartbeats 1000000 in
theorem ris23_any (A : Option Addr) (c : Nat) (l : List Prm) (w : World) (h : HdIn w A l) (ha : AllIn 1000 l) (hn : l.length ≤ 700) :
    Calls Try.prog 10 #[.slice A l.length c] w fun e w' => e = .returned (.bool (nosB l)) ∧ Below w.heap.size w w' := by
  have HV := Lib.hid (rvalues23_any A c l w h ha hn)
  have hsz := nosV_sizes ha hn
  have hbn := nosB_none (l := l)
  have hbs := nosB_first (l := l)
  unfold NewStrs at HV
  generalize nosV l = V at *
  obtain ⟨z, hz⟩ : ∃ z, z = nosB l := ⟨_, rfl⟩
  rw [← hz] at hbn hbs ⊢
  clear hz h ha
  by_cases h0 : V.length = 0
  · obtain rfl : z = false := hbn h0
    have d0 : decide ((0 : Int) < (V.length : Int)) = false := decide_eq_false (by omega)
    clear hbn hbs hsz
    go_enter Try.func10, Try.ntmps10
    go_wp2_with fail
    refine HV.out.mono ?_
    rintro e w1 ⟨v, rfl, ho, b1⟩
    obtain ⟨A', c', rfl, ht, hc⟩ := TxIn.of_own ho
    have HB := Lib.hid b1
    clear b1 ho ht hc
    go_wp2
    go_ret
    exact ⟨rfl, HB.out⟩
  · have hp : 0 < V.length := by omega
    have hz := hbs hp
    have hs0 := hsz.1 V[0] (List.getElem_mem hp)
    have d0 : decide ((0 : Int) < (V.length : Int)) = true := decide_eq_true (by omega)
    have HS := Lib.hid (fun W => refLowerS_any V[0] W (by omega))
    have HGET := Lib.hid (fun W A' (ht : TxIn W A' V) => ht 0 hp)
    generalize V[0] = x at *
    generalize lowS x = y at *
    obtain ⟨ys, hys⟩ : ∃ ys, ys = y.toList := ⟨_, rfl⟩
    rw [← hys] at hz
    have hz2 : ((y.toList == [110, 111, 115, 110, 105, 102, 102]) = z) := by rw [← hys, hz, nos_list]
    clear hbn hbs hsz hz hs0 hys
    go_enter Try.func10, Try.ntmps10
    go_wp2_with fail
    refine HV.out.mono ?_
    rintro e w1 ⟨v, rfl, ho, b1⟩
    obtain ⟨A', c', rfl, ht, hc⟩ := TxIn.of_own ho
    obtain ⟨g, rfl, hgl, hgc⟩ := HGET.out _ _ ht
    have HB := Lib.hid b1
    clear b1 ho ht hc
    go_wp2_with fail
    refine (HS.out _).mono ?_
    rintro e w2 ⟨rfl, b2⟩
    replace HB := Lib.hid (below_on HB.out b2)
    clear b2
    go_wp2
    go_ret
    exact ⟨rfl, HB.out⟩

end Go.Proofs.Ytighgoefmccagaa
namespace Go.Proofs.Ytighgoefmccagaa
open Go.RowKit Go.Shelf
attribute [local go_sem] Oper.semAt_some

theorem two_new (w : World) (n v : ByteArray) : ∀ j u, ([.string n, .string v] : List Value)[j]? = some u → (w.alloc (.cells #[.string n, .string v] 33)).cell? ((⟨w.heap.size, 0, none⟩ : Addr).add j) = some u := fun j u hj => by
  have e : (⟨w.heap.size, 0, none⟩ : Addr).add j = ⟨w.heap.size, j, none⟩ := by cases j <;> simp [Addr.add]
  rw [e, (Blk.new w 33 #[.string n, .string v]).cell]
  simpa using hj
theorem two_one22 {n v : ByteArray} : ∀ u ∈ ([.string n, .string v] : List Value), u.oneCell' = true := fun u hu => by
  simp at hu
  rcases hu with rfl | rfl <;> rfl
end Go.Proofs.Ytighgoefmccagaa
namespace Go.Proofs.Ytighgoefmccagaa
open Go.RowKit

theorem prmL_app (a b : List Prm) : prmL (a ++ b) = prmL a ++ prmL b := by simp [prmL]

end Go.Proofs.Ytighgoefmccagaa
