/-
  What the document's Is, Good, Get, Cut and Same of headers answer. Condition: texts are shorter than a mebibyte, headers no more than that.
  What Grow and Concat of the library do with headers. Condition: there are some headers in all, and no more than a mebibyte.
  What Set of package header answers. Condition: texts are shorter than a mebibyte, headers less than that.
-/
import Derived.Test.YtaolclpjlkdkjaaZ21
import Derived.Test.YtaolclpjlkdkjaaZ22
import Derived.Test.YtaolclpjlkdkjaaZ20
import Derived.Maps.AppendAt
import Derived.BigQuiet
import Derived.Lib.AppendZeros
import Derived.IntWalk
import Derived.Deep.RegionHeld3
import Derived.Deep.RegionWith
import Derived.Deep.DeepCutAuto
namespace Go.Proofs.Ytaolclpjlkdkjaa
open Go.RowKit

set_option maxHeartbeats 1000000 in
theorem ris_any (name n v : ByteArray) (w : World) (hn : n.size ≤ 1048576) (hm : name.size ≤ 1048576) :
    Calls Try.prog 61 #[.agg #[.string n, .string v], .string name] w fun e w' => e = .returned (.bool (hasN name ⟨n, v⟩)) ∧ Below w.heap.size w w' := by
  have HN := Lib.hid (fun W => refLowerS_any n W (by omega))
  have HM := Lib.hid (fun W => refLowerS_any name W (by omega))
  have HE : Hid (hasN name ⟨n, v⟩ = ((lowS n).toList == (lowS name).toList)) := Lib.hid rfl
  rw [HE.out]
  obtain ⟨a, ha⟩ : ∃ a, a = lowS n := ⟨_, rfl⟩
  obtain ⟨b, hb⟩ : ∃ b, b = lowS name := ⟨_, rfl⟩
  rw [← ha] at HN ⊢
  rw [← hb] at HM ⊢
  clear ha hb HE
  obtain ⟨z, hz⟩ : ∃ z, (a.toList == b.toList) = z := ⟨_, rfl⟩
  rw [hz]
  have HB0 := Lib.hid ((Below.refl w.heap.size w).alloc (Nat.le_refl _) (.cells #[.string n, .string v] 60))
  go_enter Try.func61, Try.ntmps61
  go_wp2_with fail
  refine (HN.out _).mono ?_
  rintro e w1 ⟨rfl, b1⟩
  have HB1 := Lib.hid (below_on HB0.out b1)
  clear b1
  go_wp2_with fail
  refine (HM.out _).mono ?_
  rintro e w2 ⟨rfl, b2⟩
  have HB2 := Lib.hid (below_on HB1.out b2)
  clear b2
  go_wp2
  go_ret
  exact ⟨by first | rfl | (rw [← hz]; rfl) | simp [hz], HB2.out⟩

theorem strs_app (xs ys : List ByteArray) : strs (xs ++ ys) = strs xs ++ strs ys := by simp [strs]
theorem Try.infoS23 : (Try.prog.info? 9).map (fun i => (i.zero, i.size, i.bytes)) = some (some (.string ⟨#[]⟩), 1, 16) := by kernel_rfl

set_option maxHeartbeats 2000000 in
set_option maxRecDepth 100000 in
theorem rget_any (name : ByteArray) (A : Option Addr) (c : Nat) (l : List Prm) (w : World) (h : HdIn w A l) (ha : AllIn 1048576 l) (hn : l.length ≤ 1048576) (hm : name.size ≤ 1048576) :
    Calls Try.prog 34 #[.string name, .slice A l.length c] w fun e w' => ∃ v, e = .returned v ∧ w'.ownsRow w.heap.size 9 1 v (getN name l).length (strs (getN name l)) ∧ Below w.heap.size w w' := by
  obtain ⟨i0, hi, hz0, hz1, hz2⟩ := info_parts Try.infoS23
  have HH := Lib.hid h
  have HA := Lib.hid ha
  have HALL := Lib.hid (show l.take l.length = l from List.take_length)
  have HO0 := Lib.hid (World.ownsRow_made (base := w.heap.size) (e := 9) (size := 1) w #[] 0 (Nat.le_refl _) (Nat.zero_le _) rfl)
  have HB0 := Lib.hid ((Below.refl w.heap.size w).alloc (Nat.le_refl _) (.cells #[] 9))
  clear h ha
  go_enter Try.func34, Try.ntmps34
  go_wp2
  go_loopw [5, 6] (fun v i wr => ∃ k : Nat, k ≤ l.length ∧ i = .int .i64 k ∧ Hid (wr.ownsRow w.heap.size 9 1 v (getN name (l.take k)).length (strs (getN name (l.take k)))) ∧ Hid (Below w.heap.size w wr)) (fun _ i _ => l.length - (intOf i).toNat)
  case atStart => exact ⟨0, by omega, rfl, HO0, HB0⟩
  case round =>
    obtain ⟨k, hk, rfl, HO, HW⟩ := hrel
    have hwr := HW.out.size
    by_cases hlt : k < l.length
    · obtain ⟨a, rfl, hal, c0, c1⟩ := (HH.out.below HW.out) k hlt
      have hsz := HA.out.at_ hlt
      have HST := Lib.hid (getN_step name l hlt)
      have HHB := Lib.hid (fun W (hW : Below wr.heap.size wr W) => (((HH.out.below HW.out).below hW) k hlt))
      have hgl := Nat.le_trans (getN_len name (l.take k)) (List.length_take_le _ _)
      obtain ⟨p, hp⟩ : ∃ p, l[k] = p := ⟨_, rfl⟩
      rw [hp] at c0 c1 hsz HST HHB
      clear hp
      obtain ⟨n, v⟩ := p
      simp only at c0 c1 hsz
      have HI := Lib.hid (fun W => ris_any name n v W (by omega) hm)
      have HC1 := Lib.hid (fun W (hW : Below wr.heap.size wr W) => show W.cell? ⟨(a.add (k * 2)).block, (a.add (k * 2)).off + 1, none⟩ = some (.string v) from by
        obtain ⟨a', e, _, _, d1⟩ := HHB.out W hW
        cases e
        exact d1)
      obtain ⟨X, hX⟩ : ∃ X, X = getN name (l.take k) := ⟨_, rfl⟩
      rw [← hX] at HST HO hgl
      clear hX HHB
      cases hb : hasN name ⟨n, v⟩
      · rw [hb] at HI HST
        have HST2 := Lib.hid (show getN name (l.take (k + 1)) = X from by rw [HST.out]; simp)
        clear HST
        clear hb
        go_wp2_with (go_at_call 61; (with_reducible refine (HI.out _).mono ?_); rintro e w1 ⟨rfl, b1⟩; have HB1 := Lib.hid (HW.out.trans (b1.mono hwr)); have HO1 := Lib.hid (own_mv HO.out (Mv.of_below b1 []) (by simp)); clear b1)
        go_roundw
        case rel => exact ⟨k + 1, by omega, by go_num, by rw [HST2.out]; exact HO1, HB1⟩
        case measure => simp [intOf]; omega
      · rw [hb] at HI HST
        have HST2 := Lib.hid (show getN name (l.take (k + 1)) = X ++ [v] from by rw [HST.out]; simp)
        clear HST
        have HSS := Lib.hid (show strs (X ++ [v]) = strs X ++ [.string v] from by rw [strs_app]; rfl)
        have HSL := Lib.hid (show (X ++ [v]).length = X.length + 1 from by simp)
        clear hb
        go_wp2_with (first
          | (go_at_call 61; (with_reducible refine (HI.out _).mono ?_); rintro e w1 ⟨rfl, b1⟩
             have HB1 := Lib.hid (HW.out.trans (b1.mono hwr))
             have HO1 := Lib.hid (own_mv HO.out (Mv.of_below b1 []) (by simp))
             have d1 := HC1.out w1 b1
             have hw1 : w.heap.size ≤ w1.heap.size := HB1.out.size
             clear b1 c0 c1)
          | (at_builtin; refine wpList_append_own _ rfl _ _ 61 rfl w.heap.size 9 i0 _ 1 16 Try.underlying61 hi hz0 hz1 hz2 rfl (by decide) _ _ _ rfl (HO1.out.alloc _) ⟨w1.heap.size, 0, none⟩ 1 1 [.string v] rfl rfl (cell_one_new _ _ _) (by simp [Value.oneCell']) (by unfold maxLen; omega) (by omega) (by simp; omega) ?_; intro v' w2 hown hgrow _
             have HB2 := Lib.hid ((HB1.out.alloc hw1 (.cells #[.string v] 9)).grown hgrow (by simp; omega) (fun g hg => (HO1.out.lt g hg).1))
             have HO2 := Lib.hid hown
             clear hown hgrow))
        go_roundw
        case rel => exact ⟨k + 1, by omega, by go_num, by rw [HST2.out, HSS.out, HSL.out]; exact HO2, HB2⟩
        case measure => simp [intOf]; omega
    · obtain rfl : k = l.length := by omega
      rw [HALL.out] at HO
      go_wp2
      go_ret
      exact ⟨_, rfl, HO.out, HW.out⟩

end Go.Proofs.Ytaolclpjlkdkjaa
namespace Go.Proofs.Ytaolclpjlkdkjaa
open Go.RowKit

theorem prmL_app (a b : List Prm) : prmL (a ++ b) = prmL a ++ prmL b := by simp [prmL]

end Go.Proofs.Ytaolclpjlkdkjaa
namespace Go.Proofs.Ytaolclpjlkdkjaa
open Go.RowKit

theorem HdIn.one {W : World} {b : Nat} {p : Prm} (h : Blk W b 60 #[.string p.n, .string p.v]) : HdIn W (some ⟨b, 0, none⟩) [p] := fun i hi => by
  obtain rfl : i = 0 := by simpa using hi
  exact ⟨_, rfl, h.lt, h.cell 0, h.cell 1⟩
theorem HdIn.nil (W : World) (A : Option Addr) : HdIn W A [] := fun i h => absurd h (by simp)
end Go.Proofs.Ytaolclpjlkdkjaa
