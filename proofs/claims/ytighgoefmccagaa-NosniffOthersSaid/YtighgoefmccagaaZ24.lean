/-
  What the document's Cut of headers answers, and its Same of two lists that are one. Condition: texts are shorter than a mebibyte, headers no more than that.
  What Set of package header answers. Condition: texts are shorter than a mebibyte, headers less than that.
  What the document's Sort of headers answers. Condition: texts are shorter than a mebibyte, headers no more than that.
-/
import Derived.Test.YtighgoefmccagaaZ23
import Derived.Test.YtighgoefmccagaaZ22
import Derived.Deep.RegionHeld3
import Derived.Deep.RegionWith
import Derived.Deep.DeepCutAuto
import Derived.Test.YtighgoefmccagaaZ10
import Derived.Test.YtighgoefmccagaaZ5
import GoSem.Op.String
import Derived.BigRegion
import Derived.IntWalk
namespace Go.Proofs.Ytighgoefmccagaa
open Go.RowKit

set_option maxHeartbeats 2000000 in
set_option maxRecDepth 100000 in
theorem rcut_any (name : ByteArray) (A : Option Addr) (c : Nat) (l : List Prm) (w : World) (h : HdIn w A l) (ha : AllIn 1048576 l) (hn : l.length ≤ 1048576) (hm : name.size ≤ 1048576) :
    Calls Try.prog 14 #[.string name, .slice A l.length c] w fun e w' => ∃ b c', e = .returned (.slice (some b) (cutN name l).length c') ∧ OwnHd w' w.heap.size (some b) c' (cutN name l) ∧ Below w.heap.size w w' := by
  have HH := Lib.hid h
  have HA := Lib.hid ha
  have HALL := Lib.hid (show l.take l.length = l from List.take_length)
  have HO0 := Lib.hid (World.ownsRow_made (base := w.heap.size) (e := 33) (size := 2) w #[] 0 (Nat.le_refl _) (Nat.zero_le _) rfl)
  have HB0 := Lib.hid ((Below.refl w.heap.size w).alloc (Nat.le_refl _) (.cells #[] 33))
  clear h ha
  go_enter Try.func14, Try.ntmps14
  go_wp2
  go_loopw [5, 6] (fun v i wr => ∃ k : Nat, k ≤ l.length ∧ i = .int .i64 k ∧ Hid (v ≠ .slice none 0 0) ∧ Hid (wr.ownsRow w.heap.size 33 2 v (cutN name (l.take k)).length (prmL (cutN name (l.take k)))) ∧ Hid (Below w.heap.size w wr)) (fun _ i _ => l.length - (intOf i).toNat)
  case atStart => exact ⟨0, by omega, rfl, Lib.hid (fun e => by cases e), HO0, HB0⟩
  case round =>
    obtain ⟨k, hk, rfl, HNE, HO, HW⟩ := hrel
    have hwr := HW.out.size
    by_cases hlt : k < l.length
    · obtain ⟨a, rfl, hal, c0, c1⟩ := (HH.out.below HW.out) k hlt
      have hsz := HA.out.at_ hlt
      have HST := Lib.hid (cutN_step name l hlt)
      have HHB := Lib.hid (fun W (hW : Below wr.heap.size wr W) => (((HH.out.below HW.out).below hW) k hlt))
      have hgl := Nat.le_trans (cutN_len name (l.take k)) (List.length_take_le _ _)
      obtain ⟨p, hp⟩ : ∃ p, l[k] = p := ⟨_, rfl⟩
      rw [hp] at c0 c1 hsz HST HHB
      clear hp
      obtain ⟨n, v⟩ := p
      simp only at c0 c1 hsz
      have HI := Lib.hid (fun W => ris_any name n v W (by omega) hm)
      have HC0 := Lib.hid (fun W (hW : Below wr.heap.size wr W) => show W.cell? (a.add (k * 2)) = some (.string n) ∧ W.cell? ⟨(a.add (k * 2)).block, (a.add (k * 2)).off + 1, none⟩ = some (.string v) from by
        obtain ⟨a', e, _, d0, d1⟩ := HHB.out W hW
        cases e
        exact ⟨d0, d1⟩)
      obtain ⟨X, hX⟩ : ∃ X, X = cutN name (l.take k) := ⟨_, rfl⟩
      rw [← hX] at HST HO hgl
      clear hX HHB
      cases hb : hasN name ⟨n, v⟩
      · rw [hb] at HI HST
        have HST2 := Lib.hid (show cutN name (l.take (k + 1)) = X ++ [⟨n, v⟩] from by rw [HST.out]; simp)
        clear HST
        have HSS := Lib.hid (show prmL (X ++ [⟨n, v⟩]) = prmL X ++ [.string n, .string v] from by rw [prmL_app]; rfl)
        have HSL := Lib.hid (show (X ++ [(⟨n, v⟩ : Prm)]).length = X.length + 1 from by simp)
        clear hb
        go_wp2_with (first
          | (go_at_call 12; (with_reducible refine (HI.out _).mono ?_); rintro e w1 ⟨rfl, b1⟩
             have HB1 := Lib.hid (HW.out.trans (b1.mono hwr))
             have HO1 := Lib.hid (own_mv HO.out (Mv.of_below b1 []) (by simp))
             obtain ⟨d0, d1⟩ := HC0.out w1 b1
             have hw1 : w.heap.size ≤ w1.heap.size := HB1.out.size
             clear b1 c0 c1)
          | (at_builtin; refine wpH_append rfl _ _ rfl w.heap.size _ _ _ rfl (HO1.out.alloc _) ⟨w1.heap.size, 0, none⟩ 1 1 [.string n, .string v] rfl rfl (two_new w1 n v) two_one22 (by omega) (by simp; omega) ?_; intro v' w2 hown hgrow hnil
             have HN2 := Lib.hid (show v' ≠ .slice none 0 0 from fun e => by have := (hnil.1 e).2; cases this)
             have HB2 := Lib.hid ((HB1.out.alloc hw1 (.cells #[.string n, .string v] 33)).grown hgrow (by simp; omega) (fun g hg => (HO1.out.lt g hg).1))
             have HO2 := Lib.hid hown
             clear hown hgrow hnil))
        go_roundw
        case rel => exact ⟨k + 1, by omega, by go_num, HN2, by rw [HST2.out, HSS.out, HSL.out]; exact HO2, HB2⟩
        case measure => simp [intOf]; omega
      · rw [hb] at HI HST
        have HST2 := Lib.hid (show cutN name (l.take (k + 1)) = X from by rw [HST.out]; simp)
        clear HST
        clear hb
        go_wp2_with (go_at_call 12; (with_reducible refine (HI.out _).mono ?_); rintro e w1 ⟨rfl, b1⟩; have HB1 := Lib.hid (HW.out.trans (b1.mono hwr)); have HO1 := Lib.hid (own_mv HO.out (Mv.of_below b1 []) (by simp)); clear b1)
        go_roundw
        case rel => exact ⟨k + 1, by omega, by go_num, HNE, by rw [HST2.out]; exact HO1, HB1⟩
        case measure => simp [intOf]; omega
    · obtain rfl : k = l.length := by omega
      rw [HALL.out] at HO
      obtain ⟨b', c', rfl⟩ : ∃ b' c', u5 = .slice (some b') (cutN name l).length c' := by
        rcases HO.out.2 with ⟨h1, _⟩ | ⟨g, cap, _, h1, _⟩
        · exact absurd h1 HNE.out
        · exact ⟨_, cap, h1⟩
      go_wp2
      go_ret
      exact ⟨b', c', rfl, HO.out, HW.out⟩

end Go.Proofs.Ytighgoefmccagaa
namespace Go.Proofs.Ytighgoefmccagaa
open Go.RowKit

theorem HdIn.one {W : World} {b : Nat} {p : Prm} (h : Blk W b 33 #[.string p.n, .string p.v]) : HdIn W (some ⟨b, 0, none⟩) [p] := fun i hi => by
  obtain rfl : i = 0 := by simpa using hi
  exact ⟨_, rfl, h.lt, h.cell 0, h.cell 1⟩
theorem HdIn.nil (W : World) (A : Option Addr) : HdIn W A [] := fun i h => absurd h (by simp)
end Go.Proofs.Ytighgoefmccagaa
namespace Go.Proofs.Ytighgoefmccagaa
open Go.RowKit

/-- append to a row of headers of the call's own, as a step of a region that draws. -/
theorem stepH_append {ops : Array Oper} {o : Oper} {a : Act} {w : World} {K : Act → World → Prop} {Q : Exit → Act → World → Prop} {E : Prop} (hgd : o.guard = none) (s x : Operand)
    (ho : o.op = .call { callee := .builtin .append, args := #[s, x], argTypes := #[22, 22] })
    (base : Nat) (v : Value) (n : Nat) (xs : List Value) (hs : a.eval s = v) (hown : w.ownsRow base 33 2 v n xs)
    (ad : Addr) (m c : Nat) (news : List Value) (hx : a.eval x = .slice (some ad) m c) (hl : news.length = m * 2) (hnews : ∀ j u, news[j]? = some u → w.cell? (ad.add j) = some u) (h1 : ∀ u ∈ news, u.oneCell' = true)
    (hb : n + m ≤ 4194304) (hbase : base ≤ w.heap.size)
    (h : ∀ v' w', w'.ownsRow base 33 2 v' (n + m) (xs ++ news) → w.grownBy w' v.ownBlock → K (a.put o.dst v') w') : if Region.wanted o (yielded ops a.tmps) = true then Oper.wp Try.prog o a w K Q else E := by
  rw [if_pos (by simp [Region.wanted, hgd])]
  obtain ⟨i0, hi, hz0, hz1, hz2⟩ := info_parts Try.infoHdr
  exact wp_append_own w s x 22 ho base 33 i0 _ 2 32 Try.underlying22 hi hz0 hz1 hz2 rfl (by decide) v n xs hs hown ad m c news hx hl hnews h1 (by unfold maxLen; omega) (by omega) hbase (fun v' w' h2 h3 _ => h v' w' h2 h3)
end Go.Proofs.Ytighgoefmccagaa
