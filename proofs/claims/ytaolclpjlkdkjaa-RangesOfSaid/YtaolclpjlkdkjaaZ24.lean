/-
  What the document's Sort of headers answers. Condition: texts are shorter than a mebibyte, headers no more than that.
  What the law's Few of headers leaves, and that package header is read (lives). No condition.
  A slice of texts; what Join of the library answers, with a comma and a blank between each two; the same of package combine. Condition: a thousand texts of a thousand bytes.
-/
import Derived.Test.YtaolclpjlkdkjaaZ22
import Derived.Test.YtaolclpjlkdkjaaZ23
import Derived.Test.YtaolclpjlkdkjaaZ20
import Derived.Test.YtaolclpjlkdkjaaZ6
import Derived.Deep.RegionHeld3
import Derived.Deep.RegionWith
import Derived.Deep.DeepCutAuto
import GoSem.Op.String
import Derived.BigRegion
import Derived.IntWalk
import Derived.Test.YtaolclpjlkdkjaaZ17
import Derived.Test.YtaolclpjlkdkjaaZ8
import Derived.Test.YtaolclpjlkdkjaaZ2
import Derived.BigQuiet
import Derived.Test.YtaolclpjlkdkjaaRows
import Derived.WalkKit
import Derived.WalkSpells
import Derived.WalkLawsBesides
import Derived.Laws.Externs
import Derived.Lib.Hide
import Derived.Lib.FrozenHead2
namespace Go.Proofs.Ytaolclpjlkdkjaa
open Go.RowKit

/-- append to a row of headers of the call's own, as a step of a region that draws. -/
theorem stepH_append {ops : Array Oper} {o : Oper} {a : Act} {w : World} {K : Act → World → Prop} {Q : Exit → Act → World → Prop} {E : Prop} (hgd : o.guard = none) (s x : Operand)
    (ho : o.op = .call { callee := .builtin .append, args := #[s, x], argTypes := #[37, 37] })
    (base : Nat) (v : Value) (n : Nat) (xs : List Value) (hs : a.eval s = v) (hown : w.ownsRow base 60 2 v n xs)
    (ad : Addr) (m c : Nat) (news : List Value) (hx : a.eval x = .slice (some ad) m c) (hl : news.length = m * 2) (hnews : ∀ j u, news[j]? = some u → w.cell? (ad.add j) = some u) (h1 : ∀ u ∈ news, u.oneCell' = true)
    (hb : n + m ≤ 4194304) (hbase : base ≤ w.heap.size)
    (h : ∀ v' w', w'.ownsRow base 60 2 v' (n + m) (xs ++ news) → w.grownBy w' v.ownBlock → K (a.put o.dst v') w') : if Region.wanted o (yielded ops a.tmps) = true then Oper.wp Try.prog o a w K Q else E := by
  rw [if_pos (by simp [Region.wanted, hgd])]
  obtain ⟨i0, hi, hz0, hz1, hz2⟩ := info_parts Try.infoHdr
  exact wp_append_own w s x 37 ho base 60 i0 _ 2 32 Try.underlying37 hi hz0 hz1 hz2 rfl (by decide) v n xs hs hown ad m c news hx hl hnews h1 (by unfold maxLen; omega) (by omega) hbase (fun v' w' h2 h3 _ => h v' w' h2 h3)
end Go.Proofs.Ytaolclpjlkdkjaa
namespace Go.Proofs.Ytaolclpjlkdkjaa
open Go.RowKit

theorem fewHs_prmL (lp : Nat → Prm) (k : Nat) : prmL (fewHs lp (k + 1)) = prmL (fewHs lp k) ++ [.string (fewH (lp k)).n, .string (fewH (lp k)).v] := by
  rw [fewHs_succ, prmL_app]; rfl

set_option maxHeartbeats 4000000 in
set_option maxRecDepth 100000 in
theorem few22_any (A : Option Addr) (n c most : Nat) (lp : Nat → Prm) (w : World) (h : Came w A n lp) (hn : n ≤ 9223372036854775807) (hmost : most ≤ 1000) :
    Calls Try.prog 17 #[.slice A n c, .int .i64 most] w fun e w' => ∃ b c', e = .returned (.slice (some b) (min n most) c') ∧ OwnHd w' w.heap.size (some b) c' (fewHs lp (min n most)) ∧ Below w.heap.size w w' := by
  have HH := Lib.hid h
  have HO0 := Lib.hid (World.ownsRow_made (base := w.heap.size) (e := 60) (size := 2) w #[] 0 (Nat.le_refl _) (Nat.zero_le _) rfl)
  have HB0 := Lib.hid ((Below.refl w.heap.size w).alloc (Nat.le_refl _) (.cells #[] 60))
  clear h
  go_enter Try.func17, Try.ntmps17
  go_wp2
  go_loopw [5, 6] (fun x i wr => ∃ k : Nat, k ≤ n ∧ k ≤ most ∧ i = .int .i64 k ∧ Hid (x ≠ .slice none 0 0) ∧ Hid (wr.ownsRow w.heap.size 60 2 x k (prmL (fewHs lp k))) ∧ Hid (Below w.heap.size w wr)) (fun _ i _ => n - (intOf i).toNat)
  case atStart => exact ⟨0, by omega, by omega, rfl, Lib.hid (fun e => by cases e), HO0, HB0⟩
  case round =>
    obtain ⟨k, hkn, hkm, rfl, HNE, HO, HW⟩ := hrel
    have hwr := HW.out.size
    by_cases hlt : k < n ∧ k < most
    · obtain ⟨h1, h2⟩ := hlt
      obtain ⟨a, rfl, hal, e0, e1, q1, q2⟩ := (HH.out.below HW.out) k h1
      have HHB := Lib.hid (fun W (hW : Below w.heap.size w W) => ((HH.out.below hW) k h1))
      have HFP := Lib.hid (fewHs_prmL lp k)
      have HK := Lib.hid (fun W (hW : Below w.heap.size w W) => show W.cell? (a.add (k * 2)) = some (.string (lp k).n) ∧ W.cell? ⟨(a.add (k * 2)).block, (a.add (k * 2)).off + 1, none⟩ = some (.string (lp k).v) from by
        obtain ⟨a', e, _, d0, d1, _⟩ := HHB.out W hW
        cases e
        exact ⟨d0, d1⟩)
      have HC0 : Hid (∀ W, Calls Try.prog 6 #[.string (lp k).n, .int .i64 30] W fun e w' => e = .returned (.string (fewH (lp k)).n) ∧ W = w') := fun W => cut_any (lp k).n 30 W q1
      have HC1 : Hid (∀ W, Calls Try.prog 6 #[.string (lp k).v, .int .i64 100] W fun e w' => e = .returned (.string (fewH (lp k)).v) ∧ W = w') := fun W => cut_any (lp k).v 100 W q2
      have d1 : decide (k < n) = true := by simpa using h1
      have d2 : decide ((k : Int) < (most : Int)) = true := by simpa using h2
      generalize hq : fewH (lp k) = q at *
      generalize lp k = lk at *
      clear hq q1 q2 HHB
      obtain ⟨ln, lv⟩ := lk
      obtain ⟨qn, qv⟩ := q
      simp only at e0 e1 HC0 HC1 HFP HK
      have HBX := Lib.hid (HW.out.trans ((drewAlloc wr (.cells #[.string qn, .string qv] 60)).mono hwr))
      go_wp2_with fail
      go_region_held3 (fun w' => w'.cell? (a.add (k * 2)) = some (.string ln) ∧ w'.cell? ⟨(a.add (k * 2)).block, (a.add (k * 2)).off + 1, none⟩ = some (.string lv))
        (first | go_keep | exact HK.out _ HB2.out | exact HK.out _ HBX.out)
        (first
          | (go_at_call 6; (with_reducible refine (HC0.out _).mono ?_); rintro e w1 ⟨rfl, rfl⟩)
          | (go_at_call 6; (with_reducible refine (HC1.out _).mono ?_); rintro e w1 ⟨rfl, rfl⟩)
          | (refine stepH_append rfl _ _ rfl w.heap.size u5 _ _ rfl (own_mv HO.out (Mv.of_below (drewAlloc wr _) []) (by simp)) ⟨wr.heap.size, 0, none⟩ 1 1 [.string qn, .string qv] rfl rfl (two_new wr qn qv) two_one22 (by omega) (by simp; omega) ?_
             intro v' w2 hown hgrow
             have HB2 := Lib.hid (show Below w.heap.size w w2 from HBX.out.grown hgrow (by simp; omega) (fun g hg => (HO.out.lt g hg).1))
             have HN2 := Lib.hid (show v' ≠ .slice none 0 0 from fun e => by subst e; have := hown.2; simp at this)
             have HO2 := Lib.hid hown
             clear hown hgrow))
      all_goals
        go_wp2_with fail
        go_roundw
        case rel => exact ⟨k + 1, by omega, by omega, by go_num, HN2, by rw [HFP.out]; exact HO2, HB2⟩
        case measure => simp [intOf]; omega
    · have hmin : min n most = k := by omega
      obtain ⟨b', c', rfl⟩ : ∃ b' c', u5 = .slice (some b') k c' := by
        rcases HO.out.2 with ⟨h1, _⟩ | ⟨g, cap, _, h1, _⟩
        · exact absurd h1 HNE.out
        · exact ⟨_, cap, h1⟩
      have hlt2 : ¬ (k < n) ∨ k < n ∧ ¬ (k < most) := by omega
      have HOk := Lib.hid (show OwnHd wr w.heap.size (some b') c' (fewHs lp k) from by unfold OwnHd; rw [fewHs_len]; exact HO.out)
      rcases hlt2 with h3 | ⟨h3, h4⟩
      · go_wp2
        go_ret
        exact ⟨b', c', by rw [hmin]; rfl, by rw [hmin]; exact HOk.out, HW.out⟩
      · go_wp2
        go_ret
        exact ⟨b', c', by rw [hmin]; rfl, by rw [hmin]; exact HOk.out, HW.out⟩

end Go.Proofs.Ytaolclpjlkdkjaa
namespace Go.Proofs.Ytaolclpjlkdkjaa
open Go.RowKit

/-- These texts lie behind A. -/
def TxIn (w : World) (A : Option Addr) (xs : List ByteArray) : Prop := ∀ i (h : i < xs.length), ∃ g, A = some ⟨g, 0, none⟩ ∧ g < w.heap.size ∧ w.cell? ⟨g, i, none⟩ = some (.string xs[i])
theorem TxIn.below {w w' : World} {A : Option Addr} {xs : List ByteArray} (h : TxIn w A xs) (hb : Below w.heap.size w w') : TxIn w' A xs := fun i hi => by
  obtain ⟨g, e, hl, hc⟩ := h i hi
  exact ⟨g, e, Nat.lt_of_lt_of_le hl hb.size, (hb.cell (p := ⟨g, i, none⟩) hl).trans hc⟩
theorem TxIn.nil (w : World) (A : Option Addr) : TxIn w A [] := fun i h => absurd h (by simp)
theorem TxIn.of_own {w : World} {base : Nat} {v : Value} {xs : List ByteArray} (h : w.ownsRow base 9 1 v xs.length (strs xs)) : ∃ A c, v = .slice A xs.length c ∧ TxIn w A xs ∧ xs.length ≤ c := by
  rcases h.2 with ⟨hv, hn⟩ | ⟨g, cap, cur, hv, hb, hg, hc, _⟩
  · refine ⟨none, 0, by rw [hv, hn], fun i hi => absurd hi (by omega), by omega⟩
  · refine ⟨_, cap, hv, fun i hi => ?_, hc⟩
    subst hv
    have h1 := h.cellAt i (by omega)
    refine ⟨g, rfl, (Array.getElem?_eq_some_iff.1 hg).1, h1.trans ?_⟩
    simp [strs, hi]

end Go.Proofs.Ytaolclpjlkdkjaa
