/-
  What the law's Few of headers leaves, and that package header is read (lives). No condition.
  The law HeaderGets. No condition.
  That package nosniff is read (lives); the law NosniffTells. No condition.
-/
import Derived.Test.YtighgoefmccagaaGreatZ25
import Derived.Test.YtighgoefmccagaaGreatZ14
import Derived.Test.YtighgoefmccagaaGreatZ13
import Derived.Test.YtighgoefmccagaaGreatZ24
import Derived.Test.YtighgoefmccagaaGreatZ18
import Derived.Test.YtighgoefmccagaaGreatZ19
import Derived.Test.YtighgoefmccagaaGreatZ23
namespace Go.Proofs.YtighgoefmccagaaGreat
open Go.RowKit

theorem fewHs_prmL (lp : Nat → Prm) (k : Nat) : prmL (fewHs lp (k + 1)) = prmL (fewHs lp k) ++ [.string (fewH (lp k)).n, .string (fewH (lp k)).v] := by
  rw [fewHs_succ, prmL_app]; rfl

set_option maxHeartbeats 4000000 in
set_option maxRecDepth 100000 in
theorem few22_any (A : Option Addr) (n c most : Nat) (lp : Nat → Prm) (w : World) (h : Came w A n lp) (hn : n ≤ 9223372036854775807) (hmost : most ≤ 1000) :
    Calls Tryz.prog 4 #[.slice A n c, .int .i64 most] w fun e w' => ∃ b c', e = .returned (.slice (some b) (min n most) c') ∧ OwnHd w' w.heap.size (some b) c' (fewHs lp (min n most)) ∧ Below w.heap.size w w' := by
  have HH := Lib.hid h
  have HO0 := Lib.hid (World.ownsRow_made (base := w.heap.size) (e := 41) (size := 2) w #[] 0 (Nat.le_refl _) (Nat.zero_le _) rfl)
  have HB0 := Lib.hid ((Below.refl w.heap.size w).alloc (Nat.le_refl _) (.cells #[] 41))
  clear h
  go_enter Tryz.func4, Tryz.ntmps4
  go_wp2
  go_loopw [5, 6] (fun x i wr => ∃ k : Nat, k ≤ n ∧ k ≤ most ∧ i = .int .i64 k ∧ Hid (x ≠ .slice none 0 0) ∧ Hid (wr.ownsRow w.heap.size 41 2 x k (prmL (fewHs lp k))) ∧ Hid (Below w.heap.size w wr)) (fun _ i _ => n - (intOf i).toNat)
  case atStart => exact ⟨0, by omega, by omega, rfl, Lib.hid (fun e => by cases e), HO0, HB0⟩
  case round =>
    obtain ⟨k, hkn, hkm, rfl, HNE, HO, HW⟩ := hrel
    have hwr := HW.out.size
    by_cases hlt : k < n ∧ k < most
    · obtain ⟨h1, h2⟩ := hlt
      obtain ⟨a, rfl, hal, e0, e1, q1, q2⟩ := (HH.out.below HW.out) k h1
      have HHB := Lib.hid (fun W (hW : Below w.heap.size w W) => ((HH.out.below hW) k h1))
      have HFP := Lib.hid (fewHs_prmL lp k)
      have HK := Lib.hid (fun W (hW : Below w.heap.size w W) => show W.cell? (a.add (k * 2)) = some (.string (lp k).n) ∧ W.cell? ⟨(a.add (k * 2)).block, (a.add (k * 2)).off + 1, none⟩ = some (.string (lp k).v) from by
        obtain ⟨a', e, _, d0, d1, _⟩ := HHB.out W hW
        cases e
        exact ⟨d0, d1⟩)
      have HC0 : Hid (∀ W, Calls Tryz.prog 12 #[.string (lp k).n, .int .i64 30] W fun e w' => e = .returned (.string (fewH (lp k)).n) ∧ W = w') := fun W => cut_any (lp k).n 30 W q1
      have HC1 : Hid (∀ W, Calls Tryz.prog 12 #[.string (lp k).v, .int .i64 100] W fun e w' => e = .returned (.string (fewH (lp k)).v) ∧ W = w') := fun W => cut_any (lp k).v 100 W q2
      have d1 : decide (k < n) = true := by simpa using h1
      have d2 : decide ((k : Int) < (most : Int)) = true := by simpa using h2
      generalize hq : fewH (lp k) = q at *
      generalize lp k = lk at *
      clear hq q1 q2 HHB
      obtain ⟨ln, lv⟩ := lk
      obtain ⟨qn, qv⟩ := q
      simp only at e0 e1 HC0 HC1 HFP HK
      have HBX := Lib.hid (HW.out.trans ((drewAlloc wr (.cells #[.string qn, .string qv] 41)).mono hwr))
      go_wp2_with fail
      go_region_held3 (fun w' => w'.cell? (a.add (k * 2)) = some (.string ln) ∧ w'.cell? ⟨(a.add (k * 2)).block, (a.add (k * 2)).off + 1, none⟩ = some (.string lv))
        (first | go_keep | exact HK.out _ HB2.out | exact HK.out _ HBX.out)
        (first
          | (go_at_call 12; (with_reducible refine (HC0.out _).mono ?_); rintro e w1 ⟨rfl, rfl⟩)
          | (go_at_call 12; (with_reducible refine (HC1.out _).mono ?_); rintro e w1 ⟨rfl, rfl⟩)
          | (refine stepH_append rfl _ _ rfl w.heap.size u5 _ _ rfl (own_mv HO.out (Mv.of_below (drewAlloc wr _) []) (by simp)) ⟨wr.heap.size, 0, none⟩ 1 1 [.string qn, .string qv] rfl rfl (two_new wr qn qv) two_one22 (by omega) (by simp; omega) ?_
             intro v' w2 hown hgrow
             have HB2 := Lib.hid (show Below w.heap.size w w2 from HBX.out.grown hgrow (by simp; omega) (fun g hg => (HO.out.lt g hg).1))
             have HN2 := Lib.hid (show v' ≠ .slice none 0 0 from fun e => by subst e; have := hown.2; simp at this)
             have HO2 := Lib.hid hown
             clear hown hgrow))
      all_goals
        go_wp2_with fail
        go_roundw
        case rel => exact ⟨k + 1, by omega, by omega, by go_num, HN2, by rw [HFP.out]; exact HO2, HB2⟩
        case measure => simp [intOf]; omega
    · have hmin : min n most = k := by omega
      obtain ⟨b', c', rfl⟩ : ∃ b' c', u5 = .slice (some b') k c' := by
        rcases HO.out.2 with ⟨h1, _⟩ | ⟨g, cap, _, h1, _⟩
        · exact absurd h1 HNE.out
        · exact ⟨_, cap, h1⟩
      have hlt2 : ¬ (k < n) ∨ k < n ∧ ¬ (k < most) := by omega
      have HOk := Lib.hid (show OwnHd wr w.heap.size (some b') c' (fewHs lp k) from by unfold OwnHd; rw [fewHs_len]; exact HO.out)
      rcases hlt2 with h3 | ⟨h3, h4⟩
      · go_wp2
        go_ret
        exact ⟨b', c', by rw [hmin]; rfl, by rw [hmin]; exact HOk.out, HW.out⟩
      · go_wp2
        go_ret
        exact ⟨b', c', by rw [hmin]; rfl, by rw [hmin]; exact HOk.out, HW.out⟩

end Go.Proofs.YtighgoefmccagaaGreat
namespace Go.Proofs.YtighgoefmccagaaGreat
open Go.RowKit

theorem came_of_hd {w : World} {A : Option Addr} {l : List Prm} (h : HdIn w A l) (hall : ∀ p ∈ l, p.n.size ≤ 30 ∧ p.v.size ≤ 100) (d : Prm) : Came w A l.length (fun i => l.getD i d) := fun i hi => by
  obtain ⟨a, e, hl, h0, h1⟩ := h i hi
  have hp := hall l[i] (List.getElem_mem hi)
  have e2 : l.getD i d = l[i] := by rw [List.getD_eq_getElem?_getD, List.getElem?_eq_getElem hi]; rfl
  refine ⟨a, e, hl, ?_, ?_, ?_⟩
  · show w.cell? (a.add (i * 2)) = some (.string (l.getD i d).n)
    rw [e2]; exact h0
  · show w.cell? _ = some (.string (l.getD i d).v)
    rw [e2]; exact h1
  · show (l.getD i d).n.size ≤ _ ∧ (l.getD i d).v.size ≤ _
    rw [e2]; omega
/-- Few of headers that are cut already. -/
theorem few22_own (A : Option Addr) (c most : Nat) (L : List Prm) (w : World) (h : HdIn w A L) (hall : ∀ p ∈ L, p.n.size ≤ 30 ∧ p.v.size ≤ 100) (hl : L.length ≤ most) (hmost : most ≤ 1000) :
    Calls Tryz.prog 4 #[.slice A L.length c, .int .i64 most] w fun e w' => ∃ b c', e = .returned (.slice (some b) L.length c') ∧ OwnHd w' w.heap.size (some b) c' L ∧ Below w.heap.size w w' := by
  have := few22_any A L.length c most (fun i => L.getD i ⟨⟨#[]⟩, ⟨#[]⟩⟩) w (came_of_hd h hall _) (by omega) hmost
  rw [Nat.min_eq_left hl, fewHs_id hall] at this
  exact this
theorem small_all {L : List Prm} (h : ∀ p ∈ L, p.n.size ≤ 30 ∧ p.v.size ≤ 100) {m : Nat} (hm : 100 ≤ m) : AllIn m L := fun p hp => ⟨by have := (h p hp).1; omega, by have := (h p hp).2; omega⟩

theorem getN_any (x : ByteArray) (L : List Prm) : decide (0 < (getN x L).length) = L.any (hasN x) := by
  cases h : L.any (hasN x)
  · have := getN_none.2 h
    simp [this]
  · have : (getN x L).length ≠ 0 := fun e => by rw [getN_none.1 e] at h; cases h
    exact decide_eq_true (by omega)

end Go.Proofs.YtighgoefmccagaaGreat
namespace Go.Proofs.YtighgoefmccagaaGreat
open Go.RowKit

abbrev livH : List Prm := [⟨xctS, ⟨#[78, 111, 83, 110, 105, 102, 102, 44, 32, 120]⟩⟩]
theorem liv_yes : nosB livH = true := by kernel_rfl
theorem liv_no : nosB [] = false := by kernel_rfl
theorem hd_nil (w : World) (A : Option Addr) : HdIn w A [] := fun i h => absurd h (by simp)
theorem hd_one (w : World) (n v : ByteArray) : HdIn (w.alloc (.cells #[.string n, .string v] 41)) (some ⟨w.heap.size, 0, none⟩) [⟨n, v⟩] := fun i h => by
  obtain rfl : i = 0 := by simp at h; exact h
  exact ⟨_, rfl, by simp, (Blk.new w 41 #[.string n, .string v]).cell 0, (Blk.new w 41 #[.string n, .string v]).cell 1⟩

set_option maxHeartbeats 2000000 in
theorem lives23_any (w : World) : Calls Tryz.prog 11 #[] w fun e w' => e = .returned (.bool true) ∧ Below w.heap.size w w' := by
  obtain ⟨w0, hw0⟩ : ∃ w0, w0 = w.alloc (.cells #[.string xctS, .string ⟨#[78, 111, 83, 110, 105, 102, 102, 44, 32, 120]⟩] 41) := ⟨_, rfl⟩
  have HB0 := Lib.hid (show Below w.heap.size w w0 from by rw [hw0]; exact (Below.refl _ _).alloc (Nat.le_refl _) _)
  have HY := Lib.hid (nis_any (some ⟨w.heap.size, 0, none⟩) 1 livH w0 (by rw [hw0]; exact hd_one _ _ _) (fun p hp => by simp at hp; subst hp; decide) (by decide))
  rw [liv_yes] at HY
  have HN := Lib.hid (fun W => nis_any none 0 [] W (hd_nil _ _) (fun p hp => by simp at hp) (by decide))
  rw [liv_no] at HN
  unfold xctS at hw0
  go_enter Tryz.func11, Tryz.ntmps11
  go_wp2_with fail
  rw [← hw0]
  clear hw0
  refine HY.out.mono ?_
  rintro e w1 ⟨rfl, b1⟩
  have HB1 := Lib.hid (below_on HB0.out b1)
  clear b1
  go_wp2_with fail
  refine (HN.out _).mono ?_
  rintro e w2 ⟨rfl, b2⟩
  have HB2 := Lib.hid (below_on HB1.out b2)
  clear b2
  go_wp2
  go_ret
  exact ⟨rfl, HB2.out⟩

theorem vals_in {V : List ByteArray} {W : World} {e : Ending} {w' : World} (h : NewStrs V W e w') : ∃ A' c', e = .returned (.slice A' V.length c') ∧ TxIn w' A' V ∧ Below W.heap.size W w' := by
  obtain ⟨v, he, ho, hb⟩ := h
  obtain ⟨A', c', rfl, ht, _⟩ := TxIn.of_own ho
  exact ⟨A', c', he, ht, hb⟩

end Go.Proofs.YtighgoefmccagaaGreat
