/-
  What the law's Few of headers leaves, and that package header is read (lives). No condition.
  The law HeaderGets. No condition.
  That package nosniff is read (lives); the law NosniffTells. No condition.
-/
import Derived.Test.YtighgoefmccagaaZ24
import Derived.Test.YtighgoefmccagaaZ14
import Derived.Test.YtighgoefmccagaaZ13
import Derived.Test.YtighgoefmccagaaZ23
import Derived.Test.YtighgoefmccagaaZ17
import Derived.Test.YtighgoefmccagaaZ18
import Derived.Test.YtighgoefmccagaaZ22
namespace Go.Proofs.Ytighgoefmccagaa
open Go.RowKit

theorem fewHs_prmL (lp : Nat → Prm) (k : Nat) : prmL (fewHs lp (k + 1)) = prmL (fewHs lp k) ++ [.string (fewH (lp k)).n, .string (fewH (lp k)).v] := by
  rw [fewHs_succ, prmL_app]; rfl

set_option maxHeartbeats 4000000 in
set_option maxRecDepth 100000 in
theorem few22_any (A : Option Addr) (n c most : Nat) (lp : Nat → Prm) (w : World) (h : Came w A n lp) (hn : n ≤ 9223372036854775807) (hmost : most ≤ 1000) :
    Calls Try.prog 5 #[.slice A n c, .int .i64 most] w fun e w' => ∃ b c', e = .returned (.slice (some b) (min n most) c') ∧ OwnHd w' w.heap.size (some b) c' (fewHs lp (min n most)) ∧ Below w.heap.size w w' := by
  have HH := Lib.hid h
  have HO0 := Lib.hid (World.ownsRow_made (base := w.heap.size) (e := 33) (size := 2) w #[] 0 (Nat.le_refl _) (Nat.zero_le _) rfl)
  have HB0 := Lib.hid ((Below.refl w.heap.size w).alloc (Nat.le_refl _) (.cells #[] 33))
  clear h
  go_enter Try.func5, Try.ntmps5
  go_wp2
  go_loopw [5, 6] (fun x i wr => ∃ k : Nat, k ≤ n ∧ k ≤ most ∧ i = .int .i64 k ∧ Hid (x ≠ .slice none 0 0) ∧ Hid (wr.ownsRow w.heap.size 33 2 x k (prmL (fewHs lp k))) ∧ Hid (Below w.heap.size w wr)) (fun _ i _ => n - (intOf i).toNat)
  case atStart => exact ⟨0, by omega, by omega, rfl, Lib.hid (fun e => by cases e), HO0, HB0⟩
  case round =>
    obtain ⟨k, hkn, hkm, rfl, HNE, HO, HW⟩ := hrel
    have hwr := HW.out.size
    by_cases hlt : k < n ∧ k < most
    · obtain ⟨h1, h2⟩ := hlt
      obtain ⟨a, rfl, hal, e0, e1, q1, q2⟩ := (HH.out.below HW.out) k h1
      have HHB := Lib.hid (fun W (hW : Below w.heap.size w W) => ((HH.out.below hW) k h1))
      have HFP := Lib.hid (fewHs_prmL lp k)
      have HK := Lib.hid (fun W (hW : Below w.heap.size w W) => show W.cell? (a.add (k * 2)) = some (.string (lp k).n) ∧ W.cell? ⟨(a.add (k * 2)).block, (a.add (k * 2)).off + 1, none⟩ = some (.string (lp k).v) from by
        obtain ⟨a', e, _, d0, d1, _⟩ := HHB.out W hW
        cases e
        exact ⟨d0, d1⟩)
      have HC0 : Hid (∀ W, Calls Try.prog 16 #[.string (lp k).n, .int .i64 30] W fun e w' => e = .returned (.string (fewH (lp k)).n) ∧ W = w') := fun W => cut_any (lp k).n 30 W q1
      have HC1 : Hid (∀ W, Calls Try.prog 16 #[.string (lp k).v, .int .i64 100] W fun e w' => e = .returned (.string (fewH (lp k)).v) ∧ W = w') := fun W => cut_any (lp k).v 100 W q2
      have d1 : decide (k < n) = true := by simpa using h1
      have d2 : decide ((k : Int) < (most : Int)) = true := by simpa using h2
      generalize hq : fewH (lp k) = q at *
      generalize lp k = lk at *
      clear hq q1 q2 HHB
      obtain ⟨ln, lv⟩ := lk
      obtain ⟨qn, qv⟩ := q
      simp only at e0 e1 HC0 HC1 HFP HK
      have HBX := Lib.hid (HW.out.trans ((drewAlloc wr (.cells #[.string qn, .string qv] 33)).mono hwr))
      go_wp2_with fail
      go_region_held3 (fun w' => w'.cell? (a.add (k * 2)) = some (.string ln) ∧ w'.cell? ⟨(a.add (k * 2)).block, (a.add (k * 2)).off + 1, none⟩ = some (.string lv))
        (first | go_keep | exact HK.out _ HB2.out | exact HK.out _ HBX.out)
        (first
          | (go_at_call 16; (with_reducible refine (HC0.out _).mono ?_); rintro e w1 ⟨rfl, rfl⟩)
          | (go_at_call 16; (with_reducible refine (HC1.out _).mono ?_); rintro e w1 ⟨rfl, rfl⟩)
          | (refine stepH_append rfl _ _ rfl w.heap.size u5 _ _ rfl (own_mv HO.out (Mv.of_below (drewAlloc wr _) []) (by simp)) ⟨wr.heap.size, 0, none⟩ 1 1 [.string qn, .string qv] rfl rfl (two_new wr qn qv) two_one22 (by omega) (by simp; omega) ?_
             intro v' w2 hown hgrow
             have HB2 := Lib.hid (show Below w.heap.size w w2 from HBX.out.grown hgrow (by simp; omega) (fun g hg => (HO.out.lt g hg).1))
             have HN2 := Lib.hid (show v' ≠ .slice none 0 0 from fun e => by subst e; have := hown.2; simp at this)
             have HO2 := Lib.hid hown
             clear hown hgrow))
      all_goals
        go_wp2_with fail
        go_roundw
        case rel => exact ⟨k + 1, by omega, by omega, by go_num, HN2, by rw [HFP.out]; exact HO2, HB2⟩
        case measure => simp [intOf]; omega
    · have hmin : min n most = k := by omega
      obtain ⟨b', c', rfl⟩ : ∃ b' c', u5 = .slice (some b') k c' := by
        rcases HO.out.2 with ⟨h1, _⟩ | ⟨g, cap, _, h1, _⟩
        · exact absurd h1 HNE.out
        · exact ⟨_, cap, h1⟩
      have hlt2 : ¬ (k < n) ∨ k < n ∧ ¬ (k < most) := by omega
      have HOk := Lib.hid (show OwnHd wr w.heap.size (some b') c' (fewHs lp k) from by unfold OwnHd; rw [fewHs_len]; exact HO.out)
      rcases hlt2 with h3 | ⟨h3, h4⟩
      · go_wp2
        go_ret
        exact ⟨b', c', by rw [hmin]; rfl, by rw [hmin]; exact HOk.out, HW.out⟩
      · go_wp2
        go_ret
        exact ⟨b', c', by rw [hmin]; rfl, by rw [hmin]; exact HOk.out, HW.out⟩

end Go.Proofs.Ytighgoefmccagaa
namespace Go.Proofs.Ytighgoefmccagaa
open Go.RowKit

theorem came_of_hd {w : World} {A : Option Addr} {l : List Prm} (h : HdIn w A l) (hall : ∀ p ∈ l, p.n.size ≤ 30 ∧ p.v.size ≤ 100) (d : Prm) : Came w A l.length (fun i => l.getD i d) := fun i hi => by
  obtain ⟨a, e, hl, h0, h1⟩ := h i hi
  have hp := hall l[i] (List.getElem_mem hi)
  have e2 : l.getD i d = l[i] := by rw [List.getD_eq_getElem?_getD, List.getElem?_eq_getElem hi]; rfl
  refine ⟨a, e, hl, ?_, ?_, ?_⟩
  · show w.cell? (a.add (i * 2)) = some (.string (l.getD i d).n)
    rw [e2]; exact h0
  · show w.cell? _ = some (.string (l.getD i d).v)
    rw [e2]; exact h1
  · show (l.getD i d).n.size ≤ _ ∧ (l.getD i d).v.size ≤ _
    rw [e2]; omega
/-- Few of headers that are cut already. -/
theorem few22_own (A : Option Addr) (c most : Nat) (L : List Prm) (w : World) (h : HdIn w A L) (hall : ∀ p ∈ L, p.n.size ≤ 30 ∧ p.v.size ≤ 100) (hl : L.length ≤ most) (hmost : most ≤ 1000) :
    Calls Try.prog 5 #[.slice A L.length c, .int .i64 most] w fun e w' => ∃ b c', e = .returned (.slice (some b) L.length c') ∧ OwnHd w' w.heap.size (some b) c' L ∧ Below w.heap.size w w' := by
  have := few22_any A L.length c most (fun i => L.getD i ⟨⟨#[]⟩, ⟨#[]⟩⟩) w (came_of_hd h hall _) (by omega) hmost
  rw [Nat.min_eq_left hl, fewHs_id hall] at this
  exact this
theorem small_all {L : List Prm} (h : ∀ p ∈ L, p.n.size ≤ 30 ∧ p.v.size ≤ 100) {m : Nat} (hm : 100 ≤ m) : AllIn m L := fun p hp => ⟨by have := (h p hp).1; omega, by have := (h p hp).2; omega⟩

theorem getN_any (x : ByteArray) (L : List Prm) : decide (0 < (getN x L).length) = L.any (hasN x) := by
  cases h : L.any (hasN x)
  · have := getN_none.2 h
    simp [this]
  · have : (getN x L).length ≠ 0 := fun e => by rw [getN_none.1 e] at h; cases h
    exact decide_eq_true (by omega)

end Go.Proofs.Ytighgoefmccagaa
namespace Go.Proofs.Ytighgoefmccagaa
open Go.RowKit

abbrev livH : List Prm := [⟨xctS, ⟨#[78, 111, 83, 110, 105, 102, 102, 44, 32, 120]⟩⟩]
theorem liv_yes : nosB livH = true := by kernel_rfl
theorem liv_no : nosB [] = false := by kernel_rfl
theorem hd_nil (w : World) (A : Option Addr) : HdIn w A [] := fun i h => absurd h (by simp)
theorem hd_one (w : World) (n v : ByteArray) : HdIn (w.alloc (.cells #[.string n, .string v] 33)) (some ⟨w.heap.size, 0, none⟩) [⟨n, v⟩] := fun i h => by
  obtain rfl : i = 0 := by simp at h; exact h
  exact ⟨_, rfl, by simp, (Blk.new w 33 #[.string n, .string v]).cell 0, (Blk.new w 33 #[.string n, .string v]).cell 1⟩

set_option maxHeartbeats 2000000 in
theorem lives23_any (w : World) : Calls Try.prog 11 #[] w fun e w' => e = .returned (.bool true) ∧ Below w.heap.size w w' := by
  obtain ⟨w0, hw0⟩ : ∃ w0, w0 = w.alloc (.cells #[.string xctS, .string ⟨#[78, 111, 83, 110, 105, 102, 102, 44, 32, 120]⟩] 33) := ⟨_, rfl⟩
  have HB0 := Lib.hid (show Below w.heap.size w w0 from by rw [hw0]; exact (Below.refl _ _).alloc (Nat.le_refl _) _)
  have HY := Lib.hid (nis_any (some ⟨w.heap.size, 0, none⟩) 1 livH w0 (by rw [hw0]; exact hd_one _ _ _) (fun p hp => by simp at hp; subst hp; decide) (by decide))
  rw [liv_yes] at HY
  have HN := Lib.hid (fun W => nis_any none 0 [] W (hd_nil _ _) (fun p hp => by simp at hp) (by decide))
  rw [liv_no] at HN
  unfold xctS at hw0
  go_enter Try.func11, Try.ntmps11
  go_wp2_with fail
  rw [← hw0]
  clear hw0
  refine HY.out.mono ?_
  rintro e w1 ⟨rfl, b1⟩
  have HB1 := Lib.hid (below_on HB0.out b1)
  clear b1
  go_wp2_with fail
  refine (HN.out _).mono ?_
  rintro e w2 ⟨rfl, b2⟩
  have HB2 := Lib.hid (below_on HB1.out b2)
  clear b2
  go_wp2
  go_ret
  exact ⟨rfl, HB2.out⟩

set_option maxHeartbeats 2000000 in
theorem tells_walk (z : Bool) (A : Option Addr) (n c : Nat) (L : List Prm) (V : List ByteArray) (w : World) (HLV : Hid (∀ W, Calls Try.prog 11 #[] W fun e w' => e = .returned (.bool true) ∧ Below W.heap.size W w'))
    (HF1 : Hid (∀ W, Below w.heap.size w W → Calls Try.prog 5 #[.slice A n c, .int .i64 10] W fun e w' => ∃ b c', e = .returned (.slice (some b) L.length c') ∧ OwnHd w' W.heap.size (some b) c' L ∧ Below W.heap.size W w'))
    (HF2 : Hid (∀ A c W, HdIn W A L → Calls Try.prog 5 #[.slice A L.length c, .int .i64 10] W fun e w' => ∃ b c', e = .returned (.slice (some b) L.length c') ∧ OwnHd w' W.heap.size (some b) c' L ∧ Below W.heap.size W w'))
    (HNV : Hid (∀ A c W, HdIn W A L → Calls Try.prog 7 #[.slice A L.length c] W fun e w' => ∃ A' c', e = .returned (.slice A' V.length c') ∧ TxIn w' A' V ∧ Below W.heap.size W w'))
    (HRV : Hid (∀ A c W, HdIn W A L → Calls Try.prog 8 #[.slice A L.length c] W fun e w' => ∃ A' c', e = .returned (.slice A' V.length c') ∧ TxIn w' A' V ∧ Below W.heap.size W w'))
    (HS4 : Hid (∀ A B c d W, TxIn W A V → TxIn W B V → Calls Try.prog 6 #[.slice A V.length c, .slice B V.length d] W fun e w' => e = .returned (.bool true) ∧ Below W.heap.size W w'))
    (HNI : Hid (∀ A c W, HdIn W A L → Calls Try.prog 9 #[.slice A L.length c] W fun e w' => e = .returned (.bool z) ∧ Below W.heap.size W w'))
    (HRI : Hid (∀ A c W, HdIn W A L → Calls Try.prog 10 #[.slice A L.length c] W fun e w' => e = .returned (.bool z) ∧ Below W.heap.size W w')) :
    Calls Try.prog 3 #[.slice A n c] w fun e w' => e = .returned (.bool true) ∧ Below w.heap.size w w' := by
  have HB := Lib.hid (Below.refl w.heap.size w)
  go_enter Try.func3, Try.ntmps3
  go_wp2_with (first
    | (go_at_call 5; (with_reducible refine (HF1.out _ HB.out).mono ?_); rintro e w1 ⟨b, d, rfl, o1, b1⟩; have HL := Lib.hid o1.hd; replace HB := Lib.hid (HB.out.trans (b1.mono HB.out.size)); clear o1 b1 HF1)
    | (go_at_call 5; (with_reducible refine (HF2.out _ _ _ HL.out).mono ?_); rintro e w1 ⟨b', d', rfl, o1, b1⟩; have HF := Lib.hid o1.hd; replace HL := Lib.hid (HL.out.below b1); replace HB := Lib.hid (HB.out.trans (b1.mono HB.out.size)); clear o1 b1)
    | (go_at_call 7; (with_reducible refine (HNV.out _ _ _ HF.out).mono ?_); rintro e w1 ⟨A', c', rfl, hg, b1⟩; have HG := Lib.hid hg; replace HL := Lib.hid (HL.out.below b1); replace HB := Lib.hid (HB.out.trans (b1.mono HB.out.size)); clear hg b1)
    | (go_at_call 8; (with_reducible refine (HRV.out _ _ _ HL.out).mono ?_); rintro e w1 ⟨Av, cv, rfl, hv, b1⟩; have HV := Lib.hid hv; replace HG := Lib.hid (HG.out.below b1); replace HL := Lib.hid (HL.out.below b1); replace HB := Lib.hid (HB.out.trans (b1.mono HB.out.size)); clear hv b1)
    | (go_at_call 6; (with_reducible refine (HS4.out _ _ _ _ _ HG.out HV.out).mono ?_); rintro e w1 ⟨rfl, b1⟩; replace HL := Lib.hid (HL.out.below b1); replace HB := Lib.hid (HB.out.trans (b1.mono HB.out.size)); clear b1)
    | (go_at_call 9; (with_reducible refine (HNI.out _ _ _ HF.out).mono ?_); rintro e w1 ⟨rfl, b1⟩; replace HL := Lib.hid (HL.out.below b1); replace HB := Lib.hid (HB.out.trans (b1.mono HB.out.size)); clear b1)
    | (go_at_call 10; (with_reducible refine (HRI.out _ _ _ HL.out).mono ?_); rintro e w1 ⟨rfl, b1⟩; replace HL := Lib.hid (HL.out.below b1); replace HB := Lib.hid (HB.out.trans (b1.mono HB.out.size)); clear b1)
    | (go_at_call 11; (with_reducible refine (HLV.out _).mono ?_); rintro e w1 ⟨rfl, b1⟩; replace HB := Lib.hid (HB.out.trans (b1.mono HB.out.size)); clear b1))
  go_ret
  exact ⟨rfl, HB.out⟩

theorem vals_in {V : List ByteArray} {W : World} {e : Ending} {w' : World} (h : NewStrs V W e w') : ∃ A' c', e = .returned (.slice A' V.length c') ∧ TxIn w' A' V ∧ Below W.heap.size W w' := by
  obtain ⟨v, he, ho, hb⟩ := h
  obtain ⟨A', c', rfl, ht, _⟩ := TxIn.of_own ho
  exact ⟨A', c', he, ht, hb⟩

set_option maxHeartbeats 2000000 in
theorem tells_any (A : Option Addr) (n c : Nat) (lp : Nat → Prm) (w : World) (h : Came w A n lp) (hn : n ≤ 9223372036854775807) :
    Calls Try.prog 3 #[.slice A n c] w fun e w' => e = .returned (.bool true) ∧ Below w.heap.size w w' := by
  have HF1 := Lib.hid (fun W (hW : Below w.heap.size w W) => few22_any A n c 10 lp W (h.below hW) hn (by omega))
  have hll := fewHs_len lp (min n 10)
  have hall := fewHs_all lp (min n 10)
  have hmin : min n 10 ≤ 10 := Nat.min_le_right _ _
  rw [← hll] at hmin
  generalize fewHs lp (min n 10) = L at *
  rw [← hll] at HF1
  clear hll h
  have h2 := small_all hall (m := 1000) (by omega)
  have hsz := nosV_sizes h2 (by omega)
  refine tells_walk (nosB L) A n c L (nosV L) w (Lib.hid lives23_any) HF1 ?_ ?_ ?_ ?_ ?_ ?_
  · exact fun A c W h => few22_own A c 10 L W h hall hmin (by omega)
  · exact fun A c W h => (nvalues_any A c L W h h2 (by omega)).mono fun e w' h => vals_in h
  · exact fun A c W h => (rvalues23_any A c L W h h2 (by omega)).mono fun e w' h => vals_in h
  · exact fun A B c d W h h' => rsame4_any A B c d _ W h h' (by omega)
  · exact fun A c W h => nis_any A c L W h h2 (by omega)
  · exact fun A c W h => ris23_any A c L W h h2 (by omega)

end Go.Proofs.Ytighgoefmccagaa
