/-
  What the document's Split and Same of layer 4 answer; the pieces of some values, the program's and the document's. Condition: a thousand values of a thousand bytes.
  The law HeaderGets. No condition.
  What the document's Set of headers answers. Condition: texts are shorter than a mebibyte, headers less than that.
-/
import Derived.Test.YtjikahflbhgniaaZ18
import Derived.Test.YtjikahflbhgniaaZ2
import Derived.Test.YtjikahflbhgniaaZ6
import Derived.Test.YtjikahflbhgniaaZ8
import Derived.Test.YtjikahflbhgniaaRows
import Derived.WalkKit
import Derived.WalkSpells
import Derived.WalkLawsBesides
import Derived.Laws.IdiomStrings
import Derived.LoopTactic
import Derived.Lib.Hide
import Derived.Outline
import Derived.Test.YtjikahflbhgniaaZ17
namespace Go.Proofs.Ytjikahflbhgniaa
open Go.RowKit

set_option maxHeartbeats 2000000 in
theorem rsame4_any (A B : Option Addr) (c d : Nat) (xs : List ByteArray) (w : World) (h : TxIn w A xs) (h' : TxIn w B xs) (hn : xs.length ≤ 1048576) :
    Calls Try.prog 14 #[.slice A xs.length c, .slice B xs.length d] w fun e w' => e = .returned (.bool true) ∧ Below w.heap.size w w' := by
  have HA := Lib.hid h
  have HB := Lib.hid h'
  clear h h'
  go_enter Try.func14, Try.ntmps14
  go_wp2
  go_loopw [5] (fun i wr => ∃ k : Nat, k ≤ xs.length ∧ i = .int .i64 k ∧ Below w.heap.size w wr) (fun i _ => xs.length - (intOf i).toNat)
  case atStart => exact ⟨0, Nat.zero_le _, rfl, Below.refl _ _⟩
  case round =>
    obtain ⟨k, hk, rfl, hw⟩ := hrel
    have HW := Lib.hid hw
    clear hw
    by_cases hlt : k < xs.length
    · obtain ⟨g, rfl, hg, hc⟩ := HA.out k hlt
      obtain ⟨g', rfl, hg', hc'⟩ := HB.out k hlt
      have c0 := (HW.out.cell (p := ⟨g, k, none⟩) hg).trans hc
      have c1 := (HW.out.cell (p := ⟨g', k, none⟩) hg').trans hc'
      clear hc hc'
      generalize xs[k] = y at *
      go_wp2_with fail
      go_quiet (fail)
      go_wp2
      go_roundw
      case rel => exact ⟨k + 1, by omega, by go_num, Below.drewN' HW.out _⟩
      case measure => simp [intOf]; omega
    · obtain rfl : k = xs.length := by omega
      go_wp2
      go_ret
      exact ⟨rfl, HW.out⟩

end Go.Proofs.Ytjikahflbhgniaa
namespace Go.Proofs.Ytjikahflbhgniaa
open Go.RowKit

theorem came_of_hd {w : World} {A : Option Addr} {l : List Prm} (h : HdIn w A l) (hall : ∀ p ∈ l, p.n.size ≤ 30 ∧ p.v.size ≤ 100) (d : Prm) : Came w A l.length (fun i => l.getD i d) := fun i hi => by
  obtain ⟨a, e, hl, h0, h1⟩ := h i hi
  have hp := hall l[i] (List.getElem_mem hi)
  have e2 : l.getD i d = l[i] := by rw [List.getD_eq_getElem?_getD, List.getElem?_eq_getElem hi]; rfl
  refine ⟨a, e, hl, ?_, ?_, ?_⟩
  · show w.cell? (a.add (i * 2)) = some (.string (l.getD i d).n)
    rw [e2]; exact h0
  · show w.cell? _ = some (.string (l.getD i d).v)
    rw [e2]; exact h1
  · show (l.getD i d).n.size ≤ _ ∧ (l.getD i d).v.size ≤ _
    rw [e2]; omega
/-- Few of headers that are cut already. -/
theorem few22_own (A : Option Addr) (c most : Nat) (L : List Prm) (w : World) (h : HdIn w A L) (hall : ∀ p ∈ L, p.n.size ≤ 30 ∧ p.v.size ≤ 100) (hl : L.length ≤ most) (hmost : most ≤ 1000) :
    Calls Try.prog 7 #[.slice A L.length c, .int .i64 most] w fun e w' => ∃ b c', e = .returned (.slice (some b) L.length c') ∧ OwnHd w' w.heap.size (some b) c' L ∧ Below w.heap.size w w' := by
  have := few22_any A L.length c most (fun i => L.getD i ⟨⟨#[]⟩, ⟨#[]⟩⟩) w (came_of_hd h hall _) (by omega) hmost
  rw [Nat.min_eq_left hl, fewHs_id hall] at this
  exact this
theorem small_all {L : List Prm} (h : ∀ p ∈ L, p.n.size ≤ 30 ∧ p.v.size ≤ 100) {m : Nat} (hm : 100 ≤ m) : AllIn m L := fun p hp => ⟨by have := (h p hp).1; omega, by have := (h p hp).2; omega⟩

set_option maxHeartbeats 4000000 in
set_option maxRecDepth 100000 in
theorem gets_walk (s x j tr : ByteArray) (g z : Bool) (A : Option Addr) (n c : Nat) (L K : List Prm) (V : List ByteArray) (w : World) (_hL : L.length ≤ 12)
    (HC : Hid (∀ W, Calls Try.prog 6 #[.string s, .int .i64 30] W fun e w' => e = .returned (.string x) ∧ W = w'))
    (HF1 : Hid (∀ W, Below w.heap.size w W → Calls Try.prog 7 #[.slice A n c, .int .i64 12] W fun e w' => ∃ b c', e = .returned (.slice (some b) L.length c') ∧ OwnHd w' W.heap.size (some b) c' L ∧ Below W.heap.size W w'))
    (HF2 : Hid (∀ A c W, HdIn W A L → Calls Try.prog 7 #[.slice A L.length c, .int .i64 12] W fun e w' => ∃ b c', e = .returned (.slice (some b) L.length c') ∧ OwnHd w' W.heap.size (some b) c' L ∧ Below W.heap.size W w'))
    (HRG : Hid (∀ A c W, HdIn W A L → Calls Try.prog 8 #[.string x, .slice A L.length c] W fun e w' => ∃ A' c', e = .returned (.slice A' V.length c') ∧ TxIn w' A' V ∧ Below W.heap.size W w'))
    (HCO : Hid (∀ A c W, HdIn W A L → Calls Try.prog 9 #[.string x, .slice A L.length c] W fun e w' => e = .returned (.tuple #[.string j, .bool z]) ∧ Below W.heap.size W w'))
    (HJ : Hid (∀ A c W, TxIn W A V → Calls Try.prog 10 #[.slice A V.length c] W fun e w' => e = .returned (.string j) ∧ W = w'))
    (HHS : Hid (∀ A c W, HdIn W A L → Calls Try.prog 11 #[.string x, .slice A L.length c] W fun e w' => e = .returned (.bool z) ∧ Below W.heap.size W w'))
    (HGD : Hid (∀ A c W, HdIn W A L → Calls Try.prog 12 #[.slice A L.length c] W fun e w' => e = .returned (.bool g) ∧ Below W.heap.size W w'))
    (HGR : Hid (∀ A c W, HdIn W A L → Calls Try.prog 13 #[.slice A L.length c] W fun e w' => e = .returned (.bool g) ∧ Below W.heap.size W w'))
    (HHG : Hid (∀ A c W, HdIn W A L → Calls Try.prog 15 #[.string x, .slice A L.length c] W fun e w' => ∃ A' c', e = .returned (.slice A' V.length c') ∧ TxIn w' A' V ∧ Below W.heap.size W w'))
    (HS4 : Hid (∀ A B c d W, TxIn W A V → TxIn W B V → Calls Try.prog 14 #[.slice A V.length c, .slice B V.length d] W fun e w' => e = .returned (.bool true) ∧ Below W.heap.size W w'))
    (HCT : Hid (∀ A c W, HdIn W A L → Calls Try.prog 17 #[.string x, .slice A L.length c] W fun e w' => ∃ A' c', e = .returned (.slice A' K.length c') ∧ HdIn w' A' K ∧ Below W.heap.size W w'))
    (HRC : Hid (∀ A c W, HdIn W A L → Calls Try.prog 18 #[.string x, .slice A L.length c] W fun e w' => ∃ A' c', e = .returned (.slice A' K.length c') ∧ HdIn w' A' K ∧ Below W.heap.size W w'))
    (HSM : Hid (∀ M A B c d W, HdIn W A M → HdIn W B M → M.length ≤ 12 → Calls Try.prog 16 #[.slice A M.length c, .slice B M.length d] W fun e w' => e = .returned (.bool true) ∧ Below W.heap.size W w'))
    (hK : K.length ≤ 12)
    (HST : Hid (∀ A c W, HdIn W A L → Calls Try.prog 19 #[.slice A L.length c] W fun e w' => ∃ A' c' D, e = .returned (.slice A' D.length c') ∧ Sorted L D ∧ HdIn w' A' D ∧ Below W.heap.size W w'))
    (HRS : Hid (∀ A c W, HdIn W A L → Calls Try.prog 20 #[.slice A L.length c] W fun e w' => ∃ A' c' D, e = .returned (.slice A' D.length c') ∧ D.length ≤ 12 ∧ Sorted L D ∧ HdIn w' A' D ∧ Below W.heap.size W w'))
    (HCN : Hid (∀ W, Calls Try.prog 21 #[.string x] W fun e w' => e = .returned (.string tr) ∧ W = w'))
    (HTR : Hid (∀ W, Calls Try.prog 22 #[.string x] W fun e w' => e = .returned (.string tr) ∧ W = w'))
    (hz : z = decide ((0 : Int) < (V.length : Int))) (hj : z = false → j = ⟨#[]⟩) :
    Calls Try.prog 3 #[.string s, .slice A n c] w fun e w' => e = .returned (.bool true) ∧ Below w.heap.size w w' := by
  have HLV := Lib.hid lives22_any
  cases z
  · obtain rfl := hj rfl
    have hvn : ¬ 0 < V.length := fun h => by have := of_decide_eq_false hz.symm; omega
    clear hz hj
    have HB := Lib.hid (Below.refl w.heap.size w)
    go_enter Try.func3, Try.ntmps3
    go_wp2_with (first
      | (go_at_call 6; (with_reducible refine (HC.out _).mono ?_); rintro e w1 ⟨rfl, rfl⟩)
      | (go_at_call 7; (with_reducible refine (HF1.out _ HB.out).mono ?_); rintro e w1 ⟨b, d, rfl, o1, b1⟩; have HL := Lib.hid o1.hd; replace HB := Lib.hid (HB.out.trans (b1.mono HB.out.size)); clear o1 b1 HF1)
      | (go_at_call 8; (with_reducible refine (HRG.out _ _ _ HL.out).mono ?_); rintro e w1 ⟨Av, cv, rfl, hv, b1⟩; have HV := Lib.hid hv; replace HL := Lib.hid (HL.out.below b1); replace HB := Lib.hid (HB.out.trans (b1.mono HB.out.size)); clear hv b1)
      | (go_at_call 7; (with_reducible refine (HF2.out _ _ _ HL.out).mono ?_); rintro e w1 ⟨b', d', rfl, o1, b1⟩; have HF := Lib.hid o1.hd; replace HL := Lib.hid (HL.out.below b1); replace HV := Lib.hid (HV.out.below b1); replace HB := Lib.hid (HB.out.trans (b1.mono HB.out.size)); clear o1 b1)
      | (go_at_call 9; (with_reducible refine (HCO.out _ _ _ HF.out).mono ?_); rintro e w1 ⟨rfl, b1⟩; replace HL := Lib.hid (HL.out.below b1); replace HV := Lib.hid (HV.out.below b1); replace HB := Lib.hid (HB.out.trans (b1.mono HB.out.size)); clear b1)
      | (go_at_call 10; (with_reducible refine (HJ.out _ _ _ HV.out).mono ?_); rintro e w1 ⟨rfl, rfl⟩)
      | (go_at_call 11; (with_reducible refine (HHS.out _ _ _ HF.out).mono ?_); rintro e w1 ⟨rfl, b1⟩; replace HL := Lib.hid (HL.out.below b1); replace HV := Lib.hid (HV.out.below b1); replace HB := Lib.hid (HB.out.trans (b1.mono HB.out.size)); clear b1)
      | (go_at_call 12; (with_reducible refine (HGD.out _ _ _ HF.out).mono ?_); rintro e w1 ⟨rfl, b1⟩; replace HL := Lib.hid (HL.out.below b1); replace HV := Lib.hid (HV.out.below b1); replace HB := Lib.hid (HB.out.trans (b1.mono HB.out.size)); clear b1)
      | (go_at_call 13; (with_reducible refine (HGR.out _ _ _ HL.out).mono ?_); rintro e w1 ⟨rfl, b1⟩; replace HL := Lib.hid (HL.out.below b1); replace HV := Lib.hid (HV.out.below b1); replace HB := Lib.hid (HB.out.trans (b1.mono HB.out.size)); clear b1)
      | (go_at_call 15; (with_reducible refine (HHG.out _ _ _ HF.out).mono ?_); rintro e w1 ⟨A', c', rfl, hg, b1⟩; have HG := Lib.hid hg; replace HL := Lib.hid (HL.out.below b1); replace HV := Lib.hid (HV.out.below b1); replace HB := Lib.hid (HB.out.trans (b1.mono HB.out.size)); clear hg b1)
      | (go_at_call 14; (with_reducible refine (HS4.out _ _ _ _ _ HG.out HV.out).mono ?_); rintro e w1 ⟨rfl, b1⟩; replace HL := Lib.hid (HL.out.below b1); replace HV := Lib.hid (HV.out.below b1); replace HB := Lib.hid (HB.out.trans (b1.mono HB.out.size)); clear b1)
      | (go_at_call 17; (with_reducible refine (HCT.out _ _ _ HF.out).mono ?_); rintro e w1 ⟨A', c', rfl, hx, b1⟩; have HX := Lib.hid hx; replace HL := Lib.hid (HL.out.below b1); replace HV := Lib.hid (HV.out.below b1); replace HB := Lib.hid (HB.out.trans (b1.mono HB.out.size)); clear hx b1)
      | (go_at_call 18; (with_reducible refine (HRC.out _ _ _ HL.out).mono ?_); rintro e w1 ⟨A', c', rfl, hy, b1⟩; have HY := Lib.hid hy; replace HX := Lib.hid (HX.out.below b1); replace HL := Lib.hid (HL.out.below b1); replace HV := Lib.hid (HV.out.below b1); replace HB := Lib.hid (HB.out.trans (b1.mono HB.out.size)); clear hy b1)
      | (go_at_call 19; (with_reducible refine (HST.out _ _ _ HF.out).mono ?_); rintro e w1 ⟨A', c', D, rfl, hd, hx, b1⟩; have HX := Lib.hid hx; have HD := Lib.hid hd; replace HL := Lib.hid (HL.out.below b1); replace HV := Lib.hid (HV.out.below b1); replace HB := Lib.hid (HB.out.trans (b1.mono HB.out.size)); clear hx hd b1)
      | (go_at_call 20; (with_reducible refine (HRS.out _ _ _ HL.out).mono ?_); rintro e w1 ⟨A', c', D', rfl, hl, hd, hy, b1⟩; obtain rfl := HD.out.only hd; have hDl := hl; have HY := Lib.hid hy; replace HX := Lib.hid (HX.out.below b1); replace HL := Lib.hid (HL.out.below b1); replace HV := Lib.hid (HV.out.below b1); replace HB := Lib.hid (HB.out.trans (b1.mono HB.out.size)); clear hl hd hy b1)
      | (go_at_call 16; (with_reducible refine (HSM.out _ _ _ _ _ _ HX.out HY.out (by assumption)).mono ?_); rintro e w1 ⟨rfl, b1⟩; replace HL := Lib.hid (HL.out.below b1); replace HV := Lib.hid (HV.out.below b1); replace HB := Lib.hid (HB.out.trans (b1.mono HB.out.size)); clear b1)
      | (go_at_call 21; (with_reducible refine (HCN.out _).mono ?_); rintro e w1 ⟨rfl, rfl⟩)
      | (go_at_call 22; (with_reducible refine (HTR.out _).mono ?_); rintro e w1 ⟨rfl, rfl⟩)
      | (go_at_call 23; (with_reducible refine (HLV.out _).mono ?_); rintro e w1 ⟨rfl, b1⟩; replace HB := Lib.hid (HB.out.trans (b1.mono HB.out.size)); clear b1))
    go_ret
    exact ⟨rfl, HB.out⟩
  · have hvp : 0 < V.length := by have := of_decide_eq_true hz.symm; omega
    clear hz hj
    have HB := Lib.hid (Below.refl w.heap.size w)
    go_enter Try.func3, Try.ntmps3
    go_wp2_with (first
      | (go_at_call 6; (with_reducible refine (HC.out _).mono ?_); rintro e w1 ⟨rfl, rfl⟩)
      | (go_at_call 7; (with_reducible refine (HF1.out _ HB.out).mono ?_); rintro e w1 ⟨b, d, rfl, o1, b1⟩; have HL := Lib.hid o1.hd; replace HB := Lib.hid (HB.out.trans (b1.mono HB.out.size)); clear o1 b1 HF1)
      | (go_at_call 8; (with_reducible refine (HRG.out _ _ _ HL.out).mono ?_); rintro e w1 ⟨Av, cv, rfl, hv, b1⟩; have HV := Lib.hid hv; replace HL := Lib.hid (HL.out.below b1); replace HB := Lib.hid (HB.out.trans (b1.mono HB.out.size)); clear hv b1)
      | (go_at_call 7; (with_reducible refine (HF2.out _ _ _ HL.out).mono ?_); rintro e w1 ⟨b', d', rfl, o1, b1⟩; have HF := Lib.hid o1.hd; replace HL := Lib.hid (HL.out.below b1); replace HV := Lib.hid (HV.out.below b1); replace HB := Lib.hid (HB.out.trans (b1.mono HB.out.size)); clear o1 b1)
      | (go_at_call 9; (with_reducible refine (HCO.out _ _ _ HF.out).mono ?_); rintro e w1 ⟨rfl, b1⟩; replace HL := Lib.hid (HL.out.below b1); replace HV := Lib.hid (HV.out.below b1); replace HB := Lib.hid (HB.out.trans (b1.mono HB.out.size)); clear b1)
      | (go_at_call 10; (with_reducible refine (HJ.out _ _ _ HV.out).mono ?_); rintro e w1 ⟨rfl, rfl⟩)
      | (go_at_call 11; (with_reducible refine (HHS.out _ _ _ HF.out).mono ?_); rintro e w1 ⟨rfl, b1⟩; replace HL := Lib.hid (HL.out.below b1); replace HV := Lib.hid (HV.out.below b1); replace HB := Lib.hid (HB.out.trans (b1.mono HB.out.size)); clear b1)
      | (go_at_call 12; (with_reducible refine (HGD.out _ _ _ HF.out).mono ?_); rintro e w1 ⟨rfl, b1⟩; replace HL := Lib.hid (HL.out.below b1); replace HV := Lib.hid (HV.out.below b1); replace HB := Lib.hid (HB.out.trans (b1.mono HB.out.size)); clear b1)
      | (go_at_call 13; (with_reducible refine (HGR.out _ _ _ HL.out).mono ?_); rintro e w1 ⟨rfl, b1⟩; replace HL := Lib.hid (HL.out.below b1); replace HV := Lib.hid (HV.out.below b1); replace HB := Lib.hid (HB.out.trans (b1.mono HB.out.size)); clear b1)
      | (go_at_call 15; (with_reducible refine (HHG.out _ _ _ HF.out).mono ?_); rintro e w1 ⟨A', c', rfl, hg, b1⟩; have HG := Lib.hid hg; replace HL := Lib.hid (HL.out.below b1); replace HV := Lib.hid (HV.out.below b1); replace HB := Lib.hid (HB.out.trans (b1.mono HB.out.size)); clear hg b1)
      | (go_at_call 14; (with_reducible refine (HS4.out _ _ _ _ _ HG.out HV.out).mono ?_); rintro e w1 ⟨rfl, b1⟩; replace HL := Lib.hid (HL.out.below b1); replace HV := Lib.hid (HV.out.below b1); replace HB := Lib.hid (HB.out.trans (b1.mono HB.out.size)); clear b1)
      | (go_at_call 17; (with_reducible refine (HCT.out _ _ _ HF.out).mono ?_); rintro e w1 ⟨A', c', rfl, hx, b1⟩; have HX := Lib.hid hx; replace HL := Lib.hid (HL.out.below b1); replace HV := Lib.hid (HV.out.below b1); replace HB := Lib.hid (HB.out.trans (b1.mono HB.out.size)); clear hx b1)
      | (go_at_call 18; (with_reducible refine (HRC.out _ _ _ HL.out).mono ?_); rintro e w1 ⟨A', c', rfl, hy, b1⟩; have HY := Lib.hid hy; replace HX := Lib.hid (HX.out.below b1); replace HL := Lib.hid (HL.out.below b1); replace HV := Lib.hid (HV.out.below b1); replace HB := Lib.hid (HB.out.trans (b1.mono HB.out.size)); clear hy b1)
      | (go_at_call 19; (with_reducible refine (HST.out _ _ _ HF.out).mono ?_); rintro e w1 ⟨A', c', D, rfl, hd, hx, b1⟩; have HX := Lib.hid hx; have HD := Lib.hid hd; replace HL := Lib.hid (HL.out.below b1); replace HV := Lib.hid (HV.out.below b1); replace HB := Lib.hid (HB.out.trans (b1.mono HB.out.size)); clear hx hd b1)
      | (go_at_call 20; (with_reducible refine (HRS.out _ _ _ HL.out).mono ?_); rintro e w1 ⟨A', c', D', rfl, hl, hd, hy, b1⟩; obtain rfl := HD.out.only hd; have hDl := hl; have HY := Lib.hid hy; replace HX := Lib.hid (HX.out.below b1); replace HL := Lib.hid (HL.out.below b1); replace HV := Lib.hid (HV.out.below b1); replace HB := Lib.hid (HB.out.trans (b1.mono HB.out.size)); clear hl hd hy b1)
      | (go_at_call 16; (with_reducible refine (HSM.out _ _ _ _ _ _ HX.out HY.out (by assumption)).mono ?_); rintro e w1 ⟨rfl, b1⟩; replace HL := Lib.hid (HL.out.below b1); replace HV := Lib.hid (HV.out.below b1); replace HB := Lib.hid (HB.out.trans (b1.mono HB.out.size)); clear b1)
      | (go_at_call 21; (with_reducible refine (HCN.out _).mono ?_); rintro e w1 ⟨rfl, rfl⟩)
      | (go_at_call 22; (with_reducible refine (HTR.out _).mono ?_); rintro e w1 ⟨rfl, rfl⟩)
      | (go_at_call 23; (with_reducible refine (HLV.out _).mono ?_); rintro e w1 ⟨rfl, b1⟩; replace HB := Lib.hid (HB.out.trans (b1.mono HB.out.size)); clear b1))
    go_ret
    exact ⟨rfl, HB.out⟩

theorem getN_any (x : ByteArray) (L : List Prm) : decide (0 < (getN x L).length) = L.any (hasN x) := by
  cases h : L.any (hasN x)
  · have := getN_none.2 h
    simp [this]
  · have : (getN x L).length ≠ 0 := fun e => by rw [getN_none.1 e] at h; cases h
    exact decide_eq_true (by omega)

set_option maxHeartbeats 2000000 in
theorem gets_any (s : ByteArray) (A : Option Addr) (n c : Nat) (lp : Nat → Prm) (w : World) (h : Came w A n lp) (hn : n ≤ 9223372036854775807) (hs : s.size ≤ 9223372036854775807) :
    Calls Try.prog 3 #[.string s, .slice A n c] w fun e w' => e = .returned (.bool true) ∧ Below w.heap.size w w' := by
  have hx : (cutB s 30).size ≤ 30 := cutB_size _ _
  have HC : Hid (∀ W, Calls Try.prog 6 #[.string s, .int .i64 30] W fun e w' => e = .returned (.string (cutB s 30)) ∧ W = w') := fun W => cut_any s 30 W hs
  generalize cutB s 30 = x at *
  have HF1 := Lib.hid (fun W (hW : Below w.heap.size w W) => few22_any A n c 12 lp W (h.below hW) hn (by omega))
  have hll := fewHs_len lp (min n 12)
  have hall := fewHs_all lp (min n 12)
  have hmin : min n 12 ≤ 12 := Nat.min_le_right _ _
  rw [← hll] at hmin
  generalize fewHs lp (min n 12) = L at *
  rw [← hll] at HF1
  clear hll h
  have h1 := small_all hall (m := 1048576) (by omega)
  have h2 := small_all hall (m := 1000) (by omega)
  have hvl := Nat.le_trans (getN_len x L) hmin
  have hvs := getN_le (name := x) (l := L) (m := 1000) fun p hp => (h2 p hp).2
  have hkl := Nat.le_trans (cutN_len x L) hmin
  have hz := getN_any x L
  have hzi : L.any (hasN x) = decide ((0 : Int) < ((getN x L).length : Int)) := by rw [← hz, decide_eq_decide]; omega
  refine gets_walk s x (joinS (getN x L)) (trimP whiB x) (hdrsB L) (L.any (hasN x)) A n c L (cutN x L) (getN x L) w hmin HC HF1 ?_ ?_ ?_ ?_ ?_ ?_ ?_ ?_ ?_ ?_ ?_ ?_ hkl ?_ ?_ ?_ ?_ hzi ?_
  · exact fun A c W h => few22_own A c 12 L W h hall hmin (by omega)
  · exact fun A c W h => (rget_any x A c L W h h1 (by omega) (by omega)).mono fun e w' ⟨v, he, ho, hb⟩ => by
      obtain ⟨A', c', rfl, ht, _⟩ := TxIn.of_own ho
      exact ⟨A', c', he, ht, hb⟩
  · exact fun A c W h => (combined_any x A c L W h h2 (by omega) (by omega)).mono fun e w' ⟨he, hb⟩ => ⟨by rw [he, hz], hb⟩
  · exact fun A c W h => rjoin_any A c _ W h (by omega) hvs
  · exact fun A c W h => hhas_any x A c L W h h1 (by omega) (by omega)
  · exact fun A c W h => good_any A c L W h h1 (by omega)
  · exact fun A c W h => rgood22_any A c L W h h1 (by omega)
  · exact fun A c W h => (hget_any x A c L W h h1 (by omega) (by omega)).mono fun e w' ⟨v, he, ho, hb⟩ => by
      obtain ⟨A', c', rfl, ht, _⟩ := TxIn.of_own ho
      exact ⟨A', c', he, ht, hb⟩
  · exact fun A B c d W h h' => rsame4_any A B c d _ W h h' (by omega)
  · exact fun A c W h => (hcut_any x A c L W h h1 (by omega) (by omega)).mono fun e w' ⟨A', c', he, ho, hb⟩ => ⟨A', c', he, ho.hd, hb⟩
  · exact fun A c W h => (rcut_any x A c L W h h1 (by omega) (by omega)).mono fun e w' ⟨A', c', he, ho, hb⟩ => ⟨some A', c', he, ho.hd, hb⟩
  · exact fun M A B c d W h h' hM => (rsameH_any A B c d M W h h' (by omega)).mono fun e w' ⟨n, he, hw⟩ => ⟨he, by rw [hw]; exact Below.drewN' (Below.refl _ _) _⟩
  · exact fun A c W h => (hsort_any A c L W h h1 (by omega)).mono fun e w' ⟨A', c', D, he, hs, ho, hb⟩ => ⟨A', c', D, he, hs, ho.hd, hb⟩
  · exact fun A c W h => (rsort_any A c L W h h1 (by omega)).mono fun e w' ⟨A', c', D, he, hl, hs, ho, hb⟩ => ⟨A', c', D, he, by omega, hs, ho.hd, hb⟩
  · exact fun W => clean_any x W (by omega)
  · exact fun W => refTrim_any x W (by omega)
  · intro e
    have : getN x L = [] := List.length_eq_zero_iff.1 (getN_none.2 e)
    rw [this]
    rfl

end Go.Proofs.Ytjikahflbhgniaa
namespace Go.Proofs.Ytjikahflbhgniaa
open Go.RowKit

set_option maxHeartbeats 4000000 in
set_option maxRecDepth 100000 in
theorem rset_any (name value : ByteArray) (a : Addr) (c : Nat) (l : List Prm) (w : World) (h : HdIn w (some a) l) (ha : AllIn 1048576 l) (hn : l.length ≤ 1048575) (hm : name.size ≤ 1048576) (hv : value.size ≤ 1048576) (hcap : l.length ≤ c) :
    Calls Try.prog 25 #[.string name, .string value, .slice (some a) l.length c] w (SetSays w name value l) := by
  have htv := trimP_le value
  have HCL : Hid (∀ W, Calls Try.prog 22 #[.string value] W fun e w' => e = .returned (.string (trimP whiB value)) ∧ W = w') := fun W => refTrim_any value W (by omega)
  have HSA : Hid (setA name value l = if hdrsB l && hdrB ⟨name, trimP whiB value⟩ then (if l.any (hasN name) then (0, setN name (trimP whiB value) l) else if l.length = 100 then (3, []) else (0, l ++ [⟨name, trimP whiB value⟩])) else (2, [])) := Lib.hid rfl
  obtain ⟨v, hvv⟩ : ∃ v, v = trimP whiB value := ⟨_, rfl⟩
  rw [← hvv] at HCL HSA htv
  clear hvv
  have HGD := Lib.hid (fun W (hW : Below w.heap.size w W) => rgood22_any (some a) c l W (h.below hW) ha (by omega))
  have HFN := Lib.hid (fun W => fine_any name v W (by omega) (by omega))
  have HH := Lib.hid h
  have HA := Lib.hid ha
  have HX0 := Lib.hid (Blk.new w 53 #[.string name, .string v])
  have HB0 := Lib.hid ((Below.refl w.heap.size w).alloc (Nat.le_refl _) (.cells #[.string name, .string v] 53))
  obtain ⟨S, hS⟩ : ∃ S, S = setA name value l := ⟨_, rfl⟩
  have HSE := Lib.hid (hS.trans HSA.out)
  show Calls Try.prog 25 #[.string name, .string value, .slice (some a) l.length c] w fun e w' => ∃ A' c', e = .returned (.tuple #[.slice A' (setA name value l).2.length c', .int .i64 ((setA name value l).1 : Nat)]) ∧ HdIn w' A' (setA name value l).2 ∧ Below w.heap.size w w'
  rw [← hS]
  clear h ha hS HSA
  cases hg : hdrsB l
  · rw [hg] at HGD HSE
    have HSE := Lib.hid (show S = (2, []) from HSE.out)
    have hS := HSE.out
    subst hS
    clear hg HSE
    go_enter Try.func25, Try.ntmps25
    go_wp2_with (first
      | (go_at_call 22; (with_reducible refine (HCL.out _).mono ?_); rintro e w1 ⟨rfl, rfl⟩)
      | (go_at_call 13; (with_reducible refine (HGD.out _ HB0.out).mono ?_); rintro e w1 ⟨rfl, b1⟩; have HB1 := Lib.hid (below_on HB0.out b1); clear b1))
    go_ret2
    exact ⟨none, 0, rfl, HdIn.nil _ _, HB1.out⟩
  · cases hb : hdrB ⟨name, v⟩
    · rw [hg] at HGD
      rw [hb] at HFN
      rw [hg, hb] at HSE
      have HSE := Lib.hid (show S = (2, []) from HSE.out)
      have hS := HSE.out
      subst hS
      clear hg hb HSE
      go_enter Try.func25, Try.ntmps25
      go_wp2_with (first
      | (go_at_call 22; (with_reducible refine (HCL.out _).mono ?_); rintro e w1 ⟨rfl, rfl⟩)
      | (go_at_call 13; (with_reducible refine (HGD.out _ HB0.out).mono ?_); rintro e w1 ⟨rfl, b1⟩; have HB1 := Lib.hid (below_on HB0.out b1); have HX1 := Lib.hid (HX0.out.below b1 HX0.out.lt); have c0 := HX1.out.cell 0; have c1 := HX1.out.cell 1; clear b1)
      | (go_at_call 34; (with_reducible refine (HFN.out _).mono ?_); rintro e w2 ⟨rfl, b2⟩; have HB2 := Lib.hid (below_on HB1.out b2); have HX2 := Lib.hid (HX1.out.below b2 HX1.out.lt); clear b2 c0 c1))
      go_ret2
      exact ⟨none, 0, rfl, HdIn.nil _ _, HB2.out⟩
    · rw [hg] at HGD
      rw [hb] at HFN
      rw [hg, hb] at HSE
      clear hg hb
      go_enter Try.func25, Try.ntmps25
      go_wp2_with (first
      | (go_at_call 22; (with_reducible refine (HCL.out _).mono ?_); rintro e w1 ⟨rfl, rfl⟩)
      | (go_at_call 13; (with_reducible refine (HGD.out _ HB0.out).mono ?_); rintro e w1 ⟨rfl, b1⟩; have HB1 := Lib.hid (below_on HB0.out b1); have HX1 := Lib.hid (HX0.out.below b1 HX0.out.lt); have c0 := HX1.out.cell 0; have c1 := HX1.out.cell 1; clear b1)
      | (go_at_call 34; (with_reducible refine (HFN.out _).mono ?_); rintro e w2 ⟨rfl, b2⟩; have HB2 := Lib.hid (below_on HB1.out b2); have HX2 := Lib.hid (HX1.out.below b2 HX1.out.lt); clear b2 c0 c1))
      clear HGD HFN HCL HX0 HB0 HX1 HB1
      go_loopw [9] (fun i wr => ∃ k : Nat, k ≤ l.length ∧ i = .int .i64 k ∧ Hid (∀ j (hj : j < l.length), j < k → hasN name l[j] = false) ∧ Hid (Blk wr w.heap.size 53 #[.string name, .string v]) ∧ Hid (Below w.heap.size w wr)) (fun i _ => l.length - (intOf i).toNat)
      case atStart => exact ⟨0, by omega, rfl, Lib.hid (fun j _ h => by omega), HX2, HB2⟩
      case round =>
        obtain ⟨k, hk, rfl, HNO, HX, HW⟩ := hrel
        clear HX2 HB2
        have hwr := HW.out.size
        by_cases hlt : k < l.length
        · obtain ⟨a', e', hal, c0, c1⟩ := (HH.out.below HW.out) k hlt
          cases e'
          have hsz := HA.out.at_ hlt
          have HHB := Lib.hid (fun W (hW : Below wr.heap.size wr W) => (((HH.out.below HW.out).below hW) k hlt))
          have HNO2 := Lib.hid (show hasN name l[k] = false → ∀ j (hj : j < l.length), j < k + 1 → hasN name l[j] = false from fun h j hj hjk => by
            rcases Nat.lt_or_ge j k with h2 | h2
            · exact HNO.out j hj h2
            · obtain rfl : j = k := by omega
              exact h)
          have HYES := Lib.hid (show hasN name l[k] = true → S = (0, l.take k ++ ⟨l[k].n, v⟩ :: cutN name (l.drop (k + 1))) from fun h => by
            have hany : l.any (hasN name) = true := List.any_eq_true.2 ⟨l[k], List.getElem_mem hlt, h⟩
            rw [HSE.out, hany]
            simp only [Bool.and_self, if_true]
            rw [setN_at name v l k hlt (fun j hj => HNO.out j (by omega) hj) h])
          obtain ⟨p, hp⟩ : ∃ p, l[k] = p := ⟨_, rfl⟩
          rw [hp] at c0 c1 hsz HHB HNO2 HYES
          clear hp
          obtain ⟨n, v0⟩ := p
          simp only at c0 c1 hsz
          have HI := Lib.hid (fun W => ris_any name n v0 W (by omega) hm)
          have HK0 := Lib.hid (fun W (hW : Below wr.heap.size wr W) => show W.cell? (a.add (k * 2)) = some (.string n) from by
            obtain ⟨a', e, _, d0, d1⟩ := HHB.out W hW
            cases e
            exact d0)
          clear HHB HNO
          cases hb : hasN name ⟨n, v0⟩
          · rw [hb] at HI
            have HN2 := Lib.hid (HNO2.out hb)
            clear hb HNO2 HYES HK0
            go_wp2_with (go_at_call 29; (with_reducible refine (HI.out _).mono ?_); rintro e w1 ⟨rfl, b1⟩; have HB1 := Lib.hid (HW.out.trans (b1.mono hwr)); have HX1 := Lib.hid (HX.out.below b1 HX.out.lt); clear b1)
            go_roundw
            case rel => exact ⟨k + 1, by omega, by go_num, HN2, HX1, HB1⟩
            case measure => simp [intOf]; omega
          · rw [hb] at HI
            have HS := Lib.hid (HYES.out hb)
            clear hb HNO2 HYES
            go_wp2_with (go_at_call 29; (with_reducible refine (HI.out _).mono ?_); rintro e w1 ⟨rfl, b1⟩; have HB1 := Lib.hid (HW.out.trans (b1.mono hwr)); have HX1 := Lib.hid (HX.out.below b1 HX.out.lt); have HK1 := Lib.hid (fun W (hW : Below w1.heap.size w1 W) => HK0.out W (b1.trans (hW.mono b1.size))); clear b1 c0 c1)
            have HK := Lib.hid (fun W (hW : Below w1.heap.size w1 W) => show W.cell? (a.add (k * 2)) = some (.string n) ∧ W.cell? ⟨w.heap.size, 1, none⟩ = some (.string v) from ⟨HK1.out W hW, (HX1.out.below hW HX1.out.lt).cell 1⟩)
            have HS1C := Lib.hid ((HH.out.below HB1.out).head k).cellsB
            have HS1L := Lib.hid (show (prmL (l.take k)).length = k * 2 from by rw [prmL_len, List.length_take, Nat.min_eq_left hk])
            have hk2 : k ≤ c := by omega
            have hk3 : k + 1 ≤ l.length := by omega
            have hk4 : k + 1 ≤ c := by omega
            have hsum : IntKind.i64.wrap ((k : Int) + 1) = (k : Int) + 1 := IntWalk.i64_in _ (by omega)
            have hs2 : (0 : Int) ≤ (k : Int) + 1 := by omega
            have hs3 : ((k : Int) + 1).toNat = k + 1 := by omega
            have hs4 : (k : Int) + 1 ≤ (l.length : Int) := by omega
            obtain ⟨A2, hA2, hT⟩ : ∃ A2, (if c = k + 1 then some a else some (a.add ((k + 1) * 2))) = A2 ∧ ∀ W, Below w.heap.size w W → HdIn W A2 (l.drop (k + 1)) := by
              by_cases hc : c = k + 1
              · exact ⟨some a, if_pos hc, fun W _ => by rw [List.drop_of_length_le (by omega)]; exact HdIn.nil _ _⟩
              · exact ⟨_, if_neg hc, fun W hW => (HH.out.below hW).tail (k + 1)⟩
            have HCUT := Lib.hid (fun W (hW : Below w.heap.size w W) => rcut_any name A2 (c - (k + 1)) (l.drop (k + 1)) W (hT W hW) (fun p hp => HA.out p (List.mem_of_mem_drop hp)) (by rw [List.length_drop]; omega) hm)
            rw [List.length_drop] at HCUT
            obtain ⟨m, hmm⟩ : ∃ m, m = cutN name (l.drop (k + 1)) := ⟨_, rfl⟩
            have hml : m.length ≤ l.length - (k + 1) := by
              have := cutN_len name (l.drop (k + 1))
              rw [List.length_drop, ← hmm] at this
              exact this
            rw [← hmm] at HCUT HS
            clear hmm hT HX1 HK1 HSE HI HK0 HX
            have hw1 : w.heap.size ≤ w1.heap.size := HB1.out.size
            refine wp_region_held_drew (S := fun w' => w'.cell? (a.add (k * 2)) = some (.string n) ∧ w'.cell? ⟨w.heap.size, 1, none⟩ = some (.string v)) (by kernel_rfl) (HK.out _ (Below.refl w1.heap.size w1).drew) (fun hHeld => ?_)
            refine wpAnyH_take (i := 1) (oi := ⟨some 36, _, _, _, _, _⟩) (v := ?_) rfl (by kernel_rfl) (by kernel_rfl) (by kernel_rfl) (fun _ _ _ h => h) (Or.inl ⟨by rfl, ?_⟩) hHeld ?_
            rotate_left
            focus (intro wq hSw; (try dsimp only at hSw); go_simp; try with_reducible rfl; done)
            simp only [Act.put, List.setIfInBounds_toArray, List.set_cons_zero, List.set_cons_succ]
            refine wpAnyH_take (i := 2) (oi := ⟨some 37, _, _, _, _, _⟩) (v := ?_) rfl (by kernel_rfl) (by kernel_rfl) (by kernel_rfl) (fun _ _ _ h => h) (Or.inl ⟨by rfl, ?_⟩) hHeld ?_
            rotate_left
            focus (intro wq hSw; (try dsimp only at hSw); go_simp; try with_reducible rfl; done)
            simp only [Act.put, List.setIfInBounds_toArray, List.set_cons_zero, List.set_cons_succ]
            refine wpAnyH_take (i := 3) (oi := ⟨some 38, _, _, _, _, _⟩) (v := ?_) rfl (by kernel_rfl) (by kernel_rfl) (by kernel_rfl) (fun _ _ _ h => h) (Or.inl ⟨by rfl, ?_⟩) hHeld ?_
            rotate_left
            focus (intro wq hSw; (try dsimp only at hSw); go_simp; try with_reducible rfl; done)
            simp only [Act.put, List.setIfInBounds_toArray, List.set_cons_zero, List.set_cons_succ]
            refine wpAnyH_take (i := 5) (oi := ⟨some 40, _, _, _, _, _⟩) (v := ?_) rfl (by kernel_rfl) (by kernel_rfl) (by kernel_rfl) (fun _ _ _ h => h) (Or.inl ⟨by rfl, ?_⟩) hHeld ?_
            rotate_left
            focus (intro wq hSw; (try dsimp only at hSw); go_simp; try with_reducible rfl; done)
            simp only [Act.put, List.setIfInBounds_toArray, List.set_cons_zero, List.set_cons_succ]
            refine wpAnyH_take (i := 6) (oi := ⟨some 41, _, _, _, _, _⟩) (v := ?_) rfl (by kernel_rfl) (by kernel_rfl) (by kernel_rfl) (fun _ _ _ h => h) (Or.inl ⟨by rfl, ?_⟩) hHeld ?_
            rotate_left
            focus (intro wq hSw; (try dsimp only at hSw); go_simp; try with_reducible rfl; done)
            simp only [Act.put, List.setIfInBounds_toArray, List.set_cons_zero, List.set_cons_succ]
            refine wpAnyH_take (i := 7) (oi := ⟨some 42, _, _, _, _, _⟩) (v := ?_) rfl (by kernel_rfl) (by kernel_rfl) (by kernel_rfl) (fun _ _ _ h => h) (Or.inl ⟨by rfl, ?_⟩) hHeld ?_
            rotate_left
            focus (intro wq hSw; (try dsimp only at hSw); go_simp; try with_reducible rfl; done)
            simp only [Act.put, List.setIfInBounds_toArray, List.set_cons_zero, List.set_cons_succ]
            refine wpAnyH_take (i := 8) (oi := ⟨some 43, _, _, _, _, _⟩) (v := ?_) rfl (by kernel_rfl) (by kernel_rfl) (by kernel_rfl) (fun _ _ _ h => h) (Or.inl ⟨by rfl, ?_⟩) hHeld ?_
            rotate_left
            focus (intro wq hSw; (try dsimp only at hSw); go_simp; try with_reducible rfl; done)
            simp only [Act.put, List.setIfInBounds_toArray, List.set_cons_zero, List.set_cons_succ]
            refine wpAnyH_take (i := 9) (oi := ⟨some 44, _, _, _, _, _⟩) (v := ?_) rfl (by kernel_rfl) (by kernel_rfl) (by kernel_rfl) (fun _ _ _ h => h) (Or.inl ⟨by rfl, ?_⟩) hHeld ?_
            rotate_left
            focus (intro wq hSw; (try dsimp only at hSw); go_simp; try with_reducible rfl; done)
            simp only [Act.put, List.setIfInBounds_toArray, List.set_cons_zero, List.set_cons_succ]
            refine wpAnyH_take (i := 10) (oi := ⟨some 45, _, _, _, _, _⟩) (v := ?_) rfl (by kernel_rfl) (by kernel_rfl) (by kernel_rfl) (fun _ _ _ h => h) (Or.inl ⟨by rfl, ?_⟩) hHeld ?_
            rotate_left
            focus (intro wq hSw; (try dsimp only at hSw); go_simp; try with_reducible rfl; done)
            simp only [Act.put, List.setIfInBounds_toArray, List.set_cons_zero, List.set_cons_succ]
            refine wpAnyH_take (i := 11) (oi := ⟨some 46, _, _, _, _, _⟩) (v := ?_) rfl (by kernel_rfl) (by kernel_rfl) (by kernel_rfl) (fun _ _ _ h => h) (Or.inl ⟨by rfl, ?_⟩) hHeld ?_
            rotate_left
            focus (intro wq hSw; (try dsimp only at hSw); go_simp; try with_reducible rfl; done)
            simp only [Act.put, List.setIfInBounds_toArray, List.set_cons_zero, List.set_cons_succ]
            refine wpAnyH_take (i := 12) (oi := ⟨some 47, _, _, _, _, _⟩) (v := ?_) rfl (by kernel_rfl) (by kernel_rfl) (by kernel_rfl) (fun _ _ _ h => h) (Or.inl ⟨by rfl, ?_⟩) hHeld ?_
            rotate_left
            focus (intro wq hSw; (try dsimp only at hSw); go_simp; try with_reducible rfl; done)
            simp only [Act.put, List.setIfInBounds_toArray, List.set_cons_zero, List.set_cons_succ]
            refine wpAnyH_ready (rs := [0, 13]) (by kernel_rfl) (by simp) ?_
            refine AllReadyH.cons (o := ⟨some 35, _, _, _, _, _⟩) rfl (fun K hK => ?_) (AllReadyH.cons (o := ⟨some 48, _, _, _, _, _⟩) rfl (fun K hK => ?_) AllReadyH.nil)
            · go_simp
              refine hK.out _ _ (HK.out _ (((Below.refl w1.heap.size w1).alloc (Nat.le_refl _) (.cells #[] 53)).drew)) (fun hHeld => ?_)
              clear hK K
              try simp only [Act.put, List.setIfInBounds_toArray, List.set_cons_zero, List.set_cons_succ]
              refine wpAnyH_ready (rs := [4, 13]) (by kernel_rfl) (by simp) ?_
              refine AllReadyH.cons (o := ⟨some 39, _, _, _, _, _⟩) rfl (fun K hK => ?_) (AllReadyH.cons (o := ⟨some 48, _, _, _, _, _⟩) rfl (fun K hK => ?_) AllReadyH.nil)
              · have hmade := World.ownsRow_made (base := w1.heap.size) (e := 53) (size := 2) w1 #[] 0 (Nat.le_refl _) (Nat.zero_le _) rfl
                refine stepH_append rfl _ _ rfl w1.heap.size (.slice (some ⟨w1.heap.size, 0, none⟩) 0 0) 0 [] rfl (by exact hmade) a k c _ rfl HS1L.out (HS1C.out _ (((Below.refl w1.heap.size w1).alloc (Nat.le_refl _) (.cells #[] 53)).drew)) (hdL_one _) (by omega) (by first | (simp only [World.size_alloc]; omega) | (simp only [World.size_drew, World.size_alloc]; omega)) ?_
                intro v1 W1 ho1 hg1
                have HB1 := Lib.hid (show Below w1.heap.size w1 W1 from (((Below.refl w1.heap.size w1).alloc (Nat.le_refl _) (.cells #[] 53)).drew).grown hg1 (by first | (simp only [World.size_alloc]; omega) | (simp only [World.size_drew, World.size_alloc]; omega)) (fun _ e => ob_ge e (by omega)))
                have HO1 := Lib.hid ho1
                have hs1 := HB1.out.size
                clear ho1 hg1 hmade
                refine hK.out _ _ (HK.out _ (HB1.out)) (fun hHeld => ?_)
                clear hK K
                try simp only [Act.put, List.setIfInBounds_toArray, List.set_cons_zero, List.set_cons_succ]
                refine wpAnyH_ready (rs := [13]) (by kernel_rfl) (by simp) ?_
                refine AllReadyH.cons (o := ⟨some 48, _, _, _, _, _⟩) rfl (fun K hK => ?_) AllReadyH.nil
                go_simp
                refine hK.out _ _ (HK.out _ (HB1.out.alloc HB1.out.size (.cells #[.string n, .string v] 53))) (fun hHeld => ?_)
                clear hK K
                try simp only [Act.put, List.setIfInBounds_toArray, List.set_cons_zero, List.set_cons_succ]
                refine wpAnyH_ready (rs := [14]) (by kernel_rfl) (by simp) ?_
                refine AllReadyH.cons (o := ⟨some 49, _, _, _, _, _⟩) rfl (fun K hK => ?_) AllReadyH.nil
                refine stepH_append rfl _ _ rfl w1.heap.size v1 _ _ rfl (HO1.out.alloc _) ⟨W1.heap.size, 0, none⟩ 1 1 [.string n, .string v] rfl rfl (two_new W1 n v) two_one22 (by omega) (by (try simp only [World.size_alloc]); omega) ?_
                intro v2 W2 ho2 hg2
                have HB2 := Lib.hid (show Below w1.heap.size w1 W2 from (HB1.out.alloc HB1.out.size (.cells #[.string n, .string v] 53)).grown hg2 (by (try simp only [World.size_alloc]); omega) (fun g hg => (HO1.out.lt g hg).1))
                have HO2 := Lib.hid ho2
                have hs2 := HB2.out.size
                clear ho2 hg2 HO1 HB1
                refine hK.out _ _ (HK.out _ (HB2.out)) (fun hHeld => ?_)
                clear hK K
                try simp only [Act.put, List.setIfInBounds_toArray, List.set_cons_zero, List.set_cons_succ]
                refine wpAnyH_take (i := 15) (oi := ⟨some 10, _, _, _, _, _⟩) (v := ?_) rfl (by kernel_rfl) (by kernel_rfl) (by kernel_rfl) (fun _ _ _ h => h) (Or.inl ⟨by rfl, ?_⟩) hHeld ?_
                rotate_left
                focus (intro wq hSw; (try dsimp only at hSw); go_simp; try with_reducible rfl; done)
                simp only [Act.put, List.setIfInBounds_toArray, List.set_cons_zero, List.set_cons_succ]
                refine wpAnyH_done (by kernel_rfl) ?_ _
                have HO4 := Lib.hid (show W2.ownsRow w1.heap.size 53 2 v2 (k + 1) (prmL (l.take k) ++ [.string n, .string v]) from by
                  have := HO2.out
                  rw [Nat.zero_add, List.nil_append] at this
                  exact this)
                have hs2w : w1.heap.size ≤ W2.heap.size := HB2.out.size
                have HB4 := Lib.hid (HB1.out.trans (HB2.out.mono hw1))
                clear HO2 HB2 hHeld
                go_wp2_with (first
                  | (go_at_call 18; (with_reducible refine (HCUT.out _ HB4.out).mono ?_); rintro e w6 ⟨b6, c6, rfl, o6, bb6⟩
                     have HB6 := Lib.hid (HB4.out.trans (bb6.mono HB4.out.size))
                     have HO5 := Lib.hid (own_mv HO4.out (Mv.of_below bb6 []) (by simp))
                     have HC6 := Lib.hid o6.hd.cells
                     have HL6 := Lib.hid (prmL_len m)
                     have hw6 : w1.heap.size ≤ w6.heap.size := Nat.le_trans hs2w bb6.size
                     clear o6 bb6)
                  | (at_builtin; refine wpH_append rfl _ _ rfl w1.heap.size v2 _ _ rfl HO5.out b6 m.length c6 (prmL m) rfl HL6.out HC6.out (hdL_one m) (by omega) hw6 ?_; intro v7 w7 hown hgrow _
                     have HB7 := Lib.hid (HB6.out.grown hgrow (by omega) (fun g hg => by have := (HO5.out.lt g hg).1; omega))
                     have HO7 := Lib.hid hown
                     clear hown hgrow))
                have HO8 : w7.ownsRow w1.heap.size 53 2 v7 (l.take k ++ ⟨n, v⟩ :: m).length (prmL (l.take k ++ ⟨n, v⟩ :: m)) := by
                  have e : prmL (l.take k ++ ⟨n, v⟩ :: m) = prmL (l.take k) ++ [.string n, .string v] ++ prmL m := by rw [prmL_app]; simp [prmL]
                  have e2 : (l.take k ++ (⟨n, v⟩ : Prm) :: m).length = k + 1 + m.length := by simp; omega
                  rw [e, e2]
                  exact HO7.out
                obtain ⟨A8, c8, rfl, hp8⟩ := hdrs_of_own HO8
                have HP8 := Lib.hid (HdIn.ps hp8)
                clear HO8 hp8 HO7
                go_wp2
                go_ret2
                exact ⟨A8, c8, by rw [HS.out]; rfl, by rw [HS.out]; exact HP8.out, HB7.out⟩
              · go_simp
                refine hK.out _ _ (HK.out _ ((((Below.refl w1.heap.size w1).alloc (Nat.le_refl _) (.cells #[] 53)).alloc (by first | (simp only [World.size_alloc]; omega) | (simp only [World.size_drew, World.size_alloc]; omega)) (.cells #[.string n, .string v] 53)).drew)) (fun hHeld => ?_)
                clear hK K
                try simp only [Act.put, List.setIfInBounds_toArray, List.set_cons_zero, List.set_cons_succ]
                refine wpAnyH_ready (rs := [4]) (by kernel_rfl) (by simp) ?_
                refine AllReadyH.cons (o := ⟨some 39, _, _, _, _, _⟩) rfl (fun K hK => ?_) AllReadyH.nil
                have hmade := (World.ownsRow_made (base := w1.heap.size) (e := 53) (size := 2) w1 #[] 0 (Nat.le_refl _) (Nat.zero_le _) rfl).alloc (.cells #[.string n, .string v] 53)
                have hbox := Blk.new (w1.alloc (.cells #[] 53)) 53 #[.string n, .string v]
                rw [World.size_alloc] at hbox
                refine stepH_append rfl _ _ rfl w1.heap.size (.slice (some ⟨w1.heap.size, 0, none⟩) 0 0) 0 [] rfl (by exact hmade) a k c _ rfl HS1L.out (HS1C.out _ ((((Below.refl w1.heap.size w1).alloc (Nat.le_refl _) (.cells #[] 53)).alloc (by first | (simp only [World.size_alloc]; omega) | (simp only [World.size_drew, World.size_alloc]; omega)) (.cells #[.string n, .string v] 53)).drew)) (hdL_one _) (by omega) (by first | (simp only [World.size_alloc]; omega) | (simp only [World.size_drew, World.size_alloc]; omega)) ?_
                intro v1 W1 ho1 hg1
                have HB1 := Lib.hid (show Below w1.heap.size w1 W1 from ((((Below.refl w1.heap.size w1).alloc (Nat.le_refl _) (.cells #[] 53)).alloc (by first | (simp only [World.size_alloc]; omega) | (simp only [World.size_drew, World.size_alloc]; omega)) (.cells #[.string n, .string v] 53)).drew).grown hg1 (by first | (simp only [World.size_alloc]; omega) | (simp only [World.size_drew, World.size_alloc]; omega)) (fun _ e => ob_ge e (by omega)))
                have HO1 := Lib.hid ho1
                have hs1 := HB1.out.size
                have HX1 := Lib.hid (show Blk W1 (w1.heap.size + 1) 53 #[.string n, .string v] from (hg1.block (w1.heap.size + 1) (by first | (simp only [World.size_alloc]; omega) | (simp only [World.size_drew, World.size_alloc]; omega)) (ob_ne (by omega))).trans hbox)
                clear ho1 hg1 hmade hbox
                refine hK.out _ _ (HK.out _ (HB1.out)) (fun hHeld => ?_)
                clear hK K
                try simp only [Act.put, List.setIfInBounds_toArray, List.set_cons_zero, List.set_cons_succ]
                refine wpAnyH_ready (rs := [14]) (by kernel_rfl) (by simp) ?_
                refine AllReadyH.cons (o := ⟨some 49, _, _, _, _, _⟩) rfl (fun K hK => ?_) AllReadyH.nil
                refine stepH_append rfl _ _ rfl w1.heap.size v1 _ _ rfl (HO1.out) ⟨w1.heap.size + 1, 0, none⟩ 1 1 [.string n, .string v] rfl rfl (two_blk HX1.out) two_one22 (by omega) (by (try simp only [World.size_alloc]); omega) ?_
                intro v2 W2 ho2 hg2
                have HB2 := Lib.hid (show Below w1.heap.size w1 W2 from (HB1.out).grown hg2 (by (try simp only [World.size_alloc]); omega) (fun g hg => (HO1.out.lt g hg).1))
                have HO2 := Lib.hid ho2
                have hs2 := HB2.out.size
                clear ho2 hg2 HO1 HB1
                refine hK.out _ _ (HK.out _ (HB2.out)) (fun hHeld => ?_)
                clear hK K
                try simp only [Act.put, List.setIfInBounds_toArray, List.set_cons_zero, List.set_cons_succ]
                refine wpAnyH_take (i := 15) (oi := ⟨some 10, _, _, _, _, _⟩) (v := ?_) rfl (by kernel_rfl) (by kernel_rfl) (by kernel_rfl) (fun _ _ _ h => h) (Or.inl ⟨by rfl, ?_⟩) hHeld ?_
                rotate_left
                focus (intro wq hSw; (try dsimp only at hSw); go_simp; try with_reducible rfl; done)
                simp only [Act.put, List.setIfInBounds_toArray, List.set_cons_zero, List.set_cons_succ]
                refine wpAnyH_done (by kernel_rfl) ?_ _
                have HO4 := Lib.hid (show W2.ownsRow w1.heap.size 53 2 v2 (k + 1) (prmL (l.take k) ++ [.string n, .string v]) from by
                  have := HO2.out
                  rw [Nat.zero_add, List.nil_append] at this
                  exact this)
                have hs2w : w1.heap.size ≤ W2.heap.size := HB2.out.size
                have HB4 := Lib.hid (HB1.out.trans (HB2.out.mono hw1))
                clear HO2 HB2 hHeld
                go_wp2_with (first
                  | (go_at_call 18; (with_reducible refine (HCUT.out _ HB4.out).mono ?_); rintro e w6 ⟨b6, c6, rfl, o6, bb6⟩
                     have HB6 := Lib.hid (HB4.out.trans (bb6.mono HB4.out.size))
                     have HO5 := Lib.hid (own_mv HO4.out (Mv.of_below bb6 []) (by simp))
                     have HC6 := Lib.hid o6.hd.cells
                     have HL6 := Lib.hid (prmL_len m)
                     have hw6 : w1.heap.size ≤ w6.heap.size := Nat.le_trans hs2w bb6.size
                     clear o6 bb6)
                  | (at_builtin; refine wpH_append rfl _ _ rfl w1.heap.size v2 _ _ rfl HO5.out b6 m.length c6 (prmL m) rfl HL6.out HC6.out (hdL_one m) (by omega) hw6 ?_; intro v7 w7 hown hgrow _
                     have HB7 := Lib.hid (HB6.out.grown hgrow (by omega) (fun g hg => by have := (HO5.out.lt g hg).1; omega))
                     have HO7 := Lib.hid hown
                     clear hown hgrow))
                have HO8 : w7.ownsRow w1.heap.size 53 2 v7 (l.take k ++ ⟨n, v⟩ :: m).length (prmL (l.take k ++ ⟨n, v⟩ :: m)) := by
                  have e : prmL (l.take k ++ ⟨n, v⟩ :: m) = prmL (l.take k) ++ [.string n, .string v] ++ prmL m := by rw [prmL_app]; simp [prmL]
                  have e2 : (l.take k ++ (⟨n, v⟩ : Prm) :: m).length = k + 1 + m.length := by simp; omega
                  rw [e, e2]
                  exact HO7.out
                obtain ⟨A8, c8, rfl, hp8⟩ := hdrs_of_own HO8
                have HP8 := Lib.hid (HdIn.ps hp8)
                clear HO8 hp8 HO7
                go_wp2
                go_ret2
                exact ⟨A8, c8, by rw [HS.out]; rfl, by rw [HS.out]; exact HP8.out, HB7.out⟩
            · go_simp
              refine hK.out _ _ (HK.out _ (((Below.refl w1.heap.size w1).alloc (Nat.le_refl _) (.cells #[.string n, .string v] 53)).drew)) (fun hHeld => ?_)
              clear hK K
              try simp only [Act.put, List.setIfInBounds_toArray, List.set_cons_zero, List.set_cons_succ]
              refine wpAnyH_ready (rs := [0]) (by kernel_rfl) (by simp) ?_
              refine AllReadyH.cons (o := ⟨some 35, _, _, _, _, _⟩) rfl (fun K hK => ?_) AllReadyH.nil
              go_simp
              refine hK.out _ _ (HK.out _ ((((Below.refl w1.heap.size w1).alloc (Nat.le_refl _) (.cells #[.string n, .string v] 53)).alloc (by first | (simp only [World.size_alloc]; omega) | (simp only [World.size_drew, World.size_alloc]; omega)) (.cells #[] 53)).drew)) (fun hHeld => ?_)
              clear hK K
              try simp only [Act.put, List.setIfInBounds_toArray, List.set_cons_zero, List.set_cons_succ]
              refine wpAnyH_ready (rs := [4]) (by kernel_rfl) (by simp) ?_
              refine AllReadyH.cons (o := ⟨some 39, _, _, _, _, _⟩) rfl (fun K hK => ?_) AllReadyH.nil
              have hmade := World.ownsRow_made (base := w1.heap.size) (e := 53) (size := 2) (w1.alloc (.cells #[.string n, .string v] 53)) #[] 0 (by first | (simp only [World.size_alloc]; omega) | (simp only [World.size_drew, World.size_alloc]; omega)) (Nat.zero_le _) rfl
              rw [World.size_alloc] at hmade
              have hbox := (Blk.new w1 53 #[.string n, .string v]).alloc (.cells #[] 53)
              refine stepH_append rfl _ _ rfl w1.heap.size (.slice (some ⟨w1.heap.size + 1, 0, none⟩) 0 0) 0 [] rfl (by exact hmade) a k c _ rfl HS1L.out (HS1C.out _ ((((Below.refl w1.heap.size w1).alloc (Nat.le_refl _) (.cells #[.string n, .string v] 53)).alloc (by first | (simp only [World.size_alloc]; omega) | (simp only [World.size_drew, World.size_alloc]; omega)) (.cells #[] 53)).drew)) (hdL_one _) (by omega) (by first | (simp only [World.size_alloc]; omega) | (simp only [World.size_drew, World.size_alloc]; omega)) ?_
              intro v1 W1 ho1 hg1
              have HB1 := Lib.hid (show Below w1.heap.size w1 W1 from ((((Below.refl w1.heap.size w1).alloc (Nat.le_refl _) (.cells #[.string n, .string v] 53)).alloc (by first | (simp only [World.size_alloc]; omega) | (simp only [World.size_drew, World.size_alloc]; omega)) (.cells #[] 53)).drew).grown hg1 (by first | (simp only [World.size_alloc]; omega) | (simp only [World.size_drew, World.size_alloc]; omega)) (fun _ e => ob_ge e (by omega)))
              have HO1 := Lib.hid ho1
              have hs1 := HB1.out.size
              have HX1 := Lib.hid (show Blk W1 w1.heap.size 53 #[.string n, .string v] from (hg1.block w1.heap.size (by first | (simp only [World.size_alloc]; omega) | (simp only [World.size_drew, World.size_alloc]; omega)) (ob_ne (by omega))).trans hbox)
              clear ho1 hg1 hmade hbox
              refine hK.out _ _ (HK.out _ (HB1.out)) (fun hHeld => ?_)
              clear hK K
              try simp only [Act.put, List.setIfInBounds_toArray, List.set_cons_zero, List.set_cons_succ]
              refine wpAnyH_ready (rs := [14]) (by kernel_rfl) (by simp) ?_
              refine AllReadyH.cons (o := ⟨some 49, _, _, _, _, _⟩) rfl (fun K hK => ?_) AllReadyH.nil
              refine stepH_append rfl _ _ rfl w1.heap.size v1 _ _ rfl (HO1.out) ⟨w1.heap.size, 0, none⟩ 1 1 [.string n, .string v] rfl rfl (two_blk HX1.out) two_one22 (by omega) (by (try simp only [World.size_alloc]); omega) ?_
              intro v2 W2 ho2 hg2
              have HB2 := Lib.hid (show Below w1.heap.size w1 W2 from (HB1.out).grown hg2 (by (try simp only [World.size_alloc]); omega) (fun g hg => (HO1.out.lt g hg).1))
              have HO2 := Lib.hid ho2
              have hs2 := HB2.out.size
              clear ho2 hg2 HO1 HB1
              refine hK.out _ _ (HK.out _ (HB2.out)) (fun hHeld => ?_)
              clear hK K
              try simp only [Act.put, List.setIfInBounds_toArray, List.set_cons_zero, List.set_cons_succ]
              refine wpAnyH_take (i := 15) (oi := ⟨some 10, _, _, _, _, _⟩) (v := ?_) rfl (by kernel_rfl) (by kernel_rfl) (by kernel_rfl) (fun _ _ _ h => h) (Or.inl ⟨by rfl, ?_⟩) hHeld ?_
              rotate_left
              focus (intro wq hSw; (try dsimp only at hSw); go_simp; try with_reducible rfl; done)
              simp only [Act.put, List.setIfInBounds_toArray, List.set_cons_zero, List.set_cons_succ]
              refine wpAnyH_done (by kernel_rfl) ?_ _
              have HO4 := Lib.hid (show W2.ownsRow w1.heap.size 53 2 v2 (k + 1) (prmL (l.take k) ++ [.string n, .string v]) from by
                have := HO2.out
                rw [Nat.zero_add, List.nil_append] at this
                exact this)
              have hs2w : w1.heap.size ≤ W2.heap.size := HB2.out.size
              have HB4 := Lib.hid (HB1.out.trans (HB2.out.mono hw1))
              clear HO2 HB2 hHeld
              go_wp2_with (first
                | (go_at_call 18; (with_reducible refine (HCUT.out _ HB4.out).mono ?_); rintro e w6 ⟨b6, c6, rfl, o6, bb6⟩
                   have HB6 := Lib.hid (HB4.out.trans (bb6.mono HB4.out.size))
                   have HO5 := Lib.hid (own_mv HO4.out (Mv.of_below bb6 []) (by simp))
                   have HC6 := Lib.hid o6.hd.cells
                   have HL6 := Lib.hid (prmL_len m)
                   have hw6 : w1.heap.size ≤ w6.heap.size := Nat.le_trans hs2w bb6.size
                   clear o6 bb6)
                | (at_builtin; refine wpH_append rfl _ _ rfl w1.heap.size v2 _ _ rfl HO5.out b6 m.length c6 (prmL m) rfl HL6.out HC6.out (hdL_one m) (by omega) hw6 ?_; intro v7 w7 hown hgrow _
                   have HB7 := Lib.hid (HB6.out.grown hgrow (by omega) (fun g hg => by have := (HO5.out.lt g hg).1; omega))
                   have HO7 := Lib.hid hown
                   clear hown hgrow))
              have HO8 : w7.ownsRow w1.heap.size 53 2 v7 (l.take k ++ ⟨n, v⟩ :: m).length (prmL (l.take k ++ ⟨n, v⟩ :: m)) := by
                have e : prmL (l.take k ++ ⟨n, v⟩ :: m) = prmL (l.take k) ++ [.string n, .string v] ++ prmL m := by rw [prmL_app]; simp [prmL]
                have e2 : (l.take k ++ (⟨n, v⟩ : Prm) :: m).length = k + 1 + m.length := by simp; omega
                rw [e, e2]
                exact HO7.out
              obtain ⟨A8, c8, rfl, hp8⟩ := hdrs_of_own HO8
              have HP8 := Lib.hid (HdIn.ps hp8)
              clear HO8 hp8 HO7
              go_wp2
              go_ret2
              exact ⟨A8, c8, by rw [HS.out]; rfl, by rw [HS.out]; exact HP8.out, HB7.out⟩
        · obtain rfl : k = l.length := by omega
          have HNA := Lib.hid (show l.any (hasN name) = false from any_not (fun j hj => HNO.out j hj hj))
          by_cases h100 : l.length = 100
          · have HS := Lib.hid (show S = (3, []) from by rw [HSE.out, HNA.out]; simp [h100])
            have h100b : ((l.length : Int) == 100) = true := by rw [h100]; rfl
            clear h100
            go_wp2
            go_ret2
            exact ⟨none, 0, by rw [HS.out]; rfl, by rw [HS.out]; exact HdIn.nil _ _, HW.out⟩
          · have HS := Lib.hid (show S = (0, l ++ [⟨name, v⟩]) from by rw [HSE.out, HNA.out]; simp [h100])
            have h100b : ((l.length : Int) == 100) = false := by rw [beq_eq_false_iff_ne]; omega
            clear h100
            go_wp2_with fail
            have HK := Lib.hid (fun W (hW : Below wr.heap.size wr W) => show W.cell? ⟨w.heap.size, 0, none⟩ = some (.string name) ∧ W.cell? ⟨w.heap.size, 1, none⟩ = some (.string v) from ⟨(HX.out.below hW HX.out.lt).cell 0, (HX.out.below hW HX.out.lt).cell 1⟩)
            have HS1C := Lib.hid (HH.out.below HW.out).cellsB
            have HS1L := Lib.hid (prmL_len l)
            clear HX HNO
            refine wp_region_held_drew (S := fun w' => w'.cell? ⟨w.heap.size, 0, none⟩ = some (.string name) ∧ w'.cell? ⟨w.heap.size, 1, none⟩ = some (.string v)) (by kernel_rfl) (HK.out _ (Below.refl wr.heap.size wr).drew) (fun hHeld => ?_)
            refine wpAnyH_take (i := 1) (oi := ⟨some 62, _, _, _, _, _⟩) (v := ?_) rfl (by kernel_rfl) (by kernel_rfl) (by kernel_rfl) (fun _ _ _ h => h) (Or.inl ⟨by rfl, ?_⟩) hHeld ?_
            rotate_left
            focus (intro wq hSw; (try dsimp only at hSw); go_simp; try with_reducible rfl; done)
            simp only [Act.put, List.setIfInBounds_toArray, List.set_cons_zero, List.set_cons_succ]
            refine wpAnyH_take (i := 3) (oi := ⟨some 64, _, _, _, _, _⟩) (v := ?_) rfl (by kernel_rfl) (by kernel_rfl) (by kernel_rfl) (fun _ _ _ h => h) (Or.inl ⟨by rfl, ?_⟩) hHeld ?_
            rotate_left
            focus (intro wq hSw; (try dsimp only at hSw); go_simp; try with_reducible rfl; done)
            simp only [Act.put, List.setIfInBounds_toArray, List.set_cons_zero, List.set_cons_succ]
            refine wpAnyH_ready (rs := [0, 4]) (by kernel_rfl) (by simp) ?_
            refine AllReadyH.cons (o := ⟨some 61, _, _, _, _, _⟩) rfl (fun K hK => ?_) (AllReadyH.cons (o := ⟨some 65, _, _, _, _, _⟩) rfl (fun K hK => ?_) AllReadyH.nil)
            · go_simp
              refine hK.out _ _ (HK.out _ (((Below.refl wr.heap.size wr).alloc (Nat.le_refl _) (.cells #[] 53)).drew)) (fun hHeld => ?_)
              clear hK K
              try simp only [Act.put, List.setIfInBounds_toArray, List.set_cons_zero, List.set_cons_succ]
              refine wpAnyH_ready (rs := [2, 4]) (by kernel_rfl) (by simp) ?_
              refine AllReadyH.cons (o := ⟨some 63, _, _, _, _, _⟩) rfl (fun K hK => ?_) (AllReadyH.cons (o := ⟨some 65, _, _, _, _, _⟩) rfl (fun K hK => ?_) AllReadyH.nil)
              · have hmade := World.ownsRow_made (base := wr.heap.size) (e := 53) (size := 2) wr #[] 0 (Nat.le_refl _) (Nat.zero_le _) rfl
                refine stepH_append rfl _ _ rfl wr.heap.size (.slice (some ⟨wr.heap.size, 0, none⟩) 0 0) 0 [] rfl (by exact hmade) a l.length c _ rfl HS1L.out (HS1C.out _ (((Below.refl wr.heap.size wr).alloc (Nat.le_refl _) (.cells #[] 53)).drew)) (hdL_one _) (by omega) (by first | (simp only [World.size_alloc]; omega) | (simp only [World.size_drew, World.size_alloc]; omega)) ?_
                intro v1 W1 ho1 hg1
                have HB1 := Lib.hid (show Below wr.heap.size wr W1 from (((Below.refl wr.heap.size wr).alloc (Nat.le_refl _) (.cells #[] 53)).drew).grown hg1 (by first | (simp only [World.size_alloc]; omega) | (simp only [World.size_drew, World.size_alloc]; omega)) (fun _ e => ob_ge e (by omega)))
                have HO1 := Lib.hid ho1
                have hs1 := HB1.out.size
                clear ho1 hg1 hmade
                refine hK.out _ _ (HK.out _ (HB1.out)) (fun hHeld => ?_)
                clear hK K
                try simp only [Act.put, List.setIfInBounds_toArray, List.set_cons_zero, List.set_cons_succ]
                refine wpAnyH_ready (rs := [4]) (by kernel_rfl) (by simp) ?_
                refine AllReadyH.cons (o := ⟨some 65, _, _, _, _, _⟩) rfl (fun K hK => ?_) AllReadyH.nil
                go_simp
                refine hK.out _ _ (HK.out _ (HB1.out.alloc HB1.out.size (.cells #[.string name, .string v] 53))) (fun hHeld => ?_)
                clear hK K
                try simp only [Act.put, List.setIfInBounds_toArray, List.set_cons_zero, List.set_cons_succ]
                refine wpAnyH_ready (rs := [5]) (by kernel_rfl) (by simp) ?_
                refine AllReadyH.cons (o := ⟨some 66, _, _, _, _, _⟩) rfl (fun K hK => ?_) AllReadyH.nil
                refine stepH_append rfl _ _ rfl wr.heap.size v1 _ _ rfl (HO1.out.alloc _) ⟨W1.heap.size, 0, none⟩ 1 1 [.string name, .string v] rfl rfl (two_new W1 name v) two_one22 (by omega) (by (try simp only [World.size_alloc]); omega) ?_
                intro v2 W2 ho2 hg2
                have HB2 := Lib.hid (show Below wr.heap.size wr W2 from (HB1.out.alloc HB1.out.size (.cells #[.string name, .string v] 53)).grown hg2 (by (try simp only [World.size_alloc]); omega) (fun g hg => (HO1.out.lt g hg).1))
                have HO2 := Lib.hid ho2
                have hs2 := HB2.out.size
                clear ho2 hg2 HO1 HB1
                refine hK.out _ _ (HK.out _ (HB2.out)) (fun hHeld => ?_)
                clear hK K
                try simp only [Act.put, List.setIfInBounds_toArray, List.set_cons_zero, List.set_cons_succ]
                refine wpAnyH_take (i := 6) (oi := ⟨some 6, _, _, _, _, _⟩) (v := ?_) rfl (by kernel_rfl) (by kernel_rfl) (by kernel_rfl) (fun _ _ _ h => h) (Or.inl ⟨by rfl, ?_⟩) hHeld ?_
                rotate_left
                focus (intro wq hSw; (try dsimp only at hSw); go_simp; try with_reducible rfl; done)
                simp only [Act.put, List.setIfInBounds_toArray, List.set_cons_zero, List.set_cons_succ]
                refine wpAnyH_take (i := 7) (oi := ⟨some 7, _, _, _, _, _⟩) (v := ?_) rfl (by kernel_rfl) (by kernel_rfl) (by kernel_rfl) (fun _ _ _ h => h) (Or.inl ⟨by rfl, ?_⟩) hHeld ?_
                rotate_left
                focus (intro wq hSw; (try dsimp only at hSw); go_simp; try with_reducible rfl; done)
                simp only [Act.put, List.setIfInBounds_toArray, List.set_cons_zero, List.set_cons_succ]
                refine wpAnyH_done (by kernel_rfl) ?_ _
                have HO4 : W2.ownsRow wr.heap.size 53 2 v2 (l ++ [(⟨name, v⟩ : Prm)]).length (prmL (l ++ [⟨name, v⟩])) := by
                  have e : prmL (l ++ [⟨name, v⟩]) = [] ++ prmL l ++ [.string name, .string v] := by rw [prmL_app]; rfl
                  have e2 : (l ++ [(⟨name, v⟩ : Prm)]).length = 0 + l.length + 1 := by simp
                  rw [e, e2]
                  exact HO2.out
                obtain ⟨A4, c4, rfl, hp4⟩ := hdrs_of_own HO4
                have HP4 := Lib.hid (HdIn.ps hp4)
                clear HO4 hp4 HO2
                go_wp2
                go_ret2
                exact ⟨A4, c4, by rw [HS.out]; simp, by rw [HS.out]; exact HP4.out, HW.out.trans (HB2.out.mono hwr)⟩
              · go_simp
                refine hK.out _ _ (HK.out _ ((((Below.refl wr.heap.size wr).alloc (Nat.le_refl _) (.cells #[] 53)).alloc (by first | (simp only [World.size_alloc]; omega) | (simp only [World.size_drew, World.size_alloc]; omega)) (.cells #[.string name, .string v] 53)).drew)) (fun hHeld => ?_)
                clear hK K
                try simp only [Act.put, List.setIfInBounds_toArray, List.set_cons_zero, List.set_cons_succ]
                refine wpAnyH_ready (rs := [2]) (by kernel_rfl) (by simp) ?_
                refine AllReadyH.cons (o := ⟨some 63, _, _, _, _, _⟩) rfl (fun K hK => ?_) AllReadyH.nil
                have hmade := (World.ownsRow_made (base := wr.heap.size) (e := 53) (size := 2) wr #[] 0 (Nat.le_refl _) (Nat.zero_le _) rfl).alloc (.cells #[.string name, .string v] 53)
                have hbox := Blk.new (wr.alloc (.cells #[] 53)) 53 #[.string name, .string v]
                rw [World.size_alloc] at hbox
                refine stepH_append rfl _ _ rfl wr.heap.size (.slice (some ⟨wr.heap.size, 0, none⟩) 0 0) 0 [] rfl (by exact hmade) a l.length c _ rfl HS1L.out (HS1C.out _ ((((Below.refl wr.heap.size wr).alloc (Nat.le_refl _) (.cells #[] 53)).alloc (by first | (simp only [World.size_alloc]; omega) | (simp only [World.size_drew, World.size_alloc]; omega)) (.cells #[.string name, .string v] 53)).drew)) (hdL_one _) (by omega) (by first | (simp only [World.size_alloc]; omega) | (simp only [World.size_drew, World.size_alloc]; omega)) ?_
                intro v1 W1 ho1 hg1
                have HB1 := Lib.hid (show Below wr.heap.size wr W1 from ((((Below.refl wr.heap.size wr).alloc (Nat.le_refl _) (.cells #[] 53)).alloc (by first | (simp only [World.size_alloc]; omega) | (simp only [World.size_drew, World.size_alloc]; omega)) (.cells #[.string name, .string v] 53)).drew).grown hg1 (by first | (simp only [World.size_alloc]; omega) | (simp only [World.size_drew, World.size_alloc]; omega)) (fun _ e => ob_ge e (by omega)))
                have HO1 := Lib.hid ho1
                have hs1 := HB1.out.size
                have HX1 := Lib.hid (show Blk W1 (wr.heap.size + 1) 53 #[.string name, .string v] from (hg1.block (wr.heap.size + 1) (by first | (simp only [World.size_alloc]; omega) | (simp only [World.size_drew, World.size_alloc]; omega)) (ob_ne (by omega))).trans hbox)
                clear ho1 hg1 hmade hbox
                refine hK.out _ _ (HK.out _ (HB1.out)) (fun hHeld => ?_)
                clear hK K
                try simp only [Act.put, List.setIfInBounds_toArray, List.set_cons_zero, List.set_cons_succ]
                refine wpAnyH_ready (rs := [5]) (by kernel_rfl) (by simp) ?_
                refine AllReadyH.cons (o := ⟨some 66, _, _, _, _, _⟩) rfl (fun K hK => ?_) AllReadyH.nil
                refine stepH_append rfl _ _ rfl wr.heap.size v1 _ _ rfl (HO1.out) ⟨wr.heap.size + 1, 0, none⟩ 1 1 [.string name, .string v] rfl rfl (two_blk HX1.out) two_one22 (by omega) (by (try simp only [World.size_alloc]); omega) ?_
                intro v2 W2 ho2 hg2
                have HB2 := Lib.hid (show Below wr.heap.size wr W2 from (HB1.out).grown hg2 (by (try simp only [World.size_alloc]); omega) (fun g hg => (HO1.out.lt g hg).1))
                have HO2 := Lib.hid ho2
                have hs2 := HB2.out.size
                clear ho2 hg2 HO1 HB1
                refine hK.out _ _ (HK.out _ (HB2.out)) (fun hHeld => ?_)
                clear hK K
                try simp only [Act.put, List.setIfInBounds_toArray, List.set_cons_zero, List.set_cons_succ]
                refine wpAnyH_take (i := 6) (oi := ⟨some 6, _, _, _, _, _⟩) (v := ?_) rfl (by kernel_rfl) (by kernel_rfl) (by kernel_rfl) (fun _ _ _ h => h) (Or.inl ⟨by rfl, ?_⟩) hHeld ?_
                rotate_left
                focus (intro wq hSw; (try dsimp only at hSw); go_simp; try with_reducible rfl; done)
                simp only [Act.put, List.setIfInBounds_toArray, List.set_cons_zero, List.set_cons_succ]
                refine wpAnyH_take (i := 7) (oi := ⟨some 7, _, _, _, _, _⟩) (v := ?_) rfl (by kernel_rfl) (by kernel_rfl) (by kernel_rfl) (fun _ _ _ h => h) (Or.inl ⟨by rfl, ?_⟩) hHeld ?_
                rotate_left
                focus (intro wq hSw; (try dsimp only at hSw); go_simp; try with_reducible rfl; done)
                simp only [Act.put, List.setIfInBounds_toArray, List.set_cons_zero, List.set_cons_succ]
                refine wpAnyH_done (by kernel_rfl) ?_ _
                have HO4 : W2.ownsRow wr.heap.size 53 2 v2 (l ++ [(⟨name, v⟩ : Prm)]).length (prmL (l ++ [⟨name, v⟩])) := by
                  have e : prmL (l ++ [⟨name, v⟩]) = [] ++ prmL l ++ [.string name, .string v] := by rw [prmL_app]; rfl
                  have e2 : (l ++ [(⟨name, v⟩ : Prm)]).length = 0 + l.length + 1 := by simp
                  rw [e, e2]
                  exact HO2.out
                obtain ⟨A4, c4, rfl, hp4⟩ := hdrs_of_own HO4
                have HP4 := Lib.hid (HdIn.ps hp4)
                clear HO4 hp4 HO2
                go_wp2
                go_ret2
                exact ⟨A4, c4, by rw [HS.out]; simp, by rw [HS.out]; exact HP4.out, HW.out.trans (HB2.out.mono hwr)⟩
            · go_simp
              refine hK.out _ _ (HK.out _ (((Below.refl wr.heap.size wr).alloc (Nat.le_refl _) (.cells #[.string name, .string v] 53)).drew)) (fun hHeld => ?_)
              clear hK K
              try simp only [Act.put, List.setIfInBounds_toArray, List.set_cons_zero, List.set_cons_succ]
              refine wpAnyH_ready (rs := [0]) (by kernel_rfl) (by simp) ?_
              refine AllReadyH.cons (o := ⟨some 61, _, _, _, _, _⟩) rfl (fun K hK => ?_) AllReadyH.nil
              go_simp
              refine hK.out _ _ (HK.out _ ((((Below.refl wr.heap.size wr).alloc (Nat.le_refl _) (.cells #[.string name, .string v] 53)).alloc (by first | (simp only [World.size_alloc]; omega) | (simp only [World.size_drew, World.size_alloc]; omega)) (.cells #[] 53)).drew)) (fun hHeld => ?_)
              clear hK K
              try simp only [Act.put, List.setIfInBounds_toArray, List.set_cons_zero, List.set_cons_succ]
              refine wpAnyH_ready (rs := [2]) (by kernel_rfl) (by simp) ?_
              refine AllReadyH.cons (o := ⟨some 63, _, _, _, _, _⟩) rfl (fun K hK => ?_) AllReadyH.nil
              have hmade := World.ownsRow_made (base := wr.heap.size) (e := 53) (size := 2) (wr.alloc (.cells #[.string name, .string v] 53)) #[] 0 (by first | (simp only [World.size_alloc]; omega) | (simp only [World.size_drew, World.size_alloc]; omega)) (Nat.zero_le _) rfl
              rw [World.size_alloc] at hmade
              have hbox := (Blk.new wr 53 #[.string name, .string v]).alloc (.cells #[] 53)
              refine stepH_append rfl _ _ rfl wr.heap.size (.slice (some ⟨wr.heap.size + 1, 0, none⟩) 0 0) 0 [] rfl (by exact hmade) a l.length c _ rfl HS1L.out (HS1C.out _ ((((Below.refl wr.heap.size wr).alloc (Nat.le_refl _) (.cells #[.string name, .string v] 53)).alloc (by first | (simp only [World.size_alloc]; omega) | (simp only [World.size_drew, World.size_alloc]; omega)) (.cells #[] 53)).drew)) (hdL_one _) (by omega) (by first | (simp only [World.size_alloc]; omega) | (simp only [World.size_drew, World.size_alloc]; omega)) ?_
              intro v1 W1 ho1 hg1
              have HB1 := Lib.hid (show Below wr.heap.size wr W1 from ((((Below.refl wr.heap.size wr).alloc (Nat.le_refl _) (.cells #[.string name, .string v] 53)).alloc (by first | (simp only [World.size_alloc]; omega) | (simp only [World.size_drew, World.size_alloc]; omega)) (.cells #[] 53)).drew).grown hg1 (by first | (simp only [World.size_alloc]; omega) | (simp only [World.size_drew, World.size_alloc]; omega)) (fun _ e => ob_ge e (by omega)))
              have HO1 := Lib.hid ho1
              have hs1 := HB1.out.size
              have HX1 := Lib.hid (show Blk W1 wr.heap.size 53 #[.string name, .string v] from (hg1.block wr.heap.size (by first | (simp only [World.size_alloc]; omega) | (simp only [World.size_drew, World.size_alloc]; omega)) (ob_ne (by omega))).trans hbox)
              clear ho1 hg1 hmade hbox
              refine hK.out _ _ (HK.out _ (HB1.out)) (fun hHeld => ?_)
              clear hK K
              try simp only [Act.put, List.setIfInBounds_toArray, List.set_cons_zero, List.set_cons_succ]
              refine wpAnyH_ready (rs := [5]) (by kernel_rfl) (by simp) ?_
              refine AllReadyH.cons (o := ⟨some 66, _, _, _, _, _⟩) rfl (fun K hK => ?_) AllReadyH.nil
              refine stepH_append rfl _ _ rfl wr.heap.size v1 _ _ rfl (HO1.out) ⟨wr.heap.size, 0, none⟩ 1 1 [.string name, .string v] rfl rfl (two_blk HX1.out) two_one22 (by omega) (by (try simp only [World.size_alloc]); omega) ?_
              intro v2 W2 ho2 hg2
              have HB2 := Lib.hid (show Below wr.heap.size wr W2 from (HB1.out).grown hg2 (by (try simp only [World.size_alloc]); omega) (fun g hg => (HO1.out.lt g hg).1))
              have HO2 := Lib.hid ho2
              have hs2 := HB2.out.size
              clear ho2 hg2 HO1 HB1
              refine hK.out _ _ (HK.out _ (HB2.out)) (fun hHeld => ?_)
              clear hK K
              try simp only [Act.put, List.setIfInBounds_toArray, List.set_cons_zero, List.set_cons_succ]
              refine wpAnyH_take (i := 6) (oi := ⟨some 6, _, _, _, _, _⟩) (v := ?_) rfl (by kernel_rfl) (by kernel_rfl) (by kernel_rfl) (fun _ _ _ h => h) (Or.inl ⟨by rfl, ?_⟩) hHeld ?_
              rotate_left
              focus (intro wq hSw; (try dsimp only at hSw); go_simp; try with_reducible rfl; done)
              simp only [Act.put, List.setIfInBounds_toArray, List.set_cons_zero, List.set_cons_succ]
              refine wpAnyH_take (i := 7) (oi := ⟨some 7, _, _, _, _, _⟩) (v := ?_) rfl (by kernel_rfl) (by kernel_rfl) (by kernel_rfl) (fun _ _ _ h => h) (Or.inl ⟨by rfl, ?_⟩) hHeld ?_
              rotate_left
              focus (intro wq hSw; (try dsimp only at hSw); go_simp; try with_reducible rfl; done)
              simp only [Act.put, List.setIfInBounds_toArray, List.set_cons_zero, List.set_cons_succ]
              refine wpAnyH_done (by kernel_rfl) ?_ _
              have HO4 : W2.ownsRow wr.heap.size 53 2 v2 (l ++ [(⟨name, v⟩ : Prm)]).length (prmL (l ++ [⟨name, v⟩])) := by
                have e : prmL (l ++ [⟨name, v⟩]) = [] ++ prmL l ++ [.string name, .string v] := by rw [prmL_app]; rfl
                have e2 : (l ++ [(⟨name, v⟩ : Prm)]).length = 0 + l.length + 1 := by simp
                rw [e, e2]
                exact HO2.out
              obtain ⟨A4, c4, rfl, hp4⟩ := hdrs_of_own HO4
              have HP4 := Lib.hid (HdIn.ps hp4)
              clear HO4 hp4 HO2
              go_wp2
              go_ret2
              exact ⟨A4, c4, by rw [HS.out]; simp, by rw [HS.out]; exact HP4.out, HW.out.trans (HB2.out.mono hwr)⟩

end Go.Proofs.Ytjikahflbhgniaa
