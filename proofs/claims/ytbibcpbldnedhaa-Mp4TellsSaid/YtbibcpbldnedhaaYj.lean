/-
  What lives and same of layer 16's statements answer. Condition: the text takes at most 2^40 bytes.
-/
import Derived.Test.YtbibcpbldnedhaaYd
import Derived.Test.YtbibcpbldnedhaaYh
import Derived.Test.YtbibcpbldnedhaaCut
import Derived.Test.YtbibcpbldnedhaaKv
import Derived.BigQuiet
namespace Go.Proofs.Ytbibcpbldnedhaa
open Go.RowKit

abbrev flmA : ByteArray := ⟨#[0, 0, 0, 12, 102, 116, 121, 112, 109, 112, 52, 50]⟩
abbrev flmB : ByteArray := ⟨#[0, 0, 0, 12, 102, 116, 121, 112, 109, 113, 52, 50]⟩

set_option maxHeartbeats 1000000 in
theorem lives16_any (w : World) :
    Calls Try.prog 16 #[] w fun e w' => e = .returned (.bool true) ∧ Below w.heap.size w w' := by
  have H1 := Lib.hid (fun W => mp4Is_any flmA W (by show 12 ≤ _; omega))
  have H2 := Lib.hid (fun W => mp4Is_any flmB W (by show 12 ≤ _; omega))
  have H3 := Lib.hid (fun W => mp4Head_any flmB W (by show 12 ≤ _; omega))
  rw [show filmB flmA = true from by kernel_rfl] at H1
  rw [show filmB flmB = false from by kernel_rfl] at H2
  rw [show filmH flmB = true from by kernel_rfl] at H3
  have HB := Lib.hid (Below.refl w.heap.size w)
  go_enter Try.func16, Try.ntmps16
  go_wp2_with (first
    | (go_at_call 11; (first | with_reducible refine (H1.out _).mono ?_ | with_reducible refine (H2.out _).mono ?_); rintro e w1 ⟨rfl, b1⟩; have HB := Lib.hid (HB.out.trans (b1.mono HB.out.size)); clear b1)
    | (go_at_call 9; (with_reducible refine (H3.out _).mono ?_); rintro e w1 ⟨rfl, b1⟩; have HB := Lib.hid (HB.out.trans (b1.mono HB.out.size)); clear b1))
  go_ret
  exact ⟨rfl, HB.out⟩

/-- These boxes lie behind A. -/
def BxIn (w : World) (A : Option Addr) (l : List Bx) : Prop := ∀ i (h : i < l.length), ∃ g, A = some ⟨g, 0, none⟩ ∧ g < w.heap.size ∧ w.cell? ⟨g, i * 2, none⟩ = some (.string l[i].nm) ∧ w.cell? ⟨g, i * 2 + 1, none⟩ = some (.int .i64 (l[i].n : Nat))
theorem bxL_len : ∀ l : List Bx, (bxL l).length = l.length * 2
  | [] => rfl
  | b :: l => by
    have := bxL_len l
    unfold bxL at this ⊢
    rw [List.flatMap_cons, List.length_append, this, List.length_cons]
    simp
    omega
theorem bxL_at : ∀ (l : List Bx) (i : Nat) (h : i < l.length), (bxL l)[i * 2]? = some (.string l[i].nm) ∧ (bxL l)[i * 2 + 1]? = some (.int .i64 (l[i].n : Nat))
  | [], i, h => absurd h (by simp)
  | b :: l, 0, h => ⟨rfl, rfl⟩
  | b :: l, i + 1, h => by
    have h2 : i < l.length := by simpa using h
    have := bxL_at l i h2
    have e1 : (i + 1) * 2 = i * 2 + 1 + 1 := by omega
    unfold bxL at this ⊢
    rw [List.flatMap_cons, e1]
    simpa using this
theorem BxIn.of_own {w : World} {base : Nat} {v : Value} {l : List Bx} (h : w.ownsRow base 45 2 v l.length (bxL l)) : ∃ A c, v = .slice A l.length c ∧ BxIn w A l := by
  rcases h.2 with ⟨hv, hn⟩ | ⟨g, cap, cur, hv, hb, hg, hc, _⟩
  · exact ⟨none, 0, by rw [hv, hn], fun i hi => absurd hi (by omega)⟩
  · refine ⟨_, cap, hv, fun i hi => ?_⟩
    subst hv
    have h1 := h.cellAt (i * 2) (by omega)
    have h2 := h.cellAt (i * 2 + 1) (by omega)
    obtain ⟨e1, e2⟩ := bxL_at l i hi
    exact ⟨g, rfl, (Array.getElem?_eq_some_iff.1 hg).1, h1.trans e1, h2.trans e2⟩
theorem BxIn.below {w w' : World} {A : Option Addr} {l : List Bx} (h : BxIn w A l) (hb : Below w.heap.size w w') : BxIn w' A l := fun i hi => by
  obtain ⟨g, e, hl, h1, h2⟩ := h i hi
  exact ⟨g, e, Nat.lt_of_lt_of_le hl hb.size, (hb.cell (p := ⟨g, i * 2, none⟩) hl).trans h1, (hb.cell (p := ⟨g, i * 2 + 1, none⟩) hl).trans h2⟩

set_option maxHeartbeats 2000000 in
set_option maxRecDepth 100000 in
theorem same16_any (s : ByteArray) (w : World) (hs : s.size ≤ 1099511627776) :
    Calls Try.prog 17 #[.string s] w fun e w' => e = .returned (.bool true) ∧ Below w.heap.size w w' := by
  have HP := Lib.hid (fun W => mp4Boxes_any s W hs)
  have HR := Lib.hid (fun W => rboxes16_any s W hs)
  obtain ⟨h1, h2⟩ := boxG_len s.size s (Nat.le_refl _)
  generalize boxG s = bs at *
  obtain ⟨l, n⟩ := bs
  simp only at h1 h2
  go_enter Try.func17, Try.ntmps17
  go_wp2_with fail
  refine (HP.out _).mono ?_
  rintro e w1 ⟨v, rfl, ho, hb⟩
  obtain ⟨A, c, rfl, hx⟩ := BxIn.of_own ho
  have HX := Lib.hid hx
  have HB := Lib.hid hb
  clear ho hb hx
  go_wp2_with fail
  refine (HR.out _).mono ?_
  rintro e w2 ⟨v, rfl, ho, hb⟩
  obtain ⟨A2, c2, rfl, hx⟩ := BxIn.of_own ho
  have HX1 := Lib.hid (HX.out.below hb)
  have HX2 := Lib.hid hx
  have HB2 := Lib.hid (HB.out.trans (hb.mono HB.out.size))
  clear ho hb hx HX HB
  go_wp2
  go_loopw [7] (fun i wr => ∃ k : Nat, k ≤ l.length ∧ i = .int .i64 (k : Nat) ∧ Below w2.heap.size w2 wr) (fun i _ => l.length - (intOf i).toNat)
  case atStart => exact ⟨0, Nat.zero_le _, rfl, Below.refl _ _⟩
  case round =>
    obtain ⟨k, hk, rfl, hw⟩ := hrel
    have HW := Lib.hid hw
    clear hw
    by_cases hlt : k < l.length
    · obtain ⟨g, rfl, hg, c0, c1⟩ := HX1.out.below HW.out k hlt
      obtain ⟨g', rfl, hg', c0', c1'⟩ := HX2.out.below HW.out k hlt
      generalize l[k] = x at *
      obtain ⟨nm, q⟩ := x
      simp only at c0 c1 c0' c1'
      go_wp2_with fail
      go_quiet (fail)
      go_wp2
      go_roundw
      case rel => exact ⟨k + 1, by omega, by go_num, Below.drewN' HW.out _⟩
      case measure => simp [intOf]; omega
    · obtain rfl : k = l.length := by omega
      go_wp2
      go_ret
      exact ⟨rfl, HB2.out.trans (HW.out.mono HB2.out.size)⟩

end Go.Proofs.Ytbibcpbldnedhaa
