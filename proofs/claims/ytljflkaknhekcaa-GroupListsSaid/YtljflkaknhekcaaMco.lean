/-
  An argument that is a type, written out. No condition.
-/
import Derived.Test.YtljflkaknhekcaaMx
import Derived.Test.YtljflkaknhekcaaLift
import Derived.Deep.Slices
import Derived.Lib.SmallJoins
import Derived.ChangeMaps5
import Derived.OpenShut
namespace Go.Proofs.Ytljflkaknhekcaa
open Go.ChangeShapes Go.WideShapes Go.ChangeAt Go.RowKit Go.Joins Go.Deep

theorem Try.cellsMime : Try.prog.cellsOf 24 = 3 := by kernel_rfl
theorem Try.cellsPrm : Try.prog.cellsOf 33 = 2 := by kernel_rfl
theorem Try.cellsStr1 : Try.prog.cellsOf 9 = 1 := by kernel_rfl

theorem open_str {H : Type} {enc : TypeId × Value → H} {W : World} {base : Nat} {spare : Nat → Bool} {held : Bool} {n : Nat} {v : Value} {y : DataW H × List MemPlace}
    (h : DataW.trod enc Try.prog W base spare held n 9 [v] = some y) : ∃ s : ByteArray, v = .string s ∧ s.size ≤ 9223372036854775807 := by
  obtain ⟨s, e, _, hs⟩ := DataW.trod_string Try.underlying9 h
  unfold maxLen at hs
  exact ⟨s, by simpa using e, hs⟩

set_option maxRecDepth 100000 in
theorem open_prms {H : Type} {enc : TypeId × Value → H} {W : World} {f : Nat} {v : Value} {y : DataW H × List MemPlace}
    (h : DataW.trod enc Try.prog W 0 (fun _ => true) true f 22 [v] = some y) :
    ∃ (A : Option Addr) (n c : Nat) (lp : Nat → Prm), v = .slice A n c ∧ n ≤ 9223372036854775807 ∧ Came W A n lp := by
  rcases open_slice Try.underlying22 h with ⟨hc, _⟩ | ⟨a, len, cap, m, nn, D, Pl, hc, _, hl, hm, hmm, _, hi⟩
  · simp at hc
    subst hc
    exact ⟨none, 0, 0, fun _ => ⟨⟨#[]⟩, ⟨#[]⟩⟩, rfl, by omega, fun i h => absurd h (by omega)⟩
  · simp at hc
    subst hc
    simp at hmm
    unfold maxLen at hm
    have key : ∀ i, i < len → ∃ p : Prm, a.block < W.heap.size ∧ W.cell? (a.add (i * 2)) = some (.string p.n) ∧ W.cell? ⟨(a.add (i * 2)).block, (a.add (i * 2)).off + 1, none⟩ = some (.string p.v) ∧ p.n.size ≤ 9223372036854775807 ∧ p.v.size ≤ 9223372036854775807 := fun i hin => by
      obtain ⟨cs, hcs, ht⟩ := hi i (by omega)
      rw [Try.cellsPrm] at hcs
      obtain ⟨_, hlen, hat⟩ := World.cells?_some hcs
      obtain ⟨y0, y1, k, _, _, t0, t1⟩ := trod_struct2 Try.underlying33 ht
      match cs, hlen with
      | [v0, v1], _ =>
        simp [Try.cellsStr1] at t0 t1
        obtain ⟨s0, rfl, e0⟩ := open_str t0
        obtain ⟨s1, rfl, e1⟩ := open_str t1
        have c0 : W.cell? (a.add (i * 2)) = some (.string s0) := by
          have := hat 0 (by omega)
          simpa [Try.cellsPrm, Addr.add] using this
        have c1 := hat 1 (by omega)
        have hblk := World.block_lt_of_cell? W _ c0
        rw [madd_block] at hblk
        exact ⟨⟨s0, s1⟩, hblk, c0, c1, e0, e1⟩
    refine ⟨some a, len, cap, fun i => if hi : i < len then Classical.choose (key i hi) else ⟨⟨#[]⟩, ⟨#[]⟩⟩, rfl, by omega, fun i hin => ?_⟩
    simp only [dif_pos hin]
    exact ⟨a, rfl, Classical.choose_spec (key i hin)⟩

set_option maxRecDepth 100000 in
theorem open_mime {H : Type} {enc : TypeId × Value → H} {W : World} {base : Nat} {v : Value} {d : DataW H} {p : List MemPlace}
    (hv : Value.okWide Try.prog W .any base 24 v) (h : DataW.Trod enc Try.prog W 0 (fun _ => true) true 24 v d p) :
    ∃ (t u : ByteArray) (A : Option Addr) (n c : Nat) (lp : Nat → Prm), v = mimV t u A n c ∧ t.size ≤ 9223372036854775807 ∧ u.size ≤ 9223372036854775807 ∧ n ≤ 9223372036854775807 ∧ Came W A n lp := by
  obtain ⟨v0, v1, v2, y0, y1, y2, k, rfl, _, _, h0, h1, h2⟩ := open_agg3 Try.underlying24 (by kernel_rfl) Try.cellsMime hv h
  obtain ⟨s0, rfl, e0⟩ := open_str h0
  obtain ⟨s1, rfl, e1⟩ := open_str h1
  obtain ⟨A, n, c, lp, rfl, hn, hc⟩ := open_prms h2
  exact ⟨s0, s1, A, n, c, lp, rfl, e0, e1, hn, hc⟩

end Go.Proofs.Ytljflkaknhekcaa

