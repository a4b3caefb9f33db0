/-
  An argument that is a slice of texts, written out. No condition.
-/
import Derived.Test.YtmepnfkgfbbkiaaGreatZ4
import Derived.Test.YtmepnfkgfbbkiaaGreatLift
import Derived.Deep.Slices
import Derived.Lib.SmallJoins
import Derived.ChangeMaps5
import Derived.OpenShut
namespace Go.Proofs.YtmepnfkgfbbkiaaGreat
open Go.ChangeShapes Go.WideShapes Go.ChangeAt Go.RowKit Go.Joins Go.Deep

theorem Tryz.cellsTxt : Tryz.prog.cellsOf 9 = 1 := by kernel_rfl
theorem open_txt {H : Type} {enc : TypeId × Value → H} {W : World} {base : Nat} {spare : Nat → Bool} {held : Bool} {n : Nat} {v : Value} {y : DataW H × List MemPlace}
    (h : DataW.trod enc Tryz.prog W base spare held n 9 [v] = some y) : ∃ s : ByteArray, v = .string s ∧ s.size ≤ 9223372036854775807 := by
  obtain ⟨s, e, _, hs⟩ := DataW.trod_string Tryz.underlying9 h
  unfold maxLen at hs
  exact ⟨s, by simpa using e, hs⟩

set_option maxRecDepth 100000 in
theorem open_txs {H : Type} {enc : TypeId × Value → H} {W : World} {base : Nat} {v : Value} {d : DataW H} {p : List MemPlace}
    (hv : Value.okWide Tryz.prog W .any base 22 v) (h : DataW.Trod enc Tryz.prog W 0 (fun _ => true) true 22 v d p) :
    ∃ (A : Option Addr) (n c : Nat) (lp : Nat → ByteArray), v = .slice A n c ∧ n ≤ 9223372036854775807 ∧ TxCame W A n lp := by
  obtain ⟨fuel, hf⟩ := h
  obtain ⟨A, n, c, rfl⟩ := okWide_slice Tryz.underlying22 hv
  rcases open_slice Tryz.underlying22 hf with ⟨hc, _⟩ | ⟨a, len, cap, m, nn, D, Pl, hc, _, hl, hm, hmm, _, hi⟩
  · simp [Value.cells] at hc
    obtain ⟨rfl, rfl, rfl⟩ := hc
    exact ⟨none, 0, 0, fun _ => ⟨#[]⟩, rfl, by omega, fun i h => absurd h (by omega)⟩
  · simp [Value.cells] at hc
    obtain ⟨rfl, rfl, rfl⟩ := hc
    simp at hmm
    unfold maxLen at hm
    have key : ∀ i, i < n → ∃ s : ByteArray, a.block < W.heap.size ∧ W.cell? (a.add i) = some (.string s) ∧ s.size ≤ 9223372036854775807 := fun i hin => by
      obtain ⟨cs, hcs, ht⟩ := hi i (by omega)
      rw [Tryz.cellsTxt] at hcs
      obtain ⟨_, hlen, hat⟩ := World.cells?_some hcs
      match cs, hlen with
      | [v0], _ =>
        obtain ⟨s0, rfl, e0⟩ := open_txt ht
        have c0 : W.cell? (a.add i) = some (.string s0) := by
          have := hat 0 (by omega)
          simpa [Tryz.cellsTxt, Addr.add] using this
        have hblk := World.block_lt_of_cell? W _ c0
        have he : (a.add i).block = a.block := by unfold Addr.add; split <;> rfl
        rw [he] at hblk
        exact ⟨s0, hblk, c0, e0⟩
    refine ⟨some a, n, c, fun i => if hi : i < n then Classical.choose (key i hi) else ⟨#[]⟩, rfl, by omega, fun i hin => ?_⟩
    simp only [dif_pos hin]
    exact ⟨a, rfl, Classical.choose_spec (key i hin)⟩

end Go.Proofs.YtmepnfkgfbbkiaaGreat
