/-
  A slice of layer 7's acts that came in, written out. No condition.
-/
import Derived.Test.YtpckaopclgcghaaLift
import Derived.Deep.Slices
import Derived.Deep.Strs
import Derived.ChangeMaps5
namespace Go.Proofs.Ytpckaopclgcghaa
open Go.ChangeShapes Go.WideShapes Go.ChangeAt Go.RowKit Go.Joins Go.Deep

theorem add_block (a : Addr) (n : Nat) : (a.add n).block = a.block := by unfold Addr.add; split <;> rfl

/-- A slice of acts that came in. -/
def Acts (w : World) (A : Option Addr) (n : Nat) : Prop := ∀ i, i < n → ∃ (a : Addr) (kd N : Int) (S : ByteArray), A = some a ∧ a.block < w.heap.size ∧
  w.cell? (a.add (i * 3)) = some (.int .i64 kd) ∧ w.cell? ⟨(a.add (i * 3)).block, (a.add (i * 3)).off + 1, none⟩ = some (.int .i64 N) ∧ w.cell? ⟨(a.add (i * 3)).block, (a.add (i * 3)).off + 2, none⟩ = some (.string S) ∧ S.size ≤ 9223372036854775807 ∧ -9223372036854775808 ≤ N ∧ N ≤ 9223372036854775807

theorem Try.cellsAct : Try.prog.cellsOf 29 = 3 := by kernel_rfl
theorem Try.cellsInt : Try.prog.cellsOf 3 = 1 := by kernel_rfl
theorem Try.cellsStr : Try.prog.cellsOf 9 = 1 := by kernel_rfl

theorem open_acts {H : Type} {enc : TypeId × Value → H} {W : World} {base : Nat} {v : Value} {d : DataW H} {p : List MemPlace}
    (hv : Value.okWide Try.prog W .any base 22 v) (h : DataW.Trod enc Try.prog W 0 (fun _ => true) true 22 v d p) :
    ∃ (A : Option Addr) (n c : Nat), v = .slice A n c ∧ n ≤ 9223372036854775807 ∧ Acts W A n := by
  obtain ⟨fuel, hf⟩ := h
  obtain ⟨A, n, c, rfl⟩ := okWide_slice Try.underlying22 hv
  rcases open_slice Try.underlying22 hf with ⟨hc, _⟩ | ⟨a, len, cap, m, nn, D, Pl, hc, _, hl, hm, hmm, _, hi⟩
  · simp [Value.cells] at hc
    obtain ⟨rfl, rfl, rfl⟩ := hc
    exact ⟨none, 0, 0, rfl, by omega, fun i h => absurd h (by omega)⟩
  · simp [Value.cells] at hc
    obtain ⟨rfl, rfl, rfl⟩ := hc
    simp at hmm
    unfold maxLen at hm
    refine ⟨some a, n, c, rfl, by omega, fun i hin => ?_⟩
    obtain ⟨cs, hcs, ht⟩ := hi i (by omega)
    rw [Try.cellsAct] at hcs
    obtain ⟨_, hlen, hat⟩ := World.cells?_some hcs
    obtain ⟨y0, y1, y2, k, _, _, t0, t1, t2⟩ := trod_struct3 Try.underlying29 ht
    match cs, hlen with
    | [v0, v1, v2], _ =>
      simp [Try.cellsInt, Try.cellsStr] at t0 t1 t2
      obtain ⟨k0, e0, _, _⟩ := DataW.trod_int Try.underlying3 t0
      obtain ⟨k1, e1, _, w1⟩ := DataW.trod_int Try.underlying3 t1
      obtain ⟨s2, e2, _, hs2⟩ := DataW.trod_string Try.underlying9 t2
      simp at e0 e1 e2
      subst e0 e1 e2
      have c0 : W.cell? (a.add (i * 3)) = some (.int .i64 k0) := by
        have := hat 0 (by omega)
        simpa [Try.cellsAct, Addr.add] using this
      have c1 := hat 1 (by omega)
      have c2 := hat 2 (by omega)
      have hblk := World.block_lt_of_cell? W _ c0
      rw [add_block] at hblk
      unfold maxLen at hs2
      have hw1 : -9223372036854775808 ≤ k1 ∧ k1 ≤ 9223372036854775807 := by
        simpa [Lit.wf, IntKind.min, IntKind.max, IntKind.signed, IntKind.bits, decide_eq_true_eq] using w1
      exact ⟨a, k0, k1, s2, rfl, hblk, c0, c1, c2, hs2, hw1.1, hw1.2⟩

end Go.Proofs.Ytpckaopclgcghaa
