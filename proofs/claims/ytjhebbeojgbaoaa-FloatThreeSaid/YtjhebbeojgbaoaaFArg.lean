/-
  Arguments that are 64 bits, or a slice of such, written out. No condition.
-/
import Derived.Test.YtjhebbeojgbaoaaFRLaw
import Derived.Test.YtjhebbeojgbaoaaLift
import Derived.Deep.Slices
import Derived.Deep.Strs
import Derived.ChangeMaps5
namespace Go.Proofs.Ytjhebbeojgbaoaa
open Go.ChangeShapes Go.WideShapes Go.ChangeAt Go.RowKit Go.Joins Go.Deep

/-- A number that can be read as 64 bits is one's. -/
theorem bits64_of {n : Int} (h : (Lit.int .u64 n).wf = true) : ∃ b : Nat, n = (b : Int) ∧ b < 18446744073709551616 := by
  have h' : 0 ≤ n ∧ n < 18446744073709551616 := by
    have e1 : IntKind.u64.min = 0 := by kernel_rfl
    have e2 : IntKind.u64.max = 18446744073709551615 := by kernel_rfl
    simp [Lit.wf, e1, e2] at h
    omega
  exact ⟨n.toNat, by omega, by omega⟩

theorem Try.cellsU64 : Try.prog.cellsOf 22 = 1 := by kernel_rfl

theorem open_bits {H : Type} {enc : TypeId × Value → H} {W : World} {base : Nat} {v : Value} {d : DataW H} {p : List MemPlace}
    (hv : Value.okWide Try.prog W .any base 37 v) (h : DataW.Trod enc Try.prog W 0 (fun _ => true) true 37 v d p) :
    ∃ (A : Option Addr) (n c : Nat) (lp : Nat → Nat), v = .slice A n c ∧ n ≤ 9223372036854775807 ∧ Bit64 W A n lp := by
  obtain ⟨fuel, hf⟩ := h
  obtain ⟨A, n, c, rfl⟩ := okWide_slice Try.underlying37 hv
  rcases open_slice Try.underlying37 hf with ⟨hc, _⟩ | ⟨a, len, cap, m, nn, D, Pl, hc, _, hl, hm, hmm, _, hi⟩
  · simp [Value.cells] at hc
    obtain ⟨rfl, rfl, rfl⟩ := hc
    exact ⟨none, 0, 0, fun _ => 0, rfl, by omega, fun i h => absurd h (by omega)⟩
  · simp [Value.cells] at hc
    obtain ⟨rfl, rfl, rfl⟩ := hc
    simp at hmm
    unfold maxLen at hm
    have hall : ∀ i, i < n → ∃ b : Nat, W.cell? (a.add i) = some (.int .u64 (b : Int)) ∧ b < 18446744073709551616 := fun i hin => by
      obtain ⟨cs, hcs, ht⟩ := hi i (by omega)
      rw [Try.cellsU64] at hcs
      obtain ⟨_, hlen, hat⟩ := World.cells?_some hcs
      match cs, hlen with
      | [v0], _ =>
        obtain ⟨k0, e0, _, w0⟩ := DataW.trod_int Try.underlying22 ht
        simp at e0
        subst e0
        obtain ⟨b, rfl, hb⟩ := bits64_of w0
        have c0 : W.cell? (a.add i) = some (.int .u64 (b : Int)) := by
          have := hat 0 (by omega)
          simpa [Try.cellsU64, Addr.add] using this
        exact ⟨b, c0, hb⟩
    refine ⟨some a, n, c, fun i => if hin : i < n then Classical.choose (hall i hin) else 0, rfl, by omega, fun i hin => ?_⟩
    have hb := Classical.choose_spec (hall i hin)
    simp only [dif_pos hin]
    have hblk := World.block_lt_of_cell? W _ hb.1
    rw [madd8_block] at hblk
    exact ⟨a, rfl, hblk, hb.1, hb.2⟩

end Go.Proofs.Ytjhebbeojgbaoaa
