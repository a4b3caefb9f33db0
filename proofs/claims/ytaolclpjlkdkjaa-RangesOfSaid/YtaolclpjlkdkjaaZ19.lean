/-
  Plain facts on headers: which are good, of which name, what their text is, and what a text's lines say. No condition.
  What Grow, Concat (of the library) and With of package mime answer. Condition: parameters are as many as a mebibyte has bytes.
  What Few of layer 10's statements answers. Condition: the texts are as long as a length can be; what an argument's reading gives.
-/
import Derived.Test.YtaolclpjlkdkjaaZ8
import Derived.Test.YtaolclpjlkdkjaaZ9
import Derived.Lib.AppendZeros
import Derived.Lib.AppendZerosOnto
import Derived.Test.YtaolclpjlkdkjaaZ17
import Derived.Deep.AppendLies
import Derived.Deep.RegionHeld3
import Derived.Deep.RegionWith
import Derived.Deep.DeepCutAuto
namespace Go.Proofs.Ytaolclpjlkdkjaa

/-- Whether a header has a name. -/
def hasN (name : ByteArray) (h : Prm) : Bool := sameB h.n name
def getN (name : ByteArray) (l : List Prm) : List ByteArray := (l.filter (hasN name)).map Prm.v
end Go.Proofs.Ytaolclpjlkdkjaa
namespace Go.Proofs.Ytaolclpjlkdkjaa
open Go.RowKit Go.Maps

theorem PsIn.cells {w : World} {a : Addr} {ps : List Prm} (h : PsIn w (some a) ps) : ∀ j u, (prmL ps)[j]? = some u → w.cell? (a.add j) = some u := fun j u hj => by
  have hjl : j < (prmL ps).length := (List.getElem?_eq_some_iff.1 hj).1
  rw [prmL_len] at hjl
  obtain ⟨i, hi⟩ : ∃ i, i = j / 2 := ⟨_, rfl⟩
  have hil : i < ps.length := by omega
  obtain ⟨g, e, _, h0, h1⟩ := h i hil
  cases e
  have ea : (⟨g, 0, none⟩ : Addr).add j = ⟨g, j, none⟩ := by cases j <;> simp [Addr.add]
  rw [ea]
  rcases (by omega : j = i * 2 ∨ j = i * 2 + 1) with e2 | e2
  · rw [e2] at hj ⊢
    rw [(prmL_at ps i hil).1] at hj
    rw [h0]; exact hj
  · rw [e2] at hj ⊢
    rw [(prmL_at ps i hil).2] at hj
    rw [h1]; exact hj
end Go.Proofs.Ytaolclpjlkdkjaa
namespace Go.Proofs.Ytaolclpjlkdkjaa
open Go.RowKit

theorem drewAlloc (w : World) (o : Obj) : Below w.heap.size w (w.alloc o).drew := ((Below.refl _ _).alloc (Nat.le_refl _) _).drew

theorem set_cell {w : World} {p q : Addr} {u v : Value} (h : w.cell? p = some v) (hne : p.block ≠ q.block) : (w.setCell q u).cell? p = some v := (World.cell?_of_block (w := w) (Below.heap_setCell w q u p.block hne)).trans h
theorem madd_block (a : Addr) (n : Nat) : (a.add n).block = a.block := by unfold Addr.add; split <;> rfl
theorem cutB_id {s : ByteArray} {n : Nat} (h : s.size ≤ n) : cutB s n = s := by unfold cutB; rw [if_neg (by omega)]
/-- Parameters that came in. -/
def Came (w : World) (A : Option Addr) (n : Nat) (lp : Nat → Prm) : Prop := ∀ i, i < n → ∃ (a : Addr), A = some a ∧ a.block < w.heap.size ∧
  w.cell? (a.add (i * 2)) = some (.string (lp i).n) ∧ w.cell? ⟨(a.add (i * 2)).block, (a.add (i * 2)).off + 1, none⟩ = some (.string (lp i).v) ∧ (lp i).n.size ≤ 9223372036854775807 ∧ (lp i).v.size ≤ 9223372036854775807
theorem Came.below {w w' : World} {A : Option Addr} {n : Nat} {lp : Nat → Prm} (h : Came w A n lp) (hb : Below w.heap.size w w') : Came w' A n lp := fun i hi => by
  obtain ⟨a, e, hl, h0, h1, h2⟩ := h i hi
  have hl2 : (a.add (i * 2)).block < w.heap.size := by rw [madd_block]; exact hl
  exact ⟨a, e, by have := hb.size; omega, (hb.cell hl2).trans h0, (hb.cell (p := ⟨(a.add (i * 2)).block, (a.add (i * 2)).off + 1, none⟩) hl2).trans h1, h2⟩
end Go.Proofs.Ytaolclpjlkdkjaa
