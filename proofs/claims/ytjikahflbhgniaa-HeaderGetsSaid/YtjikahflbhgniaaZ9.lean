/-
  What Grow, Concat (of the library) and With of package mime answer. Condition: parameters are as many as a mebibyte has bytes.
  What Cut answers: the first n bytes. Condition: the text is no longer than a length can be.
  What Few of layer 10's statements answers. Condition: the texts are as long as a length can be; what an argument's reading gives.
-/
import Derived.Test.YtjikahflbhgniaaZ8
import Derived.Lib.AppendZeros
import Derived.Lib.AppendZerosOnto
import Derived.Test.YtjikahflbhgniaaRows
import Derived.WalkKit
import Derived.WalkSpells
import Derived.WalkLawsBesides
import Derived.Deep.AppendLies
import Derived.Deep.RegionHeld3
import Derived.Deep.RegionWith
import Derived.Deep.DeepCutAuto
namespace Go.Proofs.Ytjikahflbhgniaa
open Go.RowKit Go.Maps

theorem PsIn.cells {w : World} {a : Addr} {ps : List Prm} (h : PsIn w (some a) ps) : ∀ j u, (prmL ps)[j]? = some u → w.cell? (a.add j) = some u := fun j u hj => by
  have hjl : j < (prmL ps).length := (List.getElem?_eq_some_iff.1 hj).1
  rw [prmL_len] at hjl
  obtain ⟨i, hi⟩ : ∃ i, i = j / 2 := ⟨_, rfl⟩
  have hil : i < ps.length := by omega
  obtain ⟨g, e, _, h0, h1⟩ := h i hil
  cases e
  have ea : (⟨g, 0, none⟩ : Addr).add j = ⟨g, j, none⟩ := by cases j <;> simp [Addr.add]
  rw [ea]
  rcases (by omega : j = i * 2 ∨ j = i * 2 + 1) with e2 | e2
  · rw [e2] at hj ⊢
    rw [(prmL_at ps i hil).1] at hj
    rw [h0]; exact hj
  · rw [e2] at hj ⊢
    rw [(prmL_at ps i hil).2] at hj
    rw [h1]; exact hj
end Go.Proofs.Ytjikahflbhgniaa
namespace Go.Proofs.Ytjikahflbhgniaa
open Go.RowKit

/-- The first n bytes. -/
def cutB (s : ByteArray) (n : Nat) : ByteArray := if n < s.size then s.extract 0 n else s
theorem cutB_size (s : ByteArray) (n : Nat) : (cutB s n).size ≤ n := by
  unfold cutB
  split
  · simp; omega
  · omega

set_option maxHeartbeats 400000 in
theorem cut_any (s : ByteArray) (n : Nat) (w : World) (_hs : s.size ≤ 9223372036854775807) :
    Calls Try.prog 6 #[.string s, .int .i64 n] w fun e w' => e = .returned (.string (cutB s n)) ∧ w = w' := by
  by_cases h : n < s.size
  · have hx : cutB s n = s.extract 0 n := by simp [cutB, h]
    have h1 : decide ((n : Int) < (s.size : Int)) = true := by simpa using h
    have h2 : decide (n < s.size) = true := by simpa using h
    rw [hx]
    clear hx
    go_enter Try.func6, Try.ntmps6
    go_wp2
    go_ret
    exact ⟨rfl, rfl⟩
  · have hx : cutB s n = s := by simp [cutB, h]
    have h1 : decide ((n : Int) < (s.size : Int)) = false := by simp; omega
    have h2 : decide (n < s.size) = false := by simpa using h
    rw [hx]
    clear hx
    go_enter Try.func6, Try.ntmps6
    go_wp2
    go_ret
    exact ⟨rfl, rfl⟩

end Go.Proofs.Ytjikahflbhgniaa
namespace Go.Proofs.Ytjikahflbhgniaa
open Go.RowKit

theorem drewAlloc (w : World) (o : Obj) : Below w.heap.size w (w.alloc o).drew := ((Below.refl _ _).alloc (Nat.le_refl _) _).drew

theorem set_cell {w : World} {p q : Addr} {u v : Value} (h : w.cell? p = some v) (hne : p.block ≠ q.block) : (w.setCell q u).cell? p = some v := (World.cell?_of_block (w := w) (Below.heap_setCell w q u p.block hne)).trans h
theorem madd_block (a : Addr) (n : Nat) : (a.add n).block = a.block := by unfold Addr.add; split <;> rfl
theorem cutB_id {s : ByteArray} {n : Nat} (h : s.size ≤ n) : cutB s n = s := by unfold cutB; rw [if_neg (by omega)]
/-- Parameters that came in. -/
def Came (w : World) (A : Option Addr) (n : Nat) (lp : Nat → Prm) : Prop := ∀ i, i < n → ∃ (a : Addr), A = some a ∧ a.block < w.heap.size ∧
  w.cell? (a.add (i * 2)) = some (.string (lp i).n) ∧ w.cell? ⟨(a.add (i * 2)).block, (a.add (i * 2)).off + 1, none⟩ = some (.string (lp i).v) ∧ (lp i).n.size ≤ 9223372036854775807 ∧ (lp i).v.size ≤ 9223372036854775807
theorem Came.below {w w' : World} {A : Option Addr} {n : Nat} {lp : Nat → Prm} (h : Came w A n lp) (hb : Below w.heap.size w w') : Came w' A n lp := fun i hi => by
  obtain ⟨a, e, hl, h0, h1, h2⟩ := h i hi
  have hl2 : (a.add (i * 2)).block < w.heap.size := by rw [madd_block]; exact hl
  exact ⟨a, e, by have := hb.size; omega, (hb.cell hl2).trans h0, (hb.cell (p := ⟨(a.add (i * 2)).block, (a.add (i * 2)).off + 1, none⟩) hl2).trans h1, h2⟩
theorem Came.of_ps {w : World} {A : Option Addr} {ps : List Prm} (h : PsIn w A ps) (hall : AllIn 1048576 ps) (d : Prm) : Came w A ps.length (fun i => ps.getD i d) := fun i hi => by
  obtain ⟨g, e, hl, h0, h1⟩ := h i hi
  have hs := hall.at_ hi
  have e2 : ps.getD i d = ps[i] := by rw [List.getD_eq_getElem?_getD, List.getElem?_eq_getElem hi]; rfl
  have ea : (⟨g, 0, none⟩ : Addr).add (i * 2) = ⟨g, i * 2, none⟩ := by cases i <;> simp [Addr.add]
  refine ⟨_, e, hl, ?_, ?_, ?_, ?_⟩
  · rw [ea]; show _ = some (Value.string (ps.getD i d).n); rw [e2]; exact h0
  · rw [ea]; show _ = some (Value.string (ps.getD i d).v); rw [e2]; exact h1
  · show (ps.getD i d).n.size ≤ _; rw [e2]; omega
  · show (ps.getD i d).v.size ≤ _; rw [e2]; omega

end Go.Proofs.Ytjikahflbhgniaa
