/-
  What takeParams answers of a cursor: a slice of new parameters. Condition: the text is as long as a mebibyte.
  What Parse of package mime answers. Condition: the text is as long as a mebibyte.
  What Good, Essence, Param and Same of package mime answer of types. Condition: texts are as long as a mebibyte, and parameters as many.
-/
import Derived.Test.YtkdjjlfpaciohaaGreatDoorZ3
import Derived.Test.YtkdjjlfpaciohaaGreatDoorZ8
import Derived.Test.YtkdjjlfpaciohaaGreatDoorZ2
import Derived.Test.YtkdjjlfpaciohaaGreatDoorZ9
import Derived.Test.YtkdjjlfpaciohaaGreatDoorRows
import Derived.OneCell
import Derived.WalkKit
import Derived.LoopTactic
import Derived.BigQuiet
import Derived.Maps.OwnSet
import Derived.Maps.AppendAt
import Derived.Laws.OwnMore
import Derived.Laws.AppendOwn
import Derived.Test.YtkdjjlfpaciohaaGreatDoorZ1
namespace Go.Proofs.YtkdjjlfpaciohaaGreatDoor
open Go.RowKit Go.Maps

/-- The cells of some parameters. -/
def prmL (ps : List Prm) : List Value := ps.flatMap fun p => [.string p.n, .string p.v]
theorem prmL_snoc (ps : List Prm) (p : Prm) : prmL (ps ++ [p]) = prmL ps ++ [.string p.n, .string p.v] := by simp [prmL]
theorem prmL_len (ps : List Prm) : (prmL ps).length = ps.length * 2 := by
  induction ps with
  | nil => rfl
  | cons p r ih => simp [prmL] at ih ⊢; omega
theorem prmL_at : ∀ (ps : List Prm) (i : Nat) (h : i < ps.length), (prmL ps)[i * 2]? = some (.string ps[i].n) ∧ (prmL ps)[i * 2 + 1]? = some (.string ps[i].v)
  | [], i, h => absurd h (by simp)
  | p :: r, 0, _ => ⟨rfl, rfl⟩
  | p :: r, i + 1, h => by
    have ih := prmL_at r i (by simpa using h)
    have e : prmL (p :: r) = .string p.n :: .string p.v :: prmL r := by simp [prmL]
    rw [e]
    have e1 : (i + 1) * 2 = i * 2 + 1 + 1 := by omega
    have e2 : (i + 1) * 2 + 1 = i * 2 + 1 + 1 + 1 := by omega
    rw [e1, List.getElem?_cons_succ, List.getElem?_cons_succ]
    refine ⟨ih.1, ?_⟩
    rw [List.getElem?_cons_succ, List.getElem?_cons_succ]
    exact ih.2

/-- Parameters that lie behind A. -/
def PsIn (w : World) (A : Option Addr) (ps : List Prm) : Prop := ∀ i (h : i < ps.length), ∃ g, A = some ⟨g, 0, none⟩ ∧ g < w.heap.size ∧ w.cell? ⟨g, i * 2, none⟩ = some (.string ps[i].n) ∧ w.cell? ⟨g, i * 2 + 1, none⟩ = some (.string ps[i].v)
theorem PsIn.below {w w' : World} {A : Option Addr} {ps : List Prm} (h : PsIn w A ps) (hb : Below w.heap.size w w') : PsIn w' A ps := fun i hi => by
  obtain ⟨g, h1, h2, h3, h4⟩ := h i hi
  have e := fun o => hb.cell (p := ⟨g, o, none⟩) h2
  exact ⟨g, h1, by have := hb.size; omega, (e _).trans h3, (e _).trans h4⟩
theorem PsIn.nil (w : World) (A : Option Addr) : PsIn w A [] := fun i h => absurd h (by simp)
theorem PsIn.of_own {w : World} {base : Nat} {v : Value} {ps : List Prm} (h : w.ownsRow base 47 2 v ps.length (prmL ps)) : ∃ A c, v = .slice A ps.length c ∧ PsIn w A ps := by
  rcases h.2 with ⟨h1, h2⟩ | ⟨g, cap, cur, h1, _⟩
  · have e : ps = [] := by
      have h3 := prmL_len ps
      rw [h2] at h3
      exact List.length_eq_zero_iff.1 (by simp at h3; omega)
    subst e
    exact ⟨none, 0, h1, PsIn.nil _ _⟩
  · subst h1
    refine ⟨some ⟨g, 0, none⟩, cap, rfl, fun i hi => ⟨g, rfl, (h.lt g rfl).2, ?_, ?_⟩⟩
    · have := (prmL_at ps i hi).1
      exact (h.cellAt _ (by omega)).trans this
    · have := (prmL_at ps i hi).2
      exact (h.cellAt _ (by omega)).trans this

theorem own_keep {w w' : World} {base : Nat} {e : TypeId} {size n : Nat} {v : Value} {xs : List Value} {r : List Nat} (h : w.ownsRow base e size v n xs) (hm : Mv w.heap.size r w w') (hr : ∀ x ∈ r, x < base) : w'.ownsRow base e size v n xs := by
  refine ⟨h.1, ?_⟩
  rcases h.2 with h2 | ⟨g, cap, cur, e1, e2, e3, e4⟩
  · exact .inl h2
  · have hl := h.lt g (by rw [e1]; rfl)
    exact .inr ⟨g, cap, cur, e1, e2, (hm.block g hl.2 (fun hx => by have := hr g hx; omega)).trans e3, e4⟩

theorem own_base {w : World} {base b : Nat} {e : TypeId} {size n : Nat} {v : Value} {xs : List Value} (h : w.ownsRow base e size v n xs) (hb : b ≤ base) : w.ownsRow b e size v n xs := by
  refine ⟨h.1, ?_⟩
  rcases h.2 with h2 | ⟨g, cap, cur, e1, e2, e3, e4⟩
  · exact .inl h2
  · exact .inr ⟨g, cap, cur, e1, by omega, e3, e4⟩
theorem Tryz.infoPrm : (Tryz.prog.info? 47).map (fun i => (i.zero, i.size, i.bytes)) = some (some (.agg #[.string ⟨#[]⟩, .string ⟨#[]⟩]), 2, 32) := by kernel_rfl

/-- All texts are short enough. -/
def AllIn (n : Nat) (ps : List Prm) : Prop := ∀ p ∈ ps, p.n.size ≤ n ∧ p.v.size ≤ n
theorem AllIn.at_ {n : Nat} {ps : List Prm} (h : AllIn n ps) {i : Nat} (hi : i < ps.length) : ps[i].n.size ≤ n ∧ ps[i].v.size ≤ n := h _ (List.getElem_mem hi)

end Go.Proofs.YtkdjjlfpaciohaaGreatDoor
namespace Go.Proofs.YtkdjjlfpaciohaaGreatDoor
open Go.RowKit Go.Maps

/-- A type as a value. -/
abbrev mimV (t u : ByteArray) (A : Option Addr) (n c : Nat) : Value := .agg #[.string t, .string u, .slice A n c]

end Go.Proofs.YtkdjjlfpaciohaaGreatDoor
namespace Go.Proofs.YtkdjjlfpaciohaaGreatDoor
open Go.RowKit Go.Maps

theorem essL_eq (t u : ByteArray) : (t ++ ⟨#[47]⟩) ++ u = (⟨(essL t u).toArray⟩ : ByteArray) := by
  apply ByteArray.ext
  rw [ByteArray.data_append, ByteArray.data_append]
  simp [essL]

set_option maxHeartbeats 1000000 in
theorem essence_any (t u : ByteArray) (A : Option Addr) (n c : Nat) (w : World) (ht : t.size ≤ 1048576) (hu : u.size ≤ 1048576) :
    Calls Tryz.prog 28 #[mimV t u A n c] w fun e w' => e = .returned (.string ⟨(essL t u).toArray⟩) ∧ Below w.heap.size w w' := by
  obtain ⟨w0, hw0⟩ : ∃ w0, w0 = w.alloc (.cells #[.string t, .string u, .slice A n c] 24) := ⟨_, rfl⟩
  have HB0 := Lib.hid (show Below w.heap.size w w0 from by rw [hw0]; exact (Below.refl w.heap.size w).alloc (Nat.le_refl _) _)
  have HP0 := Lib.hid (show Blk w0 w.heap.size 24 #[.string t, .string u, .slice A n c] from by rw [hw0]; exact Blk.new _ _ _)
  have c0 := HP0.out.cell 0
  have c1 := HP0.out.cell 1
  rw [← essL_eq]
  go_enter Tryz.func28, Tryz.ntmps28
  go_wp2_with fail
  rw [← hw0]
  clear hw0
  go_wp2
  go_ret
  exact ⟨rfl, HB0.out⟩

end Go.Proofs.YtkdjjlfpaciohaaGreatDoor
