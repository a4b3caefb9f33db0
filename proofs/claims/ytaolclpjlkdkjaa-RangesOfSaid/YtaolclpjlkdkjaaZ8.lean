/-
  Plain facts on types, as layer 10 has them: parameters, which are good, what a text says, and what it is written as. No condition.
  What takeParams answers of a cursor: a slice of new parameters. Condition: the text is as long as a mebibyte.
  What Trim and Ends answer, and those of the document's own answer. Condition: the text is as long as a length can be.
-/
import Derived.Test.YtaolclpjlkdkjaaZ4
import Derived.Test.YtaolclpjlkdkjaaZ2
import Derived.Test.YtaolclpjlkdkjaaZ3
import Derived.Test.YtaolclpjlkdkjaaRows
import Derived.WalkKit
import Derived.WalkSpells
import Derived.WalkLawsBesides
import Derived.Laws.Externs
import Derived.Lib.Hide
import Derived.Lib.FrozenHead2
import Derived.LoopTactic
import Derived.Test.YtaolclpjlkdkjaaZ6
import Derived.Test.YtaolclpjlkdkjaaZ5
import Derived.Maps.OwnSet
import Derived.Maps.AppendAt
import Derived.Laws.OwnMore
import Derived.Laws.AppendOwn
namespace Go.Proofs.Ytaolclpjlkdkjaa

/-- A parameter's two texts. -/
structure Prm where
  n : ByteArray
  v : ByteArray

abbrev eqS (a b : ByteArray) : Bool := a.toList == b.toList
theorem eqS_eq {a b : ByteArray} (h : eqS a b = true) : a = b := by
  have e : a.toList = b.toList := beq_iff_eq.1 h
  rw [Lib.toList_data, Lib.toList_data] at e
  exact ByteArray.ext (Array.toList_inj.1 e)
theorem eqS_self (a : ByteArray) : eqS a a = true := beq_self_eq_true _

end Go.Proofs.Ytaolclpjlkdkjaa
namespace Go.Proofs.Ytaolclpjlkdkjaa
open Go.RowKit Go.Maps

/-- The cells of some parameters. -/
def prmL (ps : List Prm) : List Value := ps.flatMap fun p => [.string p.n, .string p.v]
theorem prmL_len (ps : List Prm) : (prmL ps).length = ps.length * 2 := by
  induction ps with
  | nil => rfl
  | cons p r ih => simp [prmL] at ih ⊢; omega
theorem prmL_at : ∀ (ps : List Prm) (i : Nat) (h : i < ps.length), (prmL ps)[i * 2]? = some (.string ps[i].n) ∧ (prmL ps)[i * 2 + 1]? = some (.string ps[i].v)
  | [], i, h => absurd h (by simp)
  | p :: r, 0, _ => ⟨rfl, rfl⟩
  | p :: r, i + 1, h => by
    have ih := prmL_at r i (by simpa using h)
    have e : prmL (p :: r) = .string p.n :: .string p.v :: prmL r := by simp [prmL]
    rw [e]
    have e1 : (i + 1) * 2 = i * 2 + 1 + 1 := by omega
    have e2 : (i + 1) * 2 + 1 = i * 2 + 1 + 1 + 1 := by omega
    rw [e1, List.getElem?_cons_succ, List.getElem?_cons_succ]
    refine ⟨ih.1, ?_⟩
    rw [List.getElem?_cons_succ, List.getElem?_cons_succ]
    exact ih.2

/-- Parameters that lie behind A. -/
def PsIn (w : World) (A : Option Addr) (ps : List Prm) : Prop := ∀ i (h : i < ps.length), ∃ g, A = some ⟨g, 0, none⟩ ∧ g < w.heap.size ∧ w.cell? ⟨g, i * 2, none⟩ = some (.string ps[i].n) ∧ w.cell? ⟨g, i * 2 + 1, none⟩ = some (.string ps[i].v)
theorem PsIn.below {w w' : World} {A : Option Addr} {ps : List Prm} (h : PsIn w A ps) (hb : Below w.heap.size w w') : PsIn w' A ps := fun i hi => by
  obtain ⟨g, h1, h2, h3, h4⟩ := h i hi
  have e := fun o => hb.cell (p := ⟨g, o, none⟩) h2
  exact ⟨g, h1, by have := hb.size; omega, (e _).trans h3, (e _).trans h4⟩
theorem PsIn.nil (w : World) (A : Option Addr) : PsIn w A [] := fun i h => absurd h (by simp)
theorem own_base {w : World} {base b : Nat} {e : TypeId} {size n : Nat} {v : Value} {xs : List Value} (h : w.ownsRow base e size v n xs) (hb : b ≤ base) : w.ownsRow b e size v n xs := by
  refine ⟨h.1, ?_⟩
  rcases h.2 with h2 | ⟨g, cap, cur, e1, e2, e3, e4⟩
  · exact .inl h2
  · exact .inr ⟨g, cap, cur, e1, by omega, e3, e4⟩
/-- All texts are short enough. -/
def AllIn (n : Nat) (ps : List Prm) : Prop := ∀ p ∈ ps, p.n.size ≤ n ∧ p.v.size ≤ n
theorem AllIn.at_ {n : Nat} {ps : List Prm} (h : AllIn n ps) {i : Nat} (hi : i < ps.length) : ps[i].n.size ≤ n ∧ ps[i].v.size ≤ n := h _ (List.getElem_mem hi)

end Go.Proofs.Ytaolclpjlkdkjaa
namespace Go.Proofs.Ytaolclpjlkdkjaa
open Go.RowKit

/-- How long a text is. -/
def strLen : Value → Nat
  | .string s => s.size
  | _ => 0

set_option maxHeartbeats 1000000 in
theorem refEnds_any (s : ByteArray) (w : World) (hs : s.size ≤ 9223372036854775807) :
    Calls Try.prog 29 #[.string s] w fun e w' => e = .returned (.string (cutP tabB s)) ∧ w = w' := by
  go_enter Try.func29, Try.ntmps29
  go_wp2
  go_loop [0] (fun i => ∃ (m : Nat) (x : ByteArray), m ≤ s.size ∧ i = .string x ∧ x = s.extract 0 m ∧ backN tabB s m = backN tabB s s.size) (fun i => strLen i)
  case atStart => exact ⟨s.size, s, Nat.le_refl _, rfl, (extract_all s).symm, rfl⟩
  case round =>
    obtain ⟨m, x, hm, rfl, hx, hb⟩ := hrel
    have HB := Lib.hid hb
    have HX := Lib.hid hx
    clear hb
    have hz : x.size = m := by rw [hx]; simp; omega
    clear hx
    cases m with
    | zero =>
      have HE := Lib.hid (show cutP tabB s = x from by unfold cutP; rw [← HB.out, HX.out]; rfl)
      go_wp2
      go_ret
      exact ⟨by rw [HE.out]; rfl, rfl⟩
    | succ n =>
      have hn : n < x.size := by omega
      have g1 : (0 : Int) < (n : Int) + 1 := by omega
      have g2 : ((n + 1 : Nat) : Int) - 1 = (n : Int) := by omega
      have HA := Lib.hid (show x[n] = s[n]'(by omega) from by
        rw [← getElem!_pos x n hn, ← getElem!_pos s n (by omega), HX.out, extract_at (by rw [← HX.out]; exact hn), Nat.zero_add])
      have HL := Lib.hid (fun W => refTab_any x[n] W)
      cases hb : tabB x[n]
      · have HE := Lib.hid (show cutP tabB s = x from by unfold cutP; rw [← HB.out, backN_stop (by omega) (by rw [← HA.out]; exact hb), HX.out])
        have HL2 : Hid (∀ W, Calls Try.prog 28 #[.int .u8 (x[n].toNat : Int)] W fun e w' => e = .returned (.bool false) ∧ W = w') := fun W => by have := HL.out W; rwa [hb] at this
        clear HL hb
        go_wp2_with (go_at_call 28; refine (HL2.out _).mono ?_; rintro e w' ⟨rfl, rfl⟩)
        go_ret
        exact ⟨by rw [HE.out]; rfl, rfl⟩
      · have HE := Lib.hid (show backN tabB s (n + 1) = backN tabB s n from backN_step (by omega) (by rw [← HA.out]; exact hb))
        have HL2 : Hid (∀ W, Calls Try.prog 28 #[.int .u8 (x[n].toNat : Int)] W fun e w' => e = .returned (.bool true) ∧ W = w') := fun W => by have := HL.out W; rwa [hb] at this
        clear HL hb
        go_wp2_with (go_at_call 28; refine (HL2.out _).mono ?_; rintro e w' ⟨rfl, rfl⟩)
        go_round
        case rel => exact ⟨n, x.extract 0 n, by omega, rfl, by rw [HX.out, extract_head (by omega)], HE.out.symm.trans HB.out⟩
        case measure => simp [strLen]; omega

end Go.Proofs.Ytaolclpjlkdkjaa
