/-
  Plain facts on headers: what is got, cut and set, header by header. No condition.
  Headers in memory: a row of the call's own, and an argument that is a slice of headers, written out. No condition.
  A region that draws its order, all of whose operations read, or call what only makes memory: one walk of the text's order serves, over a class of worlds. Conditions: those of the theorem.
-/
import Derived.Test.YtaolclpjlkdkjaaZ19
import Derived.Test.YtaolclpjlkdkjaaZ18
import Derived.Deep.Slices
import Derived.Lib.SmallJoins
import Derived.ChangeMaps5
import Derived.OpenShut
import GoSem.Op.String
import Derived.Below
import Derived.Deep.QuietTactic
import Derived.BigQuiet
namespace Go.Proofs.Ytaolclpjlkdkjaa

theorem getN_step (name : ByteArray) (l : List Prm) {k : Nat} (h : k < l.length) :
    getN name (l.take (k + 1)) = getN name (l.take k) ++ (if hasN name l[k] then [l[k].v] else []) := by
  unfold getN
  rw [List.take_succ_eq_append_getElem h, List.filter_append, List.map_append]
  congr 1
  cases e : hasN name l[k] <;> simp [e]
theorem getN_len (name : ByteArray) (l : List Prm) : (getN name l).length ≤ l.length := by
  unfold getN
  rw [List.length_map]
  exact (List.filter_sublist (l := l)).length_le
end Go.Proofs.Ytaolclpjlkdkjaa
namespace Go.Proofs.Ytaolclpjlkdkjaa
open Go.ChangeShapes Go.WideShapes Go.ChangeAt Go.RowKit Go.Joins Go.Deep

theorem Try.infoHdr : (Try.prog.info? 60).map (fun i => (i.zero, i.size, i.bytes)) = some (some (.agg #[.string ⟨#[]⟩, .string ⟨#[]⟩]), 2, 32) := by kernel_rfl
theorem Try.cellsHdr : Try.prog.cellsOf 60 = 2 := by kernel_rfl
theorem Try.cellsStr22 : Try.prog.cellsOf 9 = 1 := by kernel_rfl
/-- A row of headers of the call's own, read. -/
theorem hdrs_of_own {w : World} {base : Nat} {v : Value} {ps : List Prm} (h : w.ownsRow base 60 2 v ps.length (prmL ps)) : ∃ A c, v = .slice A ps.length c ∧ PsIn w A ps := by
  rcases h.2 with ⟨h1, h2⟩ | ⟨g, cap, cur, h1, _⟩
  · have e : ps = [] := by
      have h3 := prmL_len ps
      rw [h2] at h3
      exact List.length_eq_zero_iff.1 (by simp at h3; omega)
    subst e
    exact ⟨none, 0, h1, PsIn.nil _ _⟩
  · subst h1
    refine ⟨some ⟨g, 0, none⟩, cap, rfl, fun i hi => ⟨g, rfl, (h.lt g rfl).2, ?_, ?_⟩⟩
    · have := (prmL_at ps i hi).1
      exact (h.cellAt _ (by omega)).trans this
    · have := (prmL_at ps i hi).2
      exact (h.cellAt _ (by omega)).trans this
theorem open_str22 {H : Type} {enc : TypeId × Value → H} {W : World} {base : Nat} {spare : Nat → Bool} {held : Bool} {n : Nat} {v : Value} {y : DataW H × List MemPlace}
    (h : DataW.trod enc Try.prog W base spare held n 9 [v] = some y) : ∃ s : ByteArray, v = .string s ∧ s.size ≤ 9223372036854775807 := by
  obtain ⟨s, e, _, hs⟩ := DataW.trod_string Try.underlying9 h
  unfold maxLen at hs
  exact ⟨s, by simpa using e, hs⟩
set_option maxRecDepth 100000 in
theorem open_hdrs {H : Type} {enc : TypeId × Value → H} {W : World} {base : Nat} {v : Value} {d : DataW H} {p : List MemPlace}
    (hv : Value.okWide Try.prog W .any base 37 v) (h : DataW.Trod enc Try.prog W 0 (fun _ => true) true 37 v d p) :
    ∃ (A : Option Addr) (n c : Nat) (lp : Nat → Prm), v = .slice A n c ∧ n ≤ 9223372036854775807 ∧ Came W A n lp := by
  obtain ⟨fuel, hf⟩ := h
  obtain ⟨A, n, c, rfl⟩ := okWide_slice Try.underlying37 hv
  rcases open_slice Try.underlying37 hf with ⟨hc, _⟩ | ⟨a, len, cap, m, nn, D, Pl, hc, _, hl, hm, hmm, _, hi⟩
  · simp [Value.cells] at hc
    obtain ⟨rfl, rfl, rfl⟩ := hc
    exact ⟨none, 0, 0, fun _ => ⟨⟨#[]⟩, ⟨#[]⟩⟩, rfl, by omega, fun i h => absurd h (by omega)⟩
  · simp [Value.cells] at hc
    obtain ⟨rfl, rfl, rfl⟩ := hc
    simp at hmm
    unfold maxLen at hm
    have key : ∀ i, i < n → ∃ p : Prm, a.block < W.heap.size ∧ W.cell? (a.add (i * 2)) = some (.string p.n) ∧ W.cell? ⟨(a.add (i * 2)).block, (a.add (i * 2)).off + 1, none⟩ = some (.string p.v) ∧ p.n.size ≤ 9223372036854775807 ∧ p.v.size ≤ 9223372036854775807 := fun i hin => by
      obtain ⟨cs, hcs, ht⟩ := hi i (by omega)
      rw [Try.cellsHdr] at hcs
      obtain ⟨_, hlen, hat⟩ := World.cells?_some hcs
      obtain ⟨y0, y1, k, _, _, t0, t1⟩ := trod_struct2 Try.underlying60 ht
      match cs, hlen with
      | [v0, v1], _ =>
        simp [Try.cellsStr22] at t0 t1
        obtain ⟨s0, rfl, e0⟩ := open_str22 t0
        obtain ⟨s1, rfl, e1⟩ := open_str22 t1
        have c0 : W.cell? (a.add (i * 2)) = some (.string s0) := by
          have := hat 0 (by omega)
          simpa [Try.cellsHdr, Addr.add] using this
        have c1 := hat 1 (by omega)
        have hblk := World.block_lt_of_cell? W _ c0
        rw [madd_block] at hblk
        exact ⟨⟨s0, s1⟩, hblk, c0, c1, e0, e1⟩
    refine ⟨some a, n, c, fun i => if hi : i < n then Classical.choose (key i hi) else ⟨⟨#[]⟩, ⟨#[]⟩⟩, rfl, by omega, fun i hin => ?_⟩
    simp only [dif_pos hin]
    exact ⟨a, rfl, Classical.choose_spec (key i hin)⟩
/-- What Few leaves of a header. -/
def fewH (p : Prm) : Prm := ⟨cutB p.n 30, cutB p.v 100⟩
def fewHs (lp : Nat → Prm) (k : Nat) : List Prm := (List.range k).map fun i => fewH (lp i)
theorem fewHs_len (lp : Nat → Prm) (k : Nat) : (fewHs lp k).length = k := by simp [fewHs]
theorem fewHs_succ (lp : Nat → Prm) (k : Nat) : fewHs lp (k + 1) = fewHs lp k ++ [fewH (lp k)] := by simp [fewHs, List.range_succ]
theorem fewHs_all (lp : Nat → Prm) (k : Nat) : ∀ p ∈ fewHs lp k, p.n.size ≤ 30 ∧ p.v.size ≤ 100 := fun p hp => by
  unfold fewHs at hp
  rw [List.mem_map] at hp
  obtain ⟨i, _, rfl⟩ := hp
  exact ⟨cutB_size _ _, cutB_size _ _⟩
/-- What is cut already stays as it is. -/
theorem fewHs_id {ps : List Prm} (h : ∀ p ∈ ps, p.n.size ≤ 30 ∧ p.v.size ≤ 100) (d : Prm) : fewHs (fun i => ps.getD i d) ps.length = ps := by
  apply List.ext_getElem
  · rw [fewHs_len]
  · intro i h1 h2
    simp only [fewHs, List.getElem_map, List.getElem_range]
    have hp := h ps[i] (List.getElem_mem h2)
    rw [List.getD_eq_getElem?_getD, List.getElem?_eq_getElem h2]
    simp only [Option.getD_some, fewH]
    rw [cutB_id hp.1, cutB_id hp.2]

end Go.Proofs.Ytaolclpjlkdkjaa
namespace Go.Proofs.Ytaolclpjlkdkjaa
open Go.RowKit

/-- A world of which p holds. -/
structure Wld (p : World → Prop) where
  val : World
  ok : p val

theorem wp_region_class {P : Program} {id : Nat} {Q : Exit → Act → World → Prop} {a : Act} {w : World} {l : List Oper} (p : World → Prop) (hm : P.follows .mixedOrders = true) (hB : Region.lexB .any l.toArray = true) (hp : p w.drew)
    (h : wpQuiet P l.toArray (fun w' => ∃ x : Wld p, w' = x.val) (fun a' => ∀ w', p w' → Q .normal a' w') l a) : (Code.region id l.toArray true).wp P Q a w := by
  refine wp_region_quiet (C := fun w' => ∃ x : Wld p, w' = x.val) hm hB ⟨⟨_, hp⟩, rfl⟩ ?_
  have e : (fun a' => ∀ w', (∃ x : Wld p, w' = x.val) → Q .normal a' w') = fun a' => ∀ w', p w' → Q .normal a' w' := by
    funext a'
    exact propext ⟨fun h w' hw => h _ ⟨⟨w', hw⟩, rfl⟩, fun h w' ⟨x, hx⟩ => hx ▸ h _ x.ok⟩
  rw [e]
  simpa using h

/-- A callee's contract, met in a world of the class. -/
theorem Calls.cls {P : Program} {f : FuncId} {args : Array Value} {p : World → Prop} {x : Wld p} {v : Value} {R : World → Prop}
    (h : Calls P f args x.val fun e w' => e = .returned v ∧ R w') (hR : ∀ w', R w' → p w') : Calls P f args x.val fun e w'' => e = .returned v ∧ ∃ y : Wld p, w'' = y.val :=
  h.mono fun _ w' ⟨he, hw⟩ => ⟨he, ⟨w', hR w' hw⟩, rfl⟩

end Go.Proofs.Ytaolclpjlkdkjaa
