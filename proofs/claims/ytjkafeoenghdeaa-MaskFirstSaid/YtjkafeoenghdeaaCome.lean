/-
  Arguments that are a pattern, a slice of patterns, or two texts, written out. No condition.
-/
import Derived.Test.YtjkafeoenghdeaaMFLaw
import Derived.Test.YtjkafeoenghdeaaLift
import Derived.Deep.Slices
import Derived.Lib.SmallJoins
import Derived.ChangeMaps5
import Derived.OpenShut
namespace Go.Proofs.Ytjkafeoenghdeaa
open Go.ChangeShapes Go.WideShapes Go.ChangeAt Go.RowKit Go.Joins Go.Deep

theorem Try.cellsPat : Try.prog.cellsOf 23 = 4 := by kernel_rfl
theorem Try.cellsTwo : Try.prog.cellsOf 39 = 2 := by kernel_rfl
theorem Try.cellsStr1 : Try.prog.cellsOf 9 = 1 := by kernel_rfl

theorem open_str {H : Type} {enc : TypeId × Value → H} {W : World} {base : Nat} {spare : Nat → Bool} {held : Bool} {n : Nat} {v : Value} {y : DataW H × List MemPlace}
    (h : DataW.trod enc Try.prog W base spare held n 9 [v] = some y) : ∃ s : ByteArray, v = .string s ∧ s.size ≤ 9223372036854775807 := by
  obtain ⟨s, e, _, hs⟩ := DataW.trod_string Try.underlying9 h
  unfold maxLen at hs
  exact ⟨s, by simpa using e, hs⟩

theorem open_pat {H : Type} {enc : TypeId × Value → H} {W : World} {base : Nat} {v : Value} {d : DataW H} {p : List MemPlace}
    (hv : Value.okWide Try.prog W .any base 23 v) (h : DataW.Trod enc Try.prog W 0 (fun _ => true) true 23 v d p) :
    ∃ q : Pat, v = patV q.b q.m q.k q.t ∧ q.ok ∧ q.t.size ≤ 9223372036854775807 := by
  obtain ⟨v0, v1, v2, v3, y0, y1, y2, y3, n, rfl, _, _, h0, h1, h2, h3⟩ := open_agg4 Try.underlying23 (by kernel_rfl) Try.cellsPat hv h
  obtain ⟨s0, rfl, e0⟩ := open_str h0
  obtain ⟨s1, rfl, e1⟩ := open_str h1
  obtain ⟨s2, rfl, e2⟩ := open_str h2
  obtain ⟨s3, rfl, e3⟩ := open_str h3
  exact ⟨⟨s0, s1, s2, s3⟩, rfl, ⟨e0, e1, e2⟩, e3⟩

theorem open_pats {H : Type} {enc : TypeId × Value → H} {W : World} {base : Nat} {v : Value} {d : DataW H} {p : List MemPlace}
    (hv : Value.okWide Try.prog W .any base 33 v) (h : DataW.Trod enc Try.prog W 0 (fun _ => true) true 33 v d p) :
    ∃ (A : Option Addr) (n c : Nat), v = .slice A n c ∧ n ≤ 9223372036854775807 ∧ Came W A n := by
  obtain ⟨fuel, hf⟩ := h
  obtain ⟨A, n, c, rfl⟩ := okWide_slice Try.underlying33 hv
  rcases open_slice Try.underlying33 hf with ⟨hc, _⟩ | ⟨a, len, cap, m, nn, D, Pl, hc, _, hl, hm, hmm, _, hi⟩
  · simp [Value.cells] at hc
    obtain ⟨rfl, rfl, rfl⟩ := hc
    exact ⟨none, 0, 0, rfl, by omega, fun i h => absurd h (by omega)⟩
  · simp [Value.cells] at hc
    obtain ⟨rfl, rfl, rfl⟩ := hc
    simp at hmm
    unfold maxLen at hm
    refine ⟨some a, n, c, rfl, by omega, fun i hin => ?_⟩
    obtain ⟨cs, hcs, ht⟩ := hi i (by omega)
    rw [Try.cellsPat] at hcs
    obtain ⟨_, hlen, hat⟩ := World.cells?_some hcs
    obtain ⟨y0, y1, y2, y3, k, _, _, t0, t1, t2, t3⟩ := trod_struct4 Try.underlying23 ht
    match cs, hlen with
    | [v0, v1, v2, v3], _ =>
      simp [Try.cellsStr1] at t0 t1 t2 t3
      obtain ⟨s0, rfl, e0⟩ := open_str t0
      obtain ⟨s1, rfl, e1⟩ := open_str t1
      obtain ⟨s2, rfl, e2⟩ := open_str t2
      obtain ⟨s3, rfl, e3⟩ := open_str t3
      have c0 : W.cell? (a.add (i * 4)) = some (.string s0) := by
        have := hat 0 (by omega)
        simpa [Try.cellsPat, Addr.add] using this
      have c1 := hat 1 (by omega)
      have c2 := hat 2 (by omega)
      have c3 := hat 3 (by omega)
      have hblk := World.block_lt_of_cell? W _ c0
      rw [madd_block] at hblk
      exact ⟨a, ⟨s0, s1, s2, s3⟩, rfl, hblk, c0, c1, c2, c3, ⟨e0, e1, e2⟩, e3⟩

theorem open_two {H : Type} {enc : TypeId × Value → H} {W : World} {base : Nat} {v : Value} {d : DataW H} {p : List MemPlace}
    (hv : Value.okWide Try.prog W .any base 39 v) (h : DataW.Trod enc Try.prog W 0 (fun _ => true) true 39 v d p) :
    ∃ s t : ByteArray, v = .agg #[.string s, .string t] ∧ s.size ≤ 9223372036854775807 ∧ t.size ≤ 9223372036854775807 := by
  obtain ⟨fuel, hf⟩ := h
  simp only [Value.okWide, Try.underlying39] at hv
  obtain ⟨cs, rfl, hsz, _⟩ := hv
  rw [Try.cellsTwo] at hsz
  obtain ⟨l⟩ := cs
  match l, hsz with
  | [v0, v1], _ =>
    obtain ⟨xs, m, _, _, _, hl, hg⟩ := DataW.trod_array Try.underlying39 hf
    match xs, hl with
    | [y0, y1], _ =>
      have h0 := hg 0 (by omega)
      have h1 := hg 1 (by omega)
      rw [Try.cellsStr1] at h0 h1
      simp [Value.cells] at h0 h1
      obtain ⟨s0, rfl, e0⟩ := open_str h0
      obtain ⟨s1, rfl, e1⟩ := open_str h1
      exact ⟨s0, s1, rfl, e0, e1⟩

end Go.Proofs.Ytjkafeoenghdeaa
