/-
  What the statements' texts share: the program's closed facts, and a deed that came in, written out. No condition.
-/
import Derived.Test.YtnifdponeccdgaaLift
namespace Go.Proofs.Ytnifdponeccdgaa
open Go.ChangeShapes Go.WideShapes Go.ChangeAt Go.RowKit Go.Joins

theorem Try.own : ownKnob Try.prog.godebug = none := by kernel_rfl
theorem Try.laidOut : laidOutB Try.prog = true := by kernel_rfl
theorem Try.cells24 : Try.prog.cellsOf 24 = 4 := by kernel_rfl

/-- A deed that came in, written out. -/
theorem open_deed {H : Type} {enc : TypeId × Value → H} {W : World} {base : Nat} {v : Value} {d : DataW H} {p : List MemPlace}
    (hv : Value.okWide Try.prog W .any base 24 v) (h : DataW.Trod enc Try.prog W 0 (fun _ => true) true 24 v d p) :
    ∃ (a c : Int) (f : Bool) (n : Int), v = .agg #[.int .i64 a, .int .i64 c, .bool f, .int .i64 n] ∧ (Lit.int .i64 a).wf = true ∧ (Lit.int .i64 c).wf = true ∧ (Lit.int .i64 n).wf = true := by
  obtain ⟨c0, c1, c2, c3, y0, y1, y2, y3, m, rfl, rfl, rfl, hy0, hy1, hy2, hy3⟩ := open_agg4 Try.underlying24 (by kernel_rfl) Try.cells24 hv h
  obtain ⟨a, e0, rfl, wa⟩ := DataW.trod_int Try.underlying3 hy0
  obtain ⟨c, e1, rfl, wc⟩ := DataW.trod_int Try.underlying22 hy1
  obtain ⟨n, e3, rfl, wn⟩ := DataW.trod_int Try.underlying3 hy3
  obtain ⟨f, e2, rfl⟩ := DataW.trod_bool Try.underlying4 hy2
  simp at e0 e1 e2 e3
  subst e0 e1 e2 e3
  exact ⟨a, c, f, n, rfl, wa, wc, wn⟩

end Go.Proofs.Ytnifdponeccdgaa
