/-
  The statement of TrapFirst: for every four deeds and every number the law returns true, and they read as before. No condition beyond the statement's own.
-/
import Derived.Test.YtnifdponeccdgaaOpen
import Derived.Test.YtnifdponeccdgaaFour
import Derived.OpenShut
namespace Go.Proofs.Ytnifdponeccdgaa
open Go.ChangeShapes Go.WideShapes Go.ChangeAt Go.RowKit Go.Joins

theorem Try.cells35 : Try.prog.cellsOf 35 = 16 := by kernel_rfl
theorem Try.cells3 : Try.prog.cellsOf 3 = 1 := by kernel_rfl
theorem Try.cells4 : Try.prog.cellsOf 4 = 1 := by kernel_rfl
theorem Try.cells22 : Try.prog.cellsOf 22 = 1 := by kernel_rfl

theorem deed_cells {H : Type} {enc : TypeId × Value → H} {W : World} {base : Nat} {sp : Nat → Bool} {held : Bool} {m : Nat} {l : List Value} {y : DataW H × List MemPlace}
    (h : DataW.trod enc Try.prog W base sp held m 24 l = some y) : ∃ (a c : Int) (f : Bool) (n : Int), l = [.int .i64 a, .int .i64 c, .bool f, .int .i64 n] := by
  obtain ⟨y0, y1, y2, y3, k, _, hl, h0, h1, h2, h3⟩ := trod_struct4 Try.underlying24 h
  rw [Try.cells24] at hl
  match l, hl with
  | [x0, x1, x2, x3], _ =>
    simp [Try.cells3, Try.cells4, Try.cells22] at h0 h1 h2 h3
    obtain ⟨a, e0, _, _⟩ := DataW.trod_int Try.underlying3 h0
    obtain ⟨c, e1, _, _⟩ := DataW.trod_int Try.underlying22 h1
    obtain ⟨f, e2, _⟩ := DataW.trod_bool Try.underlying4 h2
    obtain ⟨n, e3, _, _⟩ := DataW.trod_int Try.underlying3 h3
    simp at e0 e1 e2 e3
    subst e0 e1 e2 e3
    exact ⟨a, c, f, n, rfl⟩

theorem open_four {H : Type} {enc : TypeId × Value → H} {W : World} {base : Nat} {v : Value} {d : DataW H} {p : List MemPlace}
    (hv : Value.okWide Try.prog W .any base 35 v) (h : DataW.Trod enc Try.prog W 0 (fun _ => true) true 35 v d p) :
    ∃ (a0 c0 : Int) (f0 : Bool) (n0 a1 c1 : Int) (f1 : Bool) (n1 a2 c2 : Int) (f2 : Bool) (n2 a3 c3 : Int) (f3 : Bool) (n3 : Int), v = .agg (four a0 c0 f0 n0 a1 c1 f1 n1 a2 c2 f2 n2 a3 c3 f3 n3) := by
  simp only [Value.okWide, Try.underlying35] at hv
  obtain ⟨cs, rfl, hsz, _⟩ := hv
  obtain ⟨fuel, hf⟩ := h
  obtain ⟨xs, m, _, _, hlen, hx, hi⟩ := DataW.trod_array Try.underlying35 hf
  simp only [Value.cells] at hlen hi
  rw [Try.cells35] at hlen
  rw [Try.cells24] at hi
  match xs, hx with
  | [y0, y1, y2, y3], _ =>
    obtain ⟨a0, c0, f0, n0, e0⟩ := deed_cells ((hi 0 (by omega)).trans rfl)
    obtain ⟨a1, c1, f1, n1, e1⟩ := deed_cells ((hi 1 (by omega)).trans rfl)
    obtain ⟨a2, c2, f2, n2, e2⟩ := deed_cells ((hi 2 (by omega)).trans rfl)
    obtain ⟨a3, c3, f3, n3, e3⟩ := deed_cells ((hi 3 (by omega)).trans rfl)
    refine ⟨a0, c0, f0, n0, a1, c1, f1, n1, a2, c2, f2, n2, a3, c3, f3, n3, ?_⟩
    have hl : cs.toList = (cs.toList.drop (0 * 4)).take 4 ++ ((cs.toList.drop (1 * 4)).take 4 ++ ((cs.toList.drop (2 * 4)).take 4 ++ (cs.toList.drop (3 * 4)).take 4)) := by
      have hd : (cs.toList.drop (3 * 4)).take 4 = cs.toList.drop 12 := by
        rw [List.take_of_length_le]; simp at hlen ⊢; omega
      rw [hd]
      have s1 : cs.toList = cs.toList.take 4 ++ cs.toList.drop 4 := (List.take_append_drop 4 _).symm
      have s2 : cs.toList.drop 4 = (cs.toList.drop 4).take 4 ++ cs.toList.drop 8 := by
        have := (List.take_append_drop 4 (cs.toList.drop 4)).symm
        simpa using this
      have s3 : cs.toList.drop 8 = (cs.toList.drop 8).take 4 ++ cs.toList.drop 12 := by
        have := (List.take_append_drop 4 (cs.toList.drop 8)).symm
        simpa using this
      show cs.toList = cs.toList.take 4 ++ ((cs.toList.drop 4).take 4 ++ ((cs.toList.drop 8).take 4 ++ cs.toList.drop 12))
      rw [← s3, ← s2, ← s1]
    rw [e0, e1, e2, e3] at hl
    have hc : cs = four a0 c0 f0 n0 a1 c1 f1 n1 a2 c2 f2 n2 a3 c3 f3 n3 := by
      apply Array.ext'
      rw [hl]
      rfl
    rw [hc]

set_option maxRecDepth 100000 in
theorem trapFirst_lifted (os : Os) (started : os.Started) (H : Type) (enc : TypeId × Value → H) :
    ReturnsInHanded {} Try.checked os 5 .any (Rows.trapFirstSpec.pre6 enc Try.prog Try.f5 Rows.trapFirstRow.domain false) (Rows.trapFirstSpec.post enc Try.prog Try.f5 false true false false) := by
  refine law_lifted (C := Try.checked) (tb := 4) Try.own started (by kernel_rfl) Try.func5 Try.laidOut rfl rfl Try.underlying4 (by kernel_rfl) ?_
    (ChangeSpec.witness6 (enc := enc) (C := Try.checked) false ⟨#[], #[.agg #[.int .i64 0, .int .i64 0, .bool false, .int .i64 0, .int .i64 0, .int .i64 0, .bool false, .int .i64 0, .int .i64 0, .int .i64 0, .bool false, .int .i64 0, .int .i64 0, .int .i64 0, .bool false, .int .i64 0], .int .u8 0], []⟩ 8 (by kernel_rfl) (by kernel_rfl) (by kernel_rfl) (by kernel_rfl)) ?_
  · intro ds h
    rw [Try.params5] at h
    match ds, h with
    | [d1, d2], _ => exact ⟨rfl, rfl, rfl⟩
  · intro W base args ds p hval hA _
    rw [Try.params5] at hA hval
    obtain ⟨v0, v1, d0, d1, p0, p1, rfl, rfl, rfl, h0, h1⟩ := trodAll_two hA
    obtain ⟨a0, c0, f0, n0, a1, c1, f1, n1, a2, c2, f2, n2, a3, c3, f3, n3, rfl⟩ := open_four (hval 0 35 v0 rfl rfl) h0
    obtain ⟨m, rfl, rfl, rfl, wm⟩ := open_int Try.underlying5 (hval 1 5 v1 rfl rfl) h1
    obtain ⟨hm0, hm1⟩ := bounds_u8 wm
    exact trapFirst_any a0 c0 f0 n0 a1 c1 f1 n1 a2 c2 f2 n2 a3 c3 f3 n3 m (m % 5).toNat (by omega) hm0 hm1 (by omega) W

theorem trapFirst_holds : Rows.TrapFirstSaid :=
  OpenClaim.holds_of_wide 5 Try.f5 rfl rfl rfl rfl rfl rfl rfl ⟨rfl, rfl, rfl, rfl, rfl⟩ rfl rfl rfl rfl rfl (by kernel_rfl) Try.func5 (by kernel_rfl)
    (of_decide_eq_true (by kernel_rfl)) (by unfold Func.isWrapper; rw [if_neg (of_decide_eq_false (by kernel_rfl))]; exact ⟨rfl, rfl⟩)
    (fun os started H enc _ => trapFirst_lifted os started H enc)

#print axioms trapFirst_holds
end Go.Proofs.Ytnifdponeccdgaa
