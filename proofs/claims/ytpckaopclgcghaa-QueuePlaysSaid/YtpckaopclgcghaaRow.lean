/-
  A row of bytes of the call's own that is cut from the front: what append, a cut and a reading do. Plain facts; no condition beyond the hypotheses.
-/
import Derived.Test.YtpckaopclgcghaaMv
import Derived.Lib.AppendStr
import Derived.Lib.UnsafeStr
import Derived.Laws.IdiomStrings
import Derived.OwnWalk
import Derived.RegionTactic
namespace Go.Proofs.Ytpckaopclgcghaa
open Go.RowKit Go.Lib

/-- The slice ao, s.size, cap, of bytes of type e, holds s; its row lies in a block from B on, and nothing of it is frozen. -/
def Row (w : World) (B : Nat) (e : TypeId) (ao : Option Addr) (cap : Nat) (s : ByteArray) : Prop :=
  (ao = none ∧ cap = 0 ∧ s.size = 0) ∨
  ∃ g o cur, ao = some ⟨g, o, none⟩ ∧ B ≤ g ∧ w.heap[g]? = some (.cells cur e (0, 0)) ∧ s.size ≤ cap ∧ cap ≤ maxLen ∧ o + cap ≤ cur.size ∧ (cur.toList.drop o).take s.size = strCells s

section
variable {w w' : World} {B : Nat} {e : TypeId} {ao : Option Addr} {cap : Nat} {s t : ByteArray}

theorem Row.nil (w : World) (B : Nat) (e : TypeId) : Row w B e none 0 ⟨#[]⟩ := .inl ⟨rfl, rfl, rfl⟩
theorem Row.nil' (w : World) (B : Nat) (e : TypeId) (h : s.size = 0) : Row w B e none 0 s := .inl ⟨rfl, rfl, h⟩
theorem Row.cap_le (h : Row w B e ao cap s) : s.size ≤ cap ∧ cap ≤ maxLen := by
  rcases h with ⟨_, rfl, h⟩ | ⟨g, o, cur, _, _, _, h1, h2, _⟩
  · unfold maxLen; omega
  · exact ⟨h1, h2⟩
theorem Row.lt (h : Row w B e ao cap s) : ∀ k, ao.map Addr.block = some k → B ≤ k ∧ k < w.heap.size := by
  intro k hk
  rcases h with ⟨rfl, _⟩ | ⟨g, o, cur, rfl, hb, hg, _⟩
  · simp at hk
  · simp at hk
    subst hk
    exact ⟨hb, (Array.getElem?_eq_some_iff.1 hg).1⟩
theorem Row.of_blocks (h : Row w B e ao cap s) (hk : ∀ k, ao.map Addr.block = some k → w'.heap[k]? = w.heap[k]?) : Row w' B e ao cap s := by
  rcases h with h | ⟨g, o, cur, rfl, hb, hg, rest⟩
  · exact .inl h
  · exact .inr ⟨g, o, cur, rfl, hb, (hk g rfl).trans hg, rest⟩
theorem Row.cell (h : Row w B e ao cap s) {a : Addr} (ha : ao = some a) (j : Nat) (hj : j < s.size) : w.cell? (a.add j) = some (.int .u8 (s[j].toNat : Int)) := by
  rcases h with ⟨rfl, _⟩ | ⟨g, o, cur, rfl, _, hg, _, _, hs, ht⟩
  · cases ha
  · cases ha
    have hadd : (⟨g, o, none⟩ : Addr).add j = ⟨g, o + j, none⟩ := by unfold Addr.add; split <;> simp_all
    rw [hadd, cell_of_row w g (o + j) cur e (0, 0) hg]
    have h1 : ((cur.toList.drop o).take s.size)[j]? = (strCells s)[j]? := by rw [ht]
    rw [List.getElem?_take, if_pos hj, List.getElem?_drop] at h1
    rw [← Array.getElem?_toList, h1]
    simp [strCells, hj]
    rfl

/-- The first k bytes as a text. -/
theorem Row.text {P : Program} (h : Row w B e ao cap s) (src dst : TypeId) (hs : P.underlying src = some (.slice e)) (he : P.underlying e = some (.int .u8)) (hd : P.underlying dst = some .string)
    (k c : Nat) (hk : k ≤ s.size) (h0 : 0 < k) : (convert src dst (.slice ao k c)).run P w = .ok (.string (s.extract 0 k)) w := by
  cases ha : ao with
  | none => rcases h with ⟨_, _, h3⟩ | ⟨g, o, cur, h1, _⟩
            · omega
            · rw [ha] at h1; cases h1
  | some a =>
    have hl : (s.data.toList.take k).length = k := by
      rw [List.length_take]
      have : s.data.toList.length = s.size := by simp
      omega
    have := run_convert_bytes_back (P := P) w src dst e a c (s.data.toList.take k) hs he hd (fun j hj => by
      have hj' : j < k := by omega
      rw [h.cell ha j (by omega), List.getElem_take]
      rfl)
    rw [hl] at this
    rw [this]
    congr 2
    apply ByteArray.ext
    apply Array.ext'
    simp
end

/-- A row cut from the front. -/
theorem Row.drop {w : World} {B : Nat} {e : TypeId} {ao : Option Addr} {cap : Nat} {s : ByteArray} (h : Row w B e ao cap s) (k : Nat) (hk : k ≤ s.size) :
    Row w B e (if cap = k then ao else ao.map (·.add (k * 1))) (cap - k) (s.extract k s.size) := by
  have hc := h.cap_le
  rcases h with ⟨rfl, rfl, h3⟩ | ⟨g, o, cur, rfl, hb, hg, h1, h2, h3, h4⟩
  · exact .inl ⟨by simp, by omega, by simp; omega⟩
  · refine .inr ⟨g, if cap = k then o else o + k, cur, ?_, hb, hg, by simp; omega, by omega, by split <;> omega, ?_⟩
    · split
      · rfl
      · simp only [Option.map_some, Nat.mul_one]
        congr 1
        unfold Addr.add; split <;> simp_all
    · by_cases hck : cap = k
      · have h0 : (s.extract k s.size).size = 0 := by simp; omega
        rw [h0, List.take_zero]
        symm
        exact List.eq_nil_of_length_eq_zero (by rw [strCells_length, h0])
      · rw [if_neg hck]
        have e1 : (s.extract k s.size).size = s.size - k := by simp
        have e2 : strCells (s.extract k s.size) = (strCells s).drop k := by
          rw [strCells, strCells, ← List.map_drop]
          congr 1
          simp
          rw [List.take_of_length_le (by simp)]
        rw [e1, e2, ← h4, List.drop_take, List.drop_drop]

section
variable {P : Program} (w : World)

/-- Appending a text's bytes. -/
theorem Row.push_run (B : Nat) (t u ty e : TypeId) (i : TypeInfo) (ht : P.underlying t = some (.slice e)) (hu : P.underlying u = some .string) (hi : P.info? e = some i) (hz : i.zero = some (.int .u8 0))
    (hsize : i.size = 1) (hby : i.bytes = 1)
    (ao : Option Addr) (cap : Nat) (s : ByteArray) (h : Row w B e ao cap s) (x : ByteArray)
    (hbytes : s.size + x.size ≤ 140737488355328) (hB : B ≤ w.heap.size) :
    ∃ ao' cap' w', (Builtin.append_ #[t, u] ty #[.slice ao s.size cap, .string x]).run P w = .ok (.slice ao' (s ++ x).size cap') w' ∧ Row w' B e ao' cap' (s ++ x) ∧ w.grownBy w' (ao.map Addr.block) := by
  have hml : s.size + x.size ≤ maxLen := by unfold maxLen; omega
  have hsz : (s ++ x).size = s.size + x.size := by simp
  have hcs : strCells (s ++ x) = strCells s ++ strCells x := by simp [strCells]
  rcases h with ⟨rfl, rfl, h3⟩ | ⟨g, o, cur, rfl, hb, hg, h1, h2, h4, h5⟩
  · obtain ⟨v', w', r1, r2, r3, r4⟩ := run_append_own_string (P := P) w B t u ty e i ht hu hi hz hsize hby (.slice none 0 0) 0 [] ⟨by simp, .inl ⟨rfl, rfl⟩⟩ x (by omega) (by omega) hB
    have hs0 : strCells s = [] := List.eq_nil_of_length_eq_zero (by rw [strCells_length, h3])
    rw [h3]
    rcases r2.2 with ⟨rfl, hn⟩ | ⟨g, cap, cur, rfl, hb, hg, hnc, hcm, hcz, htk⟩
    · have hx0 : x.size = 0 := by omega
      refine ⟨none, 0, w', ?_, Row.nil' _ _ _ (by omega), by simpa [Value.ownBlock] using r3⟩
      rw [r1, hsz, h3, hx0]
    · refine ⟨some ⟨g, 0, none⟩, cap, w', by rw [r1, hsz, h3], .inr ⟨g, 0, cur, rfl, hb, hg, by omega, hcm, by omega, ?_⟩, by simpa [Value.ownBlock] using r3⟩
      · rw [hcs, hs0, List.drop_zero, hsz, h3]
        simpa using htk
  · by_cases hroom : s.size + x.size ≤ cap
    · have hf := run_firstCells_string (P := P) w 1 x
      have hst := run_storeCells_at P g (o + s.size) e (strCells x) 0 cur w hg (by rw [strCells_length]; omega) (strCells_oneCell x)
      simp only [Nat.add_zero, strCells_length] at hst
      have hadd : (⟨g, o, none⟩ : Addr).add s.size = ⟨g, o + s.size, none⟩ := by unfold Addr.add; split <;> simp_all
      refine ⟨some ⟨g, o, none⟩, cap, w.setRow g (cur.toList.take (o + s.size) ++ strCells x ++ cur.toList.drop (o + s.size + x.size)).toArray, ?_, .inr ⟨g, o, _, rfl, hb, setRow_heap w g cur _ e _ hg, by omega, h2, ?_, ?_⟩, ⟨rfl, rfl, rfl, by simp, fun k _ hk => setRow_other w g k _ (fun e => hk (by simp [e]))⟩⟩
      · simp [Builtin.append_, run_underlying ht, run_underlying hu, sizeOf, typeInfo, hi, hsize, Builtin.lenOf, hroom, hf, hadd, hst]
      · simp only [List.size_toArray, List.length_append, List.length_take, List.length_drop, Array.length_toList, strCells_length]
        omega
      · rw [hsz, hcs, ← h5]
        have hcl : o + s.size ≤ cur.toList.length := by rw [Array.length_toList]; omega
        have e1 : (cur.toList.take (o + s.size)).drop o = (cur.toList.drop o).take s.size := by rw [List.drop_take]; congr 1; omega
        have e2 : ((cur.toList.take (o + s.size) ++ strCells x ++ cur.toList.drop (o + s.size + x.size))).drop o = ((cur.toList.drop o).take s.size ++ strCells x) ++ cur.toList.drop (o + s.size + x.size) := by
          rw [List.append_assoc, List.drop_append_of_le_length (by rw [List.length_take]; omega), e1, List.append_assoc]
        rw [e2]
        have e3 : ((cur.toList.drop o).take s.size ++ strCells x).length = s.size + x.size := by
          rw [List.length_append, strCells_length, List.length_take, List.length_drop]
          omega
        rw [← e3]
        exact List.take_left
    · have hsl : (strCells s).length = s.size * i.size := by rw [strCells_length, hsize, Nat.mul_one]
      have holds : ∀ j u, (strCells s)[j]? = some u → w.cell? ((⟨g, o, none⟩ : Addr).add j) = some u := by
        intro j u hu
        have hj : j < s.size := by have := (List.getElem?_eq_some_iff.1 hu).1; rwa [strCells_length] at this
        have hadd : (⟨g, o, none⟩ : Addr).add j = ⟨g, o + j, none⟩ := by unfold Addr.add; split <;> simp_all
        rw [hadd, cell_of_row w g (o + j) cur e (0, 0) hg]
        rw [← h5, List.getElem?_take, if_pos hj, List.getElem?_drop] at hu
        rw [← Array.getElem?_toList, hu]
      have hr := run_append_grow_string (P := P) w t u ty e i (.int .u8 0) ht hu hi hz ⟨g, o, none⟩ s.size cap (strCells s) hsl holds x (by omega) (by unfold maxLen at hml; omega) (by rw [hby]; exact growslice_fits (by omega) (by omega))
      have hge := grownCap_ge w (s.size + x.size) cap e
      have hcm2 : grownCap w (s.size + x.size) cap e ≤ maxLen := grownCap_le_maxLen w (s.size + x.size) cap e hml
      refine ⟨some ⟨w.heap.size, 0, none⟩, _, _, by rw [hr, hsz], .inr ⟨w.heap.size, 0, _, rfl, hB, heap_alloc_new w.drew _, by omega, hcm2, ?_, ?_⟩, ⟨rfl, rfl, rfl, by simp, fun k hk _ => heap_alloc_old w.drew _ k hk⟩⟩
      · have hz1 : (Value.int IntKind.u8 0).cells.size = 1 := rfl
        simp only [Array.size_append, List.size_toArray, size_zeroCells, hz1, strCells_length]
        omega
      · have hxl : (strCells s ++ strCells x).length = s.size + x.size := by rw [List.length_append, strCells_length, strCells_length]
        simp only [Array.toList_append, List.drop_zero, hsz, hcs]
        rw [← hxl]
        exact List.take_left

/-- The operation, for the walk. -/
theorem Row.push {ops : Array Oper} {rest : List Oper} {op : Oper} {a : Act} {Q : Exit → Act → World → Prop} (hgd : op.guard = none) (sl xo : Operand) (t u : TypeId)
    (ho : op.op = .call { callee := .builtin .append, args := #[sl, xo], argTypes := #[t, u] })
    (B : Nat) (e : TypeId) (i : TypeInfo) (ht : P.underlying t = some (.slice e)) (hu : P.underlying u = some .string) (hi : P.info? e = some i) (hz : i.zero = some (.int .u8 0))
    (hsize : i.size = 1) (hby : i.bytes = 1)
    (ao : Option Addr) (cap : Nat) (s : ByteArray) (hs : a.eval sl = .slice ao s.size cap) (h : Row w B e ao cap s) (x : ByteArray) (hx : a.eval xo = .string x)
    (hbytes : s.size + x.size ≤ 140737488355328) (hB : B ≤ w.heap.size)
    (hk : ∀ ao' cap' w', Row w' B e ao' cap' (s ++ x) → w.grownBy w' (ao.map Addr.block) → wpList P ops Q rest (a.put op.dst (.slice ao' (s ++ x).size cap')) w') : wpList P ops Q (op :: rest) a w := by
  refine wpList_plain hgd fun K hK => ?_
  obtain ⟨ao', cap', w', hr, h2, h3⟩ := Row.push_run (P := P) w B t u op.type e i ht hu hi hz hsize hby ao cap s h x hbytes hB
  unfold Oper.wp execOp
  simp only [ho, resolve, invoke, builtin, Sem.run_bind, Sem.run_pure, Result.andThen_ok, List.map_toArray, List.map_cons, List.map_nil, hs, hx, hr]
  exact hK _ _ (hk ao' cap' w' h2 h3)

/-- At a step of a region that draws its order. -/
theorem Row.push_step {ops : Array Oper} {op : Oper} {a : Act} {K : Act → World → Prop} {Q : Exit → Act → World → Prop} {E : Prop} (hgd : op.guard = none) (sl xo : Operand) (t u : TypeId)
    (ho : op.op = .call { callee := .builtin .append, args := #[sl, xo], argTypes := #[t, u] })
    (B : Nat) (e : TypeId) (i : TypeInfo) (ht : P.underlying t = some (.slice e)) (hu : P.underlying u = some .string) (hi : P.info? e = some i) (hz : i.zero = some (.int .u8 0))
    (hsize : i.size = 1) (hby : i.bytes = 1)
    (ao : Option Addr) (cap : Nat) (s : ByteArray) (hs : a.eval sl = .slice ao s.size cap) (h : Row w B e ao cap s) (x : ByteArray) (hx : a.eval xo = .string x)
    (hbytes : s.size + x.size ≤ 140737488355328) (hB : B ≤ w.heap.size) (n' : Nat) (hn : (s ++ x).size = n')
    (hk : ∀ ao' cap' w', Row w' B e ao' cap' (s ++ x) → w.grownBy w' (ao.map Addr.block) → K (a.put op.dst (.slice ao' n' cap')) w') :
    if Region.wanted op (yielded ops a.tmps) = true then Oper.wp P op a w K Q else E := by
  subst hn
  have hw : Region.wanted op (yielded ops a.tmps) = true := by simp [Region.wanted, hgd]
  rw [if_pos hw]
  obtain ⟨ao', cap', w', hr, h2, h3⟩ := Row.push_run (P := P) w B t u op.type e i ht hu hi hz hsize hby ao cap s h x hbytes hB
  unfold Oper.wp execOp
  simp only [ho, resolve, invoke, builtin, Sem.run_bind, Sem.run_pure, Result.andThen_ok, List.map_toArray, List.map_cons, List.map_nil, hs, hx, hr]
  exact hk ao' cap' w' h2 h3
end

end Go.Proofs.Ytpckaopclgcghaa
