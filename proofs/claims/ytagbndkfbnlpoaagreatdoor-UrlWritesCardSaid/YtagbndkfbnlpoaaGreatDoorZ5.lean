/-
  Plain facts on layer 25: which status is good (stgQ), what a status line says (linO: the four parts, or where it is thrown). No condition.
  Plain facts on texts between quotes, and on lists of pieces, as layer 4 has them. No condition.
  What strings.Builder's WriteByte, WriteString and String do, over a builder of the call's own. Condition: what it holds then takes at most 2^47 bytes.
-/
import Derived.Test.YtagbndkfbnlpoaaGreatDoorZ4
import Derived.Test.YtagbndkfbnlpoaaGreatDoorZ1
import Derived.Test.YtagbndkfbnlpoaaGreatDoorRows
import Derived.Test.YtagbndkfbnlpoaaGreatDoorZ3
import Derived.WalkKit
import Derived.WalkSpells
import Derived.WalkLawsBesides
import Derived.Laws.Externs
import Derived.Lib.Hide
import Derived.Lib.FrozenHead2
import Derived.Shelf.Strings.BuilderK
namespace Go.Proofs.YtagbndkfbnlpoaaGreatDoor

theorem cut_back {p : UInt8 → Bool} {r : ByteArray} {m : Nat} (hm : r.size = m + 1) : ((cutP p r).toList == r.toList) = !p (r[m]'(by omega)) := by
  have hs := cutP_size p r
  rw [hm] at hs
  cases hp : p (r[m]'(by omega))
  · rw [backN_stop (by omega) hp] at hs
    have e : cutP p r = r := by
      unfold cutP
      rw [hm, backN_stop (by omega) hp, ← hm, extract_all]
    rw [e]
    exact beq_self_eq_true _
  · rw [backN_step (by omega) hp] at hs
    have hl := backN_le p r m
    show _ = false
    rw [beq_eq_false_iff_ne]
    intro h
    have := congrArg List.length h
    rw [toList_size, toList_size] at this
    omega
theorem cut_back0 {p : UInt8 → Bool} {r : ByteArray} (hm : r.size = 0) : ((cutP p r).toList == r.toList) = true := by
  have hb : backN p r r.size = r.size := by rw [hm]; rfl
  have e : cutP p r = r := by
    unfold cutP
    rw [hb]
    exact extract_all r
  rw [e]
  exact beq_self_eq_true _

end Go.Proofs.YtagbndkfbnlpoaaGreatDoor
namespace Go.Proofs.YtagbndkfbnlpoaaGreatDoor

/-- What is taken behind an opening quote, and how many bytes are gone by. -/
def quoL : List UInt8 → List UInt8 × Nat
  | [] => ([], 0)
  | [b] => if b.toNat == 34 then ([], 1) else ([b], 1)
  | b :: c :: r => if b.toNat == 34 then ([], 1) else if b.toNat == 92 then (c :: (quoL r).1, (quoL r).2 + 2) else (b :: (quoL (c :: r)).1, (quoL (c :: r)).2 + 1)

/-- The same of a text from one place on. -/
def quoS (s : ByteArray) (k : Nat) : List UInt8 × Nat := quoL (s.data.toList.drop k)
/-- Where the piece ends that begins at k: at a comma in no quotes, or at the end. -/
def stopP : ByteArray := ⟨#[34, 44]⟩
def runP (s : ByteArray) (k : Nat) : Nat := scan (fun b => !hasB stopP b) s k
def pEndF (s : ByteArray) : Nat → Nat → Nat
  | 0, k => k
  | f + 1, k => if runP s k < s.size then (if s[runP s k]!.toNat == 44 then runP s k else pEndF s f (runP s k + 1 + (quoS s (runP s k + 1)).2)) else runP s k
def pEnd (s : ByteArray) (k : Nat) : Nat := pEndF s s.size k
/-- Where a piece begins, what it is, and the pieces from a place on. -/
def pFrom (s : ByteArray) (k : Nat) : Nat := scan tabB s k
def pTo (s : ByteArray) (k : Nat) : Nat := pEnd s (pFrom s k)
def piece (s : ByteArray) (k : Nat) : ByteArray := cutP tabB (s.extract (pFrom s k) (pTo s k))
end Go.Proofs.YtagbndkfbnlpoaaGreatDoor
namespace Go.Proofs.YtagbndkfbnlpoaaGreatDoor
open Go.RowKit

def bldRen : Go.Shelf.Ren := ⟨fun | 169 => 76 | n => n, fun | 70 => 70 | 9 => 9 | 0 => 0 | 72 => 72 | 37 => 38 | 127 => 96 | 3 => 3 | 5 => 5 | n => n, fun | n => n⟩
theorem bldLays : Go.Proofs.Lays.n169 Tryz.prog bldRen := {
  mixed := by kernel_rfl
  f169 := Tryz.func76.trans (congrArg some (by kernel_rfl))
  t0 := Tryz.underlying0
  a0 := Tryz.isAgg0
  z0 := Tryz.sizeOf0
  v0 := Tryz.zeroValue0
  t3 := Tryz.underlying3
  a3 := Tryz.isAgg3
  z3 := Tryz.sizeOf3
  v3 := Tryz.zeroValue3
  t9 := Tryz.underlying9
  a9 := Tryz.isAgg9
  z9 := Tryz.sizeOf9
  v9 := Tryz.zeroValue9
  t37 := Tryz.underlying38
  a37 := Tryz.isAgg38
  z37 := Tryz.sizeOf38
  v37 := Tryz.zeroValue38
  t70 := Tryz.underlying70
  a70 := Tryz.isAgg70
  z70 := Tryz.sizeOf70
  v70 := Tryz.zeroValue70
  t72 := Tryz.underlying72
  a72 := Tryz.isAgg72
  z72 := Tryz.sizeOf72
  v72 := Tryz.zeroValue72
  t127 := Tryz.underlying96
  a127 := Tryz.isAgg96
  z127 := Tryz.sizeOf96
  v127 := Tryz.zeroValue96 }
theorem bldExtra : Builder.Extra Tryz.prog bldRen := {
  sizeBuilder := by kernel_rfl
  liesBuilder := by kernel_rfl
  t5 := Tryz.underlying5
  a5 := Tryz.isAgg5
  z5 := Tryz.sizeOf5
  v5 := Tryz.zeroValue5
  infoByte := by kernel_rfl
  cellsByte := by kernel_rfl
  sizeByte := by kernel_rfl
  neB5 := by decide }

/-- The builder in block b holds the bytes l; it, and its row, lie from B on. -/
def Bld (B b : Nat) (l : List UInt8) (w : World) : Prop := Lib.IsBuilderF 72 5 B b (Lib.byteCells l) w

theorem Bld.new (w : World) : Bld w.heap.size w.heap.size [] (w.alloc (.cells #[.pointer none, .slice none 0 0] 72)) :=
  Lib.IsBuilderF.of (Lib.fresh_isBuilder 72 5 w)
theorem Bld.lt {B b : Nat} {l : List UInt8} {w : World} (h : Bld B b l w) : b < w.heap.size := by
  rcases h with h | h <;> exact h.lt
theorem Bld.at_mv {B b : Nat} {p : Value} {bs : List Value} {W W' : World} {r : List Nat} (h : Lib.BuilderAtF 72 5 B b p bs W) (hm : Mv W.heap.size r W W') (hr : ∀ x ∈ r, x < B) : Lib.BuilderAtF 72 5 B b p bs W' := by
  have hlt := h.lt
  obtain ⟨hB, v, hb, hown, hne⟩ := h
  refine ⟨hB, v, (hm.block b hlt (fun hx => by have := hr _ hx; omega)).trans hb, ⟨hown.1, ?_⟩, hne⟩
  rcases hown.2 with hn | ⟨g, cap, cur, fz, hv, hbg, hg, rest⟩
  · exact .inl hn
  · exact .inr ⟨g, cap, cur, fz, hv, hbg, (hm.block g (Array.getElem?_eq_some_iff.1 hg).1 (fun hx => by have := hr _ hx; omega)).trans hg, rest⟩
theorem Bld.mv {B b : Nat} {l : List UInt8} {W W' : World} {r : List Nat} (h : Bld B b l W) (hm : Mv W.heap.size r W W') (hr : ∀ x ∈ r, x < B) : Bld B b l W' := by
  rcases h with h | h
  · exact .inl (Bld.at_mv h hm hr)
  · exact .inr (Bld.at_mv h hm hr)

theorem no_escape (a : Value) (w : World) : (callFunc 110 #[a]).run Tryz.prog w = .ok (.value a) w := by
  rw [run_callFunc_extern Tryz.func110 (by kernel_rfl) (by kernel_rfl) (by kernel_rfl) (e := Extern.AbiNoEscape.same) (by kernel_rfl), Lib.run_noEscape]
  rfl

set_option maxHeartbeats 1000000 in
set_option maxRecDepth 100000 in
theorem copyCheck_used (b : Nat) (w : World) (h0 : w.cell? ⟨b, 0, none⟩ = some (.pointer (some ⟨b, 0, none⟩))) :
    Calls Tryz.prog 91 #[.pointer (some ⟨b, 0, none⟩)] w fun e w' => e = .returned (.tuple #[]) ∧ w = w' := by
  have hq : ∀ w : World, (binOp .neq 70 (.pointer (some ⟨b, 0, none⟩)) (.pointer (some ⟨b, 0, none⟩))).run Tryz.prog w = .ok (.bool false) w := fun w => by
    obtain ⟨j, hj, _⟩ := Option.map_eq_some_iff.1 bldExtra.sizeBuilder
    exact Lib.run_neq_ptr_same w _ Tryz.underlying70 hj
  go_enter Tryz.func91, Tryz.ntmps91
  go_wp2
  go_end0
  exact ⟨rfl, rfl⟩

set_option maxHeartbeats 1000000 in
set_option maxRecDepth 100000 in
theorem copyCheck_fresh (b : Nat) (w : World) (h0 : w.cell? ⟨b, 0, none⟩ = some (.pointer none)) (hsh : w.shape? b = some (72, 2)) (hfz : w.frozen? ⟨b, 0, none⟩ = false) :
    Calls Tryz.prog 91 #[.pointer (some ⟨b, 0, none⟩)] w fun e w' => e = .returned (.tuple #[]) ∧ w' = w.setCell ⟨b, 0, none⟩ (.pointer (some ⟨b, 0, none⟩)) := by
  obtain ⟨j, hj, hjs⟩ := Option.map_eq_some_iff.1 bldExtra.sizeBuilder
  have hq : ∀ w : World, (binOp .neq 70 (.pointer (some ⟨b, 0, none⟩)) (.pointer (some ⟨b, 0, none⟩))).run Tryz.prog w = .ok (.bool false) w := fun w =>
    Lib.run_neq_ptr_same w _ Tryz.underlying70 hj
  have hto : (convert 70 109 (.pointer (some ⟨b, 0, none⟩))).run Tryz.prog w = .ok (.pointer (some ⟨b, 0, none⟩)) w :=
    Lib.run_to_unsafe w ⟨b, 0, none⟩ Tryz.underlying70 Tryz.underlying109 hj (by rw [hjs]; decide) hsh (Nat.zero_lt_succ 1)
  have hfrom : (convert 109 70 (.pointer (some ⟨b, 0, none⟩))).run Tryz.prog w = .ok (.pointer (some ⟨b, 0, none⟩)) w :=
    Lib.run_from_unsafe w ⟨b, 0, none⟩ Tryz.underlying109 Tryz.underlying70 hj hsh bldExtra.liesBuilder
  have hne := no_escape
  clear hsh
  go_enter Tryz.func91, Tryz.ntmps91
  go_wp2
  go_end0
  exact ⟨rfl, rfl⟩

theorem copyCheck_any (B b : Nat) (bs : List Value) (w : World) (h : Lib.IsBuilderF 72 5 B b bs w) :
    Calls Tryz.prog 91 #[.pointer (some ⟨b, 0, none⟩)] w fun e w' => e = .returned (.tuple #[]) ∧ Lib.BuilderAtF 72 5 B b (.pointer (some ⟨b, 0, none⟩)) bs w' ∧ Below B w w' := by
  rcases h with h | h
  · refine (copyCheck_fresh b w h.cell0 h.shape h.frozen0).mono ?_
    rintro e w' ⟨rfl, rfl⟩
    exact ⟨rfl, h.used _, (Below.refl B w).setCell (p := ⟨b, 0, none⟩) h.1 _⟩
  · refine (copyCheck_used b w h.cell0).mono ?_
    rintro e w' ⟨rfl, rfl⟩
    exact ⟨rfl, h, Below.refl B _⟩

/-- What a builder's own block tells. -/
theorem bld_block {b : Nat} {v : Value} {W : World} (hb : W.heap[b]? = some (.cells #[.pointer (some ⟨b, 0, none⟩), v] 72 (0, 0))) :
    W.cell? ⟨b, 0, none⟩ = some (.pointer (some ⟨b, 0, none⟩)) ∧ W.cell? ⟨b, 1, none⟩ = some v ∧ W.frozen? ⟨b, 1, none⟩ = false ∧ b < W.heap.size := by
  refine ⟨by rw [Lib.cell_of_heap hb]; rfl, by rw [Lib.cell_of_heap hb]; rfl, Lib.frozen_of_heap hb 1, (Array.getElem?_eq_some_iff.1 hb).1⟩

set_option maxHeartbeats 2000000 in
set_option maxRecDepth 100000 in
theorem writeByte_any (B b : Nat) (l : List UInt8) (c : UInt8) (w : World) (h : Bld B b l w) (hlen : l.length + 1 ≤ 140737488355328) (hBw : B ≤ w.heap.size) :
    Calls Tryz.prog 75 #[.pointer (some ⟨b, 0, none⟩), .int .u8 (c.toNat : Int)] w fun e w' => e = .returned .nilIface ∧ Bld B b (l ++ [c]) w' ∧ Below B w w' := by
  obtain ⟨i0, hi, hz0, hz1, hz2⟩ := info_parts (bldExtra.infoByte : (Tryz.prog.info? 5).map (fun i => (i.zero, i.size, i.bytes)) = some (some (.int .u8 0), 1, 1))
  have hl : (Lib.byteCells l).length = l.length := Lib.byteCells_length l
  go_enter Tryz.func75, Tryz.ntmps75
  go_wp2_with (go_at_call 91; refine (copyCheck_any B b (Lib.byteCells l) _ h).mono ?_)
  rintro e w1 ⟨rfl, h1, hb1⟩
  obtain ⟨hB, v, hbk, hown, hne⟩ := h1
  obtain ⟨c0, c1, _, hlt⟩ := bld_block hbk
  go_wp2_with (at_builtin; refine Go.wpList_append_ownF _ rfl _ _ 38 rfl B 5 i0 (.int .u8 0) 1 1 Tryz.underlying38 hi hz0 hz1 hz2 rfl (by decide) _ _ _ rfl (hown.alloc _) ⟨w1.heap.size, 0, none⟩ 1 1 [.int .u8 (c.toNat : Int)] rfl rfl ?c1 ?c2 ?c3 ?c4 ?c5 ?_)
  case c1 =>
    intro j u hj
    match j, hj with
    | 0, hj => simp at hj; subst hj; simp [Addr.add]
  case c2 => intro u hu; simp at hu; subst hu; rfl
  case c3 => unfold maxLen; omega
  case c4 => omega
  case c5 => have := hb1.size; simp; omega
  intro v' w2 hown' hgrow _
  have hb2 : w2.heap[b]? = some (.cells #[.pointer (some ⟨b, 0, none⟩), v] 72 (0, 0)) := by
    rw [hgrow.block b (by simp; omega) (fun e => hne e.symm), Lib.alloc_old w1 _ b hlt]
    exact hbk
  have HW := Lib.hid ((hb1.alloc (by have := hb1.size; omega) _).grown hgrow (by have := hb1.size; simp; omega) (fun k hk => (hown.lt k hk).1))
  have HO := Lib.hid hown'
  have HB2 := Lib.hid hb2
  obtain ⟨d0, d1, f1, _⟩ := bld_block hb2
  clear hb2 hbk hown hgrow hb1 c0 c1 hl h
  obtain ⟨ao, n', cap, rfl⟩ : ∃ ao n' cap, v' = .slice ao n' cap := by
    rcases hown'.2 with ⟨hv, _⟩ | ⟨g, cap, cur, fz, hv, _⟩
    · exact ⟨_, _, _, hv⟩
    · exact ⟨_, _, _, hv⟩
  clear hown'
  go_wp2
  go_ret
  refine ⟨rfl, .inr ?_, HW.out.setCell (p := ⟨b, 1, none⟩) hB _⟩
  rw [Lib.byteCells_append]
  exact Lib.BuilderAtF.put (T := 72) (e := 5) hB HB2.out (bs' := Lib.byteCells l ++ [.int .u8 (c.toNat : Int)]) (by simpa [Lib.byteCells_length] using HO.out) (by decide)

set_option maxHeartbeats 2000000 in
set_option maxRecDepth 100000 in
theorem writeString_any (B b : Nat) (l : List UInt8) (s : ByteArray) (w : World) (h : Bld B b l w) (hlen : l.length + s.size ≤ 140737488355328) (hBw : B ≤ w.heap.size) :
    Calls Tryz.prog 72 #[.pointer (some ⟨b, 0, none⟩), .string s] w fun e w' => e = .returned (.tuple #[.int .i64 (s.size : Nat), .nilIface]) ∧ Bld B b (l ++ s.data.toList) w' ∧ Below B w w' := by
  obtain ⟨i0, hi, hz0, hz1, hz2⟩ := info_parts (bldExtra.infoByte : (Tryz.prog.info? 5).map (fun i => (i.zero, i.size, i.bytes)) = some (some (.int .u8 0), 1, 1))
  have hl : (Lib.byteCells l).length = l.length := Lib.byteCells_length l
  go_enter Tryz.func72, Tryz.ntmps72
  go_wp2_with (go_at_call 91; refine (copyCheck_any B b (Lib.byteCells l) _ h).mono ?_)
  rintro e w1 ⟨rfl, h1, hb1⟩
  obtain ⟨hB, v, hbk, hown, hne⟩ := h1
  obtain ⟨c0, c1, _, hlt⟩ := bld_block hbk
  go_wp2_with (at_builtin; refine Lib.wpList_append_own_stringF _ rfl _ _ 38 9 rfl B 5 i0 Tryz.underlying38 Tryz.underlying9 hi hz0 hz1 hz2 _ _ _ rfl hown s rfl ?c3 ?c4 ?c5 ?_)
  case c3 => unfold maxLen; omega
  case c4 => omega
  case c5 => have := hb1.size; omega
  intro v' w2 hown' hgrow _
  have hb2 : w2.heap[b]? = some (.cells #[.pointer (some ⟨b, 0, none⟩), v] 72 (0, 0)) := by
    rw [hgrow.block b hlt (fun e => hne e.symm)]
    exact hbk
  have HW := Lib.hid (hb1.grown hgrow (by have := hb1.size; omega) (fun k hk => (hown.lt k hk).1))
  have HO := Lib.hid hown'
  have HB2 := Lib.hid hb2
  obtain ⟨d0, d1, f1, _⟩ := bld_block hb2
  clear hb2 hbk hown hgrow hb1 c0 c1 hl h
  obtain ⟨ao, n', cap, rfl⟩ : ∃ ao n' cap, v' = .slice ao n' cap := by
    rcases hown'.2 with ⟨hv, _⟩ | ⟨g, cap, cur, fz, hv, _⟩
    · exact ⟨_, _, _, hv⟩
    · exact ⟨_, _, _, hv⟩
  clear hown'
  go_wp2
  go_ret2
  refine ⟨rfl, .inr ?_, HW.out.setCell (p := ⟨b, 1, none⟩) hB _⟩
  rw [Lib.byteCells_append]
  exact Lib.BuilderAtF.put (T := 72) (e := 5) hB HB2.out (bs' := Lib.byteCells l ++ Lib.byteCells s.data.toList) (by simpa [Lib.byteCells_length, ← Lib.strCells_eq, Lib.strCells_length] using HO.out) (by decide)

theorem string_any (B b : Nat) (l : List UInt8) (w : World) (h : Bld B b l w) (hBw : B ≤ w.heap.size) :
    Calls Tryz.prog 76 #[.pointer (some ⟨b, 0, none⟩)] w fun e w' => e = .returned (.string ⟨l.toArray⟩) ∧ Bld B b l w' ∧ Below B w w' :=
  (Any.Builder_String_any_k bldLays bldExtra B b l w h hBw).mono fun _ _ h => ⟨h.1, h.2.1, h.2.2.1⟩

end Go.Proofs.YtagbndkfbnlpoaaGreatDoor
