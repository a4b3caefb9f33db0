/-
  What takePiece does to a cursor, and what layer 4's Split answers. Condition: the text takes at most 2^45 bytes.
  Plain facts on the values of one header, as layer 11 has them: the values as one text, the types among the pieces, what becomes of a type by the next one. No condition.
  What the builder's grow of the library does at this translation.
-/
import Derived.Test.YtagbndkfbnlpoaaGreatDoorZ7
import Derived.OwnWalk
import Derived.Laws.OwnMore
import Derived.Test.YtagbndkfbnlpoaaGreatDoorZ6
import Derived.Test.YtagbndkfbnlpoaaGreatDoorZ4
import Derived.Maps.OwnSet
import Derived.Maps.AppendAt
import Derived.Laws.AppendOwn
import Derived.BigQuiet
import Derived.Shelf.Strings.Builder2
import Derived.Test.YtagbndkfbnlpoaaGreatDoorZ5
import Derived.WalkKit
namespace Go.Proofs.YtagbndkfbnlpoaaGreatDoor
open Go.RowKit

theorem own_mv {W W' : World} {base : Nat} {e : TypeId} {size : Nat} {v : Value} {n : Nat} {xs : List Value} {r : List Nat} (h : W.ownsRow base e size v n xs) (hm : Mv W.heap.size r W W') (hr : ∀ x ∈ r, v.ownBlock ≠ some x) : W'.ownsRow base e size v n xs := by
  refine ⟨h.1, ?_⟩
  rcases h.2 with hn | ⟨g, cap, cur, rfl, hb, hg, rest⟩
  · exact .inl hn
  · exact .inr ⟨g, cap, cur, rfl, hb, (hm.block g (Array.getElem?_eq_some_iff.1 hg).1 (fun hx => hr g hx rfl)).trans hg, rest⟩
theorem own_slice {W : World} {base : Nat} {e : TypeId} {size : Nat} {v : Value} {n : Nat} {xs : List Value} (h : W.ownsRow base e size v n xs) : ∃ ao n' cap, v = .slice ao n' cap := by
  rcases h.2 with ⟨hv, _⟩ | ⟨g, cap, cur, hv, _⟩
  · exact ⟨_, _, _, hv⟩
  · exact ⟨_, _, _, hv⟩

theorem Tryz.info9 : (Tryz.prog.info? 9).map (fun i => (i.zero, i.size, i.bytes)) = some (some (.string ⟨#[]⟩), 1, 16) := by kernel_rfl

/-- Texts as cells. -/
def strs (l : List ByteArray) : List Value := l.map Value.string
end Go.Proofs.YtagbndkfbnlpoaaGreatDoor
namespace Go.Proofs.YtagbndkfbnlpoaaGreatDoor

abbrev sepS : ByteArray := ⟨#[44, 32]⟩
/-- The values as one text. -/
def joinS : List ByteArray → ByteArray
  | [] => ⟨#[]⟩
  | x :: r => r.foldl (fun a y => (a ++ sepS) ++ y) x
theorem joinS_le {m : Nat} : ∀ (r : List ByteArray) (x : ByteArray), (∀ y ∈ r, y.size ≤ m) → (r.foldl (fun a y => (a ++ sepS) ++ y) x).size ≤ x.size + r.length * (m + 2)
  | [], x, _ => by simp
  | y :: r, x, h => by
    have h1 := joinS_le r ((x ++ sepS) ++ y) (fun z hz => h z (List.mem_cons_of_mem _ hz))
    have h2 := h y List.mem_cons_self
    rw [List.foldl_cons]
    have h3 : ((x ++ sepS) ++ y).size = x.size + 2 + y.size := by
      rw [ByteArray.size_append, ByteArray.size_append]; rfl
    rw [h3] at h1
    have h4 : (y :: r).length * (m + 2) = r.length * (m + 2) + (m + 2) := by rw [List.length_cons, Nat.add_mul, Nat.one_mul]
    omega
theorem joinS_size {m : Nat} {xs : List ByteArray} (h : ∀ y ∈ xs, y.size ≤ m) : (joinS xs).size ≤ xs.length * (m + 2) := by
  cases xs with
  | nil => exact Nat.zero_le _
  | cons x r =>
    have h1 := joinS_le r x (fun z hz => h z (List.mem_cons_of_mem _ hz))
    have h2 := h x List.mem_cons_self
    have h4 : (x :: r).length * (m + 2) = r.length * (m + 2) + (m + 2) := by rw [List.length_cons, Nat.add_mul, Nat.one_mul]
    show (r.foldl (fun a y => (a ++ sepS) ++ y) x).size ≤ _
    omega

end Go.Proofs.YtagbndkfbnlpoaaGreatDoor
namespace Go.Proofs.YtagbndkfbnlpoaaGreatDoor
open Go.RowKit Go.Shelf

def lays241_ren : Go.Shelf.Ren := ⟨fun | 241 => 109 | 277 => 121 | n => n, fun | 70 => 70 | 3 => 3 | 0 => 0 | 72 => 72 | 37 => 38 | 5 => 5 | n => n, fun | n => n⟩

theorem lays241 : Go.Proofs.Lays.n241 Tryz.prog lays241_ren := {
  mixed := by kernel_rfl
  f241 := Tryz.func109.trans (congrArg some (by kernel_rfl))
  f277 := Tryz.func121.trans (congrArg some (by kernel_rfl))
  t0 := Tryz.underlying0
  a0 := Tryz.isAgg0
  z0 := Tryz.sizeOf0
  v0 := Tryz.zeroValue0
  t3 := Tryz.underlying3
  a3 := Tryz.isAgg3
  z3 := Tryz.sizeOf3
  v3 := Tryz.zeroValue3
  t37 := Tryz.underlying38
  a37 := Tryz.isAgg38
  z37 := Tryz.sizeOf38
  v37 := Tryz.zeroValue38
  t70 := Tryz.underlying70
  a70 := Tryz.isAgg70
  z70 := Tryz.sizeOf70
  v70 := Tryz.zeroValue70
  t72 := Tryz.underlying72
  a72 := Tryz.isAgg72
  z72 := Tryz.sizeOf72
  v72 := Tryz.zeroValue72 }

theorem Builder_Extra_241 : Builder.Extra Tryz.prog lays241_ren := {
  sizeBuilder := by kernel_rfl
  liesBuilder := by kernel_rfl
  t5 := Tryz.underlying5
  a5 := Tryz.isAgg5
  z5 := Tryz.sizeOf5
  v5 := Tryz.zeroValue5
  infoByte := by kernel_rfl
  cellsByte := by kernel_rfl
  sizeByte := by kernel_rfl
  neB5 := by decide }

open Go.RowKit in
theorem Builder_grow_fresh (B b n : Nat) (w : World) (hB : B ≤ b) (hbk : w.heap[b]? = some (.cells #[.pointer (some ⟨b, 0, none⟩), .slice none 0 0] 72 (0, 0))) (hBw : B ≤ w.heap.size) (hn : n ≤ 281474976710656) :
    Calls Tryz.prog 109 #[.pointer (some ⟨b, 0, none⟩), .int .i64 n] w fun e w' => e = .returned (.tuple #[]) ∧ (Lib.BuilderAt 72 5 B b (.pointer (some ⟨b, 0, none⟩)) [] w' ∧ Below B w w') := Any.Builder_grow_fresh lays241 Builder_Extra_241 B b n w hB hbk hBw hn

theorem bgrow_any (b n : Nat) (w : World) (hbk : w.heap[b]? = some (.cells #[.pointer (some ⟨b, 0, none⟩), .slice none 0 0] 72 (0, 0))) (hn : n ≤ 281474976710656) :
    Calls Tryz.prog 109 #[.pointer (some ⟨b, 0, none⟩), .int .i64 n] w fun e w' => e = .returned (.tuple #[]) ∧ Bld b b [] w' ∧ Below b w w' :=
  (Builder_grow_fresh b b n w (Nat.le_refl _) hbk (Nat.le_of_lt (Array.getElem?_eq_some_iff.1 hbk).1) hn).mono fun _ _ h => ⟨h.1, Lib.IsBuilderF.of (Or.inr h.2.1), h.2.2⟩

end Go.Proofs.YtagbndkfbnlpoaaGreatDoor
