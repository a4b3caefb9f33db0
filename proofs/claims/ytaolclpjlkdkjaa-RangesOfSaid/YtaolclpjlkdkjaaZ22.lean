/-
  What takePiece does to a cursor, and what layer 4's Split answers. Condition: the text takes at most 2^45 bytes.
  What Clone and DeleteFunc of the library do with headers, and what Cut of package header answers. Condition: texts are shorter than a mebibyte, headers no more than that.
  What Parse of package header answers. Condition: the text is shorter than a mebibyte.
-/
import Derived.Test.YtaolclpjlkdkjaaZ5
import Derived.Test.YtaolclpjlkdkjaaZ8
import Derived.OwnWalk
import Derived.Laws.OwnMore
import Derived.Test.YtaolclpjlkdkjaaZ21
import Derived.Lib.SliceRun
import Derived.Test.YtaolclpjlkdkjaaZ19
import Derived.Test.YtaolclpjlkdkjaaZ2
import Derived.Maps.AppendAt
import Derived.Test.YtaolclpjlkdkjaaRows
import Derived.WalkKit
import Derived.BigQuiet
import Derived.IntWalk
import Derived.Deep.RegionHeld3
import Derived.Deep.RegionWith
namespace Go.Proofs.Ytaolclpjlkdkjaa
open Go.RowKit

theorem own_mv {W W' : World} {base : Nat} {e : TypeId} {size : Nat} {v : Value} {n : Nat} {xs : List Value} {r : List Nat} (h : W.ownsRow base e size v n xs) (hm : Mv W.heap.size r W W') (hr : ∀ x ∈ r, v.ownBlock ≠ some x) : W'.ownsRow base e size v n xs := by
  refine ⟨h.1, ?_⟩
  rcases h.2 with hn | ⟨g, cap, cur, rfl, hb, hg, rest⟩
  · exact .inl hn
  · exact .inr ⟨g, cap, cur, rfl, hb, (hm.block g (Array.getElem?_eq_some_iff.1 hg).1 (fun hx => hr g hx rfl)).trans hg, rest⟩
theorem own_slice {W : World} {base : Nat} {e : TypeId} {size : Nat} {v : Value} {n : Nat} {xs : List Value} (h : W.ownsRow base e size v n xs) : ∃ ao n' cap, v = .slice ao n' cap := by
  rcases h.2 with ⟨hv, _⟩ | ⟨g, cap, cur, hv, _⟩
  · exact ⟨_, _, _, hv⟩
  · exact ⟨_, _, _, hv⟩

/-- Texts as cells. -/
def strs (l : List ByteArray) : List Value := l.map Value.string
end Go.Proofs.Ytaolclpjlkdkjaa
namespace Go.Proofs.Ytaolclpjlkdkjaa
open Go.RowKit

theorem own_set1 {w : World} {B size n cap g : Nat} {e : TypeId} {xs : List Value} (h : w.ownsRow B e size (.slice (some ⟨g, 0, none⟩) n cap) n xs) (i : Nat) (u : Value) :
    (w.setCell ⟨g, i, none⟩ u).ownsRow B e size (.slice (some ⟨g, 0, none⟩) n cap) n (xs.set i u) := by
  refine ⟨by rw [List.length_set]; exact h.1, ?_⟩
  rcases h.2 with ⟨h1, _⟩ | ⟨g', cap', cur, h1, hB, hg, hc, hm, hs, ht⟩
  · cases h1
  · cases h1
    refine .inr ⟨g, cap, cur.setIfInBounds i u, rfl, hB, ?_, hc, hm, by simp [hs], ?_⟩
    · simp [World.setCell, Array.getElem?_modify, hg]
    · rw [Array.toList_setIfInBounds, List.take_set, ht]
theorem own_take {w : World} {B size n cap i : Nat} {A : Option Addr} {e : TypeId} {xs : List Value} (h : w.ownsRow B e size (.slice A n cap) n xs) (hi : i ≤ n) :
    w.ownsRow B e size (.slice A i cap) i (xs.take (i * size)) := by
  have hle : i * size ≤ n * size := Nat.mul_le_mul_right _ hi
  refine ⟨by rw [List.length_take, h.1]; omega, ?_⟩
  rcases h.2 with ⟨h1, h2⟩ | ⟨g', cap', cur, h1, hB, hg, hc, hm, hs, ht⟩
  · cases h1
    exact .inl ⟨by rw [show i = 0 by omega], by omega⟩
  · cases h1
    exact .inr ⟨g', cap, cur, rfl, hB, hg, by omega, hm, hs, by rw [← ht, List.take_take, Nat.min_eq_left hle]⟩
theorem prmL_set : ∀ (l : List Prm) (k : Nat) (p : Prm), prmL (l.set k p) = ((prmL l).set (k * 2) (.string p.n)).set (k * 2 + 1) (.string p.v)
  | [], _, _ => rfl
  | q :: r, 0, p => by simp [prmL]
  | q :: r, k + 1, p => by
    have ih := prmL_set r k p
    have e : prmL (q :: r) = .string q.n :: .string q.v :: prmL r := by simp [prmL]
    have e2 : prmL (q :: r.set k p) = .string q.n :: .string q.v :: prmL (r.set k p) := by simp [prmL]
    rw [List.set_cons_succ, e2, ih, e, show (k + 1) * 2 = k * 2 + 1 + 1 by omega]
    rfl
theorem prmL_take (l : List Prm) (k : Nat) : (prmL l).take (k * 2) = prmL (l.take k) := by
  induction l generalizing k with
  | nil => simp [prmL]
  | cons q r ih =>
    have e : prmL (q :: r) = .string q.n :: .string q.v :: prmL r := by simp [prmL]
    cases k with
    | zero => simp [prmL]
    | succ k =>
      have e2 : prmL (q :: r.take k) = .string q.n :: .string q.v :: prmL (r.take k) := by simp [prmL]
      rw [e, show (k + 1) * 2 = k * 2 + 1 + 1 by omega, List.take_succ_cons, List.take_succ_cons, ih, List.take_succ_cons, e2]

/-- Headers that lie in a row of the call's own. -/
def OwnHd (w : World) (base : Nat) (A : Option Addr) (c : Nat) (l : List Prm) : Prop := w.ownsRow base 60 2 (.slice A l.length c) l.length (prmL l)
theorem OwnHd.ps {w : World} {base c : Nat} {A : Option Addr} {l : List Prm} (h : OwnHd w base A c l) : PsIn w A l := by
  obtain ⟨A', c', e, hp⟩ := hdrs_of_own h
  cases e
  exact hp
theorem OwnHd.hd {w : World} {base c : Nat} {A : Option Addr} {l : List Prm} (h : OwnHd w base A c l) : HdIn w A l := HdIn.ps h.ps
theorem OwnHd.set {w : World} {base c g : Nat} {l : List Prm} (h : OwnHd w base (some ⟨g, 0, none⟩) c l) (k : Nat) (p : Prm) :
    OwnHd ((w.setCell ⟨g, k * 2, none⟩ (.string p.n)).setCell ⟨g, k * 2 + 1, none⟩ (.string p.v)) base (some ⟨g, 0, none⟩) c (l.set k p) := by
  have := own_set1 (own_set1 h (k * 2) (.string p.n)) (k * 2 + 1) (.string p.v)
  rw [← prmL_set] at this
  unfold OwnHd
  rw [List.length_set]
  exact this
theorem OwnHd.take {w : World} {base c : Nat} {A : Option Addr} {l : List Prm} (h : OwnHd w base A c l) {i : Nat} (hi : i ≤ l.length) : OwnHd w base A c (l.take i) := by
  have := own_take h hi
  rw [prmL_take] at this
  unfold OwnHd
  rw [List.length_take, Nat.min_eq_left hi]
  exact this
theorem OwnHd.below {w w' : World} {B base c : Nat} {A : Option Addr} {l : List Prm} (h : OwnHd w base A c l) (hb : Below B w w') (hB : w.heap.size ≤ B) : OwnHd w' base A c l :=
  own_mv h (Mv.of_below (hb.mono hB) []) (by simp)
theorem OwnHd.cap {w : World} {base c : Nat} {A : Option Addr} {l : List Prm} (h : OwnHd w base A c l) : l.length ≤ c := by
  rcases h.2 with ⟨h1, h2⟩ | ⟨_, _, _, h1, _, _, hc, _⟩
  · rw [h2]; exact Nat.zero_le _
  · cases h1; exact hc
theorem HdIn.cells {w : World} {a : Addr} {ps : List Prm} (h : HdIn w (some a) ps) : ∀ j u, (prmL ps)[j]? = some u → w.cell? (a.add j) = some u := fun j u hj => by
  have hjl : j < (prmL ps).length := (List.getElem?_eq_some_iff.1 hj).1
  rw [prmL_len] at hjl
  obtain ⟨i, hi⟩ : ∃ i, i = j / 2 := ⟨_, rfl⟩
  have hil : i < ps.length := by omega
  obtain ⟨a', e, _, h0, h1⟩ := h i hil
  cases e
  rcases (by omega : j = i * 2 ∨ j = i * 2 + 1) with e2 | e2
  · rw [e2] at hj ⊢
    rw [(prmL_at ps i hil).1] at hj
    rw [h0]; exact hj
  · rw [e2] at hj ⊢
    rw [(prmL_at ps i hil).2] at hj
    have ea : a.add (i * 2 + 1) = ⟨(a.add (i * 2)).block, (a.add (i * 2)).off + 1, none⟩ := by
      unfold Addr.add
      by_cases h0 : i * 2 = 0
      · simp [h0]
      · simp [h0, Nat.add_assoc]
    rw [ea, h1]; exact hj

end Go.Proofs.Ytaolclpjlkdkjaa
namespace Go.Proofs.Ytaolclpjlkdkjaa
open Go.RowKit Go.Shelf
attribute [local go_sem] Oper.semAt_some

theorem two_new (w : World) (n v : ByteArray) : ∀ j u, ([.string n, .string v] : List Value)[j]? = some u → (w.alloc (.cells #[.string n, .string v] 60)).cell? ((⟨w.heap.size, 0, none⟩ : Addr).add j) = some u := fun j u hj => by
  have e : (⟨w.heap.size, 0, none⟩ : Addr).add j = ⟨w.heap.size, j, none⟩ := by cases j <;> simp [Addr.add]
  rw [e, (Blk.new w 60 #[.string n, .string v]).cell]
  simpa using hj
theorem two_one22 {n v : ByteArray} : ∀ u ∈ ([.string n, .string v] : List Value), u.oneCell' = true := fun u hu => by
  simp at hu
  rcases hu with rfl | rfl <;> rfl
end Go.Proofs.Ytaolclpjlkdkjaa
