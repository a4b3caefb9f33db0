/-
  Plain facts on headers: which are good, of which name, what their text is, and what a text's lines say. No condition.
  Plain facts on headers: what is got, cut and set, header by header. No condition.
  Plain facts on where a parameter stands. No condition.
-/
import Derived.Test.YtighgoefmccagaaZ9
import Derived.Test.YtighgoefmccagaaZ8
namespace Go.Proofs.Ytighgoefmccagaa

/-- Whether a header has a name. -/
def hasN (name : ByteArray) (h : Prm) : Bool := sameB h.n name
def getN (name : ByteArray) (l : List Prm) : List ByteArray := (l.filter (hasN name)).map Prm.v
def cutN (name : ByteArray) (l : List Prm) : List Prm := l.filter fun h => !hasN name h
end Go.Proofs.Ytighgoefmccagaa
namespace Go.Proofs.Ytighgoefmccagaa

theorem getN_step (name : ByteArray) (l : List Prm) {k : Nat} (h : k < l.length) :
    getN name (l.take (k + 1)) = getN name (l.take k) ++ (if hasN name l[k] then [l[k].v] else []) := by
  unfold getN
  rw [List.take_succ_eq_append_getElem h, List.filter_append, List.map_append]
  congr 1
  cases e : hasN name l[k] <;> simp [e]
theorem cutN_step (name : ByteArray) (l : List Prm) {k : Nat} (h : k < l.length) :
    cutN name (l.take (k + 1)) = cutN name (l.take k) ++ (if hasN name l[k] then [] else [l[k]]) := by
  unfold cutN
  rw [List.take_succ_eq_append_getElem h, List.filter_append]
  congr 1
  cases e : hasN name l[k] <;> simp [e]
theorem getN_len (name : ByteArray) (l : List Prm) : (getN name l).length ≤ l.length := by
  unfold getN
  rw [List.length_map]
  exact (List.filter_sublist (l := l)).length_le
theorem cutN_len (name : ByteArray) (l : List Prm) : (cutN name l).length ≤ l.length := by
  unfold cutN
  exact (List.filter_sublist (l := l)).length_le
theorem getN_none {name : ByteArray} {l : List Prm} : (getN name l).length = 0 ↔ l.any (hasN name) = false := by
  unfold getN
  rw [List.length_map, List.length_eq_zero_iff, List.filter_eq_nil_iff, List.any_eq_false]

end Go.Proofs.Ytighgoefmccagaa
namespace Go.Proofs.Ytighgoefmccagaa
open Go.RowKit

/-- Where a parameter of a name stands; how many there are, if none does. -/
def atN (ps : List Prm) (x : ByteArray) : Nat := ps.findIdx fun p => eqS p.n x
theorem atN_is {ps : List Prm} {x : ByteArray} {k : Nat} (h : k < ps.length) (h1 : eqS ps[k].n x = true) (h2 : ∀ j (hj : j < k), eqS (ps[j]'(by omega)).n x = false) : atN ps x = k :=
  (List.findIdx_eq h).2 ⟨h1, h2⟩
theorem atN_no {ps : List Prm} {x : ByteArray} (h2 : ∀ j (hj : j < ps.length), eqS ps[j].n x = false) : atN ps x = ps.length :=
  List.findIdx_eq_length.2 fun p hp => by
    obtain ⟨j, hj, rfl⟩ := List.getElem_of_mem hp
    simpa using h2 j hj
theorem atN_seen (ps : List Prm) (x : ByteArray) : decide (atN ps x < ps.length) = seenB ps x := by
  unfold seenB atN
  rw [Bool.eq_iff_iff, decide_eq_true_iff, List.findIdx_lt_length, List.any_eq_true]
theorem take_succ_eq {ps : List Prm} {k : Nat} (h : k < ps.length) : ps.take (k + 1) = ps.take k ++ [ps[k]] := List.take_succ_eq_append_getElem h

end Go.Proofs.Ytighgoefmccagaa
