/-
  Plain facts on headers: which are good, of which name, what their text is, and what a text's lines say. No condition.
  Plain facts on headers: what is got, cut and set, header by header. No condition.
  Plain facts on where a parameter stands. No condition.
-/
import Derived.Test.YtighgoefmccagaaGreatZ9
import Derived.Test.YtighgoefmccagaaGreatZ8
namespace Go.Proofs.YtighgoefmccagaaGreat

/-- Whether a header has a name. -/
def hasN (name : ByteArray) (h : Prm) : Bool := sameB h.n name
def getN (name : ByteArray) (l : List Prm) : List ByteArray := (l.filter (hasN name)).map Prm.v
def cutN (name : ByteArray) (l : List Prm) : List Prm := l.filter fun h => !hasN name h
end Go.Proofs.YtighgoefmccagaaGreat
namespace Go.Proofs.YtighgoefmccagaaGreat

theorem getN_step (name : ByteArray) (l : List Prm) {k : Nat} (h : k < l.length) :
    getN name (l.take (k + 1)) = getN name (l.take k) ++ (if hasN name l[k] then [l[k].v] else []) := by
  unfold getN
  rw [List.take_succ_eq_append_getElem h, List.filter_append, List.map_append]
  congr 1
  cases e : hasN name l[k] <;> simp [e]
theorem getN_len (name : ByteArray) (l : List Prm) : (getN name l).length ≤ l.length := by
  unfold getN
  rw [List.length_map]
  exact (List.filter_sublist (l := l)).length_le
theorem cutN_len (name : ByteArray) (l : List Prm) : (cutN name l).length ≤ l.length := by
  unfold cutN
  exact (List.filter_sublist (l := l)).length_le
theorem getN_none {name : ByteArray} {l : List Prm} : (getN name l).length = 0 ↔ l.any (hasN name) = false := by
  unfold getN
  rw [List.length_map, List.length_eq_zero_iff, List.filter_eq_nil_iff, List.any_eq_false]

end Go.Proofs.YtighgoefmccagaaGreat
namespace Go.Proofs.YtighgoefmccagaaGreat
open Go.RowKit

/-- Where a parameter of a name stands; how many there are, if none does. -/
def atN (ps : List Prm) (x : ByteArray) : Nat := ps.findIdx fun p => eqS p.n x
def atI (ps : List Prm) (x : ByteArray) : Int := if atN ps x < ps.length then (atN ps x : Int) else -1
theorem atN_is {ps : List Prm} {x : ByteArray} {k : Nat} (h : k < ps.length) (h1 : eqS ps[k].n x = true) (h2 : ∀ j (hj : j < k), eqS (ps[j]'(by omega)).n x = false) : atN ps x = k :=
  (List.findIdx_eq h).2 ⟨h1, h2⟩
theorem atN_no {ps : List Prm} {x : ByteArray} (h2 : ∀ j (hj : j < ps.length), eqS ps[j].n x = false) : atN ps x = ps.length :=
  List.findIdx_eq_length.2 fun p hp => by
    obtain ⟨j, hj, rfl⟩ := List.getElem_of_mem hp
    simpa using h2 j hj
theorem atN_seen (ps : List Prm) (x : ByteArray) : decide (atN ps x < ps.length) = seenB ps x := by
  unfold seenB atN
  rw [Bool.eq_iff_iff, decide_eq_true_iff, List.findIdx_lt_length, List.any_eq_true]
theorem atN_before {ps : List Prm} {x : ByteArray} {j : Nat} (hj : j < atN ps x) (hl : j < ps.length) : eqS ps[j].n x = false := by
  have := List.not_of_lt_findIdx hj
  simpa using this
/-- No parameter ahead of it has its name, just if it is where that name stands. -/
theorem atN_self {ps : List Prm} {i : Nat} (h : i < ps.length) : ((atI ps ps[i].n) == (i : Int)) = !seenB (ps.take i) ps[i].n := by
  have hlt : atN ps ps[i].n < ps.length := List.findIdx_lt_length.2 ⟨ps[i], List.getElem_mem h, eqS_self _⟩
  have e : atI ps ps[i].n = (atN ps ps[i].n : Int) := by unfold atI; rw [if_pos hlt]
  rw [e]
  cases hs : seenB (ps.take i) ps[i].n
  · have : atN ps ps[i].n = i := atN_is h (eqS_self _) fun j hj => by
      cases e2 : eqS ps[j].n ps[i].n
      · rfl
      · have : seenB (ps.take i) ps[i].n = true := by
          unfold seenB
          rw [List.any_eq_true]
          exact ⟨ps[j], by rw [List.mem_take_iff_getElem]; exact ⟨j, by omega, rfl⟩, e2⟩
        rw [hs] at this; cases this
    rw [this]; simp
  · have : atN ps ps[i].n ≠ i := fun e1 => by
      unfold seenB at hs
      rw [List.any_eq_true] at hs
      obtain ⟨p, hp, hpx⟩ := hs
      rw [List.mem_take_iff_getElem] at hp
      obtain ⟨j, hj, rfl⟩ := hp
      have := atN_before (ps := ps) (x := ps[i].n) (j := j) (by omega) (by omega)
      rw [this] at hpx; cases hpx
    simp
    omega
theorem atI_ge (ps : List Prm) (x : ByteArray) : decide (0 ≤ atI ps x) = seenB ps x := by
  rw [← atN_seen]
  unfold atI
  split <;> simp <;> omega
theorem take_succ_eq {ps : List Prm} {k : Nat} (h : k < ps.length) : ps.take (k + 1) = ps.take k ++ [ps[k]] := List.take_succ_eq_append_getElem h

end Go.Proofs.YtighgoefmccagaaGreat
