/-
  Plain facts on texts, as layer 3 turns them: small letters, what is cut at the ends. No condition.
  Plain facts on texts between quotes, and on lists of pieces, as layer 4 has them. No condition.
  'Mv B r w w'': below block B nothing has turned but the blocks of r. Plain facts on worlds; no condition.
-/
import Derived.Test.YtjikahflbhgniaaZ1
import Derived.Lib.Strings
import Derived.Below
import Derived.Deep.Draws
namespace Go.Proofs.Ytjikahflbhgniaa

/-- Small letters in place of great ones. -/
def lowS (s : ByteArray) : ByteArray := ⟨s.data.map lowB⟩
theorem lowS_size (s : ByteArray) : (lowS s).size = s.size := by
  show (s.data.map lowB).size = s.data.size
  simp
theorem lowS_at (s : ByteArray) (i : Nat) (h : i < s.size) : (lowS s)[i]'(by rw [lowS_size]; exact h) = lowB s[i] := by
  exact Array.getElem_map (f := lowB) (xs := s.data) (i := i) (hi := by simpa using h)

/-- Whether two texts are one, in small letters. -/
def sameB (a b : ByteArray) : Bool := (lowS a).toList == (lowS b).toList
theorem toList_size (a : ByteArray) : a.toList.length = a.size := by
  rw [Lib.toList_data]
  exact (Lib.size_eq a).symm
theorem sameB_size {a b : ByteArray} (h : a.size ≠ b.size) : sameB a b = false := by
  unfold sameB
  rw [beq_eq_false_iff_ne]
  intro e
  have := congrArg List.length e
  rw [toList_size, toList_size, lowS_size, lowS_size] at this
  exact h this
theorem sameB_not {a b : ByteArray} {i : Nat} (ha : i < a.size) (hb : i < b.size) (h : lowB a[i] ≠ lowB b[i]) : sameB a b = false := by
  unfold sameB
  rw [beq_eq_false_iff_ne]
  intro e
  rw [Lib.toList_data, Lib.toList_data] at e
  have e2 : lowS a = lowS b := by
    have := Array.toList_inj.1 e
    generalize lowS a = x at *
    generalize lowS b = y at *
    cases x; cases y
    simp at this
    rw [this]
  apply h
  rw [← lowS_at a i ha, ← lowS_at b i hb]
  simp [e2]
theorem sameB_all {a b : ByteArray} (hs : a.size = b.size) (h : ∀ i (ha : i < a.size) (hb : i < b.size), lowB a[i] = lowB b[i]) : sameB a b = true := by
  unfold sameB
  rw [beq_iff_eq]
  have : lowS a = lowS b := by
    unfold lowS
    congr 1
    apply Array.ext
    · simpa using hs
    · intro i h1 h2
      simp only [Array.size_map] at h1 h2
      rw [Array.getElem_map, Array.getElem_map]
      exact h i h1 h2
  rw [this]

/-- How many of the first k bytes are left where those that are so are taken from their back. -/
def backN (p : UInt8 → Bool) (s : ByteArray) : Nat → Nat
  | 0 => 0
  | k + 1 => if p s[k]! then backN p s k else k + 1
def cutP (p : UInt8 → Bool) (s : ByteArray) : ByteArray := s.extract 0 (backN p s s.size)
theorem backN_step {p : UInt8 → Bool} {s : ByteArray} {k : Nat} (h : k < s.size) (hp : p s[k] = true) : backN p s (k + 1) = backN p s k := by
  simp only [backN]
  rw [getElem!_pos s k h, if_pos hp]
theorem backN_stop {p : UInt8 → Bool} {s : ByteArray} {k : Nat} (h : k < s.size) (hp : p s[k] = false) : backN p s (k + 1) = k + 1 := by
  simp only [backN]
  rw [getElem!_pos s k h, if_neg (by simp [hp])]
theorem backN_le (p : UInt8 → Bool) (s : ByteArray) : ∀ k, backN p s k ≤ k
  | 0 => Nat.le_refl _
  | k + 1 => by
    have := backN_le p s k
    simp only [backN]
    split <;> omega
theorem extract_at {s : ByteArray} {a b i : Nat} (h : i < (s.extract a b).size) : (s.extract a b)[i]! = s[a + i]! := by
  have h2 : a + i < s.size := by simp at h; omega
  rw [getElem!_pos _ i h, getElem!_pos s _ h2]
  exact ByteArray.getElem_extract h
theorem extract_all (s : ByteArray) : s.extract 0 s.size = s := by simp
theorem extract_head {s : ByteArray} {m n : Nat} (h : n ≤ m) : (s.extract 0 m).extract 0 n = s.extract 0 n := by
  rw [ByteArray.extract_extract]
  congr 1
  omega
theorem extract_tail {s : ByteArray} {k : Nat} (h : k < s.size) : (s.extract k s.size).extract 1 (s.extract k s.size).size = s.extract (k + 1) s.size := by
  rw [ByteArray.extract_extract]
  congr 1
  simp
  omega
theorem cutP_size (p : UInt8 → Bool) (s : ByteArray) : (cutP p s).size = backN p s s.size := by
  have := backN_le p s s.size
  unfold cutP
  simp
  omega
/-- A text without what is so at both ends. -/
def trimP (p : UInt8 → Bool) (s : ByteArray) : ByteArray := cutP p (s.extract (scan p s 0) s.size)
theorem trimP_size (p : UInt8 → Bool) (s : ByteArray) : (trimP p s).size ≤ s.size := by
  have h1 := cutP_size p (s.extract (scan p s 0) s.size)
  have h2 := backN_le p (s.extract (scan p s 0) s.size) (s.extract (scan p s 0) s.size).size
  have h3 : (s.extract (scan p s 0) s.size).size ≤ s.size := by simp
  unfold trimP
  omega
end Go.Proofs.Ytjikahflbhgniaa
namespace Go.Proofs.Ytjikahflbhgniaa

theorem bytes_extract (s : ByteArray) (a b : Nat) : (s.extract a b).data.toList = (s.data.toList.take b).drop a := by
  rw [ByteArray.data_extract, Array.toList_extract, List.extract_eq_take_drop, List.drop_take]
end Go.Proofs.Ytjikahflbhgniaa
namespace Go.Proofs.Ytjikahflbhgniaa
open Go.RowKit

structure Mv (B : Nat) (r : List Nat) (w w' : World) : Prop where
  os : w'.os = w.os
  tape : w'.tape = w.tape
  output : w'.output = w.output
  size : w.heap.size ≤ w'.heap.size
  block : ∀ k, k < B → k ∉ r → w'.heap[k]? = w.heap[k]?

theorem Mv.refl (B : Nat) (r : List Nat) (w : World) : Mv B r w w := ⟨rfl, rfl, rfl, Nat.le_refl _, fun _ _ _ => rfl⟩
theorem Mv.trans {B : Nat} {r : List Nat} {a b c : World} (h : Mv B r a b) (k : Mv B r b c) : Mv B r a c :=
  ⟨k.os.trans h.os, k.tape.trans h.tape, k.output.trans h.output, Nat.le_trans h.size k.size, fun i hi hr => (k.block i hi hr).trans (h.block i hi hr)⟩
theorem Mv.mono {B B' : Nat} {r r' : List Nat} {w w' : World} (h : Mv B r w w') (hB : B' ≤ B) (hr : ∀ x ∈ r, x ∈ r' ∨ B' ≤ x) : Mv B' r' w w' :=
  ⟨h.os, h.tape, h.output, h.size, fun k hk hk' => h.block k (by omega) (fun hm => by rcases hr k hm with h1 | h1; exact hk' h1; omega)⟩
theorem Mv.of_below {B : Nat} {w w' : World} (h : Below B w w') (r : List Nat) : Mv B r w w' := ⟨h.os, h.tape, h.output, h.size, fun k hk _ => h.block k hk⟩
theorem Mv.below {B B' : Nat} {r : List Nat} {w w' : World} (h : Mv B r w w') (hB : B' ≤ B) (hr : ∀ x ∈ r, B' ≤ x) : Below B' w w' :=
  ⟨h.os, h.tape, h.output, h.size, fun k hk => h.block k (by omega) (fun hm => by have := hr k hm; omega)⟩
theorem Mv.drew {B : Nat} {r : List Nat} {a w : World} (h : Mv B r a w) : Mv B r a w.drew := ⟨h.os, h.tape, h.output, h.size, h.block⟩
theorem Mv.drewN {B : Nat} {r : List Nat} {a w : World} (h : Mv B r a w) (n : Nat) : Mv B r a (w.drewN n) := ⟨h.os, h.tape, h.output, h.size, h.block⟩
theorem Mv.alloc {B : Nat} {r : List Nat} {a w : World} (h : Mv B r a w) (hB : B ≤ w.heap.size) (o : Obj) : Mv B r a (w.alloc o) :=
  h.trans ⟨rfl, rfl, rfl, by simp, fun k hk _ => Below.heap_alloc _ _ _ (by omega)⟩
theorem Mv.setCell {B : Nat} {r : List Nat} {a w : World} (h : Mv B r a w) {p : Addr} (hp : p.block ∈ r ∨ B ≤ p.block) (u : Value) : Mv B r a (w.setCell p u) :=
  h.trans ⟨rfl, rfl, rfl, by simp [World.setCell], fun k hk hr => Below.heap_setCell _ _ _ _ (fun e => by subst e; rcases hp with h1 | h1; exact hr h1; omega)⟩
theorem Mv.cell {B : Nat} {r : List Nat} {w w' : World} (h : Mv B r w w') {p : Addr} (hp : p.block < B) (hr : p.block ∉ r) : w'.cell? p = w.cell? p := World.cell?_of_block (w := w) (h.block p.block hp hr)
theorem Mv.frozen {B : Nat} {r : List Nat} {w w' : World} (h : Mv B r w w') {p : Addr} (hp : p.block < B) (hr : p.block ∉ r) : w'.frozen? p = w.frozen? p := World.frozen?_of_block (w := w) (h.block p.block hp hr)
theorem Below.drewN' {B : Nat} {a w : World} (h : Below B a w) (n : Nat) : Below B a (w.drewN n) := ⟨h.os, h.tape, h.output, h.size, h.block⟩

/-- Block g is known whole. -/
def Blk (w : World) (g : Nat) (t : TypeId) (cs : Array Value) : Prop := w.heap[g]? = some (.cells cs t (0, 0))

section
variable {w w' : World} {g : Nat} {t : TypeId} {cs : Array Value}
theorem Blk.lt (h : Blk w g t cs) : g < w.heap.size := by
  rcases Nat.lt_or_ge g w.heap.size with hlt | hge
  · exact hlt
  · unfold Blk at h; rw [Array.getElem?_eq_none hge] at h; cases h
theorem Blk.cell (h : Blk w g t cs) (i : Nat) : w.cell? ⟨g, i, none⟩ = cs[i]? := by
  unfold Blk at h; simp [World.cell?, h]
theorem Blk.frozen (h : Blk w g t cs) (i : Nat) : w.frozen? ⟨g, i, none⟩ = false := by
  unfold Blk at h
  simp [World.frozen?, h]
theorem Blk.new (w : World) (t : TypeId) (cs : Array Value) : Blk (w.alloc (.cells cs t)) w.heap.size t cs := by
  unfold Blk
  show (w.heap.push _)[w.heap.size]? = _
  simp
theorem Blk.drew (h : Blk w g t cs) : Blk w.drew g t cs := h
theorem Blk.drewN (h : Blk w g t cs) (n : Nat) : Blk (w.drewN n) g t cs := h
theorem Blk.alloc (h : Blk w g t cs) (o : Obj) : Blk (w.alloc o) g t cs := (Below.heap_alloc w o g h.lt).trans h
theorem Blk.set_ (h : Blk w g t cs) (i : Nat) (u : Value) : Blk (w.setCell ⟨g, i, none⟩ u) g t (cs.setIfInBounds i u) := by
  unfold Blk at h ⊢
  simp [World.setCell, Array.getElem?_modify, h]
theorem Blk.far (h : Blk w g t cs) {p : Addr} (hp : g ≠ p.block) (u : Value) : Blk (w.setCell p u) g t cs := (Below.heap_setCell w p u g hp).trans h
theorem Blk.below {B : Nat} (h : Blk w g t cs) (hb : Below B w w') (hg : g < B) : Blk w' g t cs := (hb.block g hg).trans h
theorem Blk.mv {B : Nat} {r : List Nat} (h : Blk w g t cs) (hb : Mv B r w w') (hg : g < B) (hr : g ∉ r) : Blk w' g t cs := (hb.block g hg hr).trans h
end

end Go.Proofs.Ytjikahflbhgniaa
