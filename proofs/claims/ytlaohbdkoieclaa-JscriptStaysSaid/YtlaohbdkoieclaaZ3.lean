/-
  'Mv B r w w'': below block B nothing has turned but the blocks of r. Plain facts on worlds; no condition.
  What Count and All answer where they are asked of Token, of Digit and of no function. Condition: the text is as long as a length can be.
  Plain facts on texts, as layer 3 turns them: small letters, what is cut at the ends. No condition.
-/
import Derived.Below
import Derived.Deep.Draws
import Derived.Test.YtlaohbdkoieclaaZ2
import Derived.LoopTactic
import Derived.BigQuiet
import Derived.OneCell
import Derived.Test.YtlaohbdkoieclaaRows
import Derived.WalkKit
import Derived.WalkSpells
import Derived.WalkLawsBesides
import Derived.Defers
import Derived.Recover
import Derived.Test.YtlaohbdkoieclaaZ1
import Derived.Lib.Strings
namespace Go.Proofs.Ytlaohbdkoieclaa
open Go.RowKit

structure Mv (B : Nat) (r : List Nat) (w w' : World) : Prop where
  os : w'.os = w.os
  tape : w'.tape = w.tape
  output : w'.output = w.output
  size : w.heap.size ≤ w'.heap.size
  block : ∀ k, k < B → k ∉ r → w'.heap[k]? = w.heap[k]?

theorem Mv.refl (B : Nat) (r : List Nat) (w : World) : Mv B r w w := ⟨rfl, rfl, rfl, Nat.le_refl _, fun _ _ _ => rfl⟩
theorem Mv.trans {B : Nat} {r : List Nat} {a b c : World} (h : Mv B r a b) (k : Mv B r b c) : Mv B r a c :=
  ⟨k.os.trans h.os, k.tape.trans h.tape, k.output.trans h.output, Nat.le_trans h.size k.size, fun i hi hr => (k.block i hi hr).trans (h.block i hi hr)⟩
theorem Mv.mono {B B' : Nat} {r r' : List Nat} {w w' : World} (h : Mv B r w w') (hB : B' ≤ B) (hr : ∀ x ∈ r, x ∈ r' ∨ B' ≤ x) : Mv B' r' w w' :=
  ⟨h.os, h.tape, h.output, h.size, fun k hk hk' => h.block k (by omega) (fun hm => by rcases hr k hm with h1 | h1; exact hk' h1; omega)⟩
theorem Mv.of_below {B : Nat} {w w' : World} (h : Below B w w') (r : List Nat) : Mv B r w w' := ⟨h.os, h.tape, h.output, h.size, fun k hk _ => h.block k hk⟩
theorem Mv.below {B B' : Nat} {r : List Nat} {w w' : World} (h : Mv B r w w') (hB : B' ≤ B) (hr : ∀ x ∈ r, B' ≤ x) : Below B' w w' :=
  ⟨h.os, h.tape, h.output, h.size, fun k hk => h.block k (by omega) (fun hm => by have := hr k hm; omega)⟩
theorem Mv.drew {B : Nat} {r : List Nat} {a w : World} (h : Mv B r a w) : Mv B r a w.drew := ⟨h.os, h.tape, h.output, h.size, h.block⟩
theorem Mv.drewN {B : Nat} {r : List Nat} {a w : World} (h : Mv B r a w) (n : Nat) : Mv B r a (w.drewN n) := ⟨h.os, h.tape, h.output, h.size, h.block⟩
theorem Mv.alloc {B : Nat} {r : List Nat} {a w : World} (h : Mv B r a w) (hB : B ≤ w.heap.size) (o : Obj) : Mv B r a (w.alloc o) :=
  h.trans ⟨rfl, rfl, rfl, by simp, fun k hk _ => Below.heap_alloc _ _ _ (by omega)⟩
theorem Mv.setCell {B : Nat} {r : List Nat} {a w : World} (h : Mv B r a w) {p : Addr} (hp : p.block ∈ r ∨ B ≤ p.block) (u : Value) : Mv B r a (w.setCell p u) :=
  h.trans ⟨rfl, rfl, rfl, by simp [World.setCell], fun k hk hr => Below.heap_setCell _ _ _ _ (fun e => by subst e; rcases hp with h1 | h1; exact hr h1; omega)⟩
theorem Mv.cell {B : Nat} {r : List Nat} {w w' : World} (h : Mv B r w w') {p : Addr} (hp : p.block < B) (hr : p.block ∉ r) : w'.cell? p = w.cell? p := World.cell?_of_block (w := w) (h.block p.block hp hr)
theorem Mv.frozen {B : Nat} {r : List Nat} {w w' : World} (h : Mv B r w w') {p : Addr} (hp : p.block < B) (hr : p.block ∉ r) : w'.frozen? p = w.frozen? p := World.frozen?_of_block (w := w) (h.block p.block hp hr)
theorem Below.drewN' {B : Nat} {a w : World} (h : Below B a w) (n : Nat) : Below B a (w.drewN n) := ⟨h.os, h.tape, h.output, h.size, h.block⟩

theorem bcell {W w1 : World} {B : Nat} (hb : Below B W w1) : (∀ b o, b < B → w1.cell? ⟨b, o, none⟩ = W.cell? ⟨b, o, none⟩) ∧ (∀ b o, b < B → w1.frozen? ⟨b, o, none⟩ = W.frozen? ⟨b, o, none⟩) :=
  ⟨fun b o h => hb.cell (p := ⟨b, o, none⟩) h, fun b o h => hb.frozen (p := ⟨b, o, none⟩) h⟩
theorem mcell {W w1 : World} {B : Nat} {r : List Nat} (hb : Mv B r W w1) : (∀ b o, b < B → b ∉ r → w1.cell? ⟨b, o, none⟩ = W.cell? ⟨b, o, none⟩) ∧ (∀ b o, b < B → b ∉ r → w1.frozen? ⟨b, o, none⟩ = W.frozen? ⟨b, o, none⟩) :=
  ⟨fun b o h hr => hb.cell (p := ⟨b, o, none⟩) h hr, fun b o h hr => hb.frozen (p := ⟨b, o, none⟩) h hr⟩

/-- Block g is known whole. -/
def Blk (w : World) (g : Nat) (t : TypeId) (cs : Array Value) : Prop := w.heap[g]? = some (.cells cs t (0, 0))

section
variable {w w' : World} {g : Nat} {t : TypeId} {cs : Array Value}
theorem Blk.lt (h : Blk w g t cs) : g < w.heap.size := by
  rcases Nat.lt_or_ge g w.heap.size with hlt | hge
  · exact hlt
  · unfold Blk at h; rw [Array.getElem?_eq_none hge] at h; cases h
theorem Blk.cell (h : Blk w g t cs) (i : Nat) : w.cell? ⟨g, i, none⟩ = cs[i]? := by
  unfold Blk at h; simp [World.cell?, h]
theorem Blk.frozen (h : Blk w g t cs) (i : Nat) : w.frozen? ⟨g, i, none⟩ = false := by
  unfold Blk at h
  simp [World.frozen?, h]
theorem Blk.new (w : World) (t : TypeId) (cs : Array Value) : Blk (w.alloc (.cells cs t)) w.heap.size t cs := by
  unfold Blk
  show (w.heap.push _)[w.heap.size]? = _
  simp
theorem Blk.drew (h : Blk w g t cs) : Blk w.drew g t cs := h
theorem Blk.drewN (h : Blk w g t cs) (n : Nat) : Blk (w.drewN n) g t cs := h
theorem Blk.alloc (h : Blk w g t cs) (o : Obj) : Blk (w.alloc o) g t cs := (Below.heap_alloc w o g h.lt).trans h
theorem Blk.set_ (h : Blk w g t cs) (i : Nat) (u : Value) : Blk (w.setCell ⟨g, i, none⟩ u) g t (cs.setIfInBounds i u) := by
  unfold Blk at h ⊢
  simp [World.setCell, Array.getElem?_modify, h]
theorem Blk.far (h : Blk w g t cs) {p : Addr} (hp : g ≠ p.block) (u : Value) : Blk (w.setCell p u) g t cs := (Below.heap_setCell w p u g hp).trans h
theorem Blk.below {B : Nat} (h : Blk w g t cs) (hb : Below B w w') (hg : g < B) : Blk w' g t cs := (hb.block g hg).trans h
theorem Blk.mv {B : Nat} {r : List Nat} (h : Blk w g t cs) (hb : Mv B r w w') (hg : g < B) (hr : g ∉ r) : Blk w' g t cs := (hb.block g hg hr).trans h
end

end Go.Proofs.Ytlaohbdkoieclaa
namespace Go.Proofs.Ytlaohbdkoieclaa
open Go.RowKit

/-- Of how many of the first k bytes p holds. -/
def cntT (p : UInt8 → Bool) (s : ByteArray) (k : Nat) : Nat := ((s.data.toList.take k).filter p).length
/-- Whether p holds of all bytes. -/
def allB (p : UInt8 → Bool) (s : ByteArray) : Bool := (cntT p s s.size : Int) == (s.size : Int)
end Go.Proofs.Ytlaohbdkoieclaa
namespace Go.Proofs.Ytlaohbdkoieclaa

theorem toList_size (a : ByteArray) : a.toList.length = a.size := by
  rw [Lib.toList_data]
  exact (Lib.size_eq a).symm
theorem extract_at {s : ByteArray} {a b i : Nat} (h : i < (s.extract a b).size) : (s.extract a b)[i]! = s[a + i]! := by
  have h2 : a + i < s.size := by simp at h; omega
  rw [getElem!_pos _ i h, getElem!_pos s _ h2]
  exact ByteArray.getElem_extract h
theorem extract_all (s : ByteArray) : s.extract 0 s.size = s := by simp
end Go.Proofs.Ytlaohbdkoieclaa
