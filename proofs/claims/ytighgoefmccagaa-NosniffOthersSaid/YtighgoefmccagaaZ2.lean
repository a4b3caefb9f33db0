/-
  Plain facts on texts between quotes, and on lists of pieces, as layer 4 has them. No condition.
  'Mv B r w w'': below block B nothing has turned but the blocks of r. Plain facts on worlds; no condition.
  What strings.Builder's WriteByte, WriteString and String do, over a builder of the call's own. Condition: what it holds then takes at most 2^47 bytes.
-/
import Derived.Test.YtighgoefmccagaaZ1
import Derived.Below
import Derived.Deep.Draws
import Derived.Test.YtighgoefmccagaaRows
import Derived.WalkKit
import Derived.WalkSpells
import Derived.WalkLawsBesides
import Derived.Laws.Externs
import Derived.Lib.Hide
import Derived.Lib.FrozenHead2
import Derived.Shelf.Strings.BuilderK
namespace Go.Proofs.Ytighgoefmccagaa

/-- What is taken behind an opening quote, and how many bytes are gone by. -/
def quoL : List UInt8 → List UInt8 × Nat
  | [] => ([], 0)
  | [b] => if b.toNat == 34 then ([], 1) else ([b], 1)
  | b :: c :: r => if b.toNat == 34 then ([], 1) else if b.toNat == 92 then (c :: (quoL r).1, (quoL r).2 + 2) else (b :: (quoL (c :: r)).1, (quoL (c :: r)).2 + 1)

theorem quoL_quote {b : UInt8} (r : List UInt8) (h : b.toNat = 34) : quoL (b :: r) = ([], 1) := by
  cases r <;> simp [quoL, h]
theorem quoL_slash {b : UInt8} (c : UInt8) (r : List UInt8) (h : b.toNat = 92) : quoL (b :: c :: r) = (c :: (quoL r).1, (quoL r).2 + 2) := by
  simp [quoL, h]
theorem quoL_other {b : UInt8} (r : List UInt8) (h1 : b.toNat ≠ 34) (h2 : b.toNat ≠ 92) : quoL (b :: r) = (b :: (quoL r).1, (quoL r).2 + 1) := by
  cases r <;> simp [quoL, h1, h2]
theorem quoL_one {b : UInt8} (h1 : b.toNat ≠ 34) : quoL [b] = ([b], 1) := by
  simp [quoL, h1]
theorem quoL_le : ∀ (n : Nat) (l : List UInt8), l.length ≤ n → (quoL l).2 ≤ l.length ∧ (quoL l).1.length ≤ (quoL l).2
  | _, [], _ => by simp [quoL]
  | _, [b], _ => by
    simp only [quoL]
    split <;> simp
  | 0, b :: c :: r, h => by simp at h
  | n + 1, b :: c :: r, h => by
    have h1 := quoL_le n r (by simp at h; omega)
    have h2 := quoL_le n (c :: r) (by simp at h ⊢; omega)
    simp only [quoL]
    split
    · simp
    · split
      · simp; omega
      · simp at h2 ⊢; omega

/-- The same of a text from one place on. -/
def quoS (s : ByteArray) (k : Nat) : List UInt8 × Nat := quoL (s.data.toList.drop k)
theorem quoS_end {s : ByteArray} {k : Nat} (h : s.size ≤ k) : quoS s k = ([], 0) := by
  unfold quoS
  rw [List.drop_of_length_le (by simpa using h)]
  rfl
theorem quoS_quote {s : ByteArray} {k : Nat} (h : k < s.size) (e : s[k].toNat = 34) : quoS s k = ([], 1) := by
  unfold quoS
  rw [drop_cons s k h]
  exact quoL_quote _ e
theorem quoS_slash_end {s : ByteArray} {k : Nat} (h : k < s.size) (h1 : k + 1 = s.size) (e : s[k].toNat = 92) : quoS s k = ([92], 1) := by
  unfold quoS
  rw [drop_cons s k h, List.drop_of_length_le (by simp; omega), quoL_one (by omega)]
  have : s[k] = 92 := UInt8.toNat_inj.1 (by rw [e]; rfl)
  rw [this]
theorem quoS_slash {s : ByteArray} {k : Nat} (h : k + 1 < s.size) (e : s[k].toNat = 92) : quoS s k = (s[k + 1] :: (quoS s (k + 1 + 1)).1, (quoS s (k + 1 + 1)).2 + 2) := by
  unfold quoS
  rw [drop_cons s k (by omega), drop_cons s (k + 1) h, quoL_slash _ _ e]
theorem quoS_other {s : ByteArray} {k : Nat} (h : k < s.size) (h1 : s[k].toNat ≠ 34) (h2 : s[k].toNat ≠ 92) : quoS s k = (s[k] :: (quoS s (k + 1)).1, (quoS s (k + 1)).2 + 1) := by
  unfold quoS
  rw [drop_cons s k h, quoL_other _ h1 h2]
theorem quoS_le {s : ByteArray} {k : Nat} (h : k ≤ s.size) : k + (quoS s k).2 ≤ s.size := by
  have := (quoL_le _ (s.data.toList.drop k) (Nat.le_refl _)).1
  have e : (s.data.toList.drop k).length = s.size - k := by simp
  unfold quoS
  omega
theorem quoS_len (s : ByteArray) (k : Nat) : (quoS s k).1.length ≤ (quoS s k).2 := (quoL_le _ (s.data.toList.drop k) (Nat.le_refl _)).2

/-- The bytes at which the run within quotes stops. -/
def stopQ : ByteArray := ⟨#[34, 92]⟩
theorem stopQ_size : stopQ.size = 2 := rfl
theorem stopQ_has (b : UInt8) : hasB stopQ b = (b.toNat == 34 || b.toNat == 92) := by
  have := bytes_all (p := fun b => hasB stopQ b == (b.toNat == 34 || b.toNat == 92)) (by kernel_rfl) b
  exact beq_iff_eq.1 this
def runQ (s : ByteArray) (k : Nat) : Nat := scan (fun b => !hasB stopQ b) s k
theorem runQ_ge (s : ByteArray) (k : Nat) : k ≤ runQ s k := scan_ge _ _ _
theorem runQ_le (s : ByteArray) (k : Nat) (h : k ≤ s.size) : runQ s k ≤ s.size := scan_le _ _ _ h
theorem runQ_at {s : ByteArray} {k : Nat} (hk : k ≤ s.size) (h : runQ s k < s.size) : s[runQ s k].toNat = 34 ∨ s[runQ s k].toNat = 92 := by
  have := scan_at hk h
  rw [stopQ_has] at this
  simp at this
  exact Decidable.or_iff_not_imp_left.2 this
theorem bytes_extract (s : ByteArray) (a b : Nat) : (s.extract a b).data.toList = (s.data.toList.take b).drop a := by
  rw [ByteArray.data_extract, Array.toList_extract, List.extract_eq_take_drop, List.drop_take]
theorem bytes_extract_cons {s : ByteArray} {a b : Nat} (h : a < b) (hb : b ≤ s.size) : (s.extract a b).data.toList = s[a] :: (s.extract (a + 1) b).data.toList := by
  have ha : a < (s.data.toList.take b).length := by simp; omega
  rw [bytes_extract, bytes_extract, List.drop_eq_getElem_cons ha]
  congr 1
  rw [List.getElem_take]
  rfl
theorem bytes_extract_none (s : ByteArray) (a : Nat) : (s.extract a a).data.toList = [] := by
  rw [bytes_extract]
  apply List.drop_of_length_le
  simp
  omega
theorem quoS_run {s : ByteArray} {k : Nat} (hk : k ≤ s.size) : quoS s k = ((s.extract k (runQ s k)).data.toList ++ (quoS s (runQ s k)).1, (runQ s k - k) + (quoS s (runQ s k)).2) := by
  induction hn : s.size - k generalizing k with
  | zero =>
    have e : runQ s k = k := scan_end (by omega)
    rw [e, bytes_extract_none, Nat.sub_self, Nat.zero_add]
    rfl
  | succ n ih =>
    have hlt : k < s.size := by omega
    cases hb : hasB stopQ s[k]
    · have e : runQ s k = runQ s (k + 1) := (scan_step hlt (by simp [hb])).symm
      have hge := runQ_ge s (k + 1)
      have hle := runQ_le s (k + 1) (by omega)
      have h1 := ih (k := k + 1) (by omega) (by omega)
      rw [stopQ_has] at hb
      simp at hb
      rw [quoS_other hlt hb.1 hb.2, h1, ← e, bytes_extract_cons (a := k) (b := runQ s k) (by omega) (by omega)]
      simp only [List.cons_append, Prod.mk.injEq, true_and]
      omega
    · have e : runQ s k = k := scan_stop hlt (by simp [hb])
      rw [e, bytes_extract_none, Nat.sub_self, Nat.zero_add]
      rfl

/-- Where the piece ends that begins at k: at a comma in no quotes, or at the end. -/
def stopP : ByteArray := ⟨#[34, 44]⟩
theorem stopP_size : stopP.size = 2 := rfl
theorem stopP_has (b : UInt8) : hasB stopP b = (b.toNat == 34 || b.toNat == 44) := by
  have := bytes_all (p := fun b => hasB stopP b == (b.toNat == 34 || b.toNat == 44)) (by kernel_rfl) b
  exact beq_iff_eq.1 this
def runP (s : ByteArray) (k : Nat) : Nat := scan (fun b => !hasB stopP b) s k
theorem runP_ge (s : ByteArray) (k : Nat) : k ≤ runP s k := scan_ge _ _ _
theorem runP_le (s : ByteArray) (k : Nat) (h : k ≤ s.size) : runP s k ≤ s.size := scan_le _ _ _ h
theorem runP_at {s : ByteArray} {k : Nat} (hk : k ≤ s.size) (h : runP s k < s.size) : s[runP s k].toNat = 34 ∨ s[runP s k].toNat = 44 := by
  have := scan_at hk h
  rw [stopP_has] at this
  simp at this
  exact Decidable.or_iff_not_imp_left.2 this
def pEndF (s : ByteArray) : Nat → Nat → Nat
  | 0, k => k
  | f + 1, k => if runP s k < s.size then (if s[runP s k]!.toNat == 44 then runP s k else pEndF s f (runP s k + 1 + (quoS s (runP s k + 1)).2)) else runP s k
theorem pEndF_more (s : ByteArray) : ∀ (f k : Nat), k ≤ s.size → s.size - k ≤ f → pEndF s (f + 1) k = pEndF s f k
  | 0, k, hk, h => by
    have e : runP s k = k := scan_end (by omega)
    simp only [pEndF]
    rw [e, if_neg (by omega)]
  | f + 1, k, hk, h => by
    have hge := runP_ge s k
    by_cases h1 : runP s k < s.size
    · have hle := quoS_le (s := s) (k := runP s k + 1) (by omega)
      have ih := pEndF_more s f _ hle (by omega)
      have e : ∀ g, pEndF s (g + 1) k = if (s[runP s k]!.toNat == 44) = true then runP s k else pEndF s g (runP s k + 1 + (quoS s (runP s k + 1)).2) := fun g => by
        rw [pEndF, if_pos h1]
      rw [e (f + 1), e f, ih]
    · have e : ∀ g, pEndF s (g + 1) k = runP s k := fun g => by
        rw [pEndF, if_neg h1]
      rw [e (f + 1), e f]
def pEnd (s : ByteArray) (k : Nat) : Nat := pEndF s s.size k
theorem pEnd_step {s : ByteArray} {k : Nat} (hk : k ≤ s.size) : pEnd s k = if runP s k < s.size then (if s[runP s k]!.toNat == 44 then runP s k else pEnd s (runP s k + 1 + (quoS s (runP s k + 1)).2)) else runP s k := by
  unfold pEnd
  rw [← pEndF_more s s.size k hk (by omega), pEndF]
theorem pEnd_end {s : ByteArray} {k : Nat} (hk : k ≤ s.size) (h : runP s k = s.size) : pEnd s k = s.size := by
  rw [pEnd_step hk, if_neg (by omega), h]
theorem pEnd_comma {s : ByteArray} {k : Nat} (hk : k ≤ s.size) (h : runP s k < s.size) (e : s[runP s k].toNat = 44) : pEnd s k = runP s k := by
  rw [pEnd_step hk, if_pos h, getElem!_pos s _ h, if_pos (by simp [e])]
theorem pEnd_quote {s : ByteArray} {k : Nat} (hk : k ≤ s.size) (h : runP s k < s.size) (e : s[runP s k].toNat = 34) : pEnd s k = pEnd s (runP s k + 1 + (quoS s (runP s k + 1)).2) := by
  rw [pEnd_step hk, if_pos h, getElem!_pos s _ h, if_neg (by simp [e])]
theorem pEndF_bounds (s : ByteArray) : ∀ (f k : Nat), k ≤ s.size → k ≤ pEndF s f k ∧ pEndF s f k ≤ s.size
  | 0, k, hk => by simp only [pEndF]; omega
  | f + 1, k, hk => by
    have hge := runP_ge s k
    have hle := runP_le s k hk
    rw [pEndF]
    split
    · rename_i h1
      split
      · omega
      · have hle := quoS_le (s := s) (k := runP s k + 1) (by omega)
        have := pEndF_bounds s f _ hle
        omega
    · omega
theorem pEnd_ge {s : ByteArray} {k : Nat} (hk : k ≤ s.size) : k ≤ pEnd s k := (pEndF_bounds s _ k hk).1
theorem pEnd_le {s : ByteArray} {k : Nat} (hk : k ≤ s.size) : pEnd s k ≤ s.size := (pEndF_bounds s _ k hk).2
theorem pEndF_at (s : ByteArray) : ∀ (f k : Nat), k ≤ s.size → s.size - k ≤ f → pEndF s f k < s.size → s[pEndF s f k]!.toNat = 44
  | 0, k, hk, h, hlt => by simp only [pEndF] at hlt; omega
  | f + 1, k, hk, h, hlt => by
    have hge := runP_ge s k
    rw [pEndF] at hlt ⊢
    by_cases h1 : runP s k < s.size
    · rw [if_pos h1] at hlt ⊢
      by_cases h2 : (s[runP s k]!.toNat == 44) = true
      · rw [if_pos h2]
        simpa using h2
      · rw [if_neg h2] at hlt ⊢
        have hle := quoS_le (s := s) (k := runP s k + 1) (by omega)
        exact pEndF_at s f _ hle (by omega) hlt
    · rw [if_neg h1] at hlt
      omega
theorem pEnd_at {s : ByteArray} {k : Nat} (hk : k ≤ s.size) (h : pEnd s k < s.size) : s[pEnd s k].toNat = 44 := by
  have := pEndF_at s s.size k hk (by omega) h
  rw [getElem!_pos s (pEndF s s.size k) h] at this
  exact this

/-- Where a piece begins, what it is, and the pieces from a place on. -/
def pFrom (s : ByteArray) (k : Nat) : Nat := scan tabB s k
theorem pFrom_ge (s : ByteArray) (k : Nat) : k ≤ pFrom s k := scan_ge _ _ _
theorem pFrom_le {s : ByteArray} {k : Nat} (h : k ≤ s.size) : pFrom s k ≤ s.size := scan_le _ _ _ h
def pTo (s : ByteArray) (k : Nat) : Nat := pEnd s (pFrom s k)
theorem pTo_ge {s : ByteArray} {k : Nat} (h : k ≤ s.size) : k ≤ pTo s k := Nat.le_trans (pFrom_ge s k) (pEnd_ge (pFrom_le h))
theorem pTo_le {s : ByteArray} {k : Nat} (h : k ≤ s.size) : pTo s k ≤ s.size := pEnd_le (pFrom_le h)
def piece (s : ByteArray) (k : Nat) : ByteArray := cutP tabB (s.extract (pFrom s k) (pTo s k))
def splitF (s : ByteArray) : Nat → Nat → List ByteArray
  | 0, k => [piece s k]
  | f + 1, k => piece s k :: (if pTo s k < s.size then splitF s f (pTo s k + 1) else [])
theorem splitF_more (s : ByteArray) : ∀ (f k : Nat), k ≤ s.size → s.size - k ≤ f → splitF s (f + 1) k = splitF s f k
  | 0, k, hk, h => by
    have := pTo_ge hk
    simp only [splitF]
    rw [if_neg (by omega)]
  | f + 1, k, hk, h => by
    have := pTo_ge hk
    have e : ∀ g, splitF s (g + 1) k = piece s k :: (if pTo s k < s.size then splitF s g (pTo s k + 1) else []) := fun g => by rw [splitF]
    rw [e (f + 1), e f]
    by_cases h1 : pTo s k < s.size
    · rw [if_pos h1, if_pos h1, splitF_more s f _ (by omega) (by omega)]
    · rw [if_neg h1, if_neg h1]
def splitL (s : ByteArray) (k : Nat) : List ByteArray := splitF s s.size k
theorem splitL_more {s : ByteArray} {k : Nat} (hk : k ≤ s.size) (h : pTo s k < s.size) : splitL s k = piece s k :: splitL s (pTo s k + 1) := by
  unfold splitL
  rw [← splitF_more s s.size k hk (by omega), splitF, if_pos h]
theorem splitL_last {s : ByteArray} {k : Nat} (hk : k ≤ s.size) (h : pTo s k = s.size) : splitL s k = [piece s k] := by
  unfold splitL
  rw [← splitF_more s s.size k hk (by omega), splitF, if_neg (by omega)]

end Go.Proofs.Ytighgoefmccagaa
namespace Go.Proofs.Ytighgoefmccagaa
open Go.RowKit

structure Mv (B : Nat) (r : List Nat) (w w' : World) : Prop where
  os : w'.os = w.os
  tape : w'.tape = w.tape
  output : w'.output = w.output
  size : w.heap.size ≤ w'.heap.size
  block : ∀ k, k < B → k ∉ r → w'.heap[k]? = w.heap[k]?

theorem Mv.refl (B : Nat) (r : List Nat) (w : World) : Mv B r w w := ⟨rfl, rfl, rfl, Nat.le_refl _, fun _ _ _ => rfl⟩
theorem Mv.trans {B : Nat} {r : List Nat} {a b c : World} (h : Mv B r a b) (k : Mv B r b c) : Mv B r a c :=
  ⟨k.os.trans h.os, k.tape.trans h.tape, k.output.trans h.output, Nat.le_trans h.size k.size, fun i hi hr => (k.block i hi hr).trans (h.block i hi hr)⟩
theorem Mv.mono {B B' : Nat} {r r' : List Nat} {w w' : World} (h : Mv B r w w') (hB : B' ≤ B) (hr : ∀ x ∈ r, x ∈ r' ∨ B' ≤ x) : Mv B' r' w w' :=
  ⟨h.os, h.tape, h.output, h.size, fun k hk hk' => h.block k (by omega) (fun hm => by rcases hr k hm with h1 | h1; exact hk' h1; omega)⟩
theorem Mv.of_below {B : Nat} {w w' : World} (h : Below B w w') (r : List Nat) : Mv B r w w' := ⟨h.os, h.tape, h.output, h.size, fun k hk _ => h.block k hk⟩
theorem Mv.below {B B' : Nat} {r : List Nat} {w w' : World} (h : Mv B r w w') (hB : B' ≤ B) (hr : ∀ x ∈ r, B' ≤ x) : Below B' w w' :=
  ⟨h.os, h.tape, h.output, h.size, fun k hk => h.block k (by omega) (fun hm => by have := hr k hm; omega)⟩
theorem Mv.drew {B : Nat} {r : List Nat} {a w : World} (h : Mv B r a w) : Mv B r a w.drew := ⟨h.os, h.tape, h.output, h.size, h.block⟩
theorem Mv.drewN {B : Nat} {r : List Nat} {a w : World} (h : Mv B r a w) (n : Nat) : Mv B r a (w.drewN n) := ⟨h.os, h.tape, h.output, h.size, h.block⟩
theorem Mv.alloc {B : Nat} {r : List Nat} {a w : World} (h : Mv B r a w) (hB : B ≤ w.heap.size) (o : Obj) : Mv B r a (w.alloc o) :=
  h.trans ⟨rfl, rfl, rfl, by simp, fun k hk _ => Below.heap_alloc _ _ _ (by omega)⟩
theorem Mv.setCell {B : Nat} {r : List Nat} {a w : World} (h : Mv B r a w) {p : Addr} (hp : p.block ∈ r ∨ B ≤ p.block) (u : Value) : Mv B r a (w.setCell p u) :=
  h.trans ⟨rfl, rfl, rfl, by simp [World.setCell], fun k hk hr => Below.heap_setCell _ _ _ _ (fun e => by subst e; rcases hp with h1 | h1; exact hr h1; omega)⟩
theorem Mv.cell {B : Nat} {r : List Nat} {w w' : World} (h : Mv B r w w') {p : Addr} (hp : p.block < B) (hr : p.block ∉ r) : w'.cell? p = w.cell? p := World.cell?_of_block (w := w) (h.block p.block hp hr)
theorem Mv.frozen {B : Nat} {r : List Nat} {w w' : World} (h : Mv B r w w') {p : Addr} (hp : p.block < B) (hr : p.block ∉ r) : w'.frozen? p = w.frozen? p := World.frozen?_of_block (w := w) (h.block p.block hp hr)
theorem Below.drewN' {B : Nat} {a w : World} (h : Below B a w) (n : Nat) : Below B a (w.drewN n) := ⟨h.os, h.tape, h.output, h.size, h.block⟩

/-- Block g is known whole. -/
def Blk (w : World) (g : Nat) (t : TypeId) (cs : Array Value) : Prop := w.heap[g]? = some (.cells cs t (0, 0))

section
variable {w w' : World} {g : Nat} {t : TypeId} {cs : Array Value}
theorem Blk.lt (h : Blk w g t cs) : g < w.heap.size := by
  rcases Nat.lt_or_ge g w.heap.size with hlt | hge
  · exact hlt
  · unfold Blk at h; rw [Array.getElem?_eq_none hge] at h; cases h
theorem Blk.cell (h : Blk w g t cs) (i : Nat) : w.cell? ⟨g, i, none⟩ = cs[i]? := by
  unfold Blk at h; simp [World.cell?, h]
theorem Blk.frozen (h : Blk w g t cs) (i : Nat) : w.frozen? ⟨g, i, none⟩ = false := by
  unfold Blk at h
  simp [World.frozen?, h]
theorem Blk.new (w : World) (t : TypeId) (cs : Array Value) : Blk (w.alloc (.cells cs t)) w.heap.size t cs := by
  unfold Blk
  show (w.heap.push _)[w.heap.size]? = _
  simp
theorem Blk.drew (h : Blk w g t cs) : Blk w.drew g t cs := h
theorem Blk.drewN (h : Blk w g t cs) (n : Nat) : Blk (w.drewN n) g t cs := h
theorem Blk.alloc (h : Blk w g t cs) (o : Obj) : Blk (w.alloc o) g t cs := (Below.heap_alloc w o g h.lt).trans h
theorem Blk.set_ (h : Blk w g t cs) (i : Nat) (u : Value) : Blk (w.setCell ⟨g, i, none⟩ u) g t (cs.setIfInBounds i u) := by
  unfold Blk at h ⊢
  simp [World.setCell, Array.getElem?_modify, h]
theorem Blk.far (h : Blk w g t cs) {p : Addr} (hp : g ≠ p.block) (u : Value) : Blk (w.setCell p u) g t cs := (Below.heap_setCell w p u g hp).trans h
theorem Blk.below {B : Nat} (h : Blk w g t cs) (hb : Below B w w') (hg : g < B) : Blk w' g t cs := (hb.block g hg).trans h
theorem Blk.mv {B : Nat} {r : List Nat} (h : Blk w g t cs) (hb : Mv B r w w') (hg : g < B) (hr : g ∉ r) : Blk w' g t cs := (hb.block g hg hr).trans h
end

end Go.Proofs.Ytighgoefmccagaa
namespace Go.Proofs.Ytighgoefmccagaa
open Go.RowKit

def bldRen : Go.Shelf.Ren := ⟨fun | 169 => 44 | n => n, fun | 70 => 76 | 9 => 9 | 0 => 0 | 72 => 78 | 37 => 64 | 127 => 102 | 3 => 3 | 5 => 5 | n => n, fun | n => n⟩
theorem bldLays : Go.Proofs.Lays.n169 Try.prog bldRen := {
  mixed := by kernel_rfl
  f169 := Try.func44.trans (congrArg some (by kernel_rfl))
  t0 := Try.underlying0
  a0 := Try.isAgg0
  z0 := Try.sizeOf0
  v0 := Try.zeroValue0
  t3 := Try.underlying3
  a3 := Try.isAgg3
  z3 := Try.sizeOf3
  v3 := Try.zeroValue3
  t9 := Try.underlying9
  a9 := Try.isAgg9
  z9 := Try.sizeOf9
  v9 := Try.zeroValue9
  t37 := Try.underlying64
  a37 := Try.isAgg64
  z37 := Try.sizeOf64
  v37 := Try.zeroValue64
  t70 := Try.underlying76
  a70 := Try.isAgg76
  z70 := Try.sizeOf76
  v70 := Try.zeroValue76
  t72 := Try.underlying78
  a72 := Try.isAgg78
  z72 := Try.sizeOf78
  v72 := Try.zeroValue78
  t127 := Try.underlying102
  a127 := Try.isAgg102
  z127 := Try.sizeOf102
  v127 := Try.zeroValue102 }
theorem bldExtra : Builder.Extra Try.prog bldRen := {
  sizeBuilder := by kernel_rfl
  liesBuilder := by kernel_rfl
  t5 := Try.underlying5
  a5 := Try.isAgg5
  z5 := Try.sizeOf5
  v5 := Try.zeroValue5
  infoByte := by kernel_rfl
  cellsByte := by kernel_rfl
  sizeByte := by kernel_rfl
  neB5 := by decide }

/-- The builder in block b holds the bytes l; it, and its row, lie from B on. -/
def Bld (B b : Nat) (l : List UInt8) (w : World) : Prop := Lib.IsBuilderF 78 5 B b (Lib.byteCells l) w

theorem Bld.new (w : World) : Bld w.heap.size w.heap.size [] (w.alloc (.cells #[.pointer none, .slice none 0 0] 78)) :=
  Lib.IsBuilderF.of (Lib.fresh_isBuilder 78 5 w)
theorem Bld.lt {B b : Nat} {l : List UInt8} {w : World} (h : Bld B b l w) : b < w.heap.size := by
  rcases h with h | h <;> exact h.lt
theorem Bld.at_mv {B b : Nat} {p : Value} {bs : List Value} {W W' : World} {r : List Nat} (h : Lib.BuilderAtF 78 5 B b p bs W) (hm : Mv W.heap.size r W W') (hr : ∀ x ∈ r, x < B) : Lib.BuilderAtF 78 5 B b p bs W' := by
  have hlt := h.lt
  obtain ⟨hB, v, hb, hown, hne⟩ := h
  refine ⟨hB, v, (hm.block b hlt (fun hx => by have := hr _ hx; omega)).trans hb, ⟨hown.1, ?_⟩, hne⟩
  rcases hown.2 with hn | ⟨g, cap, cur, fz, hv, hbg, hg, rest⟩
  · exact .inl hn
  · exact .inr ⟨g, cap, cur, fz, hv, hbg, (hm.block g (Array.getElem?_eq_some_iff.1 hg).1 (fun hx => by have := hr _ hx; omega)).trans hg, rest⟩
theorem Bld.mv {B b : Nat} {l : List UInt8} {W W' : World} {r : List Nat} (h : Bld B b l W) (hm : Mv W.heap.size r W W') (hr : ∀ x ∈ r, x < B) : Bld B b l W' := by
  rcases h with h | h
  · exact .inl (Bld.at_mv h hm hr)
  · exact .inr (Bld.at_mv h hm hr)

theorem no_escape (a : Value) (w : World) : (callFunc 77 #[a]).run Try.prog w = .ok (.value a) w := by
  rw [run_callFunc_extern Try.func77 (by kernel_rfl) (by kernel_rfl) (by kernel_rfl) (e := Extern.AbiNoEscape.same) (by kernel_rfl), Lib.run_noEscape]
  rfl

set_option maxHeartbeats 1000000 in
set_option maxRecDepth 100000 in
theorem copyCheck_used (b : Nat) (w : World) (h0 : w.cell? ⟨b, 0, none⟩ = some (.pointer (some ⟨b, 0, none⟩))) :
    Calls Try.prog 57 #[.pointer (some ⟨b, 0, none⟩)] w fun e w' => e = .returned (.tuple #[]) ∧ w = w' := by
  have hq : ∀ w : World, (binOp .neq 76 (.pointer (some ⟨b, 0, none⟩)) (.pointer (some ⟨b, 0, none⟩))).run Try.prog w = .ok (.bool false) w := fun w => by
    obtain ⟨j, hj, _⟩ := Option.map_eq_some_iff.1 bldExtra.sizeBuilder
    exact Lib.run_neq_ptr_same w _ Try.underlying76 hj
  go_enter Try.func57, Try.ntmps57
  go_wp2
  go_end0
  exact ⟨rfl, rfl⟩

set_option maxHeartbeats 1000000 in
set_option maxRecDepth 100000 in
theorem copyCheck_fresh (b : Nat) (w : World) (h0 : w.cell? ⟨b, 0, none⟩ = some (.pointer none)) (hsh : w.shape? b = some (78, 2)) (hfz : w.frozen? ⟨b, 0, none⟩ = false) :
    Calls Try.prog 57 #[.pointer (some ⟨b, 0, none⟩)] w fun e w' => e = .returned (.tuple #[]) ∧ w' = w.setCell ⟨b, 0, none⟩ (.pointer (some ⟨b, 0, none⟩)) := by
  obtain ⟨j, hj, hjs⟩ := Option.map_eq_some_iff.1 bldExtra.sizeBuilder
  have hq : ∀ w : World, (binOp .neq 76 (.pointer (some ⟨b, 0, none⟩)) (.pointer (some ⟨b, 0, none⟩))).run Try.prog w = .ok (.bool false) w := fun w =>
    Lib.run_neq_ptr_same w _ Try.underlying76 hj
  have hto : (convert 76 112 (.pointer (some ⟨b, 0, none⟩))).run Try.prog w = .ok (.pointer (some ⟨b, 0, none⟩)) w :=
    Lib.run_to_unsafe w ⟨b, 0, none⟩ Try.underlying76 Try.underlying112 hj (by rw [hjs]; decide) hsh (Nat.zero_lt_succ 1)
  have hfrom : (convert 112 76 (.pointer (some ⟨b, 0, none⟩))).run Try.prog w = .ok (.pointer (some ⟨b, 0, none⟩)) w :=
    Lib.run_from_unsafe w ⟨b, 0, none⟩ Try.underlying112 Try.underlying76 hj hsh bldExtra.liesBuilder
  have hne := no_escape
  clear hsh
  go_enter Try.func57, Try.ntmps57
  go_wp2
  go_end0
  exact ⟨rfl, rfl⟩

theorem copyCheck_any (B b : Nat) (bs : List Value) (w : World) (h : Lib.IsBuilderF 78 5 B b bs w) :
    Calls Try.prog 57 #[.pointer (some ⟨b, 0, none⟩)] w fun e w' => e = .returned (.tuple #[]) ∧ Lib.BuilderAtF 78 5 B b (.pointer (some ⟨b, 0, none⟩)) bs w' ∧ Below B w w' := by
  rcases h with h | h
  · refine (copyCheck_fresh b w h.cell0 h.shape h.frozen0).mono ?_
    rintro e w' ⟨rfl, rfl⟩
    exact ⟨rfl, h.used _, (Below.refl B w).setCell (p := ⟨b, 0, none⟩) h.1 _⟩
  · refine (copyCheck_used b w h.cell0).mono ?_
    rintro e w' ⟨rfl, rfl⟩
    exact ⟨rfl, h, Below.refl B _⟩

/-- What a builder's own block tells. -/
theorem bld_block {b : Nat} {v : Value} {W : World} (hb : W.heap[b]? = some (.cells #[.pointer (some ⟨b, 0, none⟩), v] 78 (0, 0))) :
    W.cell? ⟨b, 0, none⟩ = some (.pointer (some ⟨b, 0, none⟩)) ∧ W.cell? ⟨b, 1, none⟩ = some v ∧ W.frozen? ⟨b, 1, none⟩ = false ∧ b < W.heap.size := by
  refine ⟨by rw [Lib.cell_of_heap hb]; rfl, by rw [Lib.cell_of_heap hb]; rfl, Lib.frozen_of_heap hb 1, (Array.getElem?_eq_some_iff.1 hb).1⟩

set_option maxHeartbeats 2000000 in
set_option maxRecDepth 100000 in
theorem writeString_any (B b : Nat) (l : List UInt8) (s : ByteArray) (w : World) (h : Bld B b l w) (hlen : l.length + s.size ≤ 140737488355328) (hBw : B ≤ w.heap.size) :
    Calls Try.prog 40 #[.pointer (some ⟨b, 0, none⟩), .string s] w fun e w' => e = .returned (.tuple #[.int .i64 (s.size : Nat), .nilIface]) ∧ Bld B b (l ++ s.data.toList) w' ∧ Below B w w' := by
  obtain ⟨i0, hi, hz0, hz1, hz2⟩ := info_parts (bldExtra.infoByte : (Try.prog.info? 5).map (fun i => (i.zero, i.size, i.bytes)) = some (some (.int .u8 0), 1, 1))
  have hl : (Lib.byteCells l).length = l.length := Lib.byteCells_length l
  go_enter Try.func40, Try.ntmps40
  go_wp2_with (go_at_call 57; refine (copyCheck_any B b (Lib.byteCells l) _ h).mono ?_)
  rintro e w1 ⟨rfl, h1, hb1⟩
  obtain ⟨hB, v, hbk, hown, hne⟩ := h1
  obtain ⟨c0, c1, _, hlt⟩ := bld_block hbk
  go_wp2_with (at_builtin; refine Lib.wpList_append_own_stringF _ rfl _ _ 64 9 rfl B 5 i0 Try.underlying64 Try.underlying9 hi hz0 hz1 hz2 _ _ _ rfl hown s rfl ?c3 ?c4 ?c5 ?_)
  case c3 => unfold maxLen; omega
  case c4 => omega
  case c5 => have := hb1.size; omega
  intro v' w2 hown' hgrow _
  have hb2 : w2.heap[b]? = some (.cells #[.pointer (some ⟨b, 0, none⟩), v] 78 (0, 0)) := by
    rw [hgrow.block b hlt (fun e => hne e.symm)]
    exact hbk
  have HW := Lib.hid (hb1.grown hgrow (by have := hb1.size; omega) (fun k hk => (hown.lt k hk).1))
  have HO := Lib.hid hown'
  have HB2 := Lib.hid hb2
  obtain ⟨d0, d1, f1, _⟩ := bld_block hb2
  clear hb2 hbk hown hgrow hb1 c0 c1 hl h
  obtain ⟨ao, n', cap, rfl⟩ : ∃ ao n' cap, v' = .slice ao n' cap := by
    rcases hown'.2 with ⟨hv, _⟩ | ⟨g, cap, cur, fz, hv, _⟩
    · exact ⟨_, _, _, hv⟩
    · exact ⟨_, _, _, hv⟩
  clear hown'
  go_wp2
  go_ret2
  refine ⟨rfl, .inr ?_, HW.out.setCell (p := ⟨b, 1, none⟩) hB _⟩
  rw [Lib.byteCells_append]
  exact Lib.BuilderAtF.put (T := 78) (e := 5) hB HB2.out (bs' := Lib.byteCells l ++ Lib.byteCells s.data.toList) (by simpa [Lib.byteCells_length, ← Lib.strCells_eq, Lib.strCells_length] using HO.out) (by decide)

theorem string_any (B b : Nat) (l : List UInt8) (w : World) (h : Bld B b l w) (hBw : B ≤ w.heap.size) :
    Calls Try.prog 44 #[.pointer (some ⟨b, 0, none⟩)] w fun e w' => e = .returned (.string ⟨l.toArray⟩) ∧ Bld B b l w' ∧ Below B w w' :=
  (Any.Builder_String_any_k bldLays bldExtra B b l w h hBw).mono fun _ _ h => ⟨h.1, h.2.1, h.2.2.1⟩

end Go.Proofs.Ytighgoefmccagaa
