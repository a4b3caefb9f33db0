/-
  'Mv B r w w'': below block B nothing has turned but the blocks of r. Plain facts on worlds; no condition.
  What Has answers: whether a byte is among some. Condition: the text is as long as a length can be.
  What package class's functions of one byte answer, and those of the document's own answer. No condition.
-/
import Derived.Below
import Derived.Deep.Draws
import Derived.Test.YtjaockmbnjflaaaGreatDoorRows
import Derived.Test.YtjaockmbnjflaaaGreatDoorZ1
import Derived.WalkKit
import Derived.WalkSpells
import Derived.WalkLawsBesides
import Derived.LoopTactic
import Derived.Lib.Hide
import Derived.Laws.Externs
namespace Go.Proofs.YtjaockmbnjflaaaGreatDoor
open Go.RowKit

structure Mv (B : Nat) (r : List Nat) (w w' : World) : Prop where
  os : w'.os = w.os
  tape : w'.tape = w.tape
  output : w'.output = w.output
  size : w.heap.size ≤ w'.heap.size
  block : ∀ k, k < B → k ∉ r → w'.heap[k]? = w.heap[k]?

theorem Mv.refl (B : Nat) (r : List Nat) (w : World) : Mv B r w w := ⟨rfl, rfl, rfl, Nat.le_refl _, fun _ _ _ => rfl⟩
theorem Mv.trans {B : Nat} {r : List Nat} {a b c : World} (h : Mv B r a b) (k : Mv B r b c) : Mv B r a c :=
  ⟨k.os.trans h.os, k.tape.trans h.tape, k.output.trans h.output, Nat.le_trans h.size k.size, fun i hi hr => (k.block i hi hr).trans (h.block i hi hr)⟩
theorem Mv.mono {B B' : Nat} {r r' : List Nat} {w w' : World} (h : Mv B r w w') (hB : B' ≤ B) (hr : ∀ x ∈ r, x ∈ r' ∨ B' ≤ x) : Mv B' r' w w' :=
  ⟨h.os, h.tape, h.output, h.size, fun k hk hk' => h.block k (by omega) (fun hm => by rcases hr k hm with h1 | h1; exact hk' h1; omega)⟩
theorem Mv.of_below {B : Nat} {w w' : World} (h : Below B w w') (r : List Nat) : Mv B r w w' := ⟨h.os, h.tape, h.output, h.size, fun k hk _ => h.block k hk⟩
theorem Mv.below {B B' : Nat} {r : List Nat} {w w' : World} (h : Mv B r w w') (hB : B' ≤ B) (hr : ∀ x ∈ r, B' ≤ x) : Below B' w w' :=
  ⟨h.os, h.tape, h.output, h.size, fun k hk => h.block k (by omega) (fun hm => by have := hr k hm; omega)⟩
theorem Mv.drew {B : Nat} {r : List Nat} {a w : World} (h : Mv B r a w) : Mv B r a w.drew := ⟨h.os, h.tape, h.output, h.size, h.block⟩
theorem Mv.drewN {B : Nat} {r : List Nat} {a w : World} (h : Mv B r a w) (n : Nat) : Mv B r a (w.drewN n) := ⟨h.os, h.tape, h.output, h.size, h.block⟩
theorem Mv.alloc {B : Nat} {r : List Nat} {a w : World} (h : Mv B r a w) (hB : B ≤ w.heap.size) (o : Obj) : Mv B r a (w.alloc o) :=
  h.trans ⟨rfl, rfl, rfl, by simp, fun k hk _ => Below.heap_alloc _ _ _ (by omega)⟩
theorem Mv.setCell {B : Nat} {r : List Nat} {a w : World} (h : Mv B r a w) {p : Addr} (hp : p.block ∈ r ∨ B ≤ p.block) (u : Value) : Mv B r a (w.setCell p u) :=
  h.trans ⟨rfl, rfl, rfl, by simp [World.setCell], fun k hk hr => Below.heap_setCell _ _ _ _ (fun e => by subst e; rcases hp with h1 | h1; exact hr h1; omega)⟩
theorem Mv.cell {B : Nat} {r : List Nat} {w w' : World} (h : Mv B r w w') {p : Addr} (hp : p.block < B) (hr : p.block ∉ r) : w'.cell? p = w.cell? p := World.cell?_of_block (w := w) (h.block p.block hp hr)
theorem Mv.frozen {B : Nat} {r : List Nat} {w w' : World} (h : Mv B r w w') {p : Addr} (hp : p.block < B) (hr : p.block ∉ r) : w'.frozen? p = w.frozen? p := World.frozen?_of_block (w := w) (h.block p.block hp hr)
theorem Below.drewN' {B : Nat} {a w : World} (h : Below B a w) (n : Nat) : Below B a (w.drewN n) := ⟨h.os, h.tape, h.output, h.size, h.block⟩

/-- Block g is known whole. -/
def Blk (w : World) (g : Nat) (t : TypeId) (cs : Array Value) : Prop := w.heap[g]? = some (.cells cs t (0, 0))

section
variable {w w' : World} {g : Nat} {t : TypeId} {cs : Array Value}
theorem Blk.lt (h : Blk w g t cs) : g < w.heap.size := by
  rcases Nat.lt_or_ge g w.heap.size with hlt | hge
  · exact hlt
  · unfold Blk at h; rw [Array.getElem?_eq_none hge] at h; cases h
theorem Blk.cell (h : Blk w g t cs) (i : Nat) : w.cell? ⟨g, i, none⟩ = cs[i]? := by
  unfold Blk at h; simp [World.cell?, h]
theorem Blk.frozen (h : Blk w g t cs) (i : Nat) : w.frozen? ⟨g, i, none⟩ = false := by
  unfold Blk at h
  simp [World.frozen?, h]
theorem Blk.new (w : World) (t : TypeId) (cs : Array Value) : Blk (w.alloc (.cells cs t)) w.heap.size t cs := by
  unfold Blk
  show (w.heap.push _)[w.heap.size]? = _
  simp
theorem Blk.drew (h : Blk w g t cs) : Blk w.drew g t cs := h
theorem Blk.drewN (h : Blk w g t cs) (n : Nat) : Blk (w.drewN n) g t cs := h
theorem Blk.alloc (h : Blk w g t cs) (o : Obj) : Blk (w.alloc o) g t cs := (Below.heap_alloc w o g h.lt).trans h
theorem Blk.set_ (h : Blk w g t cs) (i : Nat) (u : Value) : Blk (w.setCell ⟨g, i, none⟩ u) g t (cs.setIfInBounds i u) := by
  unfold Blk at h ⊢
  simp [World.setCell, Array.getElem?_modify, h]
theorem Blk.far (h : Blk w g t cs) {p : Addr} (hp : g ≠ p.block) (u : Value) : Blk (w.setCell p u) g t cs := (Below.heap_setCell w p u g hp).trans h
theorem Blk.below {B : Nat} (h : Blk w g t cs) (hb : Below B w w') (hg : g < B) : Blk w' g t cs := (hb.block g hg).trans h
theorem Blk.mv {B : Nat} {r : List Nat} (h : Blk w g t cs) (hb : Mv B r w w') (hg : g < B) (hr : g ∉ r) : Blk w' g t cs := (hb.block g hg hr).trans h
end

end Go.Proofs.YtjaockmbnjflaaaGreatDoor
namespace Go.Proofs.YtjaockmbnjflaaaGreatDoor
open Go.RowKit

set_option maxHeartbeats 1000000 in
theorem has_any (t : ByteArray) (b : UInt8) (w : World) (hs : t.size ≤ 9223372036854775807) :
    Calls Tryz.prog 63 #[.string t, .int .u8 (b.toNat : Int)] w fun e w' => e = .returned (.bool (hasB t b)) ∧ w = w' := by
  go_enter Tryz.func63, Tryz.ntmps63
  go_wp2
  go_loop [5] (fun i => ∃ k : Nat, k ≤ t.size ∧ i = .int .i64 k ∧ ∀ j (hj : j < t.size), j < k → t[j] ≠ b) (fun i => t.size - (intOf i).toNat)
  case atStart => exact ⟨0, by omega, rfl, fun j _ h => absurd h (by omega)⟩
  case round =>
    obtain ⟨k, hk, rfl, hno⟩ := hrel
    have HN := Lib.hid hno
    clear hno
    by_cases hlt : k < t.size
    · by_cases he : t[k] = b
      · have HA : Hid (hasB t b = true) := hasB_at hlt he
        have d1 : ((t[k].toNat : Int) == (b.toNat : Int)) = true := by rw [he]; simp
        clear he
        go_wp2
        go_ret
        exact ⟨by rw [HA.out]; rfl, rfl⟩
      · have d1 : ((t[k].toNat : Int) == (b.toNat : Int)) = false := by
          simp only [beq_eq_false_iff_ne, ne_eq]
          intro h
          exact he (UInt8.toNat_inj.1 (by omega))
        have HE := Lib.hid he
        clear he
        go_wp2
        go_round
        case rel => exact ⟨k + 1, by omega, by go_num, fun j hj h => if h1 : j = k then by subst h1; exact HE.out else HN.out j hj (by omega)⟩
        case measure => simp [intOf]; omega
    · obtain rfl : k = t.size := by omega
      have HA : Hid (hasB t b = false) := hasB_no fun i hi => HN.out i hi hi
      go_wp2
      go_ret
      exact ⟨by rw [HA.out]; rfl, rfl⟩

end Go.Proofs.YtjaockmbnjflaaaGreatDoor
namespace Go.Proofs.YtjaockmbnjflaaaGreatDoor
open Go.RowKit

theorem dI (a : Nat) (b : UInt8) : decide (a ≤ b.toNat) = decide ((a : Int) ≤ (b.toNat : Int)) := by simp
theorem dJ (a : Nat) (b : UInt8) : decide (b.toNat ≤ a) = decide ((b.toNat : Int) ≤ (a : Int)) := by simp
theorem dE (a : Nat) (b : UInt8) : (b.toNat == a) = ((b.toNat : Int) == (a : Int)) := by
  rw [Bool.eq_iff_iff, beq_iff_eq, beq_iff_eq]
  omega

set_option maxHeartbeats 400000 in
theorem lower1_any (b : UInt8) (w : World) :
    Calls Tryz.prog 85 #[.int .u8 (b.toNat : Int)] w fun e w' => e = .returned (.int .u8 ((lowB b).toNat : Int)) ∧ w = w' := by
  have hb := b.toNat_lt
  by_cases h : 65 ≤ b.toNat ∧ b.toNat ≤ 90
  · have e : (lowB b).toNat = b.toNat + 32 := by
      unfold lowB
      rw [if_pos (by simpa using h), UInt8.toNat_ofNat']
      omega
    rw [e]
    have h1 : (65 : Int) ≤ (b.toNat : Int) := by omega
    have h2 : (b.toNat : Int) ≤ 90 := by omega
    clear e
    go_enter Tryz.func85, Tryz.ntmps85
    go_wp2
    go_ret
    refine ⟨?_, rfl⟩
    go_num
  · have e : lowB b = b := by
      unfold lowB
      rw [if_neg (by simpa using h)]
    rw [e]
    clear e
    by_cases h1 : (65 : Int) ≤ (b.toNat : Int)
    · have h2 : decide ((b.toNat : Int) ≤ 90) = false := by simp; omega
      go_enter Tryz.func85, Tryz.ntmps85
      go_wp2
      go_ret
      exact ⟨rfl, rfl⟩
    · have h2 : decide ((65 : Int) ≤ (b.toNat : Int)) = false := by simp; omega
      go_enter Tryz.func85, Tryz.ntmps85
      go_wp2
      go_ret
      exact ⟨rfl, rfl⟩

set_option maxHeartbeats 400000 in
theorem letter_any (b : UInt8) (w : World) :
    Calls Tryz.prog 59 #[.int .u8 (b.toNat : Int)] w fun e w' => e = .returned (.bool (letB b)) ∧ w = w' := by
  have e : letB b = (decide ((97 : Int) ≤ ((lowB b).toNat : Int)) && decide (((lowB b).toNat : Int) ≤ 122)) := by unfold letB lowerB; rw [dI, dJ]; rfl
  rw [e]
  clear e
  cases h0 : decide ((97 : Int) ≤ ((lowB b).toNat : Int)) <;>
  · go_enter Tryz.func59, Tryz.ntmps59
    go_wp2_with (go_at_call 85; refine (lower1_any b _).mono ?_; rintro e w' ⟨rfl, rfl⟩)
    go_ret
    exact ⟨rfl, rfl⟩

theorem indexByte2_any (s : ByteArray) (b : UInt8) (w : World) : (callFunc 139 #[.string s, .int .u8 (b.toNat : Int)]).run Tryz.prog w = .ok (.value (.int .i64 (firstIdx s b))) w := by
  rw [run_callFunc_extern (fn := Tryz.f139) (e := Extern.BytealgIndexByte.indexByte) Tryz.func139 rfl rfl rfl rfl]
  rw [run_indexByte_string]
  simp [Result.andThen]

set_option maxHeartbeats 400000 in
theorem indexByte1_any (s : ByteArray) (b : UInt8) (w : World) :
    Calls Tryz.prog 125 #[.string s, .int .u8 (b.toNat : Int)] w fun e w' => e = .returned (.int .i64 (firstIdx s b)) ∧ w = w' := by
  have hx := indexByte2_any s b
  go_enter Tryz.func125, Tryz.ntmps125
  go_wp2
  go_ret
  exact ⟨rfl, rfl⟩

set_option maxHeartbeats 400000 in
theorem indexByte_any (s : ByteArray) (b : UInt8) (w : World) :
    Calls Tryz.prog 110 #[.string s, .int .u8 (b.toNat : Int)] w fun e w' => e = .returned (.int .i64 (firstIdx s b)) ∧ w = w' := by
  go_enter Tryz.func110, Tryz.ntmps110
  go_wp2_with (go_at_call 125; refine (indexByte1_any s b _).mono ?_; rintro e w' ⟨rfl, rfl⟩)
  go_ret
  exact ⟨rfl, rfl⟩

end Go.Proofs.YtjaockmbnjflaaaGreatDoor
