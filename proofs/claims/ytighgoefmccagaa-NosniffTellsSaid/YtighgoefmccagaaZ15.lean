/-
  What the document's own Read and Serial of layer 4 answer. Condition: the text takes at most 2^45 bytes.
  What Clean, isBad and isNamed of package header answer, and the document's Fine. Conditions: a name is as long as a length can be, a value has less than 4294967281 bytes.
  Which headers are bad, or of a name: IndexFunc and ContainsFunc of the library over package header's functions; Good and Has. Condition: texts are shorter than a mebibyte, headers no more than that.
-/
import Derived.Test.YtighgoefmccagaaZ14
import Derived.Test.YtighgoefmccagaaZ2
import Derived.LoopTactic
import Derived.WalkKit
import Derived.WalkSpells
import Derived.WalkLawsBesides
import Derived.Lib.Hide
import Derived.Outline
import Derived.Test.YtighgoefmccagaaZ10
import Derived.Test.YtighgoefmccagaaZ3
import Derived.Test.YtighgoefmccagaaZ9
import Derived.Test.YtighgoefmccagaaZ5
import Derived.Test.YtighgoefmccagaaZ4
import Derived.Test.YtighgoefmccagaaZ11
import Derived.Test.YtighgoefmccagaaRows
import Derived.Laws.RangeAny
import Derived.Laws.Runes
import Derived.Lib.OthersKept
import Derived.Deep.LoopGhost
import Derived.BigQuiet
import Derived.IntWalk
import Derived.Test.YtighgoefmccagaaZ13
namespace Go.Proofs.Ytighgoefmccagaa
open Go.RowKit

theorem arr_one (l : List UInt8) (b : UInt8) : (⟨l.toArray⟩ : ByteArray) ++ ⟨#[b]⟩ = ⟨(l ++ [b]).toArray⟩ := by
  apply ByteArray.ext
  rw [ByteArray.data_append]
  simp

set_option maxHeartbeats 2000000 in
theorem refRead_any (s : ByteArray) (w : World) (h0 : 0 < s.size) (hs : s.size ≤ 35184372088832) :
    Calls Try.prog 32 #[.string s] w fun e w' => e = .returned (.tuple #[.string ⟨(quoS s 1).1.toArray⟩, .int .i64 (1 + (quoS s 1).2 : Nat)]) ∧ Below w.heap.size w w' := by
  go_enter Try.func32, Try.ntmps32
  go_wp2
  go_loopw [4, 5] (fun o i wr => ∃ (k : Nat) (l : List UInt8), k ≤ s.size ∧ l.length ≤ k ∧ o = .string ⟨l.toArray⟩ ∧ i = .int .i64 k ∧ Below w.heap.size w wr ∧ l ++ (quoS s k).1 = (quoS s 1).1 ∧ k + (quoS s k).2 = 1 + (quoS s 1).2) (fun _ i _ => s.size - (intOf i).toNat)
  case atStart => exact ⟨1, [], by omega, by simp, rfl, rfl, Below.refl _ _, by simp, rfl⟩
  case round =>
    obtain ⟨k, l, hk, hl, rfl, rfl, hm, ht, hn⟩ := hrel
    have HT := Lib.hid ht
    have HK := Lib.hid hn
    have HM := Lib.hid hm
    clear ht hn hm
    by_cases hlt : k < s.size
    · by_cases hq : s[k].toNat = 34
      · have d1 : ((s[k].toNat : Int) == 34) = true := by rw [hq]; rfl
        have HQ := Lib.hid (quoS_quote hlt hq)
        clear hq
        go_wp2
        refine bodyPost_ret (v := .tuple #[.string ⟨l.toArray⟩, .int .i64 (k + 1 : Nat)]) (by simp [results, Try.results32, go_sem]) rfl ⟨?_, HM.out⟩
        have ht := HT.out
        have hn := HK.out
        rw [HQ.out] at ht hn
        rw [← ht, ← hn]
        simp
      · have d1 : ((s[k].toNat : Int) == 34) = false := by simp; omega
        by_cases hy : s[k].toNat = 92
        · have d2 : ((s[k].toNat : Int) == 92) = true := by rw [hy]; rfl
          by_cases hlast : k + 1 < s.size
          · have HQ := Lib.hid (quoS_slash hlast hy)
            have d3 : decide (k + 1 < s.size) = true := by simpa using hlast
            have d4 : decide ((k : Int) + 1 < (s.size : Int)) = true := by simp; omega
            clear hy hq
            have hcv := conv_one s[k + 1]
            go_wp2
            go_roundw
            case rel =>
              have ht := HT.out
              have hn := HK.out
              rw [HQ.out] at ht hn
              exact ⟨k + 1 + 1, l ++ [s[k + 1]], by omega, by simp; omega, by rw [arr_one], by go_num, HM.out.alloc HM.out.size _, by simpa using ht, by simp only [] at hn; omega⟩
            case measure => simp [intOf]; omega
          · have HQ := Lib.hid (quoS_slash_end hlt (by omega) hy)
            have d3 : decide (k + 1 < s.size) = false := by simpa using hlast
            have d4 : decide ((k : Int) + 1 < (s.size : Int)) = false := by simp; omega
            have HE := Lib.hid (show s[k] = 92 from UInt8.toNat_inj.1 (by rw [hy]; rfl))
            clear hy hq
            have hcv := conv_one s[k]
            go_wp2
            go_roundw
            case rel =>
              have ht := HT.out
              have hn := HK.out
              have h2 := quoS_end (s := s) (k := k + 1) (by omega)
              rw [HQ.out] at ht hn
              exact ⟨k + 1, l ++ [s[k]], by omega, by simp; omega, by rw [arr_one], by go_num, HM.out.alloc HM.out.size _, by rw [h2, HE.out]; simpa using ht, by rw [h2]; simp only [] at hn ⊢; omega⟩
            case measure => simp [intOf]; omega
        · have d2 : ((s[k].toNat : Int) == 92) = false := by simp; omega
          have HQ := Lib.hid (quoS_other hlt hq hy)
          clear hy hq
          have hcv := conv_one s[k]
          go_wp2
          go_roundw
          case rel =>
            have ht := HT.out
            have hn := HK.out
            rw [HQ.out] at ht hn
            exact ⟨k + 1, l ++ [s[k]], by omega, by simp; omega, by rw [arr_one], by go_num, HM.out.alloc HM.out.size _, by simpa using ht, by simp only [] at hn; omega⟩
          case measure => simp [intOf]; omega
    · obtain rfl : k = s.size := by omega
      go_wp2
      refine bodyPost_ret (v := .tuple #[.string ⟨l.toArray⟩, .int .i64 (s.size : Nat)]) (by simp [results, Try.results32, go_sem]) rfl ⟨?_, HM.out⟩
      have ht := HT.out
      have hn := HK.out
      rw [quoS_end (s := s) (k := s.size) (by omega)] at ht hn
      rw [← ht, ← hn]
      simp

end Go.Proofs.Ytighgoefmccagaa
namespace Go.Proofs.Ytighgoefmccagaa
open Go.RowKit

/-- A world behind w in which a header lies in the block behind w's. -/
def HdAt (w : World) (cs : Array Value) (W : World) : Prop := Below w.heap.size w W ∧ Blk W w.heap.size 33 cs
theorem HdAt.drew {w W : World} {cs : Array Value} (h : HdAt w cs W) : HdAt w cs W.drew := ⟨h.1.drew, h.2⟩
theorem HdAt.next {w : World} {cs : Array Value} {x : Wld (HdAt w cs)} {W' : World} (hb : Below x.val.heap.size x.val W') : HdAt w cs W' := ⟨x.ok.1.trans (hb.mono x.ok.1.size), x.ok.2.below hb x.ok.2.lt⟩
theorem HdAt.same {w : World} {cs : Array Value} {x : Wld (HdAt w cs)} {W' : World} (h : x.val = W') : HdAt w cs W' := h ▸ x.ok
theorem HdAt.new (w : World) (cs : Array Value) : HdAt w cs (w.alloc (.cells cs 33)) := ⟨(Below.refl _ _).alloc (Nat.le_refl _) _, Blk.new _ _ _⟩

end Go.Proofs.Ytighgoefmccagaa
namespace Go.Proofs.Ytighgoefmccagaa
open Go.RowKit

/-- These headers lie behind A. -/
def HdIn (w : World) (A : Option Addr) (l : List Prm) : Prop := ∀ i (h : i < l.length), ∃ a : Addr, A = some a ∧ a.block < w.heap.size ∧
  w.cell? (a.add (i * 2)) = some (.string l[i].n) ∧ w.cell? ⟨(a.add (i * 2)).block, (a.add (i * 2)).off + 1, none⟩ = some (.string l[i].v)
theorem HdIn.below {w w' : World} {A : Option Addr} {l : List Prm} (h : HdIn w A l) (hb : Below w.heap.size w w') : HdIn w' A l := fun i hi => by
  obtain ⟨a, e, hl, h0, h1⟩ := h i hi
  have hl2 : (a.add (i * 2)).block < w.heap.size := by rw [madd_block]; exact hl
  exact ⟨a, e, by have := hb.size; omega, (hb.cell hl2).trans h0, (hb.cell (p := ⟨(a.add (i * 2)).block, (a.add (i * 2)).off + 1, none⟩) hl2).trans h1⟩
theorem HdIn.ps {w : World} {A : Option Addr} {l : List Prm} (h : PsIn w A l) : HdIn w A l := fun i hi => by
  obtain ⟨g, e, hl, h0, h1⟩ := h i hi
  have ea : (⟨g, 0, none⟩ : Addr).add (i * 2) = ⟨g, i * 2, none⟩ := by cases i <;> simp [Addr.add]
  refine ⟨_, e, hl, ?_, ?_⟩
  · rw [ea]; exact h0
  · rw [ea]; exact h1
theorem HdIn.head {w : World} {A : Option Addr} {l : List Prm} (h : HdIn w A l) (k : Nat) : HdIn w A (l.take k) := fun i hi => by
  have hi2 : i < l.length := by rw [List.length_take] at hi; omega
  obtain ⟨a, e, hl, h0, h1⟩ := h i hi2
  refine ⟨a, e, hl, ?_, ?_⟩
  · rw [List.getElem_take]; exact h0
  · rw [List.getElem_take]; exact h1
/-- The function that tells whether a header is of the name that lies in block nb. -/
abbrev namedV (nb : Nat) : Value := .func (.func 73) #[] #[.pointer (some ⟨nb, 0, none⟩)]
set_option maxHeartbeats 400000 in
theorem isNamed_any (name : ByteArray) (w : World) :
    Calls Try.prog 51 #[.string name] w fun e w' => e = .returned (namedV w.heap.size) ∧ w' = w.alloc (.cells #[.string name] 9) := by
  have hmf := make_func
  go_enter Try.func51, Try.ntmps51
  go_wp2
  go_ret
  exact ⟨rfl, rfl⟩

set_option maxHeartbeats 400000 in
theorem isNamed1_any (nb : Nat) (name n v : ByteArray) (w : World) (h : w.cell? ⟨nb, 0, none⟩ = some (.string name)) (hn : n.size ≤ 9223372036854775807) (hm : name.size ≤ 9223372036854775807) :
    Calls Try.prog 73 #[.agg #[.string n, .string v], .pointer (some ⟨nb, 0, none⟩)] w fun e w' => e = .returned (.bool (hasN name ⟨n, v⟩)) ∧ Below w.heap.size w w' := by
  have HS := Lib.hid (fun W => same_any n name W hn hm)
  have HE : Hid (hasN name ⟨n, v⟩ = sameB n name) := rfl
  rw [HE.out]
  clear HE
  generalize sameB n name = b at *
  have hlt : nb < w.heap.size := World.block_lt_of_cell? w _ h
  have HD0 := Lib.hid (HdAt.new w #[.string n, .string v])
  have cn : (w.alloc (.cells #[.string n, .string v] 33)).cell? ⟨nb, 0, none⟩ = some (.string name) := (World.cell?_alloc_lt w _ _ hlt).trans h
  clear h
  go_enter Try.func73, Try.ntmps73
  go_wp2_with (go_at_call 22; (with_reducible refine (HS.out _).mono ?_); rintro e w1 ⟨rfl, q, rfl⟩)
  go_ret
  exact ⟨rfl, Below.drewN' HD0.out.1 _⟩

end Go.Proofs.Ytighgoefmccagaa
