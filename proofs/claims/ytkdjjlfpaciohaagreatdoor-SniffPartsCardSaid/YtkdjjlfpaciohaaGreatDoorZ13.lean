/-
  What Tag of package mask answers: the pattern of a text whose letters may be small or great. Condition: the text is as long as a length can be.
  What takePiece does to a cursor, and what layer 4's Split answers. Condition: the text takes at most 2^45 bytes.
  A slice of texts; what Join of the library answers, with a comma and a blank between each two; the same of package combine. Condition: a thousand texts of a thousand bytes.
-/
import Derived.Test.YtkdjjlfpaciohaaGreatDoorZ6
import Derived.Test.YtkdjjlfpaciohaaGreatDoorZ8
import Derived.Laws.MakeOwn
import Derived.RegionTactic
import Derived.Test.YtkdjjlfpaciohaaGreatDoorZ9
import Derived.Test.YtkdjjlfpaciohaaGreatDoorZ3
import Derived.Test.YtkdjjlfpaciohaaGreatDoorZ1
import Derived.OwnWalk
import Derived.Laws.OwnMore
import Derived.LoopTactic
import Derived.Test.YtkdjjlfpaciohaaGreatDoorZ10
import Derived.Test.YtkdjjlfpaciohaaGreatDoorZ2
import Derived.BigQuiet
import Derived.Test.YtkdjjlfpaciohaaGreatDoorRows
import Derived.WalkKit
import Derived.WalkSpells
import Derived.WalkLawsBesides
import Derived.Laws.Externs
import Derived.Lib.Hide
import Derived.Lib.FrozenHead2
namespace Go.Proofs.YtkdjjlfpaciohaaGreatDoor
open Go.RowKit

theorem make_bytes (n : Nat) (hn : n ≤ 281474976710656) (w : World) : (Instr.makeSlice 62 (.int .i64 (n : Int)) (.int .i64 (n : Int))).run Tryz.prog w = .ok (.slice (some ⟨w.heap.size, 0, none⟩) n n) (w.alloc (.cells (madeCells #[.int .u8 0] n) 5)) := by
  obtain ⟨i0, hi, hz0, hz1, hz2⟩ := info_parts Tryz.info5
  have hr := run_make (P := Tryz.prog) w 62 5 i0 _ Tryz.underlying62 hi hz0 .i64 .i64 n n (by omega) (by omega) (by rw [hz2]; omega) (by omega)
  rw [hz1] at hr
  simpa [Value.cells] using hr

/-- The cells of a text of which the first k bytes are turned by f, and the others by g. -/
def Turn (f g : UInt8 → UInt8) (s : ByteArray) (k : Nat) (C : Array Value) : Prop := ∀ j (h : j < s.size), C[j]? = some (.int .u8 (((if j < k then f s[j] else g s[j]).toNat : Nat) : Int))
section
variable {f g : UInt8 → UInt8} {s : ByteArray} {k j : Nat} {C : Array Value}
theorem Turn.lt (h : Turn f g s k C) (hj : j < s.size) : j < C.size := (Array.getElem?_eq_some_iff.1 (h j hj)).1
theorem Turn.at_ (h : Turn f g s k C) (hk : k < s.size) : C[k]? = some (.int .u8 ((g s[k]).toNat : Int)) := by
  rw [h k hk, if_neg (by omega)]
theorem Turn.succ (h : Turn f g s k C) (hk : k < s.size) {x : Int} (hx : x = ((f s[k]).toNat : Int)) : Turn f g s (k + 1) (C.setIfInBounds k (.int .u8 x)) := fun j hj => by
  have hlt := h.lt hj
  by_cases e : k = j
  · subst e
    rw [Array.getElem?_setIfInBounds_self_of_lt hlt, if_pos (by omega), hx]
  · rw [Array.getElem?_setIfInBounds_ne e, h j hj]
    by_cases h1 : j < k
    · rw [if_pos h1, if_pos (by omega)]
    · rw [if_neg h1, if_neg (by omega)]
theorem Turn.idle (h : Turn f g s k C) (hk : k < s.size) (e : f s[k] = g s[k]) : Turn f g s (k + 1) C := fun j hj => by
  rw [h j hj]
  by_cases h1 : j < k
  · rw [if_pos h1, if_pos (by omega)]
  · by_cases h2 : j = k
    · subst h2; rw [if_neg h1, if_pos (by omega), e]
    · rw [if_neg h1, if_neg (by omega)]
theorem Turn.row (f : UInt8 → UInt8) (s : ByteArray) (cap : Nat) : Turn f id s 0 (bytesRow s cap) := fun j h => by
  rw [bytesRow_at s cap j h, if_neg (by omega)]
  rfl
theorem Turn.made (f : UInt8 → UInt8) (s : ByteArray) : Turn f (fun _ => 0) s 0 (madeCells #[.int .u8 0] s.size) := fun j h => by
  rw [if_neg (by omega)]
  simp [madeCells, h, Nat.mod_one]
/-- A text of which each byte is turned. -/
def mapS (f : UInt8 → UInt8) (s : ByteArray) : ByteArray := ⟨s.data.map f⟩
theorem mapS_size (f : UInt8 → UInt8) (s : ByteArray) : (mapS f s).size = s.size := by
  show (s.data.map f).size = s.data.size
  simp
theorem mapS_at (f : UInt8 → UInt8) (s : ByteArray) (i : Nat) (h : i < s.size) : (mapS f s)[i]'(by rw [mapS_size]; exact h) = f s[i] :=
  Array.getElem_map (f := f) (xs := s.data) (i := i) (hi := by simpa using h)
theorem Turn.back (h : Turn f g s s.size C) {W : World} {b : Nat} (hg : ∀ j, W.cell? ⟨b, j, none⟩ = C[j]?) (cap : Nat) :
    (convert 62 9 (.slice (some ⟨b, 0, none⟩) s.size cap)).run Tryz.prog W = .ok (.string (mapS f s)) W := by
  have h2 : (mapS f s).data.toList.length = s.size := by
    have h3 : (mapS f s).data.toList.length = (mapS f s).size := by simp
    rw [h3, mapS_size]
  have := run_convert_bytes_back (P := Tryz.prog) W 62 9 5 ⟨b, 0, none⟩ cap (mapS f s).data.toList Tryz.underlying62 Tryz.underlying5 Tryz.underlying9 (fun j hj => by
    have hj' : j < s.size := by omega
    have e : (⟨b, 0, none⟩ : Addr).add j = ⟨b, j, none⟩ := by cases j <;> simp [Addr.add]
    rw [e, hg, h j hj', if_pos hj']
    congr 3
    exact congrArg UInt8.toNat (mapS_at f s j hj').symm)
  rw [h2] at this
  simpa using this
end

theorem upB_let {b : UInt8} (h : letB b = true) : upB b = andB b 223 ∧ mskB b = 223 := by
  unfold upB mskB
  rw [if_pos h, if_pos h]
  exact ⟨rfl, rfl⟩
theorem upB_not {b : UInt8} (h : letB b = false) : upB b = b ∧ mskB b = 255 := by
  unfold upB mskB
  rw [h]
  exact ⟨rfl, rfl⟩
theorem bits_223 (b : UInt8) : bits .and .u8 (b.toNat : Int) 223 = ((andB b 223).toNat : Int) := bits_andB b 223
theorem blm_keep {w : World} {g : Nat} {t : TypeId} {cs : Array Value} {fr : Nat × Nat} (h : Blm w g t cs fr) (o : Obj) : Blm (w.alloc o) g t cs fr := (Below.heap_alloc w o g h.lt).trans h
theorem blm_far {w : World} {g : Nat} {t : TypeId} {cs : Array Value} {fr : Nat × Nat} (h : Blm w g t cs fr) {p : Addr} (hp : g ≠ p.block) (u : Value) : Blm (w.setCell p u) g t cs fr := (Below.heap_setCell w p u g hp).trans h

set_option maxHeartbeats 2000000 in
set_option maxRecDepth 100000 in
theorem tag_any (s t : ByteArray) (w : World) (hs : s.size ≤ 140737488351232) (_ht : t.size ≤ 9223372036854775807) :
    Calls Tryz.prog 102 #[.string s, .string t] w fun e w' => e = .returned (patV (upS s) (mskS s) blk5 t) ∧ Below w.heap.size w w' := by
  have hcv := fun W => run_bytes_of_string (P := Tryz.prog) W 9 62 5 s Tryz.underlying9 Tryz.underlying62 Tryz.underlying5
  have hmk := make_bytes s.size (by omega)
  obtain ⟨w0, hw0⟩ : ∃ w0, w0 = w.alloc (.cells #[.string ⟨#[]⟩, .string ⟨#[]⟩, .string ⟨#[]⟩, .string ⟨#[]⟩] 54) := ⟨_, rfl⟩
  have HB0 := Lib.hid (show Below w.heap.size w w0 from by rw [hw0]; exact (Below.refl w.heap.size w).alloc (Nat.le_refl _) _)
  have HP0 := Lib.hid (show Blk w0 w.heap.size 54 #[.string ⟨#[]⟩, .string ⟨#[]⟩, .string ⟨#[]⟩, .string ⟨#[]⟩] from by rw [hw0]; exact Blk.new _ _ _)
  have hz : w0.heap.size = w.heap.size + 1 := by rw [hw0]; simp
  go_enter Tryz.func102, Tryz.ntmps102
  go_wp2
  rw [← hw0]
  clear hw0
  go_region
  · go_wp2_with fail
    clear hcv hmk
    generalize grownCap w0.drew s.size 0 5 = cap
    have hT0 := Turn.row upB s cap
    generalize bytesRow s cap = C0 at *
    have HT0 := Lib.hid hT0
    clear hT0
    go_loopw [7, 8, 16] (fun _ _ i wr => ∃ (k : Nat) (C D : Array Value), k ≤ s.size ∧ i = .int .i64 k ∧ Turn upB id s k C ∧ C.size = C0.size ∧ Turn mskB (fun _ => 0) s k D ∧ Blm wr (w.heap.size + 1) 5 C (C0.size, C0.size + 1) ∧ Blk wr (w.heap.size + 1 + 1) 5 D ∧ Blk wr w.heap.size 54 #[.string ⟨#[]⟩, .string ⟨#[]⟩, .string ⟨#[]⟩, .string ⟨#[]⟩] ∧ Below w.heap.size w wr) (fun _ _ i _ => s.size - (intOf i).toNat)
    case atStart => exact ⟨0, C0, _, Nat.zero_le _, rfl, HT0.out, rfl, Turn.made mskB s, by have := blm_keep (Blm.new w0.drew 5 C0 (C0.size, C0.size + 1)) (.cells (madeCells #[.int .u8 0] s.size) 5); rw [show w0.drew.heap.size = w.heap.size + 1 from hz] at this; exact this, by have := Blk.new (w0.alloc (.cells C0 5 (C0.size, C0.size + 1))) 5 (madeCells #[.int .u8 0] s.size); rw [show (w0.alloc (.cells C0 5 (C0.size, C0.size + 1))).heap.size = w.heap.size + 1 + 1 from by simp [hz]] at this; exact this, (HP0.out.alloc _).alloc _, ((HB0.out.alloc HB0.out.size _).alloc (Nat.le_trans HB0.out.size (by simp)) _).drew.drew⟩
    case round =>
      obtain ⟨k, C, D, hk, rfl, hT, hN, hD, hBg, hBm, hBp, hW⟩ := hrel
      have HT := Lib.hid hT
      have HN := Lib.hid hN
      have HD := Lib.hid hD
      have HG := Lib.hid hBg
      have HM := Lib.hid hBm
      have HP := Lib.hid hBp
      have HW := Lib.hid hW
      clear HT0 HB0 HP0 hT hN hD hBg hBm hBp hW hz
      by_cases hlt : k < s.size
      · have c0 : wr.cell? ⟨w.heap.size + 1, k, none⟩ = some (.int .u8 (s[k].toNat : Int)) := by rw [HG.out.cell, HT.out.at_ hlt]; rfl
        have z0 : wr.frozen? ⟨w.heap.size + 1, k, none⟩ = false := HG.out.frozen k (by have := HT.out.lt hlt; have := HN.out; omega)
        have c1 : wr.cell? ⟨w.heap.size + 1 + 1, k, none⟩ = some (.int .u8 0) := by rw [HM.out.cell, HD.out.at_ hlt]; rfl
        have z1 : wr.frozen? ⟨w.heap.size + 1 + 1, k, none⟩ = false := HM.out.frozen k
        cases hl : letB s[k]
        · have HU := Lib.hid (upB_not hl)
          go_wp2_with (go_at_call 128; refine (letter_any s[k] _).mono ?_; rintro e w' ⟨rfl, rfl⟩; rw [hl])
          go_roundw
          case rel => exact ⟨k + 1, C, D.setIfInBounds k (.int .u8 255), by omega, by go_num, HT.out.idle hlt HU.out.1, HN.out, HD.out.succ hlt (by rw [HU.out.2]; rfl), blm_far HG.out (by simp) _, HM.out.set_ k _, HP.out.far (by simp; try omega) _, HW.out.setCell (by simp; try omega) _⟩
          case measure => simp [intOf]; omega
        · have HU := Lib.hid (upB_let hl)
          have hbit := bits_223 s[k]
          go_wp2_with (go_at_call 128; refine (letter_any s[k] _).mono ?_; rintro e w' ⟨rfl, rfl⟩; rw [hl])
          go_roundw
          case rel => exact ⟨k + 1, C.setIfInBounds k (.int .u8 ((andB s[k] 223).toNat : Int)), (D.setIfInBounds k (.int .u8 255)).setIfInBounds k (.int .u8 223), by omega, by go_num, HT.out.succ hlt (by rw [HU.out.1]), by simpa using HN.out, by rw [Array.setIfInBounds_setIfInBounds]; exact HD.out.succ hlt (by rw [HU.out.2]; rfl), (blm_far (blm_far HG.out (by simp) _) (by simp) _).set_ k _, ((HM.out.set_ k _).set_ k _).far (by simp) _, ((HP.out.far (by simp; try omega) _).far (by simp; try omega) _).far (by simp; try omega) _, ((HW.out.setCell (by simp; try omega) _).setCell (by simp; try omega) _).setCell (by simp; try omega) _⟩
          case measure => simp [intOf]; omega
      · obtain rfl : k = s.size := by omega
        have hb1 := HT.out.back HG.out.cell
        have hb2 := HD.out.back HM.out.cell
        have p0 := HP.out.cell 0
        have p1 := HP.out.cell 1
        have p2 := HP.out.cell 2
        have p3 := HP.out.cell 3
        have q0 := HP.out.frozen 0
        have q1 := HP.out.frozen 1
        have q2 := HP.out.frozen 2
        have q3 := HP.out.frozen 3
        go_wp2
        refine bodyPost_ret (v := patV (mapS upB s) (mapS mskB s) blk5 t) (by simp [results, Tryz.results102, go_sem, p0, p1, p2, p3]; rfl) rfl ⟨rfl, ?_⟩
        exact (((HW.out.setCell (by simp) _).setCell (by simp) _).setCell (by simp) _).setCell (by simp) _
  · go_wp2_with fail
    clear hcv hmk
    generalize grownCap (w0.alloc (.cells (madeCells #[.int .u8 0] s.size) 5)).drew s.size 0 5 = cap
    have hT0 := Turn.row upB s cap
    generalize bytesRow s cap = C0 at *
    have HT0 := Lib.hid hT0
    clear hT0
    go_loopw [7, 8, 16] (fun _ _ i wr => ∃ (k : Nat) (C D : Array Value), k ≤ s.size ∧ i = .int .i64 k ∧ Turn upB id s k C ∧ C.size = C0.size ∧ Turn mskB (fun _ => 0) s k D ∧ Blm wr (w.heap.size + 1 + 1) 5 C (C0.size, C0.size + 1) ∧ Blk wr (w.heap.size + 1) 5 D ∧ Blk wr w.heap.size 54 #[.string ⟨#[]⟩, .string ⟨#[]⟩, .string ⟨#[]⟩, .string ⟨#[]⟩] ∧ Below w.heap.size w wr) (fun _ _ i _ => s.size - (intOf i).toNat)
    case atStart => exact ⟨0, C0, _, Nat.zero_le _, rfl, HT0.out, rfl, Turn.made mskB s, by have := Blm.new (w0.alloc (.cells (madeCells #[.int .u8 0] s.size) 5)) 5 C0 (C0.size, C0.size + 1); rw [show (w0.alloc (.cells (madeCells #[.int .u8 0] s.size) 5)).heap.size = w.heap.size + 1 + 1 from by simp [hz]] at this; exact this, by have := (Blk.new w0 5 (madeCells #[.int .u8 0] s.size)).alloc (.cells C0 5 (C0.size, C0.size + 1)); rw [hz] at this; exact this, (HP0.out.alloc _).alloc _, ((HB0.out.alloc HB0.out.size _).alloc (Nat.le_trans HB0.out.size (by simp)) _).drew.drew⟩
    case round =>
      obtain ⟨k, C, D, hk, rfl, hT, hN, hD, hBg, hBm, hBp, hW⟩ := hrel
      have HT := Lib.hid hT
      have HN := Lib.hid hN
      have HD := Lib.hid hD
      have HG := Lib.hid hBg
      have HM := Lib.hid hBm
      have HP := Lib.hid hBp
      have HW := Lib.hid hW
      clear HT0 HB0 HP0 hT hN hD hBg hBm hBp hW hz
      by_cases hlt : k < s.size
      · have c0 : wr.cell? ⟨w.heap.size + 1 + 1, k, none⟩ = some (.int .u8 (s[k].toNat : Int)) := by rw [HG.out.cell, HT.out.at_ hlt]; rfl
        have z0 : wr.frozen? ⟨w.heap.size + 1 + 1, k, none⟩ = false := HG.out.frozen k (by have := HT.out.lt hlt; have := HN.out; omega)
        have c1 : wr.cell? ⟨w.heap.size + 1, k, none⟩ = some (.int .u8 0) := by rw [HM.out.cell, HD.out.at_ hlt]; rfl
        have z1 : wr.frozen? ⟨w.heap.size + 1, k, none⟩ = false := HM.out.frozen k
        cases hl : letB s[k]
        · have HU := Lib.hid (upB_not hl)
          go_wp2_with (go_at_call 128; refine (letter_any s[k] _).mono ?_; rintro e w' ⟨rfl, rfl⟩; rw [hl])
          go_roundw
          case rel => exact ⟨k + 1, C, D.setIfInBounds k (.int .u8 255), by omega, by go_num, HT.out.idle hlt HU.out.1, HN.out, HD.out.succ hlt (by rw [HU.out.2]; rfl), blm_far HG.out (by simp) _, HM.out.set_ k _, HP.out.far (by simp; try omega) _, HW.out.setCell (by simp; try omega) _⟩
          case measure => simp [intOf]; omega
        · have HU := Lib.hid (upB_let hl)
          have hbit := bits_223 s[k]
          go_wp2_with (go_at_call 128; refine (letter_any s[k] _).mono ?_; rintro e w' ⟨rfl, rfl⟩; rw [hl])
          go_roundw
          case rel => exact ⟨k + 1, C.setIfInBounds k (.int .u8 ((andB s[k] 223).toNat : Int)), (D.setIfInBounds k (.int .u8 255)).setIfInBounds k (.int .u8 223), by omega, by go_num, HT.out.succ hlt (by rw [HU.out.1]), by simpa using HN.out, by rw [Array.setIfInBounds_setIfInBounds]; exact HD.out.succ hlt (by rw [HU.out.2]; rfl), (blm_far (blm_far HG.out (by simp) _) (by simp) _).set_ k _, ((HM.out.set_ k _).set_ k _).far (by simp) _, ((HP.out.far (by simp; try omega) _).far (by simp; try omega) _).far (by simp; try omega) _, ((HW.out.setCell (by simp; try omega) _).setCell (by simp; try omega) _).setCell (by simp; try omega) _⟩
          case measure => simp [intOf]; omega
      · obtain rfl : k = s.size := by omega
        have hb1 := HT.out.back HG.out.cell
        have hb2 := HD.out.back HM.out.cell
        have p0 := HP.out.cell 0
        have p1 := HP.out.cell 1
        have p2 := HP.out.cell 2
        have p3 := HP.out.cell 3
        have q0 := HP.out.frozen 0
        have q1 := HP.out.frozen 1
        have q2 := HP.out.frozen 2
        have q3 := HP.out.frozen 3
        go_wp2
        refine bodyPost_ret (v := patV (mapS upB s) (mapS mskB s) blk5 t) (by simp [results, Tryz.results102, go_sem, p0, p1, p2, p3]; rfl) rfl ⟨rfl, ?_⟩
        exact (((HW.out.setCell (by simp) _).setCell (by simp) _).setCell (by simp) _).setCell (by simp) _

end Go.Proofs.YtkdjjlfpaciohaaGreatDoor
namespace Go.Proofs.YtkdjjlfpaciohaaGreatDoor
open Go.RowKit

theorem own_mv {W W' : World} {base : Nat} {e : TypeId} {size : Nat} {v : Value} {n : Nat} {xs : List Value} {r : List Nat} (h : W.ownsRow base e size v n xs) (hm : Mv W.heap.size r W W') (hr : ∀ x ∈ r, v.ownBlock ≠ some x) : W'.ownsRow base e size v n xs := by
  refine ⟨h.1, ?_⟩
  rcases h.2 with hn | ⟨g, cap, cur, rfl, hb, hg, rest⟩
  · exact .inl hn
  · exact .inr ⟨g, cap, cur, rfl, hb, (hm.block g (Array.getElem?_eq_some_iff.1 hg).1 (fun hx => hr g hx rfl)).trans hg, rest⟩
theorem own_slice {W : World} {base : Nat} {e : TypeId} {size : Nat} {v : Value} {n : Nat} {xs : List Value} (h : W.ownsRow base e size v n xs) : ∃ ao n' cap, v = .slice ao n' cap := by
  rcases h.2 with ⟨hv, _⟩ | ⟨g, cap, cur, hv, _⟩
  · exact ⟨_, _, _, hv⟩
  · exact ⟨_, _, _, hv⟩

theorem Tryz.info9 : (Tryz.prog.info? 9).map (fun i => (i.zero, i.size, i.bytes)) = some (some (.string ⟨#[]⟩), 1, 16) := by kernel_rfl

/-- Texts as cells. -/
def strs (l : List ByteArray) : List Value := l.map Value.string
/-- A slice of new memory that holds these texts. -/
def NewStrs (l : List ByteArray) (w : World) (e : Ending) (w' : World) : Prop := ∃ v, e = .returned v ∧ w'.ownsRow w.heap.size 9 1 v l.length (strs l) ∧ Below w.heap.size w w'

end Go.Proofs.YtkdjjlfpaciohaaGreatDoor
namespace Go.Proofs.YtkdjjlfpaciohaaGreatDoor
open Go.RowKit

/-- These texts lie behind A. -/
def TxIn (w : World) (A : Option Addr) (xs : List ByteArray) : Prop := ∀ i (h : i < xs.length), ∃ g, A = some ⟨g, 0, none⟩ ∧ g < w.heap.size ∧ w.cell? ⟨g, i, none⟩ = some (.string xs[i])
theorem TxIn.below {w w' : World} {A : Option Addr} {xs : List ByteArray} (h : TxIn w A xs) (hb : Below w.heap.size w w') : TxIn w' A xs := fun i hi => by
  obtain ⟨g, e, hl, hc⟩ := h i hi
  exact ⟨g, e, Nat.lt_of_lt_of_le hl hb.size, (hb.cell (p := ⟨g, i, none⟩) hl).trans hc⟩
theorem TxIn.nil (w : World) (A : Option Addr) : TxIn w A [] := fun i h => absurd h (by simp)
theorem TxIn.of_own {w : World} {base : Nat} {v : Value} {xs : List ByteArray} (h : w.ownsRow base 9 1 v xs.length (strs xs)) : ∃ A c, v = .slice A xs.length c ∧ TxIn w A xs ∧ xs.length ≤ c := by
  rcases h.2 with ⟨hv, hn⟩ | ⟨g, cap, cur, hv, hb, hg, hc, _⟩
  · refine ⟨none, 0, by rw [hv, hn], fun i hi => absurd hi (by omega), by omega⟩
  · refine ⟨_, cap, hv, fun i hi => ?_, hc⟩
    subst hv
    have h1 := h.cellAt i (by omega)
    refine ⟨g, rfl, (Array.getElem?_eq_some_iff.1 hg).1, h1.trans ?_⟩
    simp [strs, hi]

end Go.Proofs.YtkdjjlfpaciohaaGreatDoor
