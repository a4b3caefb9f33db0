/-
  What Write of package webm answers. Condition: the size is a number from 1 to 8, or the number has no room.
-/
import Derived.Test.YtcjcbbahhphcdaaDoorUc
import Derived.Test.YtcjcbbahhphcdaaDoorMk5
import Derived.Test.YtcjcbbahhphcdaaDoorMv
import Derived.BigQuiet
namespace Go.Proofs.YtcjcbbahhphcdaaDoor
open Go.RowKit

/-- The cells of k bytes of which the first i are laid. -/
def Filled (f : Nat → UInt8) (k i : Nat) (C : Array Value) : Prop := ∀ j, j < k → C[j]? = some (.int .u8 ((if j < i then (f j).toNat else 0 : Nat) : Int))
theorem Filled.made (f : Nat → UInt8) (k : Nat) : Filled f k 0 (madeCells #[.int .u8 0] k) := fun j h => by
  rw [if_neg (by omega)]
  simp [madeCells, h, Nat.mod_one]
theorem Filled.lt {f : Nat → UInt8} {k i j : Nat} {C : Array Value} (h : Filled f k i C) (hj : j < k) : j < C.size := (Array.getElem?_eq_some_iff.1 (h j hj)).1
theorem Filled.succ {f : Nat → UInt8} {k i : Nat} {C : Array Value} (h : Filled f k i C) (_hi : i < k) {x : Int} (hx : x = ((f i).toNat : Int)) : Filled f k (i + 1) (C.setIfInBounds i (.int .u8 x)) := fun j hj => by
  have hlt := h.lt hj
  by_cases e : i = j
  · subst e
    rw [Array.getElem?_setIfInBounds_self_of_lt hlt, if_pos (by omega), hx]
  · rw [Array.getElem?_setIfInBounds_ne e, h j hj]
    by_cases h1 : j < i
    · rw [if_pos h1, if_pos (by omega)]
    · rw [if_neg h1, if_neg (by omega)]
theorem wriS_list (n k : Nat) : (wriS n k).data.toList = (List.range k).map (digK n k) := by
  show ((List.range k).map (digK n k)).toArray.toList = _
  rw [List.toList_toArray]
theorem Filled.back {n k : Nat} {C : Array Value} (h : Filled (digK n k) k k C) {W : World} {b : Nat} (hg : ∀ j, W.cell? ⟨b, j, none⟩ = C[j]?) (cap : Nat) :
    (convert 40 9 (.slice (some ⟨b, 0, none⟩) k cap)).run Tryd.prog W = .ok (.string (wriS n k)) W := by
  have hl : (wriS n k).data.toList.length = k := by rw [wriS_list]; simp
  have := run_convert_bytes_back (P := Tryd.prog) W 40 9 5 ⟨b, 0, none⟩ cap (wriS n k).data.toList Tryd.underlying40 Tryd.underlying5 Tryd.underlying9 (fun j hj => by
    have hj' : j < k := by omega
    have e : (⟨b, 0, none⟩ : Addr).add j = ⟨b, j, none⟩ := by cases j <;> simp [Addr.add]
    rw [e, hg, h j hj', if_pos hj']
    congr 3
    simp [wriS_list])
  rw [hl] at this
  simpa using this

set_option maxHeartbeats 1000000 in
theorem write_yes (n k : Nat) (w : World) (h0 : 0 < k) (h9 : k < 9) (hn : n < 2 ^ (7 * k)) :
    Calls Tryd.prog 17 #[.int .u64 (n : Int), .int .i64 (k : Int)] w fun e w' => e = .returned (.tuple #[.string (wriS (n + 2 ^ (7 * k)) k), .bool true]) ∧ Below w.heap.size w w' := by
  have HSB := Lib.hid (fun W => sizeBit_any k W h0 h9)
  have HON := Lib.hid (bits_on (n := n) h9 hn)
  have hp := pow_k h9
  have hmk := make_bytes k (by omega)
  obtain ⟨N, hN⟩ : ∃ N, N = n + 2 ^ (7 * k) := ⟨_, rfl⟩
  rw [← hN] at HON ⊢
  have hNlt : N < 144115188075855872 := by omega
  clear hN
  generalize 2 ^ (7 * k) = p at *
  have hge : n < p := hn
  have hor := HON.out
  go_enter Tryd.func17, Tryd.ntmps17
  go_wp2_with (go_at_call 22; (with_reducible refine (HSB.out _).mono ?_); rintro e w1 ⟨rfl, rfl⟩)
  clear hmk hor HSB HON hp hn hge
  go_loopw [7, 28] (fun _ i wr => ∃ (j : Nat) (C : Array Value), j ≤ k ∧ i = .int .i64 j ∧ Filled (digK N k) k j C ∧ Blk wr w.heap.size 5 C ∧ Below w.heap.size w wr) (fun _ i _ => k - (intOf i).toNat)
  case atStart => exact ⟨0, _, Nat.zero_le _, rfl, Filled.made _ _, Blk.new _ _ _, (Below.refl _ _).alloc (Nat.le_refl _) _⟩
  case round =>
    obtain ⟨j, C, hj, rfl, hF, hB, hW⟩ := hrel
    have HF := Lib.hid hF
    have HB := Lib.hid hB
    have HW := Lib.hid hW
    clear hF hB hW
    by_cases hlt : j < k
    · obtain ⟨d, hd⟩ : ∃ d : Nat, d = k - 1 - j := ⟨_, rfl⟩
      have hd1 : (k : Int) - 1 - j = d := by omega
      have hd7 : d ≤ 7 := by omega
      have HD := Lib.hid (show ((digK N k j).toNat : Int) = ((N / 256 ^ d % 256 : Nat) : Int) from by rw [digK_nat, hd])
      clear hd
      have c0 : wr.cell? ⟨w.heap.size, j, none⟩ = some (.int .u8 0) := by rw [HB.out.cell, HF.out j hlt, if_neg (by omega)]; rfl
      have z0 : wr.frozen? ⟨w.heap.size, j, none⟩ = false := HB.out.frozen j
      go_wp2
      go_roundw
      case rel => exact ⟨j + 1, _, by omega, by go_num, HF.out.succ hlt (by rw [HD.out, show (256 : Nat) = 2 ^ 8 from rfl, ← Nat.pow_mul]; simp), HB.out.set_ j _, HW.out.setCell (Nat.le_refl _) _⟩
      case measure => simp [intOf]; omega
    · obtain rfl : j = k := by omega
      have hback := HF.out.back HB.out.cell j
      go_wp2
      exact bodyPost_ret (v := .tuple #[.string (wriS N j), .bool true]) (by simp [results, Tryd.results17, go_sem]) rfl ⟨rfl, HW.out⟩

set_option maxHeartbeats 1000000 in
theorem write_no (n : Nat) (z : Int) (w : World) (h : fitB n z.toNat = false) :
    Calls Tryd.prog 17 #[.int .u64 (n : Int), .int .i64 z] w fun e w' => e = .returned (.tuple #[.string ⟨#[]⟩, .bool false]) ∧ w = w' := by
  by_cases h1 : z < 1
  · go_enter Tryd.func17, Tryd.ntmps17
    go_wp2
    exact bodyPost_ret (v := .tuple #[.string ⟨#[]⟩, .bool false]) (by simp [results, Tryd.results17, go_sem]) rfl ⟨rfl, rfl⟩
  · by_cases h8 : 8 < z
    · go_enter Tryd.func17, Tryd.ntmps17
      go_wp2
      exact bodyPost_ret (v := .tuple #[.string ⟨#[]⟩, .bool false]) (by simp [results, Tryd.results17, go_sem]) rfl ⟨rfl, rfl⟩
    · obtain ⟨k, rfl⟩ : ∃ k : Nat, z = k := ⟨z.toNat, by omega⟩
      have HSB := Lib.hid (fun W => sizeBit_any k W (by omega) (by omega))
      have hn : 2 ^ (7 * k) ≤ n := by
        rw [Int.toNat_natCast] at h
        rcases Nat.lt_or_ge n (2 ^ (7 * k)) with g | g
        · have : fitB n k = true := by
            unfold fitB
            rw [decide_eq_true (by omega : 0 < k), decide_eq_true (by omega : k < 9), decide_eq_true g]
            rfl
          rw [h] at this
          cases this
        · exact g
      clear h
      generalize 2 ^ (7 * k) = p at *
      go_enter Tryd.func17, Tryd.ntmps17
      go_wp2_with (go_at_call 22; (with_reducible refine (HSB.out _).mono ?_); rintro e w1 ⟨rfl, rfl⟩)
      exact bodyPost_ret (v := .tuple #[.string ⟨#[]⟩, .bool false]) (by simp [results, Tryd.results17, go_sem]) rfl ⟨rfl, rfl⟩

end Go.Proofs.YtcjcbbahhphcdaaDoor
