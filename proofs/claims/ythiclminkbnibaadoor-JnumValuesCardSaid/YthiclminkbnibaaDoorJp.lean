/-
  What package jnum's Scan and State answer: loops over places, which hands on the places of a text one behind the other. Condition: the text is as long as a length can be.
-/
import Derived.Test.YthiclminkbnibaaDoorJn
import Derived.Test.YthiclminkbnibaaDoorMv
import Derived.RangeFuncNested
import Derived.RangeFuncBound
import Derived.RangeFuncCalls
import Derived.RangeFuncLeaves
import Derived.Shelf.Abstract
import Derived.Shelf.RegionOpen
import Derived.WalkKit
import Derived.OwnWalkIn
import Derived.TacticsInMore
import Derived.LoopNIn
import Derived.LoopIn
namespace Go.Proofs.YthiclminkbnibaaDoor
open Go.RowKit Go.Shelf
attribute [local go_sem] Oper.semAt_some

/-- What a round keeps: the block in which the text lies. -/
def KeepsB (b : Nat) (A B : World) : Prop := B.heap[b]? = A.heap[b]?

abbrev encP (x : Nat × Nat) : Array Value := #[.int .i64 (x.1 : Int), .int .i64 (x.2 : Int)]

set_option maxHeartbeats 2000000 in
/-- The iterator, for every loop body that keeps the text's block. -/
theorem places1_in (n : Nat) (hn : 1 ≤ n) (l Bn : Nat) (s : ByteArray) (hs : s.size ≤ 9223372036854775807) (J Jx : List (Nat × Nat) → World → Prop)
    (hY : ∀ pre x W, J pre W → pre.length < s.size + 1 → YieldAt Fence.wide (n - 1) Tryd.prog l (encP x) W fun e W' =>
      (e = .returned (.bool true) ∧ J (pre ++ [x]) W' ∧ KeepsB Bn W W') ∨ (e = .returned (.bool false) ∧ Jx (pre ++ [x]) W'))
    (W : World) (hB : W.heap[Bn]? = some (.cells #[.string s] 9 (0, 0))) (h0 : J [] W) :
    CallsIn Fence.wide n Tryd.prog 37 #[.func (.yield l) #[] #[], .pointer (some ⟨Bn, 0, none⟩)] W fun e W' => (∃ v, e = .returned v) ∧
      ((∃ xs, AllCome s xs ∧ J xs W') ∨ (∃ pre, True ∧ Jx pre W')) := by
  have HY := Lib.hid hY
  clear hY
  refine callsIn_of_wp Tryd.func37 rfl trivial ?_ rfl
  simp only [Tryd.ntmps37, List.size_toArray, List.length_cons, List.length_nil, Nat.reduceAdd, Nat.reduceSub, Array.replicate_succ, Array.replicate_zero, List.push_toArray, List.append_toArray, List.nil_append, List.cons_append]
  obtain ⟨f1, t1, a1, b1, hy1, hR1⟩ := HY.out [] (0, 1) W h0 (by simp)
  dsimp only [encP] at hy1
  rw [show ((0 : Nat) : Int) = 0 from rfl, show ((1 : Nat) : Int) = 1 from rfl] at hy1
  gi_wp2
  refine hR1.mono ?_
  rintro e W1 (⟨rfl, hJ1, hk1⟩ | ⟨rfl, hx1⟩)
  · have hB1 : W1.heap[Bn]? = some (.cells #[.string s] 9 (0, 0)) := Eq.trans hk1 hB
    have hc1 : W1.cell? ⟨Bn, 0, none⟩ = some (.string s) := by simp [World.cell?, hB1]
    clear hk1 h0 hB hR1 hy1
    have HB1 := Lib.hid hB1
    clear hB1
    gi_wp2
    clear hc1
    gi_loopw [3, 11] (fun p i wr => ∃ k : Nat, k ≤ s.size ∧ p = .int .i64 (plc s k : Nat) ∧ i = .int .i64 (k : Nat) ∧ J (stp s (k + 1)) wr ∧ Hid (wr.heap[Bn]? = some (.cells #[.string s] 9 (0, 0)))) (fun _ i _ => s.size - (intOf i).toNat)
    case atStart => exact ⟨0, by omega, rfl, rfl, hJ1, HB1⟩
    case round =>
      obtain ⟨k, hk, rfl, rfl, hJk, HBk⟩ := hrel
      clear hJ1 HB1
      have hck : wr.cell? ⟨Bn, 0, none⟩ = some (.string s) := by simp [World.cell?, HBk.out]
      by_cases hlt : k < s.size
      · have hp := plc_le s k
        have HN := Lib.hid fun W => callsIn_wide (n := n - 1).2 (next_any (plc s k) s[k] W hp)
        rw [← plc_succ hlt] at HN
        obtain ⟨f2, t2, a2, b2, hy2, hR2⟩ := HY.out (stp s (k + 1)) (k + 1, plc s (k + 1)) wr hJk (by rw [stp_len]; omega)
        rw [← stp_succ] at hR2
        dsimp only [encP] at hy2
        rw [show ((k + 1 : Nat) : Int) = (k : Int) + 1 from rfl] at hy2
        have HJ := Lib.hid hJk
        clear hJk hp
        by_cases hz : plc s (k + 1) = 0
        · have hz1 : (((plc s (k + 1) : Nat) : Int) == 0) = true := by rw [hz]; rfl
          have HA : Hid (AllCome s (stp s (k + 1 + 1))) := ⟨k + 1, hlt, rfl, .inr hz⟩
          clear hz
          generalize plc s (k + 1) = q at *
          generalize plc s k = p at *
          gi_wp2_with (refine ⟨trivial, ?_⟩; gi_at_call 38; refine (HN.out _).mono ?_; rintro e w' ⟨rfl, rfl⟩)
          refine hR2.mono ?_
          rintro e W3 (⟨rfl, hJ3, hk3⟩ | ⟨rfl, hx3⟩)
          · gi_wp2
            refine bodyPost_ret (results_none rfl _ _ _) rfl ?_
            exact ⟨⟨_, rfl⟩, .inl ⟨_, HA.out, hJ3⟩⟩
          · gi_wp2
            refine bodyPost_ret (results_none rfl _ _ _) rfl ?_
            exact ⟨⟨_, rfl⟩, .inr ⟨_, trivial, hx3⟩⟩
        · have hz1 : (((plc s (k + 1) : Nat) : Int) == 0) = false := by simp; omega
          clear hz
          obtain ⟨q, hq⟩ : ∃ q, q = plc s (k + 1) := ⟨_, rfl⟩
          rw [← hq] at HN hy2 hz1
          have HQ := Lib.hid hq
          clear hq
          generalize plc s k = p at *
          gi_wp2_with (refine ⟨trivial, ?_⟩; gi_at_call 38; refine (HN.out _).mono ?_; rintro e w' ⟨rfl, rfl⟩)
          refine hR2.mono ?_
          rintro e W3 (⟨rfl, hJ3, hk3⟩ | ⟨rfl, hx3⟩)
          · have HB3 : Hid (W3.heap[Bn]? = some (.cells #[.string s] 9 (0, 0))) := Eq.trans hk3 HBk.out
            clear hk3
            gi_wp2
            go_roundw
            case rel => exact ⟨k + 1, by omega, by rw [HQ.out], by go_num, hJ3, HB3⟩
            case measure => simp [intOf]; omega
          · gi_wp2
            refine bodyPost_ret (results_none rfl _ _ _) rfl ?_
            exact ⟨⟨_, rfl⟩, .inr ⟨_, trivial, hx3⟩⟩
      · obtain rfl : k = s.size := by omega
        gi_wp2
        go_end0
        exact ⟨⟨_, rfl⟩, .inl ⟨_, ⟨_, Nat.le_refl _, rfl, .inl rfl⟩, hJk⟩⟩
  · gi_wp2
    refine bodyPost_ret (results_none rfl _ _ _) rfl ?_
    exact ⟨⟨_, rfl⟩, .inr ⟨_, trivial, hx1⟩⟩

end Go.Proofs.YthiclminkbnibaaDoor
