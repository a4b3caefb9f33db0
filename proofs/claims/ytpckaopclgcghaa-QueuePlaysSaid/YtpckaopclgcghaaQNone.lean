/-
  The document's Many, what layer 7's lives answers, and that the law on no queue returns true. Condition: none.
-/
import Derived.Test.YtpckaopclgcghaaQue2
namespace Go.Proofs.Ytpckaopclgcghaa
open Go.RowKit

set_option maxHeartbeats 400000 in
theorem many_any (n : Int) (k : Nat) (w : World) :
    Calls Try.prog 8 #[.int .i64 n, .int .i64 k] w fun e w' => e = .returned (.int .i64 (many n k)) ∧ w = w' := by
  by_cases hn : n < 0
  · have hm : many n k = 0 := by unfold many; omega
    rw [hm]
    clear hm
    go_enter Try.func8, Try.ntmps8
    go_wp2
    go_ret
    exact ⟨rfl, rfl⟩
  · by_cases hk : (k : Int) < n
    · have hm : many n k = k := by unfold many; omega
      rw [hm]
      clear hm
      go_enter Try.func8, Try.ntmps8
      go_wp2
      go_ret
      exact ⟨rfl, rfl⟩
    · obtain ⟨m, rfl⟩ : ∃ m : Nat, n = m := ⟨n.toNat, by omega⟩
      have hm : many (m : Int) k = m := by unfold many; omega
      rw [hm]
      have hk2 : ¬ k < m := by omega
      clear hm hn
      go_enter Try.func8, Try.ntmps8
      go_wp2
      go_ret
      exact ⟨rfl, rfl⟩

def sABC : ByteArray := ⟨#[97, 98, 99]⟩
set_option maxHeartbeats 1000000 in
theorem lives7_any (w : World) :
    Calls Try.prog 6 #[] w fun e w' => e = .returned (.bool true) ∧ Below w.heap.size w w' := by
  have HN := Lib.hid (fun W => qnew_ok 3 W (by omega))
  have HF : Hid (∀ W, Que W w.heap.size w.heap.size 3 0 ⟨#[]⟩ → Calls Try.prog 9 #[qptr w.heap.size, .string ⟨#[97, 98, 99, 100]⟩] W fun e w' => e = .returned (.string ⟨#[100]⟩) ∧ Que w' w.heap.size w.heap.size 3 0 sABC ∧ Below w.heap.size W w') :=
    Lib.hid fun W hW => qfill_any ⟨#[97, 98, 99, 100]⟩ W hW (by decide) (by decide) (by decide) 3 (.inr (by decide))
  have HL : Hid (∀ W, Que W w.heap.size w.heap.size 3 0 sABC → Calls Try.prog 15 #[qptr w.heap.size] W fun e w' => e = .returned (.int .i64 3) ∧ W = w') :=
    Lib.hid fun W hW => qlen_any W hW
  have HU : Hid (∀ W, Que W w.heap.size w.heap.size 3 0 sABC → Calls Try.prog 17 #[qptr w.heap.size] W fun e w' => e = .returned (.bool true) ∧ ∃ n, w' = W.drewN n) :=
    Lib.hid fun W hW => qfull_any W hW (by decide) (by decide)
  have HT : Hid (∀ W, Que W w.heap.size w.heap.size 3 0 sABC → Calls Try.prog 10 #[qptr w.heap.size, .int .i64 2] W fun e w' => e = .returned (.string ⟨#[97, 98]⟩) ∧ Below w.heap.size W w') :=
    Lib.hid fun W hW => (qtake_any 2 W hW (by decide)).mono fun e w' h => ⟨h.1, h.2.2⟩
  go_enter Try.func6, Try.ntmps6
  go_wp2_with (first
    | (go_at_call 5; refine (HN.out _).mono ?_; rintro e w1 ⟨rfl, hQ1, hB1⟩; have HQ1 := Lib.hid hQ1; have HB1 := Lib.hid hB1; clear hQ1 hB1)
    | (go_at_call 9; refine (HF.out _ HQ1.out).mono ?_; rintro e w2 ⟨rfl, hQ2, hB2⟩; have HQ2 := Lib.hid hQ2; have HB2 := Lib.hid (HB1.out.trans hB2); clear hQ2 hB2)
    | (go_at_call 15; refine (HL.out _ HQ2.out).mono ?_; rintro e w3 ⟨rfl, rfl⟩)
    | (go_at_call 17; refine (HU.out _ HQ2.out).mono ?_; rintro e w3 ⟨rfl, n, rfl⟩)
    | (go_at_call 10; refine (HT.out _ (HQ2.out.drewN n)).mono ?_; rintro e w4 ⟨rfl, hB4⟩; have HB4 := Lib.hid ((Below.drewN' HB2.out n).trans hB4); clear hB4))
  go_ret
  exact ⟨rfl, HB4.out⟩

set_option maxHeartbeats 1000000 in
theorem queueNone_any (s : ByteArray) (n : Int) (w : World) :
    Calls Try.prog 4 #[.string s, .int .i64 n] w fun e w' => e = .returned (.bool true) ∧ Below w.heap.size w w' := by
  have HL := Lib.hid (lives7_any w)
  go_enter Try.func4, Try.ntmps4
  go_wp2_with (first
    | (go_at_call 14; refine (qpassed_nil _).mono ?_; rintro e w1 ⟨rfl, rfl⟩)
    | (go_at_call 13; refine (qpush_nil s _).mono ?_; rintro e w1 ⟨rfl, rfl⟩)
    | (go_at_call 9; refine (qfill_nil s _).mono ?_; rintro e w1 ⟨rfl, rfl⟩)
    | (go_at_call 10; refine (qtake_nil n _).mono ?_; rintro e w1 ⟨rfl, rfl⟩)
    | (go_at_call 11; refine (qpeek_nil n _).mono ?_; rintro e w1 ⟨rfl, rfl⟩)
    | (go_at_call 12; refine (qdrain_nil _).mono ?_; rintro e w1 ⟨rfl, rfl⟩)
    | (go_at_call 15; refine (qlen_nil _).mono ?_; rintro e w1 ⟨rfl, rfl⟩)
    | (go_at_call 16; refine (qroom_nil _).mono ?_; rintro e w1 ⟨rfl, rfl⟩)
    | (go_at_call 17; refine (qfull_nil _).mono ?_; rintro e w1 ⟨rfl, rfl⟩)
    | (go_at_call 6; refine HL.out.mono ?_; rintro e w1 ⟨rfl, hB⟩; have HB := Lib.hid hB; clear hB))
  go_ret
  exact ⟨rfl, HB.out⟩

end Go.Proofs.Ytpckaopclgcghaa
