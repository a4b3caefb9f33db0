/-
  What package queue's functions do, over a queue of its own block and row, and over none. Conditions: a queue holds no more than its most, and its counts are no greater than a number can be.
-/
import Derived.Test.YtpckaopclgcghaaRow
import Derived.Test.YtpckaopclgcghaaRows
import Derived.WalkKit
import Derived.WalkSpells
import Derived.WalkLawsBesides
import Derived.RegionTactic
import Derived.BigRegion
import Derived.Deep.QuietTactic
import Derived.BigQuiet
import Derived.Outline
import Derived.Deep.RegionWith
import Derived.Lib.Hide
import Derived.IntWalk
namespace Go.Proofs.Ytpckaopclgcghaa
open Go.RowKit

/-- A queue: in block qb; it holds s, and at most `most`; gone are `gone`. It, and its row, lie from B on. -/
def Que (w : World) (B qb most gone : Nat) (s : ByteArray) : Prop :=
  ∃ ao cap, Blk w qb 43 #[.slice ao s.size cap, .int .i64 most, .int .i64 gone] ∧ Row w B 5 ao cap s ∧ B ≤ qb
abbrev qptr (qb : Nat) : Value := .pointer (some ⟨qb, 0, none⟩)

theorem Que.lt {w : World} {B qb most gone : Nat} {s : ByteArray} (h : Que w B qb most gone s) : qb < w.heap.size := by
  obtain ⟨_, _, h, _⟩ := h
  exact h.lt
theorem Que.base {w : World} {B qb most gone : Nat} {s : ByteArray} (h : Que w B qb most gone s) : B ≤ qb := by
  obtain ⟨_, _, _, _, h⟩ := h
  exact h
theorem Row.ne {w : World} {B qb : Nat} {ao : Option Addr} {cap : Nat} {s : ByteArray} {cs : Array Value} (h : Row w B 5 ao cap s) (hb : Blk w qb 43 cs) : ao.map Addr.block ≠ some qb := by
  rcases h with ⟨rfl, _⟩ | ⟨g, o, cur, rfl, _, hg, _⟩
  · simp
  · intro he
    simp at he
    subst he
    rw [hb] at hg
    simp at hg
/-- A queue stays where no older block turns. -/
theorem Que.mv {w w' : World} {B qb most gone : Nat} {s : ByteArray} (h : Que w B qb most gone s) (hb : Below w.heap.size w w') : Que w' B qb most gone s := by
  obtain ⟨ao, cap, h1, h2, h3⟩ := h
  exact ⟨ao, cap, h1.below hb h1.lt, h2.of_blocks fun k hk => hb.block k (h2.lt k hk).2, h3⟩
theorem Que.drew {w : World} {B qb most gone : Nat} {s : ByteArray} (h : Que w B qb most gone s) : Que w.drew B qb most gone s := h
theorem Que.drewN {w : World} {B qb most gone : Nat} {s : ByteArray} (h : Que w B qb most gone s) (n : Nat) : Que (w.drewN n) B qb most gone s := h
theorem Que.alloc {w : World} {B qb most gone : Nat} {s : ByteArray} (h : Que w B qb most gone s) (o : Obj) : Que (w.alloc o) B qb most gone s := h.mv ((Below.refl _ _).alloc (Nat.le_refl _) _)

/-- How many of n bytes are meant by a number. -/
def many (n : Int) (k : Nat) : Nat := min n.toNat k
theorem many_le (n : Int) (k : Nat) : many n k ≤ k := Nat.min_le_right _ _

theorem q_eq_nil (p : Addr) (w : World) : (binOp .eql 23 (.pointer (some p)) (.pointer none)).run Try.prog w = .ok (.bool false) w := by kernel_rfl
theorem q_nil_nil (w : World) : (binOp .eql 23 (.pointer none) (.pointer none)).run Try.prog w = .ok (.bool true) w := by kernel_rfl

set_option maxHeartbeats 400000 in
theorem qnew_ok (most : Nat) (w : World) (hm : most ≤ 1048576) :
    Calls Try.prog 5 #[.int .i64 most] w fun e w' => e = .returned (.tuple #[qptr w.heap.size, .int .i64 0]) ∧ Que w' w.heap.size w.heap.size most 0 ⟨#[]⟩ ∧ Below w.heap.size w w' := by
  have h1 : decide ((most : Int) < 0) = false := by simp
  have h2 : decide ((1048576 : Int) < most) = false := by simp; omega
  have h3 : decide (1048576 < most) = false := by simp; omega
  go_enter Try.func5, Try.ntmps5
  go_wp2
  go_ret2
  exact ⟨rfl, ⟨none, 0, Blk.new _ _ _, Row.nil _ _ _, Nat.le_refl _⟩, (Below.refl _ _).alloc (Nat.le_refl _) _⟩

set_option maxHeartbeats 400000 in
theorem qnew_neg (most : Int) (w : World) (hm : most < 0) :
    Calls Try.prog 5 #[.int .i64 most] w fun e w' => e = .returned (.tuple #[.pointer none, .int .i64 1]) ∧ w = w' := by
  have h1 : decide (most < 0) = true := by simpa using hm
  go_enter Try.func5, Try.ntmps5
  go_wp2
  go_ret2
  exact ⟨rfl, rfl⟩
set_option maxHeartbeats 400000 in
theorem qnew_far (most : Int) (w : World) (hm : 1048576 < most) :
    Calls Try.prog 5 #[.int .i64 most] w fun e w' => e = .returned (.tuple #[.pointer none, .int .i64 1]) ∧ w = w' := by
  have h1 : decide (most < 0) = false := by simp; omega
  have h2 : decide (1048576 < most) = true := by simpa using hm
  go_enter Try.func5, Try.ntmps5
  go_wp2
  go_ret2
  exact ⟨rfl, rfl⟩

section
variable {B qb most gone : Nat} {s : ByteArray}

set_option maxHeartbeats 400000 in
theorem qlen_any (w : World) (h : Que w B qb most gone s) :
    Calls Try.prog 15 #[qptr qb] w fun e w' => e = .returned (.int .i64 s.size) ∧ w = w' := by
  obtain ⟨ao, cap, h1, h2, h3⟩ := h
  have hc := h2.cap_le
  have c0 := h1.cell 0
  simp at c0
  have hq := q_eq_nil ⟨qb, 0, none⟩
  clear h1 h2
  go_enter Try.func15, Try.ntmps15
  go_wp2
  go_ret
  exact ⟨rfl, rfl⟩
set_option maxHeartbeats 400000 in
theorem qlen_nil (w : World) :
    Calls Try.prog 15 #[.pointer none] w fun e w' => e = .returned (.int .i64 0) ∧ w = w' := by
  have hq := q_nil_nil
  go_enter Try.func15, Try.ntmps15
  go_wp2
  go_ret
  exact ⟨rfl, rfl⟩

set_option maxHeartbeats 400000 in
theorem qroom_any (w : World) (h : Que w B qb most gone s) (hs : s.size ≤ most) (hm : most ≤ 1048576) :
    Calls Try.prog 16 #[qptr qb] w fun e w' => e = .returned (.int .i64 ((most - s.size : Nat) : Int)) ∧ ∃ n, w' = w.drewN n := by
  obtain ⟨ao, cap, h1, h2, h3⟩ := h
  have hc := h2.cap_le
  have c0 := h1.cell 0
  have c1 := h1.cell 1
  simp at c0 c1
  have hq := q_eq_nil ⟨qb, 0, none⟩
  have e1 : (most : Int) - (s.size : Int) = ((most - s.size : Nat) : Int) := by omega
  have g1 : IntKind.i64.wrap ((most - s.size : Nat) : Int) = ((most - s.size : Nat) : Int) := IntWalk.i64_in _ (by omega)
  clear h1 h2
  go_enter Try.func16, Try.ntmps16
  go_wp2
  go_quiet (fail)
  go_wp2
  go_ret
  exact ⟨rfl, _, rfl⟩
set_option maxHeartbeats 400000 in
theorem qroom_nil (w : World) :
    Calls Try.prog 16 #[.pointer none] w fun e w' => e = .returned (.int .i64 0) ∧ w = w' := by
  have hq := q_nil_nil
  go_enter Try.func16, Try.ntmps16
  go_wp2
  go_ret
  exact ⟨rfl, rfl⟩

set_option maxHeartbeats 400000 in
theorem qfull_any (w : World) (h : Que w B qb most gone s) (hs : s.size ≤ most) (hm : most ≤ 1048576) :
    Calls Try.prog 17 #[qptr qb] w fun e w' => e = .returned (.bool (decide (most = s.size))) ∧ ∃ n, w' = w.drewN n := by
  obtain ⟨d, hd⟩ : ∃ d, d = most - s.size := ⟨_, rfl⟩
  have HQ := Lib.hid (fun (W : World) (hW : Que W B qb most gone s) => qroom_any W hW hs hm)
  have he : decide (most = s.size) = decide (d = 0) := by rw [hd]; congr 1; apply propext; omega
  rw [he]
  rw [← hd] at HQ
  clear he hs hm hd
  have e2 : ((d : Int) == 0) = decide (d = 0) := by
    rw [Bool.eq_iff_iff]; simp
  go_enter Try.func17, Try.ntmps17
  go_wp2_with (go_at_call 16; refine (HQ.out _ h).mono ?_; rintro e w1 ⟨rfl, n, rfl⟩)
  go_ret
  exact ⟨by first | rfl | simp [e2] | simp, _, rfl⟩
set_option maxHeartbeats 400000 in
theorem qfull_nil (w : World) :
    Calls Try.prog 17 #[.pointer none] w fun e w' => e = .returned (.bool true) ∧ w = w' := by
  go_enter Try.func17, Try.ntmps17
  go_wp2_with (go_at_call 16; refine (qroom_nil _).mono ?_; rintro e w1 ⟨rfl, rfl⟩)
  go_ret
  exact ⟨rfl, rfl⟩

set_option maxHeartbeats 400000 in
theorem qpassed_any (w : World) (h : Que w B qb most gone s) (hs : gone + s.size ≤ 9223372036854775807) :
    Calls Try.prog 14 #[qptr qb] w fun e w' => e = .returned (.tuple #[.int .i64 (gone + s.size : Nat), .int .i64 gone]) ∧ ∃ n, w' = w.drewN n := by
  obtain ⟨ao, cap, h1, h2, h3⟩ := h
  have hc := h2.cap_le
  have c0 := h1.cell 0
  have c2 := h1.cell 2
  simp at c0 c2
  have hq := q_eq_nil ⟨qb, 0, none⟩
  have g1 : IntKind.i64.wrap ((gone : Int) + (s.size : Int)) = (gone : Int) + (s.size : Int) := IntWalk.i64_in _ (by omega)
  clear h1 h2
  go_enter Try.func14, Try.ntmps14
  go_wp2
  go_quiet (fail)
  go_wp2
  go_ret2
  exact ⟨by simp, _, rfl⟩
set_option maxHeartbeats 400000 in
theorem qpassed_nil (w : World) :
    Calls Try.prog 14 #[.pointer none] w fun e w' => e = .returned (.tuple #[.int .i64 0, .int .i64 0]) ∧ w = w' := by
  have hq := q_nil_nil
  go_enter Try.func14, Try.ntmps14
  go_wp2
  go_ret2
  exact ⟨rfl, rfl⟩

set_option maxHeartbeats 400000 in
theorem qpeek_neg (n : Int) (w : World) (h : Que w B qb most gone s) (hn : n < 0) :
    Calls Try.prog 11 #[qptr qb, .int .i64 n] w fun e w' => e = .returned (.string ⟨#[]⟩) ∧ w = w' := by
  have HQ := Lib.hid h
  have hd : ¬ (s.size : Int) < 0 := by omega
  clear h
  go_enter Try.func11, Try.ntmps11
  go_wp2_with (go_at_call 15; refine (qlen_any _ HQ.out).mono ?_; rintro e w1 ⟨rfl, rfl⟩)
  go_ret
  exact ⟨rfl, rfl⟩
set_option maxHeartbeats 400000 in
theorem qpeek_none (w : World) (h : Que w B qb most gone s) (m : Nat) (hs : s.size = 0) :
    Calls Try.prog 11 #[qptr qb, .int .i64 m] w fun e w' => e = .returned (.string ⟨#[]⟩) ∧ w = w' := by
  have HQ : Hid (∀ W, Que W B qb most gone s → Calls Try.prog 15 #[qptr qb] W fun e w' => e = .returned (.int .i64 0) ∧ W = w') := Lib.hid fun W hW => (qlen_any W hW).mono fun e w' h => ⟨by rw [h.1, hs]; rfl, h.2⟩
  have hd : ¬ (m : Int) < 0 := by omega
  by_cases hm : m = 0
  · subst hm
    go_enter Try.func11, Try.ntmps11
    go_wp2_with (go_at_call 15; refine (HQ.out _ h).mono ?_; rintro e w1 ⟨rfl, rfl⟩)
    go_ret
    exact ⟨rfl, rfl⟩
  · have h1 : (0 : Int) < (m : Int) := by omega
    have h2 : 0 < m := by omega
    go_enter Try.func11, Try.ntmps11
    go_wp2_with (go_at_call 15; refine (HQ.out _ h).mono ?_; rintro e w1 ⟨rfl, rfl⟩)
    go_ret
    exact ⟨rfl, rfl⟩
set_option maxHeartbeats 400000 in
theorem qpeek_some (w : World) (h : Que w B qb most gone s) (m k : Nat) (hk : (m ≤ s.size ∧ k = m) ∨ (s.size < m ∧ k = s.size)) :
    Calls Try.prog 11 #[qptr qb, .int .i64 m] w fun e w' => e = .returned (.string (s.extract 0 k)) ∧ w = w' := by
  by_cases h0 : k = 0
  · have hx : s.extract 0 k = ⟨#[]⟩ := by subst h0; apply ByteArray.ext; simp
    rw [hx]
    by_cases hs : s.size = 0
    · exact qpeek_none w h m hs
    · have hm : m = 0 := by omega
      subst hm
      have HQ := Lib.hid h
      have hd : ¬ (s.size : Int) < 0 := by omega
      clear h hk hx h0 hs
      go_enter Try.func11, Try.ntmps11
      go_wp2_with (go_at_call 15; refine (qlen_any _ HQ.out).mono ?_; rintro e w1 ⟨rfl, rfl⟩)
      go_ret
      exact ⟨rfl, rfl⟩
  · have HQ := Lib.hid h
    obtain ⟨ao, cap, h1, h2, h3⟩ := h
    have hc := h2.cap_le
    have c0 := h1.cell 0
    simp at c0
    have hd : ¬ (m : Int) < 0 := by omega
    have hk0 : ((k : Int) == 0) = false := by simp; omega
    have hkc : (k : Int) ≤ (cap : Int) := by omega
    have hkc' : k ≤ cap := by omega
    have hcv := fun c => h2.text (P := Try.prog) 41 9 Try.underlying41 Try.underlying5 Try.underlying9 k c (by omega) (by omega)
    clear h1 h2
    rcases hk with ⟨hk, rfl⟩ | ⟨hk, hks⟩
    · have hd1 : ¬ (s.size : Int) < (k : Int) := by omega
      have hd2 : ¬ s.size < k := by omega
      go_enter Try.func11, Try.ntmps11
      go_wp2_with (go_at_call 15; refine (qlen_any _ HQ.out).mono ?_; rintro e w1 ⟨rfl, rfl⟩)
      go_ret
      exact ⟨rfl, rfl⟩
    · subst hks
      have hd1 : (s.size : Int) < (m : Int) := by omega
      go_enter Try.func11, Try.ntmps11
      go_wp2_with (go_at_call 15; refine (qlen_any _ HQ.out).mono ?_; rintro e w1 ⟨rfl, rfl⟩)
      go_ret
      exact ⟨by simp, rfl⟩

theorem qpeek_any (n : Int) (w : World) (h : Que w B qb most gone s) :
    Calls Try.prog 11 #[qptr qb, .int .i64 n] w fun e w' => e = .returned (.string (s.extract 0 (many n s.size))) ∧ w = w' := by
  by_cases hn : n < 0
  · have hx : s.extract 0 (many n s.size) = ⟨#[]⟩ := by
      have : many n s.size = 0 := by unfold many; omega
      rw [this]; apply ByteArray.ext; simp
    rw [hx]
    exact qpeek_neg n w h hn
  · obtain ⟨m, rfl⟩ : ∃ m : Nat, n = m := ⟨n.toNat, by omega⟩
    exact qpeek_some w h m _ (by unfold many; omega)
end

end Go.Proofs.Ytpckaopclgcghaa
