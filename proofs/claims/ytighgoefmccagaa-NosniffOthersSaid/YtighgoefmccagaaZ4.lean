/-
  Plain facts for function values over captured variables: what is compared with nil, a number in a block of one. No condition.
  What Count and All answer where they are asked of Token, of Digit and of no function. Condition: the text is as long as a length can be.
  What layer 4's Serial and Needs answer, and the document's own Serial. Condition: the text takes at most 2^45 bytes.
-/
import Derived.Test.YtighgoefmccagaaRows
import Derived.Test.YtighgoefmccagaaZ2
import Derived.OneCell
import Derived.WalkKit
import Derived.Test.YtighgoefmccagaaZ3
import Derived.LoopTactic
import Derived.BigQuiet
namespace Go.Proofs.Ytighgoefmccagaa
open Go.RowKit

theorem eq_fn_nil (fn : Fn) (fi ca : Array Value) (w : World) : (binOp .eql 75 (.func fn fi ca) .nilFunc).run Try.prog w = .ok (.bool false) w := by kernel_rfl
/-- The number in a block of one. -/
def cellNat (w : World) (b : Nat) : Nat := match w.cell? ⟨b, 0, none⟩ with
  | some (.int _ n) => n.toNat
  | _ => 0
theorem cellNat_of {w : World} {b n : Nat} {t : TypeId} (h : w.heap[b]? = some (.cells #[.int .i64 n] t (0, 0))) : cellNat w b = n := by
  unfold cellNat
  rw [cell_of_one h]
  simp
theorem one_lt' {a n : Nat} (h1 : a < n) : ∀ x ∈ [a], x < n := fun x hx => by
  simp at hx
  omega

end Go.Proofs.Ytighgoefmccagaa
namespace Go.Proofs.Ytighgoefmccagaa
open Go.RowKit

/-- Of how many of the first k bytes p holds. -/
def cntT (p : UInt8 → Bool) (s : ByteArray) (k : Nat) : Nat := ((s.data.toList.take k).filter p).length
theorem cntT_yes {p : UInt8 → Bool} {s : ByteArray} {k : Nat} (h : k < s.size) (hp : p s[k] = true) : cntT p s (k + 1) = cntT p s k + 1 := by
  unfold cntT
  rw [take_snoc _ _ h, List.filter_append]
  simp [hp]
theorem cntT_no {p : UInt8 → Bool} {s : ByteArray} {k : Nat} (h : k < s.size) (hp : p s[k] = false) : cntT p s (k + 1) = cntT p s k := by
  unfold cntT
  rw [take_snoc _ _ h, List.filter_append]
  simp [hp]
theorem cntT_le (p : UInt8 → Bool) (s : ByteArray) (k : Nat) : cntT p s k ≤ k := by
  unfold cntT
  have h1 := List.length_filter_le p (s.data.toList.take k)
  have h2 : (s.data.toList.take k).length ≤ k := by simp; omega
  omega
theorem cntT_zero (p : UInt8 → Bool) (s : ByteArray) : cntT p s 0 = 0 := by unfold cntT; simp

/-- Whether p holds of all bytes. -/
def allB (p : UInt8 → Bool) (s : ByteArray) : Bool := (cntT p s s.size : Int) == (s.size : Int)
theorem allB_yes {p : UInt8 → Bool} {s : ByteArray} (h : ∀ j (hj : j < s.size), p s[j] = true) : allB p s = true := by
  have key : ∀ k, k ≤ s.size → cntT p s k = k := fun k => by
    induction k with
    | zero => intro _; exact cntT_zero p s
    | succ k ih => intro hk; rw [cntT_yes (by omega) (h k (by omega)), ih (by omega)]
  unfold allB
  rw [key _ (Nat.le_refl _)]
  simp
theorem allB_no {p : UInt8 → Bool} {s : ByteArray} {j : Nat} (hj : j < s.size) (h : p s[j] = false) : allB p s = false := by
  have key : ∀ k, j < k → k ≤ s.size → cntT p s k < k := fun k => by
    induction k with
    | zero => omega
    | succ k ih =>
      intro h1 h2
      by_cases e : k = j
      · subst e
        rw [cntT_no (by omega) h]
        have := cntT_le p s k
        omega
      · have := ih (by omega) (by omega)
        cases hp : p (s[k]'(by omega))
        · rw [cntT_no (by omega) hp]; omega
        · rw [cntT_yes (by omega) hp]; omega
  have := key s.size hj (Nat.le_refl _)
  unfold allB
  rw [beq_eq_false_iff_ne]
  omega

abbrev fnTok : Value := .func (.func 94) #[] #[]

set_option maxHeartbeats 2000000 in
theorem all1_Tok (sb fb lb : Nat) (s : ByteArray) (w : World) (hsb : w.cell? ⟨sb, 0, none⟩ = some (.string s)) (hf : w.cell? ⟨fb, 0, none⟩ = some fnTok)
    (hl : w.heap[lb]? = some (.cells #[.bool false] 4 (0, 0))) (hs : s.size ≤ 9223372036854775807) :
    Calls Try.prog 102 #[.pointer (some ⟨sb, 0, none⟩), .pointer (some ⟨fb, 0, none⟩), .pointer (some ⟨lb, 0, none⟩)] w fun e w' => e = .returned (.tuple #[]) ∧ Mv w.heap.size [lb] w w' ∧
      w'.heap[lb]? = some (.cells #[.bool (allB tokB s)] 4 (0, 0)) := by
  have l0 := cell_of_one hl
  have lz := free_of_one hl
  go_enter Try.func102, Try.ntmps102
  go_wp2
  go_loopw [6] (fun v wr => ∃ i : Nat, i ≤ s.size ∧ v = .int .i64 i ∧ (∀ j (hj : j < s.size), j < i → tokB s[j] = true) ∧ Mv w.heap.size [] w wr) (fun v _ => s.size - (intOf v).toNat)
  case atStart => exact ⟨0, Nat.zero_le _, rfl, fun j _ h => absurd h (by omega), Mv.refl _ _ _⟩
  case round =>
    obtain ⟨i, hi, rfl, hno, hm⟩ := hrel
    have d1 : wr.cell? ⟨sb, 0, none⟩ = some (.string s) := (hm.cell (p := ⟨sb, 0, none⟩) (World.block_lt_of_cell? w _ hsb) (by simp)).trans hsb
    have d2 : wr.cell? ⟨fb, 0, none⟩ = some fnTok := (hm.cell (p := ⟨fb, 0, none⟩) (World.block_lt_of_cell? w _ hf) (by simp)).trans hf
    have d3 : wr.cell? ⟨lb, 0, none⟩ = some (.bool false) := (hm.cell (p := ⟨lb, 0, none⟩) (World.block_lt_of_cell? w _ l0) (by simp)).trans l0
    have dz : wr.frozen? ⟨lb, 0, none⟩ = false := (hm.frozen (p := ⟨lb, 0, none⟩) (World.block_lt_of_cell? w _ l0) (by simp)).trans lz
    have HW := Lib.hid ((hm.block lb (World.block_lt_of_cell? w _ l0) (by simp)).trans hl)
    have HM := Lib.hid (hm.mono (r' := [lb]) (Nat.le_refl _) (by simp))
    have HM0 := Lib.hid hm
    have HN := Lib.hid hno
    clear hno hm hsb hf hl l0 lz
    by_cases hlt : i < s.size
    · have HL := Lib.hid (fun W => token_any s[i] W)
      cases hb : tokB s[i]
      · have HC := Lib.hid (allB_no hlt hb)
        have HL2 : Hid (∀ W, Calls Try.prog 94 #[.int .u8 (s[i].toNat : Int)] W fun e w' => e = .returned (.bool false) ∧ w' = W) := fun W => by
          have := HL.out W
          rw [hb] at this
          exact this.mono fun _ _ h => ⟨h.1, h.2.symm⟩
        clear HL hb
        go_wp2
        go_quiet ((go_at_call 94; exact Calls.quiet_of_same (HL2.out _)))
        go_wp2
        refine bodyPost_ret (results_none rfl _ _ _) rfl ?_
        exact ⟨rfl, HM.out.drewN _, by rw [HC.out]; exact HW.out⟩
      · have HP := Lib.hid hb
        have HL2 : Hid (∀ W, Calls Try.prog 94 #[.int .u8 (s[i].toNat : Int)] W fun e w' => e = .returned (.bool true) ∧ w' = W) := fun W => by
          have := HL.out W
          rw [hb] at this
          exact this.mono fun _ _ h => ⟨h.1, h.2.symm⟩
        clear HL hb
        go_wp2
        go_quiet ((go_at_call 94; exact Calls.quiet_of_same (HL2.out _)))
        go_wp2
        go_roundw
        case rel => exact ⟨i + 1, by omega, by go_num, fun j hj h => if e : j = i then by subst e; exact HP.out else HN.out j hj (by omega), HM0.out.drewN _⟩
        case measure => simp [intOf]; omega
    · obtain rfl : i = s.size := by omega
      have HC := Lib.hid (allB_yes fun j hj => HN.out j hj hj)
      go_wp2
      go_end0
      exact ⟨rfl, HM.out.setCell (.inl (by simp)) _, by rw [HC.out]; exact one_setCell HW.out⟩

theorem catch_all1_Tok (sb fb lb : Nat) (s : ByteArray) (w : World) (hsb : w.cell? ⟨sb, 0, none⟩ = some (.string s)) (hf : w.cell? ⟨fb, 0, none⟩ = some fnTok)
    (hl : w.heap[lb]? = some (.cells #[.bool false] 4 (0, 0))) (hs : s.size ≤ 9223372036854775807) :
    Calls Try.prog 54 #[.func (.func 102) #[] #[.pointer (some ⟨sb, 0, none⟩), .pointer (some ⟨fb, 0, none⟩), .pointer (some ⟨lb, 0, none⟩)]] w fun e w' =>
      e = .returned (.tuple #[flt 0 0, .bool false]) ∧ Mv w.heap.size [lb] w w' ∧ w'.heap[lb]? = some (.cells #[.bool (allB tokB s)] 4 (0, 0)) := by
  have la : lb < w.heap.size := lt_of_block hl
  refine catch_mv_returns 102 #[] #[.pointer (some ⟨sb, 0, none⟩), .pointer (some ⟨fb, 0, none⟩), .pointer (some ⟨lb, 0, none⟩)] w [lb]
    (fun W => W.heap[lb]? = some (.cells #[.bool (allB tokB s)] 4 (0, 0)))
    (one_lt' la) (fun W1 W2 hb h1 => (hb.block lb la).trans h1) (fun _ => by simp [go_sem]) fun W hW => ?_
  refine (all1_Tok sb fb lb s W ((hW.cell (p := ⟨sb, 0, none⟩) (World.block_lt_of_cell? w _ hsb)).trans hsb) ((hW.cell (p := ⟨fb, 0, none⟩) (World.block_lt_of_cell? w _ hf)).trans hf) ((hW.block lb la).trans hl) hs).mono ?_
  rintro e w' ⟨rfl, h1, h2⟩
  exact ⟨⟨_, rfl⟩, h1, h2⟩

set_option maxHeartbeats 2000000 in
theorem all_Tok (s : ByteArray) (w : World) (hs : s.size ≤ 9223372036854775807) :
    Calls Try.prog 93 #[.string s, fnTok] w fun e w' => e = .returned (.bool (allB tokB s)) ∧ Below w.heap.size w w' := by
  have hq := eq_fn_nil
  have hmf := make_func
  obtain ⟨W3, hW⟩ : ∃ W3, W3 = (((w.alloc (.cells #[.string s] 9)).alloc (.cells #[fnTok] 75)).alloc (.cells #[.bool false] 4)) := ⟨_, rfl⟩
  have c2 : W3.heap[w.heap.size + 1 + 1]? = some (.cells #[.bool false] 4 (0, 0)) := by
    have := Blk.new ((w.alloc (.cells #[.string s] 9)).alloc (.cells #[fnTok] 75)) 4 #[.bool false]
    rw [hW]
    simpa [Blk] using this
  have c0 : W3.cell? ⟨w.heap.size, 0, none⟩ = some (.string s) := by rw [hW]; simp [go_sem]
  have c1 : W3.cell? ⟨w.heap.size + 1, 0, none⟩ = some fnTok := by rw [hW]; simp [go_sem]
  have HB := Lib.hid (show Below w.heap.size w W3 by
    rw [hW]
    exact (((Below.refl _ _).alloc (Nat.le_refl _) _).alloc (by simp) _).alloc (by simp; omega) _)
  have HZ := Lib.hid (show W3.heap.size = w.heap.size + 3 by rw [hW]; simp)
  have HC := Lib.hid (catch_all1_Tok w.heap.size (w.heap.size + 1) (w.heap.size + 1 + 1) s W3 c0 c1 c2 hs)
  clear c0 c1 c2
  have HW := Lib.hid hW
  clear hW
  go_enter Try.func93, Try.ntmps93
  go_wp2_with (go_at_call 54; rw [← HW.out]; refine HC.out.mono ?_; rintro e w1 ⟨rfl, hm, h1⟩; have j3 := cell_of_one h1; have HM := Lib.hid hm; clear hm h1)
  go_ret
  exact ⟨rfl, HB.out.trans (HM.out.below (B' := w.heap.size) (by have := HZ.out; omega) (by simp; omega))⟩

end Go.Proofs.Ytighgoefmccagaa
namespace Go.Proofs.Ytighgoefmccagaa
open Go.RowKit

/-- Whether a text is no token. -/
def needB (s : ByteArray) : Bool := s.toList == [] || !allB tokB s

set_option maxHeartbeats 400000 in
theorem needs_any (s : ByteArray) (w : World) (hs : s.size ≤ 9223372036854775807) :
    Calls Try.prog 83 #[.string s] w fun e w' => e = .returned (.bool (needB s)) ∧ Below w.heap.size w w' := by
  have HA := Lib.hid (fun W => all_Tok s W hs)
  unfold needB
  cases h0 : (s.toList == [])
  · go_enter Try.func83, Try.ntmps83
    go_wp2_with (go_at_call 93; refine (HA.out _).mono ?_; rintro e w1 ⟨rfl, hb⟩)
    go_ret
    exact ⟨rfl, hb⟩
  · go_enter Try.func83, Try.ntmps83
    go_wp2
    go_ret
    exact ⟨rfl, Below.refl _ _⟩

end Go.Proofs.Ytighgoefmccagaa
