/-
  What Lower, Prefix, HasPrefix and Has answer, and what Skip does to a cursor. Conditions: lengths as they can be.
  What Collect of layer 4 does to a cursor, and what it answers. Conditions: the place lies in the text, which takes at most 2^47 bytes.
  What While does to a cursor where it is asked of class.Tab. Conditions as in Cursor.
-/
import Derived.Test.YtaolclpjlkdkjaaZ1
import Derived.Test.YtaolclpjlkdkjaaZ4
import Derived.LoopTactic
import Derived.Test.YtaolclpjlkdkjaaZ2
import Derived.Deep.RegionWith
import Derived.Test.YtaolclpjlkdkjaaRows
import Derived.WalkKit
import Derived.KernelRfl
import Derived.WalkSpells
import Derived.WalkLawsBesides
import Derived.Laws.Externs
import Derived.Lib.Hide
import Derived.Lib.FrozenHead2
import Derived.Test.YtaolclpjlkdkjaaZ3
import Derived.OneCell
namespace Go.Proofs.Ytaolclpjlkdkjaa
open Go.RowKit

set_option maxHeartbeats 400000 in
theorem hasPrefix0_any (s p : ByteArray) (w : World) (_hs : s.size ≤ 9223372036854775807) (_hp : p.size ≤ 9223372036854775807) :
    Calls Try.prog 85 #[.string s, .string p] w fun e w' => e = .returned (.bool (prefB s p)) ∧ w = w' := by
  by_cases h1 : p.size ≤ s.size
  · have d1 : decide (p.size ≤ s.size) = true := by simpa using h1
    have e : prefB s p = ((s.extract 0 p.size).toList == p.toList) := by unfold prefB; rw [d1]; rfl
    rw [e]
    clear e
    go_enter Try.func85, Try.ntmps85
    go_wp2
    go_ret
    exact ⟨rfl, rfl⟩
  · have d1 : decide (p.size ≤ s.size) = false := by simpa using h1
    have e : prefB s p = false := by unfold prefB; rw [d1]; rfl
    rw [e]
    clear e
    go_enter Try.func85, Try.ntmps85
    go_wp2
    go_ret
    exact ⟨rfl, rfl⟩

set_option maxHeartbeats 400000 in
theorem hasPrefix_any (s p : ByteArray) (w : World) (hs : s.size ≤ 9223372036854775807) (hp : p.size ≤ 9223372036854775807) :
    Calls Try.prog 74 #[.string s, .string p] w fun e w' => e = .returned (.bool (prefB s p)) ∧ w = w' := by
  go_enter Try.func74, Try.ntmps74
  go_wp2_with (go_at_call 85; refine (hasPrefix0_any s p _ hs hp).mono ?_; rintro e w' ⟨rfl, rfl⟩)
  go_ret
  exact ⟨rfl, rfl⟩

set_option maxHeartbeats 400000 in
theorem skip_yes (cb k : Nat) (s t : ByteArray) (w : World) (h : Cur w cb s k) (hk : k ≤ s.size) (hs : s.size ≤ 9223372036854775807) (ht : t.size ≤ 9223372036854775807) (hp : prefB (s.extract k s.size) t = true) (hkt : k + t.size ≤ s.size) :
    Calls Try.prog 55 #[cptr cb, .string t] w fun e w' => e = .returned (.bool true) ∧ ∃ m, w' = (w.drewN m).setCell ⟨cb, 1, none⟩ (.int .i64 (k + t.size : Nat)) := by
  have c0 := h.c0
  have c1 := h.c1
  have z1 := h.frozen 1
  have HP : Hid (∀ W, Calls Try.prog 74 #[.string (s.extract k s.size), .string t] W fun e w' => e = .returned (.bool true) ∧ w' = W) := by
    intro W
    have := hasPrefix_any (s.extract k s.size) t W (by simp; omega) ht
    rw [hp] at this
    exact this.mono fun _ _ h => ⟨h.1, h.2.symm⟩
  clear h hp
  go_enter Try.func55, Try.ntmps55
  go_wp2
  go_quiet ((go_at_call 74; exact Calls.quiet_of_same (HP.out _)))
  go_wp2
  go_ret
  exact ⟨rfl, _, rfl⟩

set_option maxHeartbeats 400000 in
theorem skip_no (cb k : Nat) (s t : ByteArray) (w : World) (h : Cur w cb s k) (hk : k ≤ s.size) (hs : s.size ≤ 9223372036854775807) (ht : t.size ≤ 9223372036854775807) (hp : prefB (s.extract k s.size) t = false) :
    Calls Try.prog 55 #[cptr cb, .string t] w fun e w' => e = .returned (.bool false) ∧ ∃ m, w' = w.drewN m := by
  have c0 := h.c0
  have c1 := h.c1
  have HP : Hid (∀ W, Calls Try.prog 74 #[.string (s.extract k s.size), .string t] W fun e w' => e = .returned (.bool false) ∧ w' = W) := by
    intro W
    have := hasPrefix_any (s.extract k s.size) t W (by simp; omega) ht
    rw [hp] at this
    exact this.mono fun _ _ h => ⟨h.1, h.2.symm⟩
  clear h hp
  go_enter Try.func55, Try.ntmps55
  go_wp2
  go_quiet ((go_at_call 74; exact Calls.quiet_of_same (HP.out _)))
  go_wp2
  go_ret
  exact ⟨rfl, _, rfl⟩

end Go.Proofs.Ytaolclpjlkdkjaa
namespace Go.Proofs.Ytaolclpjlkdkjaa
open Go.RowKit

theorem Mv.chain {B : Nat} {r : List Nat} {a b c : World} (h : Mv B r a b) (k : Mv b.heap.size r b c) (hB : B ≤ a.heap.size) : Mv B r a c :=
  h.trans (k.mono (Nat.le_trans hB h.size) fun _ hx => .inl hx)
theorem Mv.put {cb k : Nat} {s : ByteArray} {w w' : World} {j : Nat} (h : Cur w cb s k) (he : ∃ m, w' = (w.drewN m).setCell ⟨cb, 1, none⟩ (.int .i64 j)) : Mv w.heap.size [cb] w w' ∧ Cur w' cb s j := by
  obtain ⟨m, rfl⟩ := he
  exact ⟨((Mv.refl _ _ _).drewN m).setCell (.inl (by simp)) _, Cur.set (Blk.drewN h m) j⟩
theorem Mv.idle {B : Nat} {r : List Nat} {w w' : World} (he : ∃ m, w' = w.drewN m) : Mv B r w w' := by
  obtain ⟨m, rfl⟩ := he
  exact (Mv.refl _ _ _).drewN m

end Go.Proofs.Ytaolclpjlkdkjaa
namespace Go.Proofs.Ytaolclpjlkdkjaa
open Go.RowKit

abbrev fn_tab : Value := .func (.func 63) #[] #[]

set_option maxHeartbeats 1000000 in
theorem while1_tab (tb pb fb cb k j : Nat) (s : ByteArray) (w : World) (h : Cur w cb s k) (ht : w.heap[tb]? = some (.cells #[.int .i64 j] 3 (0, 0))) (hp : w.cell? ⟨pb, 0, none⟩ = some (cptr cb)) (hf : w.cell? ⟨fb, 0, none⟩ = some fn_tab)
    (hj : j ≤ s.size) (hs : s.size ≤ 9223372036854775807) (n1 : tb ≠ pb) (n2 : tb ≠ fb) (n3 : tb ≠ cb) :
    Calls Try.prog 67 #[.pointer (some ⟨tb, 0, none⟩), .pointer (some ⟨pb, 0, none⟩), .pointer (some ⟨fb, 0, none⟩)] w fun e w' => e = .returned (.tuple #[]) ∧ Mv w.heap.size [tb] w w' ∧ w'.heap[tb]? = some (.cells #[.int .i64 (scan tabB s j : Nat)] 3 (0, 0)) := by
  go_enter Try.func67, Try.ntmps67
  go_wp2
  have hc0 := h.c0
  have lt : tb < w.heap.size := lt_of_block ht
  have lp : pb < w.heap.size := World.block_lt_of_cell? w _ hp
  have lf : fb < w.heap.size := World.block_lt_of_cell? w _ hf
  have lc : cb < w.heap.size := h.lt
  go_loopw [3] (fun _ wr => ∃ i : Nat, j ≤ i ∧ i ≤ s.size ∧ scan tabB s i = scan tabB s j ∧ wr.heap[tb]? = some (.cells #[.int .i64 i] 3 (0, 0)) ∧ Mv w.heap.size [tb] w wr) (fun _ wr => s.size - cellNat wr tb)
  case atStart => exact ⟨j, by omega, hj, rfl, ht, Mv.refl _ _ _⟩
  case round =>
    obtain ⟨i, hi, hi2, hsc, hti, hm⟩ := hrel
    have d0 : wr.cell? ⟨tb, 0, none⟩ = some (.int .i64 i) := by simp [World.cell?, hti]
    have dz : wr.frozen? ⟨tb, 0, none⟩ = false := by simp [World.frozen?, hti]
    have d1 : wr.cell? ⟨pb, 0, none⟩ = some (cptr cb) := (hm.cell (p := ⟨pb, 0, none⟩) lp (by simpa using n1.symm)).trans hp
    have d2 : wr.cell? ⟨fb, 0, none⟩ = some fn_tab := (hm.cell (p := ⟨fb, 0, none⟩) lf (by simpa using n2.symm)).trans hf
    have d3 : wr.cell? ⟨cb, 0, none⟩ = some (.string s) := (hm.cell (p := ⟨cb, 0, none⟩) lc (by simpa using n3.symm)).trans hc0
    have HS := Lib.hid hsc
    have HT := Lib.hid hti
    have HM := Lib.hid hm
    clear hsc hti hm h ht hp hf hc0
    by_cases hlt : i < s.size
    · have e1 : decide (i < s.size) = true := by simpa using hlt
      have HL := fun W => tab_any s[i] W
      cases hb : tabB s[i]
      · have HF : Hid (scan tabB s i = i) := scan_stop hlt hb
        rw [hb] at HL
        have HL2 := Lib.hid HL
        clear HL hb
        go_wp2
        go_quiet ((go_at_call 63; exact Calls.quiet_of_same ((HL2.out _).mono fun _ _ h => ⟨h.1, h.2.symm⟩)))
        go_wp2
        go_end0
        refine ⟨rfl, HM.out.drewN _, ?_⟩
        rw [← HS.out, HF.out]
        exact HT.out
      · have HF : Hid (scan tabB s (i + 1) = scan tabB s i) := scan_step hlt hb
        rw [hb] at HL
        have HL2 := Lib.hid HL
        clear HL hb
        go_wp2
        go_quiet ((go_at_call 63; exact Calls.quiet_of_same ((HL2.out _).mono fun _ _ h => ⟨h.1, h.2.symm⟩)))
        go_wp2
        go_roundw
        case rel => exact ⟨i + 1, by omega, by omega, HF.out.trans HS.out, one_setCell HT.out, (HM.out.drewN _).setCell (.inl (by simp)) _⟩
        case measure => rw [cellNat_of HT.out]; refine Nat.lt_of_le_of_lt (Nat.le_of_eq (congrArg (s.size - ·) (cellNat_of (n := i + 1) (one_setCell HT.out)))) ?_; show s.size - (i + 1) < s.size - i; omega
    · obtain rfl : i = s.size := by omega
      have HF : Hid (scan tabB s s.size = s.size) := scan_end rfl
      go_wp2
      go_quiet (fail)
      go_wp2
      go_end0
      refine ⟨rfl, HM.out.drewN _, ?_⟩
      rw [← HS.out, HF.out]
      exact HT.out

theorem enter_while1_tab (a b c : Value) (w : World) : (callFunc 67 (#[] ++ #[a, b, c])).run Try.prog w = .ok (.enter 67 (#[] ++ #[a, b, c])) w := by simp [go_sem]

theorem catch_while1_tab (tb pb fb cb k : Nat) (s : ByteArray) (w : World) (h : Cur w cb s k) (ht : w.heap[tb]? = some (.cells #[.int .i64 k] 3 (0, 0))) (hp : w.cell? ⟨pb, 0, none⟩ = some (cptr cb)) (hf : w.cell? ⟨fb, 0, none⟩ = some fn_tab)
    (hk : k ≤ s.size) (hs : s.size ≤ 9223372036854775807) (n1 : tb ≠ pb) (n2 : tb ≠ fb) (n3 : tb ≠ cb) :
    Calls Try.prog 66 #[.func (.func 67) #[] #[.pointer (some ⟨tb, 0, none⟩), .pointer (some ⟨pb, 0, none⟩), .pointer (some ⟨fb, 0, none⟩)]] w fun e w' =>
      e = .returned (.tuple #[flt 0 0, .bool false]) ∧ Mv w.heap.size [tb] w w' ∧ w'.heap[tb]? = some (.cells #[.int .i64 (scan tabB s k : Nat)] 3 (0, 0)) := by
  have lt : tb < w.heap.size := lt_of_block ht
  refine catch_mv_returns 67 #[] #[.pointer (some ⟨tb, 0, none⟩), .pointer (some ⟨pb, 0, none⟩), .pointer (some ⟨fb, 0, none⟩)] w [tb] (fun W => W.heap[tb]? = some (.cells #[.int .i64 (scan tabB s k : Nat)] 3 (0, 0)))
    (one_lt' lt) (fun W1 W2 hb h1 => (hb.block tb lt).trans h1) (enter_while1_tab _ _ _) fun W hW => ?_
  refine (while1_tab tb pb fb cb k k s W (h.below hW h.lt) ((hW.block tb lt).trans ht) ((hW.cell (p := ⟨pb, 0, none⟩) (World.block_lt_of_cell? w _ hp)).trans hp) ((hW.cell (p := ⟨fb, 0, none⟩) (World.block_lt_of_cell? w _ hf)).trans hf) hk hs n1 n2 n3).mono ?_
  rintro e w' ⟨rfl, h1, h2⟩
  exact ⟨⟨_, rfl⟩, h1, h2⟩

set_option maxHeartbeats 1000000 in
theorem while_tab (cb k : Nat) (s : ByteArray) (w : World) (h : Cur w cb s k) (hk : k ≤ s.size) (hs : s.size ≤ 9223372036854775807) :
    Calls Try.prog 41 #[cptr cb, fn_tab] w fun e w' => e = .returned (.string (s.extract k (scan tabB s k))) ∧ Mv w.heap.size [cb] w w' ∧ Cur w' cb s (scan tabB s k) := by
  have hq := eq_fn_nil
  have hmf := make_func
  have c1 := h.c1
  have lc := h.lt
  have lc1 : cb < w.heap.size + 1 := by omega
  have lc2 : cb < w.heap.size + 1 + 1 := by omega
  have HC := Lib.hid h
  clear h
  go_enter Try.func41, Try.ntmps41
  go_wp2
  go_region
  have hW : Below w.heap.size w ((((w.alloc (.cells #[cptr cb] 46)).alloc (.cells #[fn_tab] 58)).alloc (.cells #[.int .i64 k] 3)).drew) :=
    ((((Below.refl _ _).alloc (Nat.le_refl _) _).alloc (by simp) _).alloc (by simp; omega) _).drew
  have hc3 := HC.out.below hW lc
  have ht3 : ((((w.alloc (.cells #[cptr cb] 46)).alloc (.cells #[fn_tab] 58)).alloc (.cells #[.int .i64 k] 3)).drew).heap[w.heap.size + 1 + 1]? = some (.cells #[.int .i64 k] 3 (0, 0)) := by
    have := Blk.new ((w.alloc (.cells #[cptr cb] 46)).alloc (.cells #[fn_tab] 58)) 3 #[.int .i64 k]
    have h0 : (((w.alloc (.cells #[cptr cb] 46)).alloc (.cells #[fn_tab] 58)).alloc (.cells #[.int .i64 k] 3)).heap[w.heap.size + 1 + 1]? = some (.cells #[.int .i64 k] 3 (0, 0)) := by simpa [Blk] using this
    exact h0
  go_wp2_with fail
  refine (catch_while1_tab (w.heap.size + 1 + 1) w.heap.size (w.heap.size + 1) cb k s _ hc3 ht3 (by simp [go_sem]) (by simp [go_sem]) hk hs (by omega) (by omega) (by omega)).mono ?_
  rintro e w1 ⟨rfl, hm, ht1⟩
  have hz := hm.size
  simp at hz
  have e0 : w1.cell? ⟨w.heap.size, 0, none⟩ = some (cptr cb) := by rw [hm.cell (by simp; omega) (by simp; omega)]; simp [go_sem]
  have e1 : w1.cell? ⟨w.heap.size + 1 + 1, 0, none⟩ = some (.int .i64 (scan tabB s k : Nat)) := cell_of_one ht1
  have hc4 : Cur w1 cb s k := hc3.mv hm (by simp; omega) (by simp; omega)
  have d1 := hc4.c1
  have z1 := hc4.frozen 1
  have hc5 : Cur (w1.setCell ⟨cb, 1, none⟩ (.int .i64 k)) cb s k := hc4.set k
  have HP := Lib.hid (passTo_any cb k (scan tabB s k) s _ hc5 (scan_ge _ _ _) (scan_le _ _ _ hk) hs)
  have HM := Lib.hid (hW.trans (hm.below (B' := w.heap.size) (by simp; omega) (by simp; omega)))
  have HC4 := Lib.hid hc4
  have ncb : (⟨w.heap.size, 0, none⟩ : Addr) ≠ ⟨cb, 1, none⟩ := by simp
  have ncb2 : (⟨w.heap.size + 1 + 1, 0, none⟩ : Addr) ≠ ⟨cb, 1, none⟩ := by simp
  clear hW hc3 ht3 hm ht1 hc4 hc5 hq hmf
  go_wp2_with (go_at_call 68; refine HP.out.mono ?_; rintro e w2 ⟨rfl, hw2⟩; have HW2 := Lib.hid hw2; clear hw2)
  go_ret
  have hset : Cur ((w1.setCell ⟨cb, 1, none⟩ (.int .i64 k)).setCell ⟨cb, 1, none⟩ (.int .i64 (scan tabB s k : Nat))) cb s (scan tabB s k) := (HC4.out.set k).set _
  refine ⟨rfl, ?_, ?_⟩
  · rw [HW2.out]
    exact ((Mv.of_below HM.out _).setCell (.inl (by simp)) _).setCell (.inl (by simp)) _
  · rw [HW2.out]
    exact hset

end Go.Proofs.Ytaolclpjlkdkjaa
