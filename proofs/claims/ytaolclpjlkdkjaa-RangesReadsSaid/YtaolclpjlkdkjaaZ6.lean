/-
  What While does to a cursor where it is asked of class.Digit. Conditions as in Cursor.
  What While does to a cursor where it is asked of class.Letter. Conditions as in Cursor.
  What Lower, Same and Begins answer, and the document's own Lower. Condition: the text is as long as a length can be.
-/
import Derived.Test.YtaolclpjlkdkjaaZ2
import Derived.Test.YtaolclpjlkdkjaaZ4
import Derived.Test.YtaolclpjlkdkjaaZ3
import Derived.OneCell
import Derived.LoopTactic
import Derived.BigQuiet
import Derived.OwnWalk
import Derived.Laws.IdiomStrings
import Derived.Laws.OwnMore
import Derived.Laws.BytesArg
namespace Go.Proofs.Ytaolclpjlkdkjaa
open Go.RowKit

abbrev fn_digit : Value := .func (.func 42) #[] #[]

set_option maxHeartbeats 1000000 in
theorem while1_digit (tb pb fb cb k j : Nat) (s : ByteArray) (w : World) (h : Cur w cb s k) (ht : w.heap[tb]? = some (.cells #[.int .i64 j] 3 (0, 0))) (hp : w.cell? ⟨pb, 0, none⟩ = some (cptr cb)) (hf : w.cell? ⟨fb, 0, none⟩ = some fn_digit)
    (hj : j ≤ s.size) (hs : s.size ≤ 9223372036854775807) (n1 : tb ≠ pb) (n2 : tb ≠ fb) (n3 : tb ≠ cb) :
    Calls Try.prog 67 #[.pointer (some ⟨tb, 0, none⟩), .pointer (some ⟨pb, 0, none⟩), .pointer (some ⟨fb, 0, none⟩)] w fun e w' => e = .returned (.tuple #[]) ∧ Mv w.heap.size [tb] w w' ∧ w'.heap[tb]? = some (.cells #[.int .i64 (scan digB s j : Nat)] 3 (0, 0)) := by
  go_enter Try.func67, Try.ntmps67
  go_wp2
  have hc0 := h.c0
  have lt : tb < w.heap.size := lt_of_block ht
  have lp : pb < w.heap.size := World.block_lt_of_cell? w _ hp
  have lf : fb < w.heap.size := World.block_lt_of_cell? w _ hf
  have lc : cb < w.heap.size := h.lt
  go_loopw [3] (fun _ wr => ∃ i : Nat, j ≤ i ∧ i ≤ s.size ∧ scan digB s i = scan digB s j ∧ wr.heap[tb]? = some (.cells #[.int .i64 i] 3 (0, 0)) ∧ Mv w.heap.size [tb] w wr) (fun _ wr => s.size - cellNat wr tb)
  case atStart => exact ⟨j, by omega, hj, rfl, ht, Mv.refl _ _ _⟩
  case round =>
    obtain ⟨i, hi, hi2, hsc, hti, hm⟩ := hrel
    have d0 : wr.cell? ⟨tb, 0, none⟩ = some (.int .i64 i) := by simp [World.cell?, hti]
    have dz : wr.frozen? ⟨tb, 0, none⟩ = false := by simp [World.frozen?, hti]
    have d1 : wr.cell? ⟨pb, 0, none⟩ = some (cptr cb) := (hm.cell (p := ⟨pb, 0, none⟩) lp (by simpa using n1.symm)).trans hp
    have d2 : wr.cell? ⟨fb, 0, none⟩ = some fn_digit := (hm.cell (p := ⟨fb, 0, none⟩) lf (by simpa using n2.symm)).trans hf
    have d3 : wr.cell? ⟨cb, 0, none⟩ = some (.string s) := (hm.cell (p := ⟨cb, 0, none⟩) lc (by simpa using n3.symm)).trans hc0
    have HS := Lib.hid hsc
    have HT := Lib.hid hti
    have HM := Lib.hid hm
    clear hsc hti hm h ht hp hf hc0
    by_cases hlt : i < s.size
    · have e1 : decide (i < s.size) = true := by simpa using hlt
      have HL := fun W => digit_any s[i] W
      cases hb : digB s[i]
      · have HF : Hid (scan digB s i = i) := scan_stop hlt hb
        rw [hb] at HL
        have HL2 := Lib.hid HL
        clear HL hb
        go_wp2
        go_quiet ((go_at_call 42; exact Calls.quiet_of_same ((HL2.out _).mono fun _ _ h => ⟨h.1, h.2.symm⟩)))
        go_wp2
        go_end0
        refine ⟨rfl, HM.out.drewN _, ?_⟩
        rw [← HS.out, HF.out]
        exact HT.out
      · have HF : Hid (scan digB s (i + 1) = scan digB s i) := scan_step hlt hb
        rw [hb] at HL
        have HL2 := Lib.hid HL
        clear HL hb
        go_wp2
        go_quiet ((go_at_call 42; exact Calls.quiet_of_same ((HL2.out _).mono fun _ _ h => ⟨h.1, h.2.symm⟩)))
        go_wp2
        go_roundw
        case rel => exact ⟨i + 1, by omega, by omega, HF.out.trans HS.out, one_setCell HT.out, (HM.out.drewN _).setCell (.inl (by simp)) _⟩
        case measure => rw [cellNat_of HT.out]; refine Nat.lt_of_le_of_lt (Nat.le_of_eq (congrArg (s.size - ·) (cellNat_of (n := i + 1) (one_setCell HT.out)))) ?_; show s.size - (i + 1) < s.size - i; omega
    · obtain rfl : i = s.size := by omega
      have HF : Hid (scan digB s s.size = s.size) := scan_end rfl
      go_wp2
      go_quiet (fail)
      go_wp2
      go_end0
      refine ⟨rfl, HM.out.drewN _, ?_⟩
      rw [← HS.out, HF.out]
      exact HT.out

theorem enter_while1_digit (a b c : Value) (w : World) : (callFunc 67 (#[] ++ #[a, b, c])).run Try.prog w = .ok (.enter 67 (#[] ++ #[a, b, c])) w := by simp [go_sem]

theorem catch_while1_digit (tb pb fb cb k : Nat) (s : ByteArray) (w : World) (h : Cur w cb s k) (ht : w.heap[tb]? = some (.cells #[.int .i64 k] 3 (0, 0))) (hp : w.cell? ⟨pb, 0, none⟩ = some (cptr cb)) (hf : w.cell? ⟨fb, 0, none⟩ = some fn_digit)
    (hk : k ≤ s.size) (hs : s.size ≤ 9223372036854775807) (n1 : tb ≠ pb) (n2 : tb ≠ fb) (n3 : tb ≠ cb) :
    Calls Try.prog 66 #[.func (.func 67) #[] #[.pointer (some ⟨tb, 0, none⟩), .pointer (some ⟨pb, 0, none⟩), .pointer (some ⟨fb, 0, none⟩)]] w fun e w' =>
      e = .returned (.tuple #[flt 0 0, .bool false]) ∧ Mv w.heap.size [tb] w w' ∧ w'.heap[tb]? = some (.cells #[.int .i64 (scan digB s k : Nat)] 3 (0, 0)) := by
  have lt : tb < w.heap.size := lt_of_block ht
  refine catch_mv_returns 67 #[] #[.pointer (some ⟨tb, 0, none⟩), .pointer (some ⟨pb, 0, none⟩), .pointer (some ⟨fb, 0, none⟩)] w [tb] (fun W => W.heap[tb]? = some (.cells #[.int .i64 (scan digB s k : Nat)] 3 (0, 0)))
    (one_lt' lt) (fun W1 W2 hb h1 => (hb.block tb lt).trans h1) (enter_while1_digit _ _ _) fun W hW => ?_
  refine (while1_digit tb pb fb cb k k s W (h.below hW h.lt) ((hW.block tb lt).trans ht) ((hW.cell (p := ⟨pb, 0, none⟩) (World.block_lt_of_cell? w _ hp)).trans hp) ((hW.cell (p := ⟨fb, 0, none⟩) (World.block_lt_of_cell? w _ hf)).trans hf) hk hs n1 n2 n3).mono ?_
  rintro e w' ⟨rfl, h1, h2⟩
  exact ⟨⟨_, rfl⟩, h1, h2⟩

set_option maxHeartbeats 1000000 in
theorem while_digit (cb k : Nat) (s : ByteArray) (w : World) (h : Cur w cb s k) (hk : k ≤ s.size) (hs : s.size ≤ 9223372036854775807) :
    Calls Try.prog 41 #[cptr cb, fn_digit] w fun e w' => e = .returned (.string (s.extract k (scan digB s k))) ∧ Mv w.heap.size [cb] w w' ∧ Cur w' cb s (scan digB s k) := by
  have hq := eq_fn_nil
  have hmf := make_func
  have c1 := h.c1
  have lc := h.lt
  have lc1 : cb < w.heap.size + 1 := by omega
  have lc2 : cb < w.heap.size + 1 + 1 := by omega
  have HC := Lib.hid h
  clear h
  go_enter Try.func41, Try.ntmps41
  go_wp2
  go_region
  have hW : Below w.heap.size w ((((w.alloc (.cells #[cptr cb] 46)).alloc (.cells #[fn_digit] 58)).alloc (.cells #[.int .i64 k] 3)).drew) :=
    ((((Below.refl _ _).alloc (Nat.le_refl _) _).alloc (by simp) _).alloc (by simp; omega) _).drew
  have hc3 := HC.out.below hW lc
  have ht3 : ((((w.alloc (.cells #[cptr cb] 46)).alloc (.cells #[fn_digit] 58)).alloc (.cells #[.int .i64 k] 3)).drew).heap[w.heap.size + 1 + 1]? = some (.cells #[.int .i64 k] 3 (0, 0)) := by
    have := Blk.new ((w.alloc (.cells #[cptr cb] 46)).alloc (.cells #[fn_digit] 58)) 3 #[.int .i64 k]
    have h0 : (((w.alloc (.cells #[cptr cb] 46)).alloc (.cells #[fn_digit] 58)).alloc (.cells #[.int .i64 k] 3)).heap[w.heap.size + 1 + 1]? = some (.cells #[.int .i64 k] 3 (0, 0)) := by simpa [Blk] using this
    exact h0
  go_wp2_with fail
  refine (catch_while1_digit (w.heap.size + 1 + 1) w.heap.size (w.heap.size + 1) cb k s _ hc3 ht3 (by simp [go_sem]) (by simp [go_sem]) hk hs (by omega) (by omega) (by omega)).mono ?_
  rintro e w1 ⟨rfl, hm, ht1⟩
  have hz := hm.size
  simp at hz
  have e0 : w1.cell? ⟨w.heap.size, 0, none⟩ = some (cptr cb) := by rw [hm.cell (by simp; omega) (by simp; omega)]; simp [go_sem]
  have e1 : w1.cell? ⟨w.heap.size + 1 + 1, 0, none⟩ = some (.int .i64 (scan digB s k : Nat)) := cell_of_one ht1
  have hc4 : Cur w1 cb s k := hc3.mv hm (by simp; omega) (by simp; omega)
  have d1 := hc4.c1
  have z1 := hc4.frozen 1
  have hc5 : Cur (w1.setCell ⟨cb, 1, none⟩ (.int .i64 k)) cb s k := hc4.set k
  have HP := Lib.hid (passTo_any cb k (scan digB s k) s _ hc5 (scan_ge _ _ _) (scan_le _ _ _ hk) hs)
  have HM := Lib.hid (hW.trans (hm.below (B' := w.heap.size) (by simp; omega) (by simp; omega)))
  have HC4 := Lib.hid hc4
  have ncb : (⟨w.heap.size, 0, none⟩ : Addr) ≠ ⟨cb, 1, none⟩ := by simp
  have ncb2 : (⟨w.heap.size + 1 + 1, 0, none⟩ : Addr) ≠ ⟨cb, 1, none⟩ := by simp
  clear hW hc3 ht3 hm ht1 hc4 hc5 hq hmf
  go_wp2_with (go_at_call 68; refine HP.out.mono ?_; rintro e w2 ⟨rfl, hw2⟩; have HW2 := Lib.hid hw2; clear hw2)
  go_ret
  have hset : Cur ((w1.setCell ⟨cb, 1, none⟩ (.int .i64 k)).setCell ⟨cb, 1, none⟩ (.int .i64 (scan digB s k : Nat))) cb s (scan digB s k) := (HC4.out.set k).set _
  refine ⟨rfl, ?_, ?_⟩
  · rw [HW2.out]
    exact ((Mv.of_below HM.out _).setCell (.inl (by simp)) _).setCell (.inl (by simp)) _
  · rw [HW2.out]
    exact hset

end Go.Proofs.Ytaolclpjlkdkjaa
namespace Go.Proofs.Ytaolclpjlkdkjaa
open Go.RowKit

abbrev fn_letter : Value := .func (.func 65) #[] #[]

set_option maxHeartbeats 1000000 in
theorem while1_letter (tb pb fb cb k j : Nat) (s : ByteArray) (w : World) (h : Cur w cb s k) (ht : w.heap[tb]? = some (.cells #[.int .i64 j] 3 (0, 0))) (hp : w.cell? ⟨pb, 0, none⟩ = some (cptr cb)) (hf : w.cell? ⟨fb, 0, none⟩ = some fn_letter)
    (hj : j ≤ s.size) (hs : s.size ≤ 9223372036854775807) (n1 : tb ≠ pb) (n2 : tb ≠ fb) (n3 : tb ≠ cb) :
    Calls Try.prog 67 #[.pointer (some ⟨tb, 0, none⟩), .pointer (some ⟨pb, 0, none⟩), .pointer (some ⟨fb, 0, none⟩)] w fun e w' => e = .returned (.tuple #[]) ∧ Mv w.heap.size [tb] w w' ∧ w'.heap[tb]? = some (.cells #[.int .i64 (scan letB s j : Nat)] 3 (0, 0)) := by
  go_enter Try.func67, Try.ntmps67
  go_wp2
  have hc0 := h.c0
  have lt : tb < w.heap.size := lt_of_block ht
  have lp : pb < w.heap.size := World.block_lt_of_cell? w _ hp
  have lf : fb < w.heap.size := World.block_lt_of_cell? w _ hf
  have lc : cb < w.heap.size := h.lt
  go_loopw [3] (fun _ wr => ∃ i : Nat, j ≤ i ∧ i ≤ s.size ∧ scan letB s i = scan letB s j ∧ wr.heap[tb]? = some (.cells #[.int .i64 i] 3 (0, 0)) ∧ Mv w.heap.size [tb] w wr) (fun _ wr => s.size - cellNat wr tb)
  case atStart => exact ⟨j, by omega, hj, rfl, ht, Mv.refl _ _ _⟩
  case round =>
    obtain ⟨i, hi, hi2, hsc, hti, hm⟩ := hrel
    have d0 : wr.cell? ⟨tb, 0, none⟩ = some (.int .i64 i) := by simp [World.cell?, hti]
    have dz : wr.frozen? ⟨tb, 0, none⟩ = false := by simp [World.frozen?, hti]
    have d1 : wr.cell? ⟨pb, 0, none⟩ = some (cptr cb) := (hm.cell (p := ⟨pb, 0, none⟩) lp (by simpa using n1.symm)).trans hp
    have d2 : wr.cell? ⟨fb, 0, none⟩ = some fn_letter := (hm.cell (p := ⟨fb, 0, none⟩) lf (by simpa using n2.symm)).trans hf
    have d3 : wr.cell? ⟨cb, 0, none⟩ = some (.string s) := (hm.cell (p := ⟨cb, 0, none⟩) lc (by simpa using n3.symm)).trans hc0
    have HS := Lib.hid hsc
    have HT := Lib.hid hti
    have HM := Lib.hid hm
    clear hsc hti hm h ht hp hf hc0
    by_cases hlt : i < s.size
    · have e1 : decide (i < s.size) = true := by simpa using hlt
      have HL := fun W => letter_any s[i] W
      cases hb : letB s[i]
      · have HF : Hid (scan letB s i = i) := scan_stop hlt hb
        rw [hb] at HL
        have HL2 := Lib.hid HL
        clear HL hb
        go_wp2
        go_quiet ((go_at_call 65; exact Calls.quiet_of_same ((HL2.out _).mono fun _ _ h => ⟨h.1, h.2.symm⟩)))
        go_wp2
        go_end0
        refine ⟨rfl, HM.out.drewN _, ?_⟩
        rw [← HS.out, HF.out]
        exact HT.out
      · have HF : Hid (scan letB s (i + 1) = scan letB s i) := scan_step hlt hb
        rw [hb] at HL
        have HL2 := Lib.hid HL
        clear HL hb
        go_wp2
        go_quiet ((go_at_call 65; exact Calls.quiet_of_same ((HL2.out _).mono fun _ _ h => ⟨h.1, h.2.symm⟩)))
        go_wp2
        go_roundw
        case rel => exact ⟨i + 1, by omega, by omega, HF.out.trans HS.out, one_setCell HT.out, (HM.out.drewN _).setCell (.inl (by simp)) _⟩
        case measure => rw [cellNat_of HT.out]; refine Nat.lt_of_le_of_lt (Nat.le_of_eq (congrArg (s.size - ·) (cellNat_of (n := i + 1) (one_setCell HT.out)))) ?_; show s.size - (i + 1) < s.size - i; omega
    · obtain rfl : i = s.size := by omega
      have HF : Hid (scan letB s s.size = s.size) := scan_end rfl
      go_wp2
      go_quiet (fail)
      go_wp2
      go_end0
      refine ⟨rfl, HM.out.drewN _, ?_⟩
      rw [← HS.out, HF.out]
      exact HT.out

theorem enter_while1_letter (a b c : Value) (w : World) : (callFunc 67 (#[] ++ #[a, b, c])).run Try.prog w = .ok (.enter 67 (#[] ++ #[a, b, c])) w := by simp [go_sem]

theorem catch_while1_letter (tb pb fb cb k : Nat) (s : ByteArray) (w : World) (h : Cur w cb s k) (ht : w.heap[tb]? = some (.cells #[.int .i64 k] 3 (0, 0))) (hp : w.cell? ⟨pb, 0, none⟩ = some (cptr cb)) (hf : w.cell? ⟨fb, 0, none⟩ = some fn_letter)
    (hk : k ≤ s.size) (hs : s.size ≤ 9223372036854775807) (n1 : tb ≠ pb) (n2 : tb ≠ fb) (n3 : tb ≠ cb) :
    Calls Try.prog 66 #[.func (.func 67) #[] #[.pointer (some ⟨tb, 0, none⟩), .pointer (some ⟨pb, 0, none⟩), .pointer (some ⟨fb, 0, none⟩)]] w fun e w' =>
      e = .returned (.tuple #[flt 0 0, .bool false]) ∧ Mv w.heap.size [tb] w w' ∧ w'.heap[tb]? = some (.cells #[.int .i64 (scan letB s k : Nat)] 3 (0, 0)) := by
  have lt : tb < w.heap.size := lt_of_block ht
  refine catch_mv_returns 67 #[] #[.pointer (some ⟨tb, 0, none⟩), .pointer (some ⟨pb, 0, none⟩), .pointer (some ⟨fb, 0, none⟩)] w [tb] (fun W => W.heap[tb]? = some (.cells #[.int .i64 (scan letB s k : Nat)] 3 (0, 0)))
    (one_lt' lt) (fun W1 W2 hb h1 => (hb.block tb lt).trans h1) (enter_while1_letter _ _ _) fun W hW => ?_
  refine (while1_letter tb pb fb cb k k s W (h.below hW h.lt) ((hW.block tb lt).trans ht) ((hW.cell (p := ⟨pb, 0, none⟩) (World.block_lt_of_cell? w _ hp)).trans hp) ((hW.cell (p := ⟨fb, 0, none⟩) (World.block_lt_of_cell? w _ hf)).trans hf) hk hs n1 n2 n3).mono ?_
  rintro e w' ⟨rfl, h1, h2⟩
  exact ⟨⟨_, rfl⟩, h1, h2⟩

set_option maxHeartbeats 1000000 in
theorem while_letter (cb k : Nat) (s : ByteArray) (w : World) (h : Cur w cb s k) (hk : k ≤ s.size) (hs : s.size ≤ 9223372036854775807) :
    Calls Try.prog 41 #[cptr cb, fn_letter] w fun e w' => e = .returned (.string (s.extract k (scan letB s k))) ∧ Mv w.heap.size [cb] w w' ∧ Cur w' cb s (scan letB s k) := by
  have hq := eq_fn_nil
  have hmf := make_func
  have c1 := h.c1
  have lc := h.lt
  have lc1 : cb < w.heap.size + 1 := by omega
  have lc2 : cb < w.heap.size + 1 + 1 := by omega
  have HC := Lib.hid h
  clear h
  go_enter Try.func41, Try.ntmps41
  go_wp2
  go_region
  have hW : Below w.heap.size w ((((w.alloc (.cells #[cptr cb] 46)).alloc (.cells #[fn_letter] 58)).alloc (.cells #[.int .i64 k] 3)).drew) :=
    ((((Below.refl _ _).alloc (Nat.le_refl _) _).alloc (by simp) _).alloc (by simp; omega) _).drew
  have hc3 := HC.out.below hW lc
  have ht3 : ((((w.alloc (.cells #[cptr cb] 46)).alloc (.cells #[fn_letter] 58)).alloc (.cells #[.int .i64 k] 3)).drew).heap[w.heap.size + 1 + 1]? = some (.cells #[.int .i64 k] 3 (0, 0)) := by
    have := Blk.new ((w.alloc (.cells #[cptr cb] 46)).alloc (.cells #[fn_letter] 58)) 3 #[.int .i64 k]
    have h0 : (((w.alloc (.cells #[cptr cb] 46)).alloc (.cells #[fn_letter] 58)).alloc (.cells #[.int .i64 k] 3)).heap[w.heap.size + 1 + 1]? = some (.cells #[.int .i64 k] 3 (0, 0)) := by simpa [Blk] using this
    exact h0
  go_wp2_with fail
  refine (catch_while1_letter (w.heap.size + 1 + 1) w.heap.size (w.heap.size + 1) cb k s _ hc3 ht3 (by simp [go_sem]) (by simp [go_sem]) hk hs (by omega) (by omega) (by omega)).mono ?_
  rintro e w1 ⟨rfl, hm, ht1⟩
  have hz := hm.size
  simp at hz
  have e0 : w1.cell? ⟨w.heap.size, 0, none⟩ = some (cptr cb) := by rw [hm.cell (by simp; omega) (by simp; omega)]; simp [go_sem]
  have e1 : w1.cell? ⟨w.heap.size + 1 + 1, 0, none⟩ = some (.int .i64 (scan letB s k : Nat)) := cell_of_one ht1
  have hc4 : Cur w1 cb s k := hc3.mv hm (by simp; omega) (by simp; omega)
  have d1 := hc4.c1
  have z1 := hc4.frozen 1
  have hc5 : Cur (w1.setCell ⟨cb, 1, none⟩ (.int .i64 k)) cb s k := hc4.set k
  have HP := Lib.hid (passTo_any cb k (scan letB s k) s _ hc5 (scan_ge _ _ _) (scan_le _ _ _ hk) hs)
  have HM := Lib.hid (hW.trans (hm.below (B' := w.heap.size) (by simp; omega) (by simp; omega)))
  have HC4 := Lib.hid hc4
  have ncb : (⟨w.heap.size, 0, none⟩ : Addr) ≠ ⟨cb, 1, none⟩ := by simp
  have ncb2 : (⟨w.heap.size + 1 + 1, 0, none⟩ : Addr) ≠ ⟨cb, 1, none⟩ := by simp
  clear hW hc3 ht3 hm ht1 hc4 hc5 hq hmf
  go_wp2_with (go_at_call 68; refine HP.out.mono ?_; rintro e w2 ⟨rfl, hw2⟩; have HW2 := Lib.hid hw2; clear hw2)
  go_ret
  have hset : Cur ((w1.setCell ⟨cb, 1, none⟩ (.int .i64 k)).setCell ⟨cb, 1, none⟩ (.int .i64 (scan letB s k : Nat))) cb s (scan letB s k) := (HC4.out.set k).set _
  refine ⟨rfl, ?_, ?_⟩
  · rw [HW2.out]
    exact ((Mv.of_below HM.out _).setCell (.inl (by simp)) _).setCell (.inl (by simp)) _
  · rw [HW2.out]
    exact hset

end Go.Proofs.Ytaolclpjlkdkjaa
namespace Go.Proofs.Ytaolclpjlkdkjaa
open Go.RowKit

/-- Block g is known whole, its frozen range too. -/
def Blm (w : World) (g : Nat) (t : TypeId) (cs : Array Value) (fr : Nat × Nat) : Prop := w.heap[g]? = some (.cells cs t fr)
section
variable {w w' : World} {g : Nat} {t : TypeId} {cs : Array Value} {fr : Nat × Nat}
theorem Blm.lt (h : Blm w g t cs fr) : g < w.heap.size := by
  rcases Nat.lt_or_ge g w.heap.size with hlt | hge
  · exact hlt
  · unfold Blm at h; rw [Array.getElem?_eq_none hge] at h; cases h
theorem Blm.cell (h : Blm w g t cs fr) (i : Nat) : w.cell? ⟨g, i, none⟩ = cs[i]? := by
  unfold Blm at h; simp [World.cell?, h]
theorem Blm.frozen (h : Blm w g t cs fr) (i : Nat) (hi : i < fr.1) : w.frozen? ⟨g, i, none⟩ = false := by
  unfold Blm at h
  simp [World.frozen?, h]
  omega
theorem Blm.new (w : World) (t : TypeId) (cs : Array Value) (fr : Nat × Nat) : Blm (w.alloc (.cells cs t fr)) w.heap.size t cs fr := by
  unfold Blm
  show (w.heap.push _)[w.heap.size]? = _
  simp
theorem Blm.set_ (h : Blm w g t cs fr) (i : Nat) (u : Value) : Blm (w.setCell ⟨g, i, none⟩ u) g t (cs.setIfInBounds i u) fr := by
  unfold Blm at h ⊢
  simp [World.setCell, Array.getElem?_modify, h]
end

/-- The cells of a text of which the first k bytes are made small. -/
def Small (s : ByteArray) (k : Nat) (C : Array Value) : Prop := ∀ j (h : j < s.size), C[j]? = some (.int .u8 ((if j < k then lowB s[j] else s[j]).toNat : Int))
theorem Small.zero (s : ByteArray) (cap : Nat) : Small s 0 (bytesRow s cap) := fun j h => by
  rw [bytesRow_at s cap j h, if_neg (by omega)]
  rfl
theorem Small.lt {s : ByteArray} {k j : Nat} {C : Array Value} (h : Small s k C) (hj : j < s.size) : j < C.size := (Array.getElem?_eq_some_iff.1 (h j hj)).1
theorem Small.succ {s : ByteArray} {k : Nat} {C : Array Value} (h : Small s k C) (hk : k < s.size) : Small s (k + 1) (C.setIfInBounds k (.int .u8 ((lowB s[k]).toNat : Int))) := fun j hj => by
  have hlt := h.lt hj
  by_cases e : k = j
  · subst e
    rw [Array.getElem?_setIfInBounds_self_of_lt hlt, if_pos (by omega)]
  · rw [Array.getElem?_setIfInBounds_ne e, h j hj]
    by_cases h1 : j < k
    · rw [if_pos h1, if_pos (by omega)]
    · rw [if_neg h1, if_neg (by omega)]
theorem Small.back {s : ByteArray} {C : Array Value} (h : Small s s.size C) {W : World} {g : Nat} {fr : Nat × Nat} (hg : Blm W g 5 C fr) (cap : Nat) :
    (convert 96 9 (.slice (some ⟨g, 0, none⟩) s.size cap)).run Try.prog W = .ok (.string (lowS s)) W := by
  have := run_convert_bytes_back (P := Try.prog) W 96 9 5 ⟨g, 0, none⟩ cap (lowS s).data.toList Try.underlying96 Try.underlying5 Try.underlying9 (fun j hj => by
    have hj' : j < s.size := by
      have h2 : (lowS s).data.toList.length = (lowS s).size := by simp
      rw [lowS_size] at h2
      omega
    have e : (⟨g, 0, none⟩ : Addr).add j = ⟨g, j, none⟩ := by cases j <;> simp [Addr.add]
    rw [e, hg.cell, h j hj', if_pos hj']
    congr 3
    exact congrArg UInt8.toNat (lowS_at s j hj').symm)
  have h2 : (lowS s).data.toList.length = s.size := by
    have h3 : (lowS s).data.toList.length = (lowS s).size := by simp
    rw [h3, lowS_size]
  rw [h2] at this
  simpa using this

/-- The cells of the first k bytes, made small. -/
def smallL (s : ByteArray) (k : Nat) : List Value := (s.data.toList.take k).map fun b => .int .u8 ((lowB b).toNat : Int)
theorem smallL_succ {s : ByteArray} {k : Nat} (h : k < s.size) {x : Int} (hx : x = ((lowB s[k]).toNat : Int)) : smallL s (k + 1) = smallL s k ++ [.int .u8 x] := by
  unfold smallL
  rw [hx, List.take_add_one]
  have : s.data.toList[k]? = some s[k] := by
    rw [List.getElem?_eq_getElem (by simpa using h)]
    rfl
  rw [this]
  simp
theorem smallL_at {s : ByteArray} {j : Nat} (h : j < s.size) : (smallL s s.size)[j]? = some (.int .u8 ((lowB s[j]).toNat : Int)) := by
  unfold smallL
  rw [List.take_of_length_le (by simp), List.getElem?_map]
  have : s.data.toList[j]? = some s[j] := by
    rw [List.getElem?_eq_getElem (by simpa using h)]
    rfl
  rw [this]
  rfl
theorem small_back {s : ByteArray} {v : Value} {W : World} {base : Nat} (h : W.ownsRow base 5 1 v s.size (smallL s s.size)) :
    (convert 96 9 v).run Try.prog W = .ok (.string (lowS s)) W := by
  have hl : (lowS s).data.toList.length = s.size := by
    have h3 : (lowS s).data.toList.length = (lowS s).size := by simp
    rw [h3, lowS_size]
  have h' := h
  rcases h.2 with ⟨rfl, h0⟩ | ⟨g, cap, cur, rfl, _⟩
  · have e : lowS s = ByteArray.empty := by
      generalize lowS s = x at *
      cases x with | mk d => have : d = #[] := Array.eq_empty_of_size_eq_zero (by simpa using hl.trans h0); rw [this]; rfl
    rw [e]
    exact run_convert_bytes_nil (P := Try.prog) W 96 5 Try.underlying96 Try.underlying5 0 0 9 Try.underlying9
  · have := run_convert_bytes_back (P := Try.prog) W 96 9 5 ⟨g, 0, none⟩ cap (lowS s).data.toList Try.underlying96 Try.underlying5 Try.underlying9 (fun j hj => by
      have hj' : j < s.size := by omega
      have e : (⟨g, 0, none⟩ : Addr).add j = ⟨g, j, none⟩ := by cases j <;> simp [Addr.add]
      rw [e, h'.cellAt j (by omega), smallL_at hj']
      congr 3
      exact congrArg UInt8.toNat (lowS_at s j hj').symm)
    rw [hl] at this
    simpa using this

theorem Try.info5 : (Try.prog.info? 5).map (fun i => (i.zero, i.size, i.bytes)) = some (some (.int .u8 0), 1, 1) := by kernel_rfl

set_option maxHeartbeats 1600000 in
theorem refLowerS_any (s : ByteArray) (w : World) (hs : s.size ≤ 140737488351232) :
    Calls Try.prog 49 #[.string s] w fun e w' => e = .returned (.string (lowS s)) ∧ Below w.heap.size w w' := by
  obtain ⟨i0, hi, hz0, hz1, hz2⟩ := info_parts Try.info5
  go_enter Try.func49, Try.ntmps49
  go_wp2
  go_loopw [3, 4] (fun v i wr => ∃ k : Nat, k ≤ s.size ∧ i = .int .i64 k ∧ wr.ownsRow w.heap.size 5 1 v k (smallL s k) ∧ Below w.heap.size w wr) (fun _ i _ => s.size - (intOf i).toNat)
  case atStart => exact ⟨0, Nat.zero_le _, rfl, World.ownsRow_made w #[] 0 (Nat.le_refl _) (Nat.zero_le _) rfl, (Below.refl _ _).alloc (Nat.le_refl _) _⟩
  case round =>
    obtain ⟨k, hk, rfl, hown, hW⟩ := hrel
    have HO := Lib.hid hown
    have HW := Lib.hid hW
    clear hown hW
    by_cases hlt : k < s.size
    · have hb := s[k].toNat_lt
      by_cases hg : 65 ≤ s[k].toNat ∧ s[k].toNat ≤ 90
      · have g1 : (65 : Int) ≤ (s[k].toNat : Int) := by omega
        have g2 : (s[k].toNat : Int) ≤ 90 := by omega
        have HX := Lib.hid (smallL_succ (x := (s[k].toNat : Int) + 32) hlt (by
          unfold lowB
          rw [if_pos (by simpa using hg), UInt8.toNat_ofNat']
          omega))
        clear hg
        go_wp2_with (at_builtin; refine wpList_append_own _ rfl _ _ 96 rfl w.heap.size 5 i0 (.int .u8 0) 1 1 Try.underlying96 hi hz0 hz1 hz2 rfl (by decide) _ _ _ rfl (HO.out.alloc _) ⟨wr.heap.size, 0, none⟩ 1 1 [.int .u8 ((s[k].toNat : Int) + 32)] rfl rfl ?_ ?_ ?_ ?_ ?_ ?_)
        · intro j u hj
          match j, hj with
          | 0, hj => simp at hj; subst hj; simp [Addr.add]
        · intro u hu; simp at hu; subst hu; rfl
        · unfold maxLen; omega
        · omega
        · have := HW.out.size; simp; omega
        · intro v' w1 hown' hgrow _
          have hown2 : w1.ownsRow w.heap.size 5 1 v' (k + 1) (smallL s (k + 1)) := by rw [HX.out]; exact hown'
          have HO2 := Lib.hid hown2
          have HG := Lib.hid (Below.grown (HW.out.alloc (by have := HW.out.size; omega) _) hgrow (by have := HW.out.size; simp; omega) (fun g hg => (HO.out.lt g hg).1))
          clear hown2 hown' hgrow
          go_wp2
          go_roundw
          case rel => exact ⟨k + 1, by omega, by go_num, HO2.out, HG.out⟩
          case measure => simp [intOf]; omega
      · have HX := Lib.hid (smallL_succ (x := (s[k].toNat : Int)) hlt (by
          unfold lowB
          rw [if_neg (by simpa using hg)]))
        have hg2 : decide ((65 : Int) ≤ (s[k].toNat : Int)) = false ∨ decide ((65 : Int) ≤ (s[k].toNat : Int)) = true ∧ decide ((s[k].toNat : Int) ≤ 90) = false := by
          simp
          omega
        clear hg
        rcases hg2 with g1 | ⟨g1, g2⟩
        · go_wp2_with (at_builtin; refine wpList_append_own _ rfl _ _ 96 rfl w.heap.size 5 i0 (.int .u8 0) 1 1 Try.underlying96 hi hz0 hz1 hz2 rfl (by decide) _ _ _ rfl (HO.out.alloc _) ⟨wr.heap.size, 0, none⟩ 1 1 [.int .u8 ((s[k].toNat : Int))] rfl rfl ?_ ?_ ?_ ?_ ?_ ?_)
          · intro j u hj
            match j, hj with
            | 0, hj => simp at hj; subst hj; simp [Addr.add]
          · intro u hu; simp at hu; subst hu; rfl
          · unfold maxLen; omega
          · omega
          · have := HW.out.size; simp; omega
          · intro v' w1 hown' hgrow _
            have hown2 : w1.ownsRow w.heap.size 5 1 v' (k + 1) (smallL s (k + 1)) := by rw [HX.out]; exact hown'
            have HO2 := Lib.hid hown2
            have HG := Lib.hid (Below.grown (HW.out.alloc (by have := HW.out.size; omega) _) hgrow (by have := HW.out.size; simp; omega) (fun g hg => (HO.out.lt g hg).1))
            clear hown2 hown' hgrow
            go_wp2
            go_roundw
            case rel => exact ⟨k + 1, by omega, by go_num, HO2.out, HG.out⟩
            case measure => simp [intOf]; omega
        · go_wp2_with (at_builtin; refine wpList_append_own _ rfl _ _ 96 rfl w.heap.size 5 i0 (.int .u8 0) 1 1 Try.underlying96 hi hz0 hz1 hz2 rfl (by decide) _ _ _ rfl (HO.out.alloc _) ⟨wr.heap.size, 0, none⟩ 1 1 [.int .u8 ((s[k].toNat : Int))] rfl rfl ?_ ?_ ?_ ?_ ?_ ?_)
          · intro j u hj
            match j, hj with
            | 0, hj => simp at hj; subst hj; simp [Addr.add]
          · intro u hu; simp at hu; subst hu; rfl
          · unfold maxLen; omega
          · omega
          · have := HW.out.size; simp; omega
          · intro v' w1 hown' hgrow _
            have hown2 : w1.ownsRow w.heap.size 5 1 v' (k + 1) (smallL s (k + 1)) := by rw [HX.out]; exact hown'
            have HO2 := Lib.hid hown2
            have HG := Lib.hid (Below.grown (HW.out.alloc (by have := HW.out.size; omega) _) hgrow (by have := HW.out.size; simp; omega) (fun g hg => (HO.out.lt g hg).1))
            clear hown2 hown' hgrow
            go_wp2
            go_roundw
            case rel => exact ⟨k + 1, by omega, by go_num, HO2.out, HG.out⟩
            case measure => simp [intOf]; omega
    · obtain rfl : k = s.size := by omega
      have hback := small_back HO.out
      go_wp2
      go_ret
      exact ⟨rfl, HW.out⟩

theorem drew_more {w w' : World} (h : ∃ n, w' = w.drewN n) (m : Nat) : ∃ n, w'.drewN m = w.drewN n := by
  obtain ⟨n, rfl⟩ := h
  exact ⟨n + m, World.drewN_drewN _ _ _⟩

set_option maxHeartbeats 1600000 in
theorem same_any (a b : ByteArray) (w : World) (ha : a.size ≤ 9223372036854775807) (_hb : b.size ≤ 9223372036854775807) :
    Calls Try.prog 64 #[.string a, .string b] w fun e w' => e = .returned (.bool (sameB a b)) ∧ ∃ n, w' = w.drewN n := by
  by_cases hsz : a.size = b.size
  · have g0 : ((a.size : Int) != (b.size : Int)) = false := by simp [hsz]
    have HS := Lib.hid hsz
    clear hsz
    go_enter Try.func64, Try.ntmps64
    go_wp2
    go_loopw [13] (fun i wr => ∃ k : Nat, k ≤ a.size ∧ i = .int .i64 k ∧ (∀ j (h1 : j < a.size) (h2 : j < b.size), j < k → lowB a[j] = lowB b[j]) ∧ ∃ n, wr = w.drewN n) (fun i _ => a.size - (intOf i).toNat)
    case atStart => exact ⟨0, Nat.zero_le _, rfl, fun j _ _ h => absurd h (by omega), 0, rfl⟩
    case round =>
      obtain ⟨k, hk, rfl, hno, hw⟩ := hrel
      have HW := Lib.hid hw
      clear hw
      have HN := Lib.hid hno
      clear hno
      by_cases hlt : k < a.size
      · have hlt2 : k < b.size := by have := HS.out; omega
        by_cases he : lowB a[k] = lowB b[k]
        · have d1 : (((lowB a[k]).toNat : Int) != ((lowB b[k]).toNat : Int)) = false := by rw [he]; simp
          have HE := Lib.hid he
          clear he
          go_wp2
          go_quiet ((go_at_call 78; exact Calls.quiet_of_same ((lower1_any _ _).mono fun _ _ h => ⟨h.1, h.2.symm⟩)))
          go_wp2
          go_roundw
          case rel => exact ⟨k + 1, by omega, by go_num, fun j h1 h2 h => if e : j = k then by subst e; exact HE.out else HN.out j h1 h2 (by omega), drew_more HW.out _⟩
          case measure => simp [intOf]; omega
        · have d1 : (((lowB a[k]).toNat : Int) != ((lowB b[k]).toNat : Int)) = true := by
            rw [bne_iff_ne]
            intro h
            exact he (UInt8.toNat_inj.1 (by omega))
          have HE := Lib.hid (sameB_not hlt hlt2 he)
          clear he
          go_wp2
          go_quiet ((go_at_call 78; exact Calls.quiet_of_same ((lower1_any _ _).mono fun _ _ h => ⟨h.1, h.2.symm⟩)))
          go_wp2
          go_ret
          exact ⟨by rw [HE.out]; rfl, drew_more HW.out _⟩
      · obtain rfl : k = a.size := by omega
        have HE := Lib.hid (sameB_all HS.out fun j h1 h2 => HN.out j h1 h2 h1)
        go_wp2
        go_ret
        exact ⟨by rw [HE.out]; rfl, HW.out⟩
  · have g0 : ((a.size : Int) != (b.size : Int)) = true := by
      rw [bne_iff_ne]
      omega
    have HE := Lib.hid (sameB_size hsz)
    clear hsz
    go_enter Try.func64, Try.ntmps64
    go_wp2
    go_ret
    exact ⟨by rw [HE.out]; rfl, 0, rfl⟩

end Go.Proofs.Ytaolclpjlkdkjaa
