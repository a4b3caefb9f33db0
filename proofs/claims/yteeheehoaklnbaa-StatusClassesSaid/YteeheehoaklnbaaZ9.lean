/-
  What While does to a cursor where it is asked of class.Tab. Conditions as in Cursor.
  What While does to a cursor where it is asked of class.Digit. Conditions as in Cursor.
  What While does to a cursor where it is asked of status.isBlank. Conditions as in Cursor.
-/
import Derived.Test.YteeheehoaklnbaaZ2
import Derived.Test.YteeheehoaklnbaaZ6
import Derived.Test.YteeheehoaklnbaaZ3
import Derived.OneCell
import Derived.Test.YteeheehoaklnbaaZ7
namespace Go.Proofs.Yteeheehoaklnbaa
open Go.RowKit

abbrev fn_tab : Value := .func (.func 38) #[] #[]

set_option maxHeartbeats 1000000 in
theorem while1_tab (tb pb fb cb k j : Nat) (s : ByteArray) (w : World) (h : Cur w cb s k) (ht : w.heap[tb]? = some (.cells #[.int .i64 j] 3 (0, 0))) (hp : w.cell? ⟨pb, 0, none⟩ = some (cptr cb)) (hf : w.cell? ⟨fb, 0, none⟩ = some fn_tab)
    (hj : j ≤ s.size) (hs : s.size ≤ 9223372036854775807) (n1 : tb ≠ pb) (n2 : tb ≠ fb) (n3 : tb ≠ cb) :
    Calls Try.prog 52 #[.pointer (some ⟨tb, 0, none⟩), .pointer (some ⟨pb, 0, none⟩), .pointer (some ⟨fb, 0, none⟩)] w fun e w' => e = .returned (.tuple #[]) ∧ Mv w.heap.size [tb] w w' ∧ w'.heap[tb]? = some (.cells #[.int .i64 (scan tabB s j : Nat)] 3 (0, 0)) := by
  go_enter Try.func52, Try.ntmps52
  go_wp2
  have hc0 := h.c0
  have lt : tb < w.heap.size := lt_of_block ht
  have lp : pb < w.heap.size := World.block_lt_of_cell? w _ hp
  have lf : fb < w.heap.size := World.block_lt_of_cell? w _ hf
  have lc : cb < w.heap.size := h.lt
  go_loopw [3] (fun _ wr => ∃ i : Nat, j ≤ i ∧ i ≤ s.size ∧ scan tabB s i = scan tabB s j ∧ wr.heap[tb]? = some (.cells #[.int .i64 i] 3 (0, 0)) ∧ Mv w.heap.size [tb] w wr) (fun _ wr => s.size - cellNat wr tb)
  case atStart => exact ⟨j, by omega, hj, rfl, ht, Mv.refl _ _ _⟩
  case round =>
    obtain ⟨i, hi, hi2, hsc, hti, hm⟩ := hrel
    have d0 : wr.cell? ⟨tb, 0, none⟩ = some (.int .i64 i) := by simp [World.cell?, hti]
    have dz : wr.frozen? ⟨tb, 0, none⟩ = false := by simp [World.frozen?, hti]
    have d1 : wr.cell? ⟨pb, 0, none⟩ = some (cptr cb) := (hm.cell (p := ⟨pb, 0, none⟩) lp (by simpa using n1.symm)).trans hp
    have d2 : wr.cell? ⟨fb, 0, none⟩ = some fn_tab := (hm.cell (p := ⟨fb, 0, none⟩) lf (by simpa using n2.symm)).trans hf
    have d3 : wr.cell? ⟨cb, 0, none⟩ = some (.string s) := (hm.cell (p := ⟨cb, 0, none⟩) lc (by simpa using n3.symm)).trans hc0
    have HS := Lib.hid hsc
    have HT := Lib.hid hti
    have HM := Lib.hid hm
    clear hsc hti hm h ht hp hf hc0
    by_cases hlt : i < s.size
    · have e1 : decide (i < s.size) = true := by simpa using hlt
      have HL := fun W => tab_any s[i] W
      cases hb : tabB s[i]
      · have HF : Hid (scan tabB s i = i) := scan_stop hlt hb
        rw [hb] at HL
        have HL2 := Lib.hid HL
        clear HL hb
        go_wp2
        go_quiet ((go_at_call 38; exact Calls.quiet_of_same ((HL2.out _).mono fun _ _ h => ⟨h.1, h.2.symm⟩)))
        go_wp2
        go_end0
        refine ⟨rfl, HM.out.drewN _, ?_⟩
        rw [← HS.out, HF.out]
        exact HT.out
      · have HF : Hid (scan tabB s (i + 1) = scan tabB s i) := scan_step hlt hb
        rw [hb] at HL
        have HL2 := Lib.hid HL
        clear HL hb
        go_wp2
        go_quiet ((go_at_call 38; exact Calls.quiet_of_same ((HL2.out _).mono fun _ _ h => ⟨h.1, h.2.symm⟩)))
        go_wp2
        go_roundw
        case rel => exact ⟨i + 1, by omega, by omega, HF.out.trans HS.out, one_setCell HT.out, (HM.out.drewN _).setCell (.inl (by simp)) _⟩
        case measure => rw [cellNat_of HT.out]; refine Nat.lt_of_le_of_lt (Nat.le_of_eq (congrArg (s.size - ·) (cellNat_of (n := i + 1) (one_setCell HT.out)))) ?_; show s.size - (i + 1) < s.size - i; omega
    · obtain rfl : i = s.size := by omega
      have HF : Hid (scan tabB s s.size = s.size) := scan_end rfl
      go_wp2
      go_quiet (fail)
      go_wp2
      go_end0
      refine ⟨rfl, HM.out.drewN _, ?_⟩
      rw [← HS.out, HF.out]
      exact HT.out

theorem enter_while1_tab (a b c : Value) (w : World) : (callFunc 52 (#[] ++ #[a, b, c])).run Try.prog w = .ok (.enter 52 (#[] ++ #[a, b, c])) w := by simp [go_sem]

theorem catch_while1_tab (tb pb fb cb k : Nat) (s : ByteArray) (w : World) (h : Cur w cb s k) (ht : w.heap[tb]? = some (.cells #[.int .i64 k] 3 (0, 0))) (hp : w.cell? ⟨pb, 0, none⟩ = some (cptr cb)) (hf : w.cell? ⟨fb, 0, none⟩ = some fn_tab)
    (hk : k ≤ s.size) (hs : s.size ≤ 9223372036854775807) (n1 : tb ≠ pb) (n2 : tb ≠ fb) (n3 : tb ≠ cb) :
    Calls Try.prog 44 #[.func (.func 52) #[] #[.pointer (some ⟨tb, 0, none⟩), .pointer (some ⟨pb, 0, none⟩), .pointer (some ⟨fb, 0, none⟩)]] w fun e w' =>
      e = .returned (.tuple #[flt 0 0, .bool false]) ∧ Mv w.heap.size [tb] w w' ∧ w'.heap[tb]? = some (.cells #[.int .i64 (scan tabB s k : Nat)] 3 (0, 0)) := by
  have lt : tb < w.heap.size := lt_of_block ht
  refine catch_mv_returns 52 #[] #[.pointer (some ⟨tb, 0, none⟩), .pointer (some ⟨pb, 0, none⟩), .pointer (some ⟨fb, 0, none⟩)] w [tb] (fun W => W.heap[tb]? = some (.cells #[.int .i64 (scan tabB s k : Nat)] 3 (0, 0)))
    (one_lt' lt) (fun W1 W2 hb h1 => (hb.block tb lt).trans h1) (enter_while1_tab _ _ _) fun W hW => ?_
  refine (while1_tab tb pb fb cb k k s W (h.below hW h.lt) ((hW.block tb lt).trans ht) ((hW.cell (p := ⟨pb, 0, none⟩) (World.block_lt_of_cell? w _ hp)).trans hp) ((hW.cell (p := ⟨fb, 0, none⟩) (World.block_lt_of_cell? w _ hf)).trans hf) hk hs n1 n2 n3).mono ?_
  rintro e w' ⟨rfl, h1, h2⟩
  exact ⟨⟨_, rfl⟩, h1, h2⟩

set_option maxHeartbeats 1000000 in
theorem while_tab (cb k : Nat) (s : ByteArray) (w : World) (h : Cur w cb s k) (hk : k ≤ s.size) (hs : s.size ≤ 9223372036854775807) :
    Calls Try.prog 35 #[cptr cb, fn_tab] w fun e w' => e = .returned (.string (s.extract k (scan tabB s k))) ∧ Mv w.heap.size [cb] w w' ∧ Cur w' cb s (scan tabB s k) := by
  have hq := eq_fn_nil
  have hmf := make_func
  have c1 := h.c1
  have lc := h.lt
  have lc1 : cb < w.heap.size + 1 := by omega
  have lc2 : cb < w.heap.size + 1 + 1 := by omega
  have HC := Lib.hid h
  clear h
  go_enter Try.func35, Try.ntmps35
  go_wp2
  go_region
  have hW : Below w.heap.size w ((((w.alloc (.cells #[cptr cb] 41)).alloc (.cells #[fn_tab] 46)).alloc (.cells #[.int .i64 k] 3)).drew) :=
    ((((Below.refl _ _).alloc (Nat.le_refl _) _).alloc (by simp) _).alloc (by simp; omega) _).drew
  have hc3 := HC.out.below hW lc
  have ht3 : ((((w.alloc (.cells #[cptr cb] 41)).alloc (.cells #[fn_tab] 46)).alloc (.cells #[.int .i64 k] 3)).drew).heap[w.heap.size + 1 + 1]? = some (.cells #[.int .i64 k] 3 (0, 0)) := by
    have := Blk.new ((w.alloc (.cells #[cptr cb] 41)).alloc (.cells #[fn_tab] 46)) 3 #[.int .i64 k]
    have h0 : (((w.alloc (.cells #[cptr cb] 41)).alloc (.cells #[fn_tab] 46)).alloc (.cells #[.int .i64 k] 3)).heap[w.heap.size + 1 + 1]? = some (.cells #[.int .i64 k] 3 (0, 0)) := by simpa [Blk] using this
    exact h0
  go_wp2_with fail
  refine (catch_while1_tab (w.heap.size + 1 + 1) w.heap.size (w.heap.size + 1) cb k s _ hc3 ht3 (by simp [go_sem]) (by simp [go_sem]) hk hs (by omega) (by omega) (by omega)).mono ?_
  rintro e w1 ⟨rfl, hm, ht1⟩
  have hz := hm.size
  simp at hz
  have e0 : w1.cell? ⟨w.heap.size, 0, none⟩ = some (cptr cb) := by rw [hm.cell (by simp; omega) (by simp; omega)]; simp [go_sem]
  have e1 : w1.cell? ⟨w.heap.size + 1 + 1, 0, none⟩ = some (.int .i64 (scan tabB s k : Nat)) := cell_of_one ht1
  have hc4 : Cur w1 cb s k := hc3.mv hm (by simp; omega) (by simp; omega)
  have d1 := hc4.c1
  have z1 := hc4.frozen 1
  have hc5 : Cur (w1.setCell ⟨cb, 1, none⟩ (.int .i64 k)) cb s k := hc4.set k
  have HP := Lib.hid (passTo_any cb k (scan tabB s k) s _ hc5 (scan_ge _ _ _) (scan_le _ _ _ hk) hs)
  have HM := Lib.hid (hW.trans (hm.below (B' := w.heap.size) (by simp; omega) (by simp; omega)))
  have HC4 := Lib.hid hc4
  have ncb : (⟨w.heap.size, 0, none⟩ : Addr) ≠ ⟨cb, 1, none⟩ := by simp
  have ncb2 : (⟨w.heap.size + 1 + 1, 0, none⟩ : Addr) ≠ ⟨cb, 1, none⟩ := by simp
  clear hW hc3 ht3 hm ht1 hc4 hc5 hq hmf
  go_wp2_with (go_at_call 53; refine HP.out.mono ?_; rintro e w2 ⟨rfl, hw2⟩; have HW2 := Lib.hid hw2; clear hw2)
  go_ret
  have hset : Cur ((w1.setCell ⟨cb, 1, none⟩ (.int .i64 k)).setCell ⟨cb, 1, none⟩ (.int .i64 (scan tabB s k : Nat))) cb s (scan tabB s k) := (HC4.out.set k).set _
  refine ⟨rfl, ?_, ?_⟩
  · rw [HW2.out]
    exact ((Mv.of_below HM.out _).setCell (.inl (by simp)) _).setCell (.inl (by simp)) _
  · rw [HW2.out]
    exact hset

end Go.Proofs.Yteeheehoaklnbaa
namespace Go.Proofs.Yteeheehoaklnbaa
open Go.RowKit

abbrev fn_digit : Value := .func (.func 47) #[] #[]

set_option maxHeartbeats 1000000 in
theorem while1_digit (tb pb fb cb k j : Nat) (s : ByteArray) (w : World) (h : Cur w cb s k) (ht : w.heap[tb]? = some (.cells #[.int .i64 j] 3 (0, 0))) (hp : w.cell? ⟨pb, 0, none⟩ = some (cptr cb)) (hf : w.cell? ⟨fb, 0, none⟩ = some fn_digit)
    (hj : j ≤ s.size) (hs : s.size ≤ 9223372036854775807) (n1 : tb ≠ pb) (n2 : tb ≠ fb) (n3 : tb ≠ cb) :
    Calls Try.prog 52 #[.pointer (some ⟨tb, 0, none⟩), .pointer (some ⟨pb, 0, none⟩), .pointer (some ⟨fb, 0, none⟩)] w fun e w' => e = .returned (.tuple #[]) ∧ Mv w.heap.size [tb] w w' ∧ w'.heap[tb]? = some (.cells #[.int .i64 (scan digB s j : Nat)] 3 (0, 0)) := by
  go_enter Try.func52, Try.ntmps52
  go_wp2
  have hc0 := h.c0
  have lt : tb < w.heap.size := lt_of_block ht
  have lp : pb < w.heap.size := World.block_lt_of_cell? w _ hp
  have lf : fb < w.heap.size := World.block_lt_of_cell? w _ hf
  have lc : cb < w.heap.size := h.lt
  go_loopw [3] (fun _ wr => ∃ i : Nat, j ≤ i ∧ i ≤ s.size ∧ scan digB s i = scan digB s j ∧ wr.heap[tb]? = some (.cells #[.int .i64 i] 3 (0, 0)) ∧ Mv w.heap.size [tb] w wr) (fun _ wr => s.size - cellNat wr tb)
  case atStart => exact ⟨j, by omega, hj, rfl, ht, Mv.refl _ _ _⟩
  case round =>
    obtain ⟨i, hi, hi2, hsc, hti, hm⟩ := hrel
    have d0 : wr.cell? ⟨tb, 0, none⟩ = some (.int .i64 i) := by simp [World.cell?, hti]
    have dz : wr.frozen? ⟨tb, 0, none⟩ = false := by simp [World.frozen?, hti]
    have d1 : wr.cell? ⟨pb, 0, none⟩ = some (cptr cb) := (hm.cell (p := ⟨pb, 0, none⟩) lp (by simpa using n1.symm)).trans hp
    have d2 : wr.cell? ⟨fb, 0, none⟩ = some fn_digit := (hm.cell (p := ⟨fb, 0, none⟩) lf (by simpa using n2.symm)).trans hf
    have d3 : wr.cell? ⟨cb, 0, none⟩ = some (.string s) := (hm.cell (p := ⟨cb, 0, none⟩) lc (by simpa using n3.symm)).trans hc0
    have HS := Lib.hid hsc
    have HT := Lib.hid hti
    have HM := Lib.hid hm
    clear hsc hti hm h ht hp hf hc0
    by_cases hlt : i < s.size
    · have e1 : decide (i < s.size) = true := by simpa using hlt
      have HL := fun W => digit_any s[i] W
      cases hb : digB s[i]
      · have HF : Hid (scan digB s i = i) := scan_stop hlt hb
        rw [hb] at HL
        have HL2 := Lib.hid HL
        clear HL hb
        go_wp2
        go_quiet ((go_at_call 47; exact Calls.quiet_of_same ((HL2.out _).mono fun _ _ h => ⟨h.1, h.2.symm⟩)))
        go_wp2
        go_end0
        refine ⟨rfl, HM.out.drewN _, ?_⟩
        rw [← HS.out, HF.out]
        exact HT.out
      · have HF : Hid (scan digB s (i + 1) = scan digB s i) := scan_step hlt hb
        rw [hb] at HL
        have HL2 := Lib.hid HL
        clear HL hb
        go_wp2
        go_quiet ((go_at_call 47; exact Calls.quiet_of_same ((HL2.out _).mono fun _ _ h => ⟨h.1, h.2.symm⟩)))
        go_wp2
        go_roundw
        case rel => exact ⟨i + 1, by omega, by omega, HF.out.trans HS.out, one_setCell HT.out, (HM.out.drewN _).setCell (.inl (by simp)) _⟩
        case measure => rw [cellNat_of HT.out]; refine Nat.lt_of_le_of_lt (Nat.le_of_eq (congrArg (s.size - ·) (cellNat_of (n := i + 1) (one_setCell HT.out)))) ?_; show s.size - (i + 1) < s.size - i; omega
    · obtain rfl : i = s.size := by omega
      have HF : Hid (scan digB s s.size = s.size) := scan_end rfl
      go_wp2
      go_quiet (fail)
      go_wp2
      go_end0
      refine ⟨rfl, HM.out.drewN _, ?_⟩
      rw [← HS.out, HF.out]
      exact HT.out

theorem enter_while1_digit (a b c : Value) (w : World) : (callFunc 52 (#[] ++ #[a, b, c])).run Try.prog w = .ok (.enter 52 (#[] ++ #[a, b, c])) w := by simp [go_sem]

theorem catch_while1_digit (tb pb fb cb k : Nat) (s : ByteArray) (w : World) (h : Cur w cb s k) (ht : w.heap[tb]? = some (.cells #[.int .i64 k] 3 (0, 0))) (hp : w.cell? ⟨pb, 0, none⟩ = some (cptr cb)) (hf : w.cell? ⟨fb, 0, none⟩ = some fn_digit)
    (hk : k ≤ s.size) (hs : s.size ≤ 9223372036854775807) (n1 : tb ≠ pb) (n2 : tb ≠ fb) (n3 : tb ≠ cb) :
    Calls Try.prog 44 #[.func (.func 52) #[] #[.pointer (some ⟨tb, 0, none⟩), .pointer (some ⟨pb, 0, none⟩), .pointer (some ⟨fb, 0, none⟩)]] w fun e w' =>
      e = .returned (.tuple #[flt 0 0, .bool false]) ∧ Mv w.heap.size [tb] w w' ∧ w'.heap[tb]? = some (.cells #[.int .i64 (scan digB s k : Nat)] 3 (0, 0)) := by
  have lt : tb < w.heap.size := lt_of_block ht
  refine catch_mv_returns 52 #[] #[.pointer (some ⟨tb, 0, none⟩), .pointer (some ⟨pb, 0, none⟩), .pointer (some ⟨fb, 0, none⟩)] w [tb] (fun W => W.heap[tb]? = some (.cells #[.int .i64 (scan digB s k : Nat)] 3 (0, 0)))
    (one_lt' lt) (fun W1 W2 hb h1 => (hb.block tb lt).trans h1) (enter_while1_digit _ _ _) fun W hW => ?_
  refine (while1_digit tb pb fb cb k k s W (h.below hW h.lt) ((hW.block tb lt).trans ht) ((hW.cell (p := ⟨pb, 0, none⟩) (World.block_lt_of_cell? w _ hp)).trans hp) ((hW.cell (p := ⟨fb, 0, none⟩) (World.block_lt_of_cell? w _ hf)).trans hf) hk hs n1 n2 n3).mono ?_
  rintro e w' ⟨rfl, h1, h2⟩
  exact ⟨⟨_, rfl⟩, h1, h2⟩

set_option maxHeartbeats 1000000 in
theorem while_digit (cb k : Nat) (s : ByteArray) (w : World) (h : Cur w cb s k) (hk : k ≤ s.size) (hs : s.size ≤ 9223372036854775807) :
    Calls Try.prog 35 #[cptr cb, fn_digit] w fun e w' => e = .returned (.string (s.extract k (scan digB s k))) ∧ Mv w.heap.size [cb] w w' ∧ Cur w' cb s (scan digB s k) := by
  have hq := eq_fn_nil
  have hmf := make_func
  have c1 := h.c1
  have lc := h.lt
  have lc1 : cb < w.heap.size + 1 := by omega
  have lc2 : cb < w.heap.size + 1 + 1 := by omega
  have HC := Lib.hid h
  clear h
  go_enter Try.func35, Try.ntmps35
  go_wp2
  go_region
  have hW : Below w.heap.size w ((((w.alloc (.cells #[cptr cb] 41)).alloc (.cells #[fn_digit] 46)).alloc (.cells #[.int .i64 k] 3)).drew) :=
    ((((Below.refl _ _).alloc (Nat.le_refl _) _).alloc (by simp) _).alloc (by simp; omega) _).drew
  have hc3 := HC.out.below hW lc
  have ht3 : ((((w.alloc (.cells #[cptr cb] 41)).alloc (.cells #[fn_digit] 46)).alloc (.cells #[.int .i64 k] 3)).drew).heap[w.heap.size + 1 + 1]? = some (.cells #[.int .i64 k] 3 (0, 0)) := by
    have := Blk.new ((w.alloc (.cells #[cptr cb] 41)).alloc (.cells #[fn_digit] 46)) 3 #[.int .i64 k]
    have h0 : (((w.alloc (.cells #[cptr cb] 41)).alloc (.cells #[fn_digit] 46)).alloc (.cells #[.int .i64 k] 3)).heap[w.heap.size + 1 + 1]? = some (.cells #[.int .i64 k] 3 (0, 0)) := by simpa [Blk] using this
    exact h0
  go_wp2_with fail
  refine (catch_while1_digit (w.heap.size + 1 + 1) w.heap.size (w.heap.size + 1) cb k s _ hc3 ht3 (by simp [go_sem]) (by simp [go_sem]) hk hs (by omega) (by omega) (by omega)).mono ?_
  rintro e w1 ⟨rfl, hm, ht1⟩
  have hz := hm.size
  simp at hz
  have e0 : w1.cell? ⟨w.heap.size, 0, none⟩ = some (cptr cb) := by rw [hm.cell (by simp; omega) (by simp; omega)]; simp [go_sem]
  have e1 : w1.cell? ⟨w.heap.size + 1 + 1, 0, none⟩ = some (.int .i64 (scan digB s k : Nat)) := cell_of_one ht1
  have hc4 : Cur w1 cb s k := hc3.mv hm (by simp; omega) (by simp; omega)
  have d1 := hc4.c1
  have z1 := hc4.frozen 1
  have hc5 : Cur (w1.setCell ⟨cb, 1, none⟩ (.int .i64 k)) cb s k := hc4.set k
  have HP := Lib.hid (passTo_any cb k (scan digB s k) s _ hc5 (scan_ge _ _ _) (scan_le _ _ _ hk) hs)
  have HM := Lib.hid (hW.trans (hm.below (B' := w.heap.size) (by simp; omega) (by simp; omega)))
  have HC4 := Lib.hid hc4
  have ncb : (⟨w.heap.size, 0, none⟩ : Addr) ≠ ⟨cb, 1, none⟩ := by simp
  have ncb2 : (⟨w.heap.size + 1 + 1, 0, none⟩ : Addr) ≠ ⟨cb, 1, none⟩ := by simp
  clear hW hc3 ht3 hm ht1 hc4 hc5 hq hmf
  go_wp2_with (go_at_call 53; refine HP.out.mono ?_; rintro e w2 ⟨rfl, hw2⟩; have HW2 := Lib.hid hw2; clear hw2)
  go_ret
  have hset : Cur ((w1.setCell ⟨cb, 1, none⟩ (.int .i64 k)).setCell ⟨cb, 1, none⟩ (.int .i64 (scan digB s k : Nat))) cb s (scan digB s k) := (HC4.out.set k).set _
  refine ⟨rfl, ?_, ?_⟩
  · rw [HW2.out]
    exact ((Mv.of_below HM.out _).setCell (.inl (by simp)) _).setCell (.inl (by simp)) _
  · rw [HW2.out]
    exact hset

end Go.Proofs.Yteeheehoaklnbaa
namespace Go.Proofs.Yteeheehoaklnbaa
open Go.RowKit

abbrev fn_isBlank : Value := .func (.func 36) #[] #[]

set_option maxHeartbeats 1000000 in
theorem while1_isBlank (tb pb fb cb k j : Nat) (s : ByteArray) (w : World) (h : Cur w cb s k) (ht : w.heap[tb]? = some (.cells #[.int .i64 j] 3 (0, 0))) (hp : w.cell? ⟨pb, 0, none⟩ = some (cptr cb)) (hf : w.cell? ⟨fb, 0, none⟩ = some fn_isBlank)
    (hj : j ≤ s.size) (hs : s.size ≤ 9223372036854775807) (n1 : tb ≠ pb) (n2 : tb ≠ fb) (n3 : tb ≠ cb) :
    Calls Try.prog 52 #[.pointer (some ⟨tb, 0, none⟩), .pointer (some ⟨pb, 0, none⟩), .pointer (some ⟨fb, 0, none⟩)] w fun e w' => e = .returned (.tuple #[]) ∧ Mv w.heap.size [tb] w w' ∧ w'.heap[tb]? = some (.cells #[.int .i64 (scan blaB s j : Nat)] 3 (0, 0)) := by
  go_enter Try.func52, Try.ntmps52
  go_wp2
  have hc0 := h.c0
  have lt : tb < w.heap.size := lt_of_block ht
  have lp : pb < w.heap.size := World.block_lt_of_cell? w _ hp
  have lf : fb < w.heap.size := World.block_lt_of_cell? w _ hf
  have lc : cb < w.heap.size := h.lt
  go_loopw [3] (fun _ wr => ∃ i : Nat, j ≤ i ∧ i ≤ s.size ∧ scan blaB s i = scan blaB s j ∧ wr.heap[tb]? = some (.cells #[.int .i64 i] 3 (0, 0)) ∧ Mv w.heap.size [tb] w wr) (fun _ wr => s.size - cellNat wr tb)
  case atStart => exact ⟨j, by omega, hj, rfl, ht, Mv.refl _ _ _⟩
  case round =>
    obtain ⟨i, hi, hi2, hsc, hti, hm⟩ := hrel
    have d0 : wr.cell? ⟨tb, 0, none⟩ = some (.int .i64 i) := by simp [World.cell?, hti]
    have dz : wr.frozen? ⟨tb, 0, none⟩ = false := by simp [World.frozen?, hti]
    have d1 : wr.cell? ⟨pb, 0, none⟩ = some (cptr cb) := (hm.cell (p := ⟨pb, 0, none⟩) lp (by simpa using n1.symm)).trans hp
    have d2 : wr.cell? ⟨fb, 0, none⟩ = some fn_isBlank := (hm.cell (p := ⟨fb, 0, none⟩) lf (by simpa using n2.symm)).trans hf
    have d3 : wr.cell? ⟨cb, 0, none⟩ = some (.string s) := (hm.cell (p := ⟨cb, 0, none⟩) lc (by simpa using n3.symm)).trans hc0
    have HS := Lib.hid hsc
    have HT := Lib.hid hti
    have HM := Lib.hid hm
    clear hsc hti hm h ht hp hf hc0
    by_cases hlt : i < s.size
    · have e1 : decide (i < s.size) = true := by simpa using hlt
      have HL := fun W => isBlank_any s[i] W
      cases hb : blaB s[i]
      · have HF : Hid (scan blaB s i = i) := scan_stop hlt hb
        rw [hb] at HL
        have HL2 := Lib.hid HL
        clear HL hb
        go_wp2
        go_quiet ((go_at_call 36; exact Calls.quiet_of_same ((HL2.out _).mono fun _ _ h => ⟨h.1, h.2.symm⟩)))
        go_wp2
        go_end0
        refine ⟨rfl, HM.out.drewN _, ?_⟩
        rw [← HS.out, HF.out]
        exact HT.out
      · have HF : Hid (scan blaB s (i + 1) = scan blaB s i) := scan_step hlt hb
        rw [hb] at HL
        have HL2 := Lib.hid HL
        clear HL hb
        go_wp2
        go_quiet ((go_at_call 36; exact Calls.quiet_of_same ((HL2.out _).mono fun _ _ h => ⟨h.1, h.2.symm⟩)))
        go_wp2
        go_roundw
        case rel => exact ⟨i + 1, by omega, by omega, HF.out.trans HS.out, one_setCell HT.out, (HM.out.drewN _).setCell (.inl (by simp)) _⟩
        case measure => rw [cellNat_of HT.out]; refine Nat.lt_of_le_of_lt (Nat.le_of_eq (congrArg (s.size - ·) (cellNat_of (n := i + 1) (one_setCell HT.out)))) ?_; show s.size - (i + 1) < s.size - i; omega
    · obtain rfl : i = s.size := by omega
      have HF : Hid (scan blaB s s.size = s.size) := scan_end rfl
      go_wp2
      go_quiet (fail)
      go_wp2
      go_end0
      refine ⟨rfl, HM.out.drewN _, ?_⟩
      rw [← HS.out, HF.out]
      exact HT.out

theorem enter_while1_isBlank (a b c : Value) (w : World) : (callFunc 52 (#[] ++ #[a, b, c])).run Try.prog w = .ok (.enter 52 (#[] ++ #[a, b, c])) w := by simp [go_sem]

theorem catch_while1_isBlank (tb pb fb cb k : Nat) (s : ByteArray) (w : World) (h : Cur w cb s k) (ht : w.heap[tb]? = some (.cells #[.int .i64 k] 3 (0, 0))) (hp : w.cell? ⟨pb, 0, none⟩ = some (cptr cb)) (hf : w.cell? ⟨fb, 0, none⟩ = some fn_isBlank)
    (hk : k ≤ s.size) (hs : s.size ≤ 9223372036854775807) (n1 : tb ≠ pb) (n2 : tb ≠ fb) (n3 : tb ≠ cb) :
    Calls Try.prog 44 #[.func (.func 52) #[] #[.pointer (some ⟨tb, 0, none⟩), .pointer (some ⟨pb, 0, none⟩), .pointer (some ⟨fb, 0, none⟩)]] w fun e w' =>
      e = .returned (.tuple #[flt 0 0, .bool false]) ∧ Mv w.heap.size [tb] w w' ∧ w'.heap[tb]? = some (.cells #[.int .i64 (scan blaB s k : Nat)] 3 (0, 0)) := by
  have lt : tb < w.heap.size := lt_of_block ht
  refine catch_mv_returns 52 #[] #[.pointer (some ⟨tb, 0, none⟩), .pointer (some ⟨pb, 0, none⟩), .pointer (some ⟨fb, 0, none⟩)] w [tb] (fun W => W.heap[tb]? = some (.cells #[.int .i64 (scan blaB s k : Nat)] 3 (0, 0)))
    (one_lt' lt) (fun W1 W2 hb h1 => (hb.block tb lt).trans h1) (enter_while1_isBlank _ _ _) fun W hW => ?_
  refine (while1_isBlank tb pb fb cb k k s W (h.below hW h.lt) ((hW.block tb lt).trans ht) ((hW.cell (p := ⟨pb, 0, none⟩) (World.block_lt_of_cell? w _ hp)).trans hp) ((hW.cell (p := ⟨fb, 0, none⟩) (World.block_lt_of_cell? w _ hf)).trans hf) hk hs n1 n2 n3).mono ?_
  rintro e w' ⟨rfl, h1, h2⟩
  exact ⟨⟨_, rfl⟩, h1, h2⟩

set_option maxHeartbeats 1000000 in
theorem while_isBlank (cb k : Nat) (s : ByteArray) (w : World) (h : Cur w cb s k) (hk : k ≤ s.size) (hs : s.size ≤ 9223372036854775807) :
    Calls Try.prog 35 #[cptr cb, fn_isBlank] w fun e w' => e = .returned (.string (s.extract k (scan blaB s k))) ∧ Mv w.heap.size [cb] w w' ∧ Cur w' cb s (scan blaB s k) := by
  have hq := eq_fn_nil
  have hmf := make_func
  have c1 := h.c1
  have lc := h.lt
  have lc1 : cb < w.heap.size + 1 := by omega
  have lc2 : cb < w.heap.size + 1 + 1 := by omega
  have HC := Lib.hid h
  clear h
  go_enter Try.func35, Try.ntmps35
  go_wp2
  go_region
  have hW : Below w.heap.size w ((((w.alloc (.cells #[cptr cb] 41)).alloc (.cells #[fn_isBlank] 46)).alloc (.cells #[.int .i64 k] 3)).drew) :=
    ((((Below.refl _ _).alloc (Nat.le_refl _) _).alloc (by simp) _).alloc (by simp; omega) _).drew
  have hc3 := HC.out.below hW lc
  have ht3 : ((((w.alloc (.cells #[cptr cb] 41)).alloc (.cells #[fn_isBlank] 46)).alloc (.cells #[.int .i64 k] 3)).drew).heap[w.heap.size + 1 + 1]? = some (.cells #[.int .i64 k] 3 (0, 0)) := by
    have := Blk.new ((w.alloc (.cells #[cptr cb] 41)).alloc (.cells #[fn_isBlank] 46)) 3 #[.int .i64 k]
    have h0 : (((w.alloc (.cells #[cptr cb] 41)).alloc (.cells #[fn_isBlank] 46)).alloc (.cells #[.int .i64 k] 3)).heap[w.heap.size + 1 + 1]? = some (.cells #[.int .i64 k] 3 (0, 0)) := by simpa [Blk] using this
    exact h0
  go_wp2_with fail
  refine (catch_while1_isBlank (w.heap.size + 1 + 1) w.heap.size (w.heap.size + 1) cb k s _ hc3 ht3 (by simp [go_sem]) (by simp [go_sem]) hk hs (by omega) (by omega) (by omega)).mono ?_
  rintro e w1 ⟨rfl, hm, ht1⟩
  have hz := hm.size
  simp at hz
  have e0 : w1.cell? ⟨w.heap.size, 0, none⟩ = some (cptr cb) := by rw [hm.cell (by simp; omega) (by simp; omega)]; simp [go_sem]
  have e1 : w1.cell? ⟨w.heap.size + 1 + 1, 0, none⟩ = some (.int .i64 (scan blaB s k : Nat)) := cell_of_one ht1
  have hc4 : Cur w1 cb s k := hc3.mv hm (by simp; omega) (by simp; omega)
  have d1 := hc4.c1
  have z1 := hc4.frozen 1
  have hc5 : Cur (w1.setCell ⟨cb, 1, none⟩ (.int .i64 k)) cb s k := hc4.set k
  have HP := Lib.hid (passTo_any cb k (scan blaB s k) s _ hc5 (scan_ge _ _ _) (scan_le _ _ _ hk) hs)
  have HM := Lib.hid (hW.trans (hm.below (B' := w.heap.size) (by simp; omega) (by simp; omega)))
  have HC4 := Lib.hid hc4
  have ncb : (⟨w.heap.size, 0, none⟩ : Addr) ≠ ⟨cb, 1, none⟩ := by simp
  have ncb2 : (⟨w.heap.size + 1 + 1, 0, none⟩ : Addr) ≠ ⟨cb, 1, none⟩ := by simp
  clear hW hc3 ht3 hm ht1 hc4 hc5 hq hmf
  go_wp2_with (go_at_call 53; refine HP.out.mono ?_; rintro e w2 ⟨rfl, hw2⟩; have HW2 := Lib.hid hw2; clear hw2)
  go_ret
  have hset : Cur ((w1.setCell ⟨cb, 1, none⟩ (.int .i64 k)).setCell ⟨cb, 1, none⟩ (.int .i64 (scan blaB s k : Nat))) cb s (scan blaB s k) := (HC4.out.set k).set _
  refine ⟨rfl, ?_, ?_⟩
  · rw [HW2.out]
    exact ((Mv.of_below HM.out _).setCell (.inl (by simp)) _).setCell (.inl (by simp)) _
  · rw [HW2.out]
    exact hset

end Go.Proofs.Yteeheehoaklnbaa
