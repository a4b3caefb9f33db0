/-
  What While does to a cursor where it is asked of class.White. Conditions as in Cursor.
  What takeValue, takeParam and takeParams answer of a cursor. Condition: the text is as long as a slice of bytes can be.
  What takeParams answers of a cursor: a slice of new parameters. Condition: the text is as long as a mebibyte.
-/
import Derived.Test.YtighgoefmccagaaGreatZ3
import Derived.Test.YtighgoefmccagaaGreatZ6
import Derived.Test.YtighgoefmccagaaGreatZ4
import Derived.OneCell
import Derived.Test.YtighgoefmccagaaGreatZ7
import Derived.Laws.OwnMore
import Derived.Laws.AppendOwn
namespace Go.Proofs.YtighgoefmccagaaGreat
open Go.RowKit

abbrev fn_white : Value := .func (.func 86) #[] #[]

set_option maxHeartbeats 1000000 in
theorem while1_white (tb pb fb cb k j : Nat) (s : ByteArray) (w : World) (h : Cur w cb s k) (ht : w.heap[tb]? = some (.cells #[.int .i64 j] 3 (0, 0))) (hp : w.cell? ⟨pb, 0, none⟩ = some (cptr cb)) (hf : w.cell? ⟨fb, 0, none⟩ = some fn_white)
    (hj : j ≤ s.size) (hs : s.size ≤ 9223372036854775807) (n1 : tb ≠ pb) (n2 : tb ≠ fb) (n3 : tb ≠ cb) :
    Calls Tryz.prog 101 #[.pointer (some ⟨tb, 0, none⟩), .pointer (some ⟨pb, 0, none⟩), .pointer (some ⟨fb, 0, none⟩)] w fun e w' => e = .returned (.tuple #[]) ∧ Mv w.heap.size [tb] w w' ∧ w'.heap[tb]? = some (.cells #[.int .i64 (scan whiB s j : Nat)] 3 (0, 0)) := by
  go_enter Tryz.func101, Tryz.ntmps101
  go_wp2
  have hc0 := h.c0
  have lt : tb < w.heap.size := lt_of_block ht
  have lp : pb < w.heap.size := World.block_lt_of_cell? w _ hp
  have lf : fb < w.heap.size := World.block_lt_of_cell? w _ hf
  have lc : cb < w.heap.size := h.lt
  go_loopw [3] (fun _ wr => ∃ i : Nat, j ≤ i ∧ i ≤ s.size ∧ scan whiB s i = scan whiB s j ∧ wr.heap[tb]? = some (.cells #[.int .i64 i] 3 (0, 0)) ∧ Mv w.heap.size [tb] w wr) (fun _ wr => s.size - cellNat wr tb)
  case atStart => exact ⟨j, by omega, hj, rfl, ht, Mv.refl _ _ _⟩
  case round =>
    obtain ⟨i, hi, hi2, hsc, hti, hm⟩ := hrel
    have d0 : wr.cell? ⟨tb, 0, none⟩ = some (.int .i64 i) := by simp [World.cell?, hti]
    have dz : wr.frozen? ⟨tb, 0, none⟩ = false := by simp [World.frozen?, hti]
    have d1 : wr.cell? ⟨pb, 0, none⟩ = some (cptr cb) := (hm.cell (p := ⟨pb, 0, none⟩) lp (by simpa using n1.symm)).trans hp
    have d2 : wr.cell? ⟨fb, 0, none⟩ = some fn_white := (hm.cell (p := ⟨fb, 0, none⟩) lf (by simpa using n2.symm)).trans hf
    have d3 : wr.cell? ⟨cb, 0, none⟩ = some (.string s) := (hm.cell (p := ⟨cb, 0, none⟩) lc (by simpa using n3.symm)).trans hc0
    have HS := Lib.hid hsc
    have HT := Lib.hid hti
    have HM := Lib.hid hm
    clear hsc hti hm h ht hp hf hc0
    by_cases hlt : i < s.size
    · have e1 : decide (i < s.size) = true := by simpa using hlt
      have HL := fun W => white_any s[i] W
      cases hb : whiB s[i]
      · have HF : Hid (scan whiB s i = i) := scan_stop hlt hb
        rw [hb] at HL
        have HL2 := Lib.hid HL
        clear HL hb
        go_wp2
        go_quiet ((go_at_call 86; exact Calls.quiet_of_same ((HL2.out _).mono fun _ _ h => ⟨h.1, h.2.symm⟩)))
        go_wp2
        go_end0
        refine ⟨rfl, HM.out.drewN _, ?_⟩
        rw [← HS.out, HF.out]
        exact HT.out
      · have HF : Hid (scan whiB s (i + 1) = scan whiB s i) := scan_step hlt hb
        rw [hb] at HL
        have HL2 := Lib.hid HL
        clear HL hb
        go_wp2
        go_quiet ((go_at_call 86; exact Calls.quiet_of_same ((HL2.out _).mono fun _ _ h => ⟨h.1, h.2.symm⟩)))
        go_wp2
        go_roundw
        case rel => exact ⟨i + 1, by omega, by omega, HF.out.trans HS.out, one_setCell HT.out, (HM.out.drewN _).setCell (.inl (by simp)) _⟩
        case measure => rw [cellNat_of HT.out]; refine Nat.lt_of_le_of_lt (Nat.le_of_eq (congrArg (s.size - ·) (cellNat_of (n := i + 1) (one_setCell HT.out)))) ?_; show s.size - (i + 1) < s.size - i; omega
    · obtain rfl : i = s.size := by omega
      have HF : Hid (scan whiB s s.size = s.size) := scan_end rfl
      go_wp2
      go_quiet (fail)
      go_wp2
      go_end0
      refine ⟨rfl, HM.out.drewN _, ?_⟩
      rw [← HS.out, HF.out]
      exact HT.out

theorem enter_while1_white (a b c : Value) (w : World) : (callFunc 101 (#[] ++ #[a, b, c])).run Tryz.prog w = .ok (.enter 101 (#[] ++ #[a, b, c])) w := by simp [go_sem]

theorem catch_while1_white (tb pb fb cb k : Nat) (s : ByteArray) (w : World) (h : Cur w cb s k) (ht : w.heap[tb]? = some (.cells #[.int .i64 k] 3 (0, 0))) (hp : w.cell? ⟨pb, 0, none⟩ = some (cptr cb)) (hf : w.cell? ⟨fb, 0, none⟩ = some fn_white)
    (hk : k ≤ s.size) (hs : s.size ≤ 9223372036854775807) (n1 : tb ≠ pb) (n2 : tb ≠ fb) (n3 : tb ≠ cb) :
    Calls Tryz.prog 100 #[.func (.func 101) #[] #[.pointer (some ⟨tb, 0, none⟩), .pointer (some ⟨pb, 0, none⟩), .pointer (some ⟨fb, 0, none⟩)]] w fun e w' =>
      e = .returned (.tuple #[flt 0 0, .bool false]) ∧ Mv w.heap.size [tb] w w' ∧ w'.heap[tb]? = some (.cells #[.int .i64 (scan whiB s k : Nat)] 3 (0, 0)) := by
  have lt : tb < w.heap.size := lt_of_block ht
  refine catch_mv_returns 101 #[] #[.pointer (some ⟨tb, 0, none⟩), .pointer (some ⟨pb, 0, none⟩), .pointer (some ⟨fb, 0, none⟩)] w [tb] (fun W => W.heap[tb]? = some (.cells #[.int .i64 (scan whiB s k : Nat)] 3 (0, 0)))
    (one_lt' lt) (fun W1 W2 hb h1 => (hb.block tb lt).trans h1) (enter_while1_white _ _ _) fun W hW => ?_
  refine (while1_white tb pb fb cb k k s W (h.below hW h.lt) ((hW.block tb lt).trans ht) ((hW.cell (p := ⟨pb, 0, none⟩) (World.block_lt_of_cell? w _ hp)).trans hp) ((hW.cell (p := ⟨fb, 0, none⟩) (World.block_lt_of_cell? w _ hf)).trans hf) hk hs n1 n2 n3).mono ?_
  rintro e w' ⟨rfl, h1, h2⟩
  exact ⟨⟨_, rfl⟩, h1, h2⟩

set_option maxHeartbeats 1000000 in
theorem while_white (cb k : Nat) (s : ByteArray) (w : World) (h : Cur w cb s k) (hk : k ≤ s.size) (hs : s.size ≤ 9223372036854775807) :
    Calls Tryz.prog 73 #[cptr cb, fn_white] w fun e w' => e = .returned (.string (s.extract k (scan whiB s k))) ∧ Mv w.heap.size [cb] w w' ∧ Cur w' cb s (scan whiB s k) := by
  have hq := eq_fn_nil
  have hmf := make_func
  have c1 := h.c1
  have lc := h.lt
  have lc1 : cb < w.heap.size + 1 := by omega
  have lc2 : cb < w.heap.size + 1 + 1 := by omega
  have HC := Lib.hid h
  clear h
  go_enter Tryz.func73, Tryz.ntmps73
  go_wp2
  go_region
  have hW : Below w.heap.size w ((((w.alloc (.cells #[cptr cb] 82)).alloc (.cells #[fn_white] 86)).alloc (.cells #[.int .i64 k] 3)).drew) :=
    ((((Below.refl _ _).alloc (Nat.le_refl _) _).alloc (by simp) _).alloc (by simp; omega) _).drew
  have hc3 := HC.out.below hW lc
  have ht3 : ((((w.alloc (.cells #[cptr cb] 82)).alloc (.cells #[fn_white] 86)).alloc (.cells #[.int .i64 k] 3)).drew).heap[w.heap.size + 1 + 1]? = some (.cells #[.int .i64 k] 3 (0, 0)) := by
    have := Blk.new ((w.alloc (.cells #[cptr cb] 82)).alloc (.cells #[fn_white] 86)) 3 #[.int .i64 k]
    have h0 : (((w.alloc (.cells #[cptr cb] 82)).alloc (.cells #[fn_white] 86)).alloc (.cells #[.int .i64 k] 3)).heap[w.heap.size + 1 + 1]? = some (.cells #[.int .i64 k] 3 (0, 0)) := by simpa [Blk] using this
    exact h0
  go_wp2_with fail
  refine (catch_while1_white (w.heap.size + 1 + 1) w.heap.size (w.heap.size + 1) cb k s _ hc3 ht3 (by simp [go_sem]) (by simp [go_sem]) hk hs (by omega) (by omega) (by omega)).mono ?_
  rintro e w1 ⟨rfl, hm, ht1⟩
  have hz := hm.size
  simp at hz
  have e0 : w1.cell? ⟨w.heap.size, 0, none⟩ = some (cptr cb) := by rw [hm.cell (by simp; omega) (by simp; omega)]; simp [go_sem]
  have e1 : w1.cell? ⟨w.heap.size + 1 + 1, 0, none⟩ = some (.int .i64 (scan whiB s k : Nat)) := cell_of_one ht1
  have hc4 : Cur w1 cb s k := hc3.mv hm (by simp; omega) (by simp; omega)
  have d1 := hc4.c1
  have z1 := hc4.frozen 1
  have hc5 : Cur (w1.setCell ⟨cb, 1, none⟩ (.int .i64 k)) cb s k := hc4.set k
  have HP := Lib.hid (passTo_any cb k (scan whiB s k) s _ hc5 (scan_ge _ _ _) (scan_le _ _ _ hk) hs)
  have HM := Lib.hid (hW.trans (hm.below (B' := w.heap.size) (by simp; omega) (by simp; omega)))
  have HC4 := Lib.hid hc4
  have ncb : (⟨w.heap.size, 0, none⟩ : Addr) ≠ ⟨cb, 1, none⟩ := by simp
  have ncb2 : (⟨w.heap.size + 1 + 1, 0, none⟩ : Addr) ≠ ⟨cb, 1, none⟩ := by simp
  clear hW hc3 ht3 hm ht1 hc4 hc5 hq hmf
  go_wp2_with (go_at_call 88; refine HP.out.mono ?_; rintro e w2 ⟨rfl, hw2⟩; have HW2 := Lib.hid hw2; clear hw2)
  go_ret
  have hset : Cur ((w1.setCell ⟨cb, 1, none⟩ (.int .i64 k)).setCell ⟨cb, 1, none⟩ (.int .i64 (scan whiB s k : Nat))) cb s (scan whiB s k) := (HC4.out.set k).set _
  refine ⟨rfl, ?_, ?_⟩
  · rw [HW2.out]
    exact ((Mv.of_below HM.out _).setCell (.inl (by simp)) _).setCell (.inl (by simp)) _
  · rw [HW2.out]
    exact hset

end Go.Proofs.YtighgoefmccagaaGreat
namespace Go.Proofs.YtighgoefmccagaaGreat
open Go.RowKit Go.Maps

/-- What takeValue tells. -/
def valStr (s : ByteArray) (j : Nat) : ByteArray := if isAt s j 34 then ⟨(quoS s (j + 1)).1.toArray⟩ else valRaw s j
def valOk (s : ByteArray) (j : Nat) : Bool := isAt s j 34 || !((valRaw s j).toList == [])
theorem valOf_eq (s : ByteArray) (j : Nat) : valOf s j = if valOk s j then some (valStr s j) else none := by
  unfold valOf valOk valStr
  cases isAt s j 34
  · cases (valRaw s j).toList == [] <;> simp
  · simp
theorem cutP_le (p : UInt8 → Bool) (s : ByteArray) : (cutP p s).size ≤ s.size := by
  rw [cutP_size]; exact backN_le _ _ _
theorem quoS_size {s : ByteArray} {k : Nat} (h : k ≤ s.size) : (⟨(quoS s k).1.toArray⟩ : ByteArray).size ≤ s.size := by
  have h1 := quoS_len s k
  have h2 := quoS_le h
  show (quoS s k).1.toArray.size ≤ _
  simp
  omega
theorem valRaw_size (s : ByteArray) (j : Nat) : (valRaw s j).size ≤ s.size := by
  unfold valRaw
  have := cutP_le whiB (s.extract j (scan (stp sSe) s j))
  have h2 : (s.extract j (scan (stp sSe) s j)).size ≤ s.size := by simp; omega
  omega
theorem valStr_size {s : ByteArray} {j : Nat} (_h : j ≤ s.size) : (valStr s j).size ≤ s.size := by
  unfold valStr
  split
  · rename_i h2
    exact quoS_size (by have := isAt_lt h2; omega)
  · exact valRaw_size s j
theorem nmOf_size (s : ByteArray) (k : Nat) : (nmOf s k).size ≤ s.size := by
  unfold nmOf
  rw [lowS_size]
  simp
  omega

theorem peek_is (cb k : Nat) (s : ByteArray) (c : Nat) (hk : k ≤ s.size) (hs : s.size ≤ 9223372036854775807) (h : isAt s k c = false) (hc : c ≠ 0) :
    ∃ (b : Int) (o : Bool), (b == (c : Int)) = false ∧ Hid (∀ W, Cur W cb s k → Calls Tryz.prog 76 #[cptr cb, .int .i64 0] W fun e w' => e = .returned (.tuple #[.int .u8 b, .bool o]) ∧ ∃ m, w' = W.drewN m) := by
  by_cases h2 : k < s.size
  · rw [isAt_yes h2] at h
    have h3 : s[k].toNat ≠ c := by simpa using h
    exact ⟨s[k].toNat, true, by simp; omega, fun W hW => peek_ok cb k 0 s W hW hs (by omega)⟩
  · exact ⟨0, false, by simp; omega, fun W hW => peek_far cb k s 0 W hW hk hs (by omega) (by omega)⟩

set_option maxHeartbeats 1000000 in
theorem takeValue_any (cb k : Nat) (s : ByteArray) (w : World) (h : Cur w cb s k) (hk : k ≤ s.size) (hs : s.size ≤ 140737488355328) :
    Calls Tryz.prog 117 #[cptr cb] w fun e w' => e = .returned (.tuple #[.string (valStr s k), .bool (valOk s k)]) ∧ Mv w.heap.size [cb] w w' ∧ Cur w' cb s (valTo s k) := by
  have hs' : s.size ≤ 9223372036854775807 := by omega
  have HC := Lib.hid h
  cases hq : isAt s k 34
  · obtain ⟨b, o, hb, HP⟩ := peek_is cb k s 34 hk hs' hq (by omega)
    have hb' : (b == 34) = false := hb
    have HU := Lib.hid (fun W (hW : Cur W cb s k) => until_any cb k s sSe W hW hk hs' (by show 1 ≤ _; omega))
    have HK := Lib.hid (fun W => mcut_any (s.extract k (scan (stp sSe) s k)) W (by simp; omega))
    have e1 : valStr s k = valRaw s k := by unfold valStr; rw [hq]; rfl
    have e2 : valOk s k = !((valRaw s k).toList == []) := by unfold valOk; rw [hq]; rfl
    have e3 : valTo s k = scan (stp sSe) s k := by unfold valTo; rw [hq]; rfl
    have e4 : cutP whiB (s.extract k (scan (stp sSe) s k)) = valRaw s k := rfl
    rw [e1, e2, e3]
    rw [e4] at HK
    generalize valRaw s k = x at *
    clear e1 e2 e3 e4 hb h
    cases hx : (x.toList == [])
    all_goals
      go_enter Tryz.func117, Tryz.ntmps117
      go_wp2_with fail
      refine (HP.out _ HC.out).mono ?_
      rintro e w1 ⟨rfl, m1⟩
      have HM1 := Lib.hid (Mv.idle (B := w.heap.size) (r := [cb]) m1)
      have HC1 := Lib.hid (show Cur w1 cb s k from by obtain ⟨n, rfl⟩ := m1; exact HC.out.drewN n)
      clear m1
      go_wp2_with fail
      refine (HU.out _ HC1.out).mono ?_
      rintro e w2 ⟨rfl, m2, c2⟩
      have HM2 := Lib.hid (HM1.out.chain m2 (Nat.le_refl _))
      have HC2 := Lib.hid c2
      clear m2 c2
      go_wp2_with fail
      refine (HK.out _).mono ?_
      rintro e w3 ⟨rfl, rfl⟩
      go_wp2
      go_ret2
      exact ⟨rfl, HM2.out, HC2.out⟩
  · have hlt := isAt_lt hq
    have h34 : s[k].toNat = 34 := by rw [isAt_yes hlt] at hq; simpa using hq
    have hql := quoS_le (s := s) (k := k + 1) (by omega)
    have HP := Lib.hid (fun W (hW : Cur W cb s k) => peek_ok cb k 0 s W hW hs' (by omega))
    rw [show ((s[k + 0]'(by omega)).toNat : Int) = 34 from by show ((s[k]'(by omega)).toNat : Int) = 34; rw [h34]; rfl] at HP
    have HO := Lib.hid (fun W (hW : Cur W cb s k) => collect_said cb k s W hW hlt h34 hs)
    have HU := Lib.hid (fun W (hW : Cur W cb s (k + 1 + (quoS s (k + 1)).2)) => until_any cb _ s sSe W hW hql hs' (by show 1 ≤ _; omega))
    have e1 : valStr s k = ⟨(quoS s (k + 1)).1.toArray⟩ := by unfold valStr; rw [hq]; rfl
    have e2 : valOk s k = true := by unfold valOk; rw [hq]; rfl
    have e3 : valTo s k = scan (stp sSe) s (k + 1 + (quoS s (k + 1)).2) := by unfold valTo; rw [hq]; rfl
    rw [e1, e2, e3]
    clear e1 e2 e3 h34 hq
    generalize (quoS s (k + 1)).2 = q at *
    generalize (⟨(quoS s (k + 1)).1.toArray⟩ : ByteArray) = x at *
    go_enter Tryz.func117, Tryz.ntmps117
    go_wp2_with fail
    refine (HP.out _ HC.out).mono ?_
    rintro e w1 ⟨rfl, m1⟩
    have HM1 := Lib.hid (Mv.idle (B := w.heap.size) (r := [cb]) m1)
    have HC1 := Lib.hid (show Cur w1 cb s k from by obtain ⟨n, rfl⟩ := m1; exact HC.out.drewN n)
    clear m1
    go_wp2_with fail
    refine (HO.out _ HC1.out).mono ?_
    rintro e w2 ⟨rfl, m2, c2⟩
    have HM2 := Lib.hid (HM1.out.chain m2 (Nat.le_refl _))
    have HC2 := Lib.hid c2
    clear m2 c2
    go_wp2_with fail
    refine (HU.out _ HC2.out).mono ?_
    rintro e w3 ⟨rfl, m3, c3⟩
    have HM3 := Lib.hid (HM2.out.chain m3 (Nat.le_refl _))
    have HC3 := Lib.hid c3
    clear m3 c3
    go_wp2
    go_ret2
    exact ⟨rfl, HM3.out, HC3.out⟩

/-- p and b are what the step at k tells. -/
def StepIs (s : ByteArray) (k : Nat) (p : Prm) (b : Bool) : Prop := stepP s k = (if b then some p else none) ∧ p.n.size ≤ s.size ∧ p.v.size ≤ s.size

set_option maxHeartbeats 1000000 in
theorem takeParam_any (cb k : Nat) (s : ByteArray) (w : World) (h : Cur w cb s k) (hk : k < s.size) (h59 : s[k].toNat = 59) (hs : s.size ≤ 140737488355328) :
    Calls Tryz.prog 93 #[cptr cb] w fun e w' => ∃ (p : Prm) (b : Bool), e = .returned (.tuple #[prmV p, .bool b]) ∧ StepIs s k p b ∧ Mv w.heap.size [cb] w w' ∧ Cur w' cb s (stepE s k) := by
  have hs' : s.size ≤ 9223372036854775807 := by omega
  have hfr := nmFr_le hk
  have hto := nmTo_le hk
  have HC := Lib.hid h
  have HS := Lib.hid (fun W (hW : Cur W cb s k) => skip_yes cb k s sSe W hW (by omega) hs' (by show 1 ≤ _; omega) (by rw [prefB_one hk, h59]; rfl) (by show k + 1 ≤ _; omega))
  have HW := Lib.hid (fun W (hW : Cur W cb s (k + 1)) => while_white cb (k + 1) s W hW (by omega) hs')
  have HU := Lib.hid (fun W (hW : Cur W cb s (nmFr s k)) => until_any cb _ s sSq W hW hfr hs' (by show 2 ≤ _; omega))
  have HL := Lib.hid (fun W => lowerS_any (s.extract (nmFr s k) (nmTo s k)) W (by simp; omega))
  have e1 : scan whiB s (k + 1) = nmFr s k := rfl
  have e2 : scan (fun b => !hasB sSq b) s (nmFr s k) = nmTo s k := rfl
  have e3 : lowS (s.extract (nmFr s k) (nmTo s k)) = nmOf s k := rfl
  have hns := nmOf_size s k
  rw [e1] at HW
  rw [e2] at HU
  rw [e3] at HL
  clear h h59 e1 e2 e3
  have hltw := HC.out.lt
  obtain ⟨w0, hw0⟩ : ∃ w0, w0 = w.alloc (.cells #[.string ⟨#[]⟩, .string ⟨#[]⟩] 51) := ⟨_, rfl⟩
  have HM0 := Lib.hid (show Mv w.heap.size [cb] w w0 from by rw [hw0]; exact (Mv.refl _ _ _).alloc (Nat.le_refl _) _)
  have HR0 := Lib.hid (show Blk w0 w.heap.size 51 #[.string ⟨#[]⟩, .string ⟨#[]⟩] from by rw [hw0]; exact Blk.new _ _ _)
  have HC0 := Lib.hid (show Cur w0 cb s k from by rw [hw0]; exact HC.out.alloc _)
  have hnr : w.heap.size ∉ [cb] := by simp; omega
  cases hq : isAt s (nmTo s k) 61
  · have eP : stepP s k = none := by unfold stepP; rw [hq]; rfl
    have eE : stepE s k = nmTo s k := by unfold stepE; rw [hq]; rfl
    have hpre : prefB (s.extract (nmTo s k) s.size) ⟨#[61]⟩ = false := by
      by_cases h2 : nmTo s k < s.size
      · rw [prefB_one h2]; rw [isAt_yes h2] at hq; exact hq
      · exact prefB_none (by omega) _
    have HK := Lib.hid (fun W (hW : Cur W cb s (nmTo s k)) => skip_no cb _ s ⟨#[61]⟩ W hW hto hs' (by show 1 ≤ _; omega) hpre)
    rw [eE]
    have HP := Lib.hid (show StepIs s k ⟨⟨#[]⟩, ⟨#[]⟩⟩ false from ⟨eP, by show 0 ≤ _; omega, by show 0 ≤ _; omega⟩)
    clear eP eE hpre hq
    generalize nmTo s k = t at *
    generalize nmFr s k = f at *
    generalize nmOf s k = nm at *
    go_enter Tryz.func93, Tryz.ntmps93
    go_wp2_with fail
    rw [← hw0]
    clear hw0
    refine (HS.out _ HC0.out).mono ?_
    rintro e w1 ⟨rfl, i1⟩
    obtain ⟨m1, c1⟩ := Mv.put (j := k + 1) HC0.out i1
    have HM1 := Lib.hid (HM0.out.chain m1 (Nat.le_refl _))
    have HC1 := Lib.hid c1
    have HR1 := Lib.hid (HR0.out.mv m1 HR0.out.lt hnr)
    clear i1 m1 c1 HM0 HC0 HR0
    go_wp2_with fail
    refine (HW.out _ HC1.out).mono ?_
    rintro e w2 ⟨rfl, m2, c2⟩
    have HM2 := Lib.hid (HM1.out.chain m2 (Nat.le_refl _))
    have HC2 := Lib.hid c2
    have HR2 := Lib.hid (HR1.out.mv m2 HR1.out.lt hnr)
    clear m2 c2 HM1 HC1 HR1
    go_wp2_with fail
    refine (HU.out _ HC2.out).mono ?_
    rintro e w3 ⟨rfl, m3, c3⟩
    have HM3 := Lib.hid (HM2.out.chain m3 (Nat.le_refl _))
    have HC3 := Lib.hid c3
    have HR3 := Lib.hid (HR2.out.mv m3 HR2.out.lt hnr)
    clear m3 c3 HM2 HC2 HR2
    go_wp2_with fail
    refine (HL.out _).mono ?_
    rintro e w4 ⟨rfl, b4⟩
    have HM4 := Lib.hid (HM3.out.chain (Mv.of_below b4 [cb]) (Nat.le_refl _))
    have HC4 := Lib.hid (HC3.out.below b4 HC3.out.lt)
    have HR4 := Lib.hid (HR3.out.below b4 HR3.out.lt)
    clear b4 HM3 HC3 HR3
    go_wp2_with fail
    refine (HK.out _ HC4.out).mono ?_
    rintro e w5 ⟨rfl, m5⟩
    have HM5 := Lib.hid (HM4.out.chain (Mv.idle m5) (Nat.le_refl _))
    have HC5 := Lib.hid (show Cur w5 cb s t from by obtain ⟨n, rfl⟩ := m5; exact HC4.out.drewN n)
    have HR5 := Lib.hid (show Blk w5 w.heap.size 51 _ from by obtain ⟨n, rfl⟩ := m5; exact HR4.out.drewN n)
    clear m5 HM4 HC4 HR4
    have c0 := HR5.out.cell 0
    have c1 := HR5.out.cell 1
    have z0 := HR5.out.frozen 0
    have z1 := HR5.out.frozen 1
    go_wp2
    refine bodyPost_ret (v := .tuple #[.agg #[.string ⟨#[]⟩, .string ⟨#[]⟩], .bool false]) (by simp [results, Tryz.results93, go_sem, c0, c1]; done) rfl ?_
    refine ⟨⟨⟨#[]⟩, ⟨#[]⟩⟩, false, rfl, HP.out, ?_, ?_⟩
    · exact (HM5.out.setCell (.inr (Nat.le_refl _)) _).setCell (.inr (Nat.le_refl _)) _
    · exact (HC5.out.far (by show cb ≠ w.heap.size; omega) _).far (by show cb ≠ w.heap.size; omega) _
  · have hltq := isAt_lt hq
    have h61 : s[nmTo s k].toNat = 61 := by rw [isAt_yes hltq] at hq; simpa using hq
    have eP : stepP s k = (if valOk s (nmTo s k + 1) then some ⟨nmOf s k, valStr s (nmTo s k + 1)⟩ else none) := by
      unfold stepP
      rw [hq, if_pos rfl, valOf_eq]
      cases valOk s (nmTo s k + 1) <;> rfl
    have eE : stepE s k = valTo s (nmTo s k + 1) := by unfold stepE; rw [hq]; rfl
    have HK := Lib.hid (fun W (hW : Cur W cb s (nmTo s k)) => skip_yes cb _ s ⟨#[61]⟩ W hW hto hs' (by show 1 ≤ _; omega) (by rw [prefB_one hltq, h61]; rfl) (by show nmTo s k + 1 ≤ _; omega))
    have HV := Lib.hid (fun W (hW : Cur W cb s (nmTo s k + 1)) => takeValue_any cb _ s W hW (by omega) hs)
    have hvs := valStr_size (s := s) (j := nmTo s k + 1) (by omega)
    rw [eE]
    have HP := Lib.hid (show StepIs s k ⟨nmOf s k, valStr s (nmTo s k + 1)⟩ (valOk s (nmTo s k + 1)) from ⟨eP, hns, hvs⟩)
    clear eP eE hq h61
    generalize valStr s (nmTo s k + 1) = vs at *
    generalize valOk s (nmTo s k + 1) = vo at *
    generalize valTo s (nmTo s k + 1) = ve at *
    generalize nmTo s k = t at *
    generalize nmFr s k = f at *
    generalize nmOf s k = nm at *
    go_enter Tryz.func93, Tryz.ntmps93
    go_wp2_with fail
    rw [← hw0]
    clear hw0
    refine (HS.out _ HC0.out).mono ?_
    rintro e w1 ⟨rfl, i1⟩
    obtain ⟨m1, c1⟩ := Mv.put (j := k + 1) HC0.out i1
    have HM1 := Lib.hid (HM0.out.chain m1 (Nat.le_refl _))
    have HC1 := Lib.hid c1
    have HR1 := Lib.hid (HR0.out.mv m1 HR0.out.lt hnr)
    clear i1 m1 c1 HM0 HC0 HR0
    go_wp2_with fail
    refine (HW.out _ HC1.out).mono ?_
    rintro e w2 ⟨rfl, m2, c2⟩
    have HM2 := Lib.hid (HM1.out.chain m2 (Nat.le_refl _))
    have HC2 := Lib.hid c2
    have HR2 := Lib.hid (HR1.out.mv m2 HR1.out.lt hnr)
    clear m2 c2 HM1 HC1 HR1
    go_wp2_with fail
    refine (HU.out _ HC2.out).mono ?_
    rintro e w3 ⟨rfl, m3, c3⟩
    have HM3 := Lib.hid (HM2.out.chain m3 (Nat.le_refl _))
    have HC3 := Lib.hid c3
    have HR3 := Lib.hid (HR2.out.mv m3 HR2.out.lt hnr)
    clear m3 c3 HM2 HC2 HR2
    go_wp2_with fail
    refine (HL.out _).mono ?_
    rintro e w4 ⟨rfl, b4⟩
    have HM4 := Lib.hid (HM3.out.chain (Mv.of_below b4 [cb]) (Nat.le_refl _))
    have HC4 := Lib.hid (HC3.out.below b4 HC3.out.lt)
    have HR4 := Lib.hid (HR3.out.below b4 HR3.out.lt)
    clear b4 HM3 HC3 HR3
    go_wp2_with fail
    refine (HK.out _ HC4.out).mono ?_
    rintro e w5 ⟨rfl, i5⟩
    obtain ⟨m5, c5⟩ := Mv.put (j := t + 1) HC4.out i5
    have HM5 := Lib.hid (HM4.out.chain m5 (Nat.le_refl _))
    have HC5 := Lib.hid c5
    have HR5 := Lib.hid (HR4.out.mv m5 HR4.out.lt hnr)
    clear i5 m5 c5 HM4 HC4 HR4
    go_wp2_with fail
    refine (HV.out _ HC5.out).mono ?_
    rintro e w6 ⟨rfl, m6, c6⟩
    have HM6 := Lib.hid (HM5.out.chain m6 (Nat.le_refl _))
    have HC6 := Lib.hid c6
    have HR6 := Lib.hid (HR5.out.mv m6 HR5.out.lt hnr)
    clear m6 c6 HM5 HC5 HR5
    have c0 := HR6.out.cell 0
    have c1 := HR6.out.cell 1
    have z0 := HR6.out.frozen 0
    have z1 := HR6.out.frozen 1
    go_wp2
    refine bodyPost_ret (v := .tuple #[.agg #[.string nm, .string vs], .bool vo]) (by simp [results, Tryz.results93, go_sem, c0, c1]; done) rfl ?_
    refine ⟨⟨nm, vs⟩, vo, rfl, HP.out, ?_, ?_⟩
    · exact (HM6.out.setCell (.inr (Nat.le_refl _)) _).setCell (.inr (Nat.le_refl _)) _
    · exact (HC6.out.far (by show cb ≠ w.heap.size; omega) _).far (by show cb ≠ w.heap.size; omega) _

end Go.Proofs.YtighgoefmccagaaGreat
namespace Go.Proofs.YtighgoefmccagaaGreat
open Go.RowKit Go.Maps

/-- The cells of some parameters. -/
def prmL (ps : List Prm) : List Value := ps.flatMap fun p => [.string p.n, .string p.v]
theorem prmL_snoc (ps : List Prm) (p : Prm) : prmL (ps ++ [p]) = prmL ps ++ [.string p.n, .string p.v] := by simp [prmL]
theorem prmL_len (ps : List Prm) : (prmL ps).length = ps.length * 2 := by
  induction ps with
  | nil => rfl
  | cons p r ih => simp [prmL] at ih ⊢; omega
theorem prmL_at : ∀ (ps : List Prm) (i : Nat) (h : i < ps.length), (prmL ps)[i * 2]? = some (.string ps[i].n) ∧ (prmL ps)[i * 2 + 1]? = some (.string ps[i].v)
  | [], i, h => absurd h (by simp)
  | p :: r, 0, _ => ⟨rfl, rfl⟩
  | p :: r, i + 1, h => by
    have ih := prmL_at r i (by simpa using h)
    have e : prmL (p :: r) = .string p.n :: .string p.v :: prmL r := by simp [prmL]
    rw [e]
    have e1 : (i + 1) * 2 = i * 2 + 1 + 1 := by omega
    have e2 : (i + 1) * 2 + 1 = i * 2 + 1 + 1 + 1 := by omega
    rw [e1, List.getElem?_cons_succ, List.getElem?_cons_succ]
    refine ⟨ih.1, ?_⟩
    rw [List.getElem?_cons_succ, List.getElem?_cons_succ]
    exact ih.2

/-- Parameters that lie behind A. -/
def PsIn (w : World) (A : Option Addr) (ps : List Prm) : Prop := ∀ i (h : i < ps.length), ∃ g, A = some ⟨g, 0, none⟩ ∧ g < w.heap.size ∧ w.cell? ⟨g, i * 2, none⟩ = some (.string ps[i].n) ∧ w.cell? ⟨g, i * 2 + 1, none⟩ = some (.string ps[i].v)
theorem PsIn.below {w w' : World} {A : Option Addr} {ps : List Prm} (h : PsIn w A ps) (hb : Below w.heap.size w w') : PsIn w' A ps := fun i hi => by
  obtain ⟨g, h1, h2, h3, h4⟩ := h i hi
  have e := fun o => hb.cell (p := ⟨g, o, none⟩) h2
  exact ⟨g, h1, by have := hb.size; omega, (e _).trans h3, (e _).trans h4⟩
theorem PsIn.nil (w : World) (A : Option Addr) : PsIn w A [] := fun i h => absurd h (by simp)
theorem PsIn.of_own {w : World} {base : Nat} {v : Value} {ps : List Prm} (h : w.ownsRow base 51 2 v ps.length (prmL ps)) : ∃ A c, v = .slice A ps.length c ∧ PsIn w A ps := by
  rcases h.2 with ⟨h1, h2⟩ | ⟨g, cap, cur, h1, _⟩
  · have e : ps = [] := by
      have h3 := prmL_len ps
      rw [h2] at h3
      exact List.length_eq_zero_iff.1 (by simp at h3; omega)
    subst e
    exact ⟨none, 0, h1, PsIn.nil _ _⟩
  · subst h1
    refine ⟨some ⟨g, 0, none⟩, cap, rfl, fun i hi => ⟨g, rfl, (h.lt g rfl).2, ?_, ?_⟩⟩
    · have := (prmL_at ps i hi).1
      exact (h.cellAt _ (by omega)).trans this
    · have := (prmL_at ps i hi).2
      exact (h.cellAt _ (by omega)).trans this

theorem own_keep {w w' : World} {base : Nat} {e : TypeId} {size n : Nat} {v : Value} {xs : List Value} {r : List Nat} (h : w.ownsRow base e size v n xs) (hm : Mv w.heap.size r w w') (hr : ∀ x ∈ r, x < base) : w'.ownsRow base e size v n xs := by
  refine ⟨h.1, ?_⟩
  rcases h.2 with h2 | ⟨g, cap, cur, e1, e2, e3, e4⟩
  · exact .inl h2
  · have hl := h.lt g (by rw [e1]; rfl)
    exact .inr ⟨g, cap, cur, e1, e2, (hm.block g hl.2 (fun hx => by have := hr g hx; omega)).trans e3, e4⟩

theorem own_base {w : World} {base b : Nat} {e : TypeId} {size n : Nat} {v : Value} {xs : List Value} (h : w.ownsRow base e size v n xs) (hb : b ≤ base) : w.ownsRow b e size v n xs := by
  refine ⟨h.1, ?_⟩
  rcases h.2 with h2 | ⟨g, cap, cur, e1, e2, e3, e4⟩
  · exact .inl h2
  · exact .inr ⟨g, cap, cur, e1, by omega, e3, e4⟩
/-- Parameters that lie in a row of the call's own. -/
def OwnPs (w : World) (base : Nat) (A : Option Addr) (c : Nat) (ps : List Prm) : Prop := w.ownsRow base 51 2 (.slice A ps.length c) ps.length (prmL ps)
theorem OwnPs.ps {w : World} {base c : Nat} {A : Option Addr} {ps : List Prm} (h : OwnPs w base A c ps) : PsIn w A ps := by
  obtain ⟨A', c', e, hp⟩ := PsIn.of_own h
  cases e
  exact hp

theorem Tryz.infoPrm : (Tryz.prog.info? 51).map (fun i => (i.zero, i.size, i.bytes)) = some (some (.agg #[.string ⟨#[]⟩, .string ⟨#[]⟩]), 2, 32) := by kernel_rfl

/-- All texts are short enough. -/
def AllIn (n : Nat) (ps : List Prm) : Prop := ∀ p ∈ ps, p.n.size ≤ n ∧ p.v.size ≤ n
theorem AllIn.snoc {n : Nat} {ps : List Prm} {p : Prm} (h : AllIn n ps) (h1 : p.n.size ≤ n) (h2 : p.v.size ≤ n) : AllIn n (ps ++ [p]) := fun q hq => by
  rcases List.mem_append.1 hq with h3 | h3
  · exact h q h3
  · obtain rfl := List.mem_singleton.1 h3
    exact ⟨h1, h2⟩
theorem AllIn.at_ {n : Nat} {ps : List Prm} (h : AllIn n ps) {i : Nat} (hi : i < ps.length) : ps[i].n.size ≤ n ∧ ps[i].v.size ≤ n := h _ (List.getElem_mem hi)

/-- What the set of names knows is what is there. -/
def Known (xs : List ByteArray) (ps : List Prm) : Prop := ∀ x, (xs.any fun y => eqS y x) = seenB ps x
theorem Known.old {xs : List ByteArray} {ps : List Prm} (h : Known xs ps) {x : ByteArray} (hx : seenB ps x = true) : Known (xs ++ [x]) ps := fun y => by
  rw [List.any_append, h y]
  cases e : seenB ps y
  · simp only [List.any_cons, List.any_nil, Bool.or_false, Bool.false_or]
    cases e2 : eqS x y
    · rfl
    · rw [eqS_eq e2, e] at hx; cases hx
  · rfl
theorem Known.new {xs : List ByteArray} {ps : List Prm} (h : Known xs ps) (p : Prm) : Known (xs ++ [p.n]) (ps ++ [p]) := fun y => by
  rw [List.any_append, h y, seenB_snoc]
  simp

set_option maxHeartbeats 4000000 in
set_option maxRecDepth 100000 in
theorem takeParams_any (cb k0 : Nat) (s : ByteArray) (w : World) (h : Cur w cb s k0) (hk0 : k0 ≤ s.size) (h59 : ∀ h : k0 < s.size, s[k0].toNat = 59) (hs : s.size ≤ 1048576) :
    Calls Tryz.prog 66 #[cptr cb] w fun e w' => ∃ v, e = .returned v ∧ w'.ownsRow (w.heap.size + 2) 51 2 v (parS s k0 []).length (prmL (parS s k0 [])) ∧ AllIn s.size (parS s k0 []) ∧ Mv w.heap.size [cb] w w' := by
  obtain ⟨i0, hi, hz0, hz1, hz2⟩ := info_parts Tryz.infoPrm
  have HC := Lib.hid h
  have hltw := h.lt
  have hs' : s.size ≤ 9223372036854775807 := by omega
  obtain ⟨R, hR⟩ : ∃ R, R = parS s k0 [] := ⟨_, rfl⟩
  rw [← hR]
  clear h
  go_enter Tryz.func66, Tryz.ntmps66
  go_wp2_with fail
  refine (news_any _).mono ?_
  rintro e w1 ⟨rfl, hb1, ha1⟩
  have hsz : w.heap.size + 2 ≤ w1.heap.size := by have := ha1.1.lt; omega
  have HC1 := Lib.hid (HC.out.below hb1 hltw)
  have HA1 := Lib.hid ha1
  have HM1 := Lib.hid (Mv.of_below hb1 [cb])
  clear hb1 ha1 HC
  generalize hB : w.heap.size + 2 = base at *
  generalize hmb : w.heap.size = mb at *
  go_wp2_with fail
  go_loopw [3] (fun v wr => ∃ (k : Nat) (acc : List Prm) (xs : List ByteArray), k ≤ s.size ∧ (∀ h : k < s.size, s[k].toNat = 59) ∧ parS s k acc = R ∧ AllIn s.size acc ∧ acc.length ≤ k ∧ xs.length ≤ k ∧ Known xs acc ∧
      wr.ownsRow base 51 2 v acc.length (prmL acc) ∧ Asked wr (mb + 1) mb xs ∧ Cur wr cb s k ∧ Mv mb [cb] w wr ∧ base ≤ wr.heap.size) (fun _ wr => s.size - curAt wr cb)
  case atStart => exact ⟨k0, [], [], hk0, h59, hR.symm, fun _ h => (by cases h), Nat.zero_le _, Nat.zero_le _, fun _ => rfl, World.ownsRow_nil _ _ _ _, HA1.out, HC1.out, HM1.out, hsz⟩
  case round =>
    obtain ⟨k, acc, xs, hk, h59', hpar, hall, hal, hxl, hkn, hown, hask, hcur, hmv, hbs⟩ := hrel
    have HO := Lib.hid hown
    have HA := Lib.hid hask
    have HC := Lib.hid hcur
    have HM := Lib.hid hmv
    have HL := Lib.hid hall
    have HKN := Lib.hid hkn
    have hcb : ∀ x ∈ [cb], x < base := by simp; omega
    have hcm : mb ∉ [cb] := by simp; omega
    have hcn : mb + 1 ∉ [cb] := by simp; omega
    have hbm : mb + 1 < base := by omega
    have HME := Lib.hid (curAt_of hcur)
    clear hown hask hcur hmv hall hkn HC1 HA1 HM1
    by_cases hlt : k < s.size
    · have HE := Lib.hid (fun W (hW : Cur W cb s k) => end_any cb k s W hW hk hs')
      rw [decide_eq_false (by omega)] at HE
      have HT := Lib.hid (fun W (hW : Cur W cb s k) => takeParam_any cb k s W hW hlt (h59' hlt) (by omega))
      have hE := stepE_bounds hlt
      have H59 := Lib.hid (fun h => stepE_at hlt h)
      have HP := Lib.hid (show R = parS s (stepE s k) (putO acc (stepP s k)) from by rw [← parS_step acc hlt, hpar])
      clear h59' hpar h59
      go_wp2_with fail
      refine (HE.out _ HC.out).mono ?_
      rintro e w2 ⟨rfl, i2⟩
      have m2 : Mv wr.heap.size [cb] wr w2 := Mv.idle i2
      have HO2 := Lib.hid (own_keep HO.out m2 hcb)
      have HA2 := Lib.hid (HA.out.mv m2 (by omega) (by omega) hcn hcm)
      have HC2 := Lib.hid (show Cur w2 cb s k from by obtain ⟨n, rfl⟩ := i2; exact HC.out.drewN n)
      have HM2 := Lib.hid (HM.out.chain m2 (by omega))
      have hb2 : base ≤ w2.heap.size := Nat.le_trans hbs m2.size
      clear i2 m2 HO HA HC HM
      go_wp2_with fail
      refine (HT.out _ HC2.out).mono ?_
      rintro e w3 ⟨p, b, rfl, hst, m3, c3⟩
      have HO3 := Lib.hid (own_keep HO2.out m3 hcb)
      have HA3 := Lib.hid (HA2.out.mv m3 (by omega) (by omega) hcn hcm)
      have HC3 := Lib.hid c3
      have HM3 := Lib.hid (HM2.out.chain m3 (by omega))
      have hb3 : base ≤ w3.heap.size := Nat.le_trans hb2 m3.size
      obtain ⟨hst, hpn, hpv⟩ := hst
      clear m3 c3 HO2 HA2 HC2 HM2
      obtain ⟨pn, pv⟩ := p
      simp only at hpn hpv
      obtain ⟨w4, hw4⟩ : ∃ w4, w4 = w3.alloc (.cells #[.string pn, .string pv] 51) := ⟨_, rfl⟩
      have HO4 := Lib.hid (HO3.out.alloc (.cells #[.string pn, .string pv] 51))
      rw [← hw4] at HO4
      have m4 : Mv w3.heap.size [] w3 w4 := by rw [hw4]; exact (Mv.refl _ _ _).alloc (Nat.le_refl _) _
      have HA4 := Lib.hid (HA3.out.mv m4 (by omega) (by omega) (by simp) (by simp))
      have HC4 := Lib.hid (show Cur w4 cb s (stepE s k) from HC3.out.mv m4 HC3.out.lt (by simp))
      have HM4 := Lib.hid (HM3.out.chain (m4.mono (r' := [cb]) (Nat.le_refl _) (by simp)) (by omega))
      have HB4 := Lib.hid (show Blk w4 w3.heap.size 51 #[.string pn, .string pv] from by rw [hw4]; exact Blk.new _ _ _)
      have hb4 : base ≤ w4.heap.size := Nat.le_trans hb3 m4.size
      clear m4 HO3 HA3 HC3 HM3
      cases b
      · have HP2 := Lib.hid (show parS s (stepE s k) acc = R from by have := HP.out; rw [hst] at this; exact this.symm)
        clear hst HP
        generalize stepE s k = k' at *
        go_wp2_with fail
        rw [← hw4]
        clear hw4
        go_wp2
        go_roundw
        case rel => exact ⟨k', acc, xs, by omega, H59.out, HP2.out, HL.out, by omega, by omega, HKN.out, HO4.out, HA4.out, HC4.out, HM4.out, hb4⟩
        case measure => rw [HME.out, curAt_of HC4.out]; omega
      · have c0 := HB4.out.cell 0
        have c1 := HB4.out.cell 1
        have HG := Lib.hid (fun W => isGood_any ⟨pn, pv⟩ W (by simp only; omega) (by simp only; omega))
        have HP1 := Lib.hid (show parS s (stepE s k) (putL acc ⟨pn, pv⟩) = R from by have := HP.out; rw [hst] at this; exact this.symm)
        clear hst HP
        generalize stepE s k = k' at *
        cases hg : prmB ⟨pn, pv⟩
        · rw [hg] at HG
          have HP2 := Lib.hid (show parS s k' acc = R from by have := HP1.out; unfold putL at this; rw [hg] at this; exact this)
          clear hg HP1
          go_wp2_with fail
          rw [← hw4]
          clear hw4
          go_wp2_with (go_at_call 69; (with_reducible refine (HG.out _).mono ?_); rintro e w5 ⟨rfl, b5⟩; have B5 := Lib.hid b5; clear b5 c0 c1)
          have m5 := Mv.of_below B5.out [cb]
          go_roundw
          case rel => exact ⟨k', acc, xs, by omega, H59.out, HP2.out, HL.out, by omega, by omega, HKN.out, own_keep HO4.out m5 hcb, HA4.out.mv m5 (by omega) (by omega) hcn hcm, HC4.out.below B5.out HC4.out.lt, HM4.out.chain m5 (by omega), Nat.le_trans hb4 B5.out.size⟩
          case measure => rw [HME.out, curAt_of (HC4.out.below B5.out HC4.out.lt)]; omega
        · rw [hg] at HG
          have HN := Lib.hid (fun W (hW : Asked W (mb + 1) mb xs) => news1_any (mb + 1) mb pn xs W hW (by omega) (by omega))
          rw [HKN.out pn] at HN
          have h45 : ∀ {w5 : World}, Below w4.heap.size w4 w5 → True := fun _ => trivial
          cases hse : seenB acc pn
          · rw [hse] at HN
            have HP2 := Lib.hid (show parS s k' (acc ++ [⟨pn, pv⟩]) = R from by have := HP1.out; unfold putL at this; rw [hg, hse] at this; exact this)
            clear hg HP1 hse h45
            go_wp2_with fail
            rw [← hw4]
            clear hw4
            go_wp2_with fail
            refine (HG.out _).mono ?_
            rintro e w5 ⟨rfl, b5⟩
            have m5 := Mv.of_below b5 [cb]
            have HO5 := Lib.hid (own_keep HO4.out m5 hcb)
            have HA5 := Lib.hid (HA4.out.mv m5 (by omega) (by omega) hcn hcm)
            have HC5 := Lib.hid (HC4.out.below b5 HC4.out.lt)
            have HM5 := Lib.hid (HM4.out.chain m5 (by omega))
            have HB5 := Lib.hid (HB4.out.below b5 HB4.out.lt)
            have hb5 : base ≤ w5.heap.size := Nat.le_trans hb4 m5.size
            clear b5 m5 HO4 HA4 HC4 HM4 HB4 c0 c1
            have c0 := HB5.out.cell 0
            go_wp2_with fail
            refine (HN.out _ HA5.out).mono ?_
            rintro e w6 ⟨rfl, m6, a6⟩
            have hrm : ∀ x ∈ [mb], x < base := by simp; omega
            have HO6 := Lib.hid (own_keep HO5.out m6 hrm)
            have HA6 := Lib.hid a6
            have HC6 := Lib.hid (show Cur w6 cb s k' from HC5.out.mv m6 HC5.out.lt (by simp; omega))
            have HM6 := Lib.hid (HM5.out.trans (m6.mono (B' := mb) (r' := [cb]) (by omega) (fun x hx => .inr (by simp at hx; omega))))
            have HB6 := Lib.hid (HB5.out.mv m6 HB5.out.lt (by simp; omega))
            have hb6 : base ≤ w6.heap.size := Nat.le_trans hb5 m6.size
            clear m6 a6 HO5 HA5 HC5 HM5 HB5 c0
            have c0 := HB6.out.cell 0
            have c1 := HB6.out.cell 1
            go_wp2_with (at_builtin; refine wpList_append_own _ rfl _ _ 24 rfl base 51 i0 _ 2 32 Tryz.underlying24 hi hz0 hz1 hz2 rfl (by decide) _ _ _ rfl (HO6.out.alloc _) ⟨w6.heap.size, 0, none⟩ 1 1 [.string pn, .string pv] rfl rfl ?_ ?_ ?_ ?_ ?_ ?_)
            · intro j u hj
              have hcb := Blk.new w6 51 #[.string pn, .string pv]
              have e : (⟨w6.heap.size, 0, none⟩ : Addr).add j = ⟨w6.heap.size, j, none⟩ := by cases j <;> simp [Addr.add]
              rw [e, hcb.cell]
              simpa using hj
            · intro u hu
              simp at hu
              rcases hu with rfl | rfl <;> rfl
            · unfold maxLen; omega
            · omega
            · simp; omega
            · intro v' w7 hown' hgrow hnil
              have hown2 : w7.ownsRow base 51 2 v' (acc ++ [⟨pn, pv⟩] : List Prm).length (prmL (acc ++ [⟨pn, pv⟩])) := by rw [prmL_snoc, List.length_append]; exact hown'
              have HO7 := Lib.hid hown2
              have HB7 := Lib.hid (Below.grown (((Below.refl base w6).alloc hb6 (.cells #[.string pn, .string pv] 51))) hgrow (by simp; omega) (fun g hg => (HO6.out.lt g hg).1))
              have m7 := Mv.of_below HB7.out [cb]
              clear hown2 hown' hgrow hnil
              go_wp2
              go_roundw
              case rel => exact ⟨k', acc ++ [⟨pn, pv⟩], xs ++ [pn], by omega, H59.out, HP2.out, HL.out.snoc hpn hpv, by simp; omega, by simp; omega, HKN.out.new ⟨pn, pv⟩, HO7.out, HA6.out.mv m7 (by omega) (by omega) hcn hcm, HC6.out.below HB7.out (by omega), HM6.out.trans (m7.mono (by omega) (fun x hx => .inl hx)), Nat.le_trans hb6 m7.size⟩
              case measure => rw [HME.out, curAt_of (HC6.out.below HB7.out (by omega))]; omega
          · rw [hse] at HN
            have HP2 := Lib.hid (show parS s k' acc = R from by have := HP1.out; unfold putL at this; rw [hg, hse] at this; exact this)
            have HK2 := Lib.hid (HKN.out.old hse)
            clear hg HP1 hse h45
            go_wp2_with fail
            rw [← hw4]
            clear hw4
            go_wp2_with fail
            refine (HG.out _).mono ?_
            rintro e w5 ⟨rfl, b5⟩
            have m5 := Mv.of_below b5 [cb]
            have HO5 := Lib.hid (own_keep HO4.out m5 hcb)
            have HA5 := Lib.hid (HA4.out.mv m5 (by omega) (by omega) hcn hcm)
            have HC5 := Lib.hid (HC4.out.below b5 HC4.out.lt)
            have HM5 := Lib.hid (HM4.out.chain m5 (by omega))
            have HB5 := Lib.hid (HB4.out.below b5 HB4.out.lt)
            have hb5 : base ≤ w5.heap.size := Nat.le_trans hb4 m5.size
            clear b5 m5 HO4 HA4 HC4 HM4 HB4 c0 c1
            have c0 := HB5.out.cell 0
            go_wp2_with fail
            refine (HN.out _ HA5.out).mono ?_
            rintro e w6 ⟨rfl, m6, a6⟩
            have hrm : ∀ x ∈ [mb], x < base := by simp; omega
            have HO6 := Lib.hid (own_keep HO5.out m6 hrm)
            have HA6 := Lib.hid a6
            have HC6 := Lib.hid (show Cur w6 cb s k' from HC5.out.mv m6 HC5.out.lt (by simp; omega))
            have HM6 := Lib.hid (HM5.out.trans (m6.mono (B' := mb) (r' := [cb]) (by omega) (fun x hx => .inr (by simp at hx; omega))))
            have hb6 : base ≤ w6.heap.size := Nat.le_trans hb5 m6.size
            clear m6 a6 HO5 HA5 HC5 HM5 HB5 c0
            go_wp2
            go_roundw
            case rel => exact ⟨k', acc, xs ++ [pn], by omega, H59.out, HP2.out, HL.out, by omega, by simp; omega, HK2.out, HO6.out, HA6.out, HC6.out, HM6.out, hb6⟩
            case measure => rw [HME.out, curAt_of HC6.out]; omega
    · obtain rfl : k = s.size := by omega
      have HE := Lib.hid (fun W (hW : Cur W cb s s.size) => end_any cb s.size s W hW hk hs')
      rw [decide_eq_true rfl] at HE
      have HP := Lib.hid (show acc = R from by rw [← hpar, parS_end acc (Nat.le_refl _)])
      clear h59' hpar h59
      go_wp2_with fail
      refine (HE.out _ HC.out).mono ?_
      rintro e w2 ⟨rfl, i2⟩
      have m2 : Mv wr.heap.size [cb] wr w2 := Mv.idle i2
      have HO2 := Lib.hid (own_keep HO.out m2 hcb)
      have HM2 := Lib.hid (HM.out.chain m2 (by omega))
      clear i2 m2
      go_wp2
      go_ret
      exact ⟨_, rfl, by rw [← HP.out, hmb, hB]; exact HO2.out, by rw [← HP.out]; exact HL.out, by rw [hmb]; exact HM2.out⟩

end Go.Proofs.YtighgoefmccagaaGreat
