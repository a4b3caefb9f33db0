/-
  What Trim and Ends answer, and those of the document's own answer. Condition: the text is as long as a length can be.
  What Count and All answer where they are asked of Quoted. Condition: the text is as long as a length can be.
  Plain facts on texts between quotes, and on lists of pieces, as layer 4 has them. No condition.
-/
import Derived.Test.YteeheehoaklnbaaZ2
import Derived.Test.YteeheehoaklnbaaZ4
import Derived.LoopTactic
import Derived.Test.YteeheehoaklnbaaZ3
namespace Go.Proofs.Yteeheehoaklnbaa
open Go.RowKit

set_option maxHeartbeats 1000000 in
theorem cutBack_tab (s : ByteArray) (w : World) (hs : s.size ≤ 9223372036854775807) :
    Calls Try.prog 41 #[.string s, .func (.func 38) #[] #[]] w fun e w' => e = .returned (.string (cutP tabB s)) ∧ w = w' := by
  go_enter Try.func41, Try.ntmps41
  go_wp2
  go_loop [5] (fun i => ∃ k : Nat, k ≤ s.size ∧ i = .int .i64 k ∧ backN tabB s k = backN tabB s s.size) (fun i => (intOf i).toNat)
  case atStart => exact ⟨s.size, Nat.le_refl _, rfl, rfl⟩
  case round =>
    obtain ⟨k, hk, rfl, hb⟩ := hrel
    have HB := Lib.hid hb
    clear hb
    cases k with
    | zero =>
      have HE := Lib.hid (show cutP tabB s = ByteArray.empty from by unfold cutP; rw [← HB.out]; simp [backN])
      go_wp2
      go_ret
      exact ⟨by rw [HE.out]; rfl, rfl⟩
    | succ m =>
      have hm : m < s.size := by omega
      have g1 : (0 : Int) < (m : Int) + 1 := by omega
      have g2 : ((m + 1 : Nat) : Int) - 1 = (m : Int) := by omega
      have HL := Lib.hid (fun W => tab_any s[m] W)
      cases hb : tabB s[m]
      · have HE := Lib.hid (show cutP tabB s = s.extract 0 (m + 1) from by unfold cutP; rw [← HB.out, backN_stop hm hb])
        have HL2 : Hid (∀ W, Calls Try.prog 38 #[.int .u8 (s[m].toNat : Int)] W fun e w' => e = .returned (.bool false) ∧ W = w') := fun W => by have := HL.out W; rwa [hb] at this
        clear HL hb
        go_wp2_with (go_at_call 38; refine (HL2.out _).mono ?_; rintro e w' ⟨rfl, rfl⟩)
        go_ret
        exact ⟨by rw [HE.out]; rfl, rfl⟩
      · have HE : Hid (backN tabB s (m + 1) = backN tabB s m) := backN_step hm hb
        have HL2 : Hid (∀ W, Calls Try.prog 38 #[.int .u8 (s[m].toNat : Int)] W fun e w' => e = .returned (.bool true) ∧ W = w') := fun W => by have := HL.out W; rwa [hb] at this
        clear HL hb
        go_wp2_with (go_at_call 38; refine (HL2.out _).mono ?_; rintro e w' ⟨rfl, rfl⟩)
        go_round
        case rel => exact ⟨m, by omega, by go_num, HE.out.symm.trans HB.out⟩
        case measure => first | (simp [intOf]; done) | (simp [intOf]; omega)

set_option maxHeartbeats 1000000 in
theorem ends_any (s : ByteArray) (w : World) (hs : s.size ≤ 9223372036854775807) :
    Calls Try.prog 24 #[.string s] w fun e w' => e = .returned (.string (cutP tabB s)) ∧ w = w' := by
  go_enter Try.func24, Try.ntmps24
  go_wp2_with (go_at_call 41; refine (cutBack_tab s _ hs).mono ?_; rintro e w' ⟨rfl, rfl⟩)
  go_ret
  exact ⟨rfl, rfl⟩

/-- How long a text is. -/
def strLen : Value → Nat
  | .string s => s.size
  | _ => 0

set_option maxHeartbeats 1000000 in
theorem refEnds_any (s : ByteArray) (w : World) (hs : s.size ≤ 9223372036854775807) :
    Calls Try.prog 25 #[.string s] w fun e w' => e = .returned (.string (cutP tabB s)) ∧ w = w' := by
  go_enter Try.func25, Try.ntmps25
  go_wp2
  go_loop [0] (fun i => ∃ (m : Nat) (x : ByteArray), m ≤ s.size ∧ i = .string x ∧ x = s.extract 0 m ∧ backN tabB s m = backN tabB s s.size) (fun i => strLen i)
  case atStart => exact ⟨s.size, s, Nat.le_refl _, rfl, (extract_all s).symm, rfl⟩
  case round =>
    obtain ⟨m, x, hm, rfl, hx, hb⟩ := hrel
    have HB := Lib.hid hb
    have HX := Lib.hid hx
    clear hb
    have hz : x.size = m := by rw [hx]; simp; omega
    clear hx
    cases m with
    | zero =>
      have HE := Lib.hid (show cutP tabB s = x from by unfold cutP; rw [← HB.out, HX.out]; rfl)
      go_wp2
      go_ret
      exact ⟨by rw [HE.out]; rfl, rfl⟩
    | succ n =>
      have hn : n < x.size := by omega
      have g1 : (0 : Int) < (n : Int) + 1 := by omega
      have g2 : ((n + 1 : Nat) : Int) - 1 = (n : Int) := by omega
      have HA := Lib.hid (show x[n] = s[n]'(by omega) from by
        rw [← getElem!_pos x n hn, ← getElem!_pos s n (by omega), HX.out, extract_at (by rw [← HX.out]; exact hn), Nat.zero_add])
      have HL := Lib.hid (fun W => refTab_any x[n] W)
      cases hb : tabB x[n]
      · have HE := Lib.hid (show cutP tabB s = x from by unfold cutP; rw [← HB.out, backN_stop (by omega) (by rw [← HA.out]; exact hb), HX.out])
        have HL2 : Hid (∀ W, Calls Try.prog 29 #[.int .u8 (x[n].toNat : Int)] W fun e w' => e = .returned (.bool false) ∧ W = w') := fun W => by have := HL.out W; rwa [hb] at this
        clear HL hb
        go_wp2_with (go_at_call 29; refine (HL2.out _).mono ?_; rintro e w' ⟨rfl, rfl⟩)
        go_ret
        exact ⟨by rw [HE.out]; rfl, rfl⟩
      · have HE := Lib.hid (show backN tabB s (n + 1) = backN tabB s n from backN_step (by omega) (by rw [← HA.out]; exact hb))
        have HL2 : Hid (∀ W, Calls Try.prog 29 #[.int .u8 (x[n].toNat : Int)] W fun e w' => e = .returned (.bool true) ∧ W = w') := fun W => by have := HL.out W; rwa [hb] at this
        clear HL hb
        go_wp2_with (go_at_call 29; refine (HL2.out _).mono ?_; rintro e w' ⟨rfl, rfl⟩)
        go_round
        case rel => exact ⟨n, x.extract 0 n, by omega, rfl, by rw [HX.out, extract_head (by omega)], HE.out.symm.trans HB.out⟩
        case measure => simp [strLen]; omega

end Go.Proofs.Yteeheehoaklnbaa
namespace Go.Proofs.Yteeheehoaklnbaa
open Go.RowKit

abbrev fnQtd : Value := .func (.func 63) #[] #[]

set_option maxHeartbeats 2000000 in
theorem all1_Qtd (sb fb lb : Nat) (s : ByteArray) (w : World) (hsb : w.cell? ⟨sb, 0, none⟩ = some (.string s)) (hf : w.cell? ⟨fb, 0, none⟩ = some fnQtd)
    (hl : w.heap[lb]? = some (.cells #[.bool false] 4 (0, 0))) (hs : s.size ≤ 9223372036854775807) :
    Calls Try.prog 66 #[.pointer (some ⟨sb, 0, none⟩), .pointer (some ⟨fb, 0, none⟩), .pointer (some ⟨lb, 0, none⟩)] w fun e w' => e = .returned (.tuple #[]) ∧ Mv w.heap.size [lb] w w' ∧
      w'.heap[lb]? = some (.cells #[.bool (allB quoB s)] 4 (0, 0)) := by
  have l0 := cell_of_one hl
  have lz := free_of_one hl
  go_enter Try.func66, Try.ntmps66
  go_wp2
  go_loopw [6] (fun v wr => ∃ i : Nat, i ≤ s.size ∧ v = .int .i64 i ∧ (∀ j (hj : j < s.size), j < i → quoB s[j] = true) ∧ Mv w.heap.size [] w wr) (fun v _ => s.size - (intOf v).toNat)
  case atStart => exact ⟨0, Nat.zero_le _, rfl, fun j _ h => absurd h (by omega), Mv.refl _ _ _⟩
  case round =>
    obtain ⟨i, hi, rfl, hno, hm⟩ := hrel
    have d1 : wr.cell? ⟨sb, 0, none⟩ = some (.string s) := (hm.cell (p := ⟨sb, 0, none⟩) (World.block_lt_of_cell? w _ hsb) (by simp)).trans hsb
    have d2 : wr.cell? ⟨fb, 0, none⟩ = some fnQtd := (hm.cell (p := ⟨fb, 0, none⟩) (World.block_lt_of_cell? w _ hf) (by simp)).trans hf
    have d3 : wr.cell? ⟨lb, 0, none⟩ = some (.bool false) := (hm.cell (p := ⟨lb, 0, none⟩) (World.block_lt_of_cell? w _ l0) (by simp)).trans l0
    have dz : wr.frozen? ⟨lb, 0, none⟩ = false := (hm.frozen (p := ⟨lb, 0, none⟩) (World.block_lt_of_cell? w _ l0) (by simp)).trans lz
    have HW := Lib.hid ((hm.block lb (World.block_lt_of_cell? w _ l0) (by simp)).trans hl)
    have HM := Lib.hid (hm.mono (r' := [lb]) (Nat.le_refl _) (by simp))
    have HM0 := Lib.hid hm
    have HN := Lib.hid hno
    clear hno hm hsb hf hl l0 lz
    by_cases hlt : i < s.size
    · have HL := Lib.hid (fun W => quoted_any s[i] W)
      cases hb : quoB s[i]
      · have HC := Lib.hid (allB_no hlt hb)
        have HL2 : Hid (∀ W, Calls Try.prog 63 #[.int .u8 (s[i].toNat : Int)] W fun e w' => e = .returned (.bool false) ∧ w' = W) := fun W => by
          have := HL.out W
          rw [hb] at this
          exact this.mono fun _ _ h => ⟨h.1, h.2.symm⟩
        clear HL hb
        go_wp2
        go_quiet ((go_at_call 63; exact Calls.quiet_of_same (HL2.out _)))
        go_wp2
        refine bodyPost_ret (results_none rfl _ _ _) rfl ?_
        exact ⟨rfl, HM.out.drewN _, by rw [HC.out]; exact HW.out⟩
      · have HP := Lib.hid hb
        have HL2 : Hid (∀ W, Calls Try.prog 63 #[.int .u8 (s[i].toNat : Int)] W fun e w' => e = .returned (.bool true) ∧ w' = W) := fun W => by
          have := HL.out W
          rw [hb] at this
          exact this.mono fun _ _ h => ⟨h.1, h.2.symm⟩
        clear HL hb
        go_wp2
        go_quiet ((go_at_call 63; exact Calls.quiet_of_same (HL2.out _)))
        go_wp2
        go_roundw
        case rel => exact ⟨i + 1, by omega, by go_num, fun j hj h => if e : j = i then by subst e; exact HP.out else HN.out j hj (by omega), HM0.out.drewN _⟩
        case measure => simp [intOf]; omega
    · obtain rfl : i = s.size := by omega
      have HC := Lib.hid (allB_yes fun j hj => HN.out j hj hj)
      go_wp2
      go_end0
      exact ⟨rfl, HM.out.setCell (.inl (by simp)) _, by rw [HC.out]; exact one_setCell HW.out⟩

theorem catch_all1_Qtd (sb fb lb : Nat) (s : ByteArray) (w : World) (hsb : w.cell? ⟨sb, 0, none⟩ = some (.string s)) (hf : w.cell? ⟨fb, 0, none⟩ = some fnQtd)
    (hl : w.heap[lb]? = some (.cells #[.bool false] 4 (0, 0))) (hs : s.size ≤ 9223372036854775807) :
    Calls Try.prog 44 #[.func (.func 66) #[] #[.pointer (some ⟨sb, 0, none⟩), .pointer (some ⟨fb, 0, none⟩), .pointer (some ⟨lb, 0, none⟩)]] w fun e w' =>
      e = .returned (.tuple #[flt 0 0, .bool false]) ∧ Mv w.heap.size [lb] w w' ∧ w'.heap[lb]? = some (.cells #[.bool (allB quoB s)] 4 (0, 0)) := by
  have la : lb < w.heap.size := lt_of_block hl
  refine catch_mv_returns 66 #[] #[.pointer (some ⟨sb, 0, none⟩), .pointer (some ⟨fb, 0, none⟩), .pointer (some ⟨lb, 0, none⟩)] w [lb]
    (fun W => W.heap[lb]? = some (.cells #[.bool (allB quoB s)] 4 (0, 0)))
    (one_lt' la) (fun W1 W2 hb h1 => (hb.block lb la).trans h1) (fun _ => by simp [go_sem]) fun W hW => ?_
  refine (all1_Qtd sb fb lb s W ((hW.cell (p := ⟨sb, 0, none⟩) (World.block_lt_of_cell? w _ hsb)).trans hsb) ((hW.cell (p := ⟨fb, 0, none⟩) (World.block_lt_of_cell? w _ hf)).trans hf) ((hW.block lb la).trans hl) hs).mono ?_
  rintro e w' ⟨rfl, h1, h2⟩
  exact ⟨⟨_, rfl⟩, h1, h2⟩

set_option maxHeartbeats 2000000 in
theorem all_Qtd (s : ByteArray) (w : World) (hs : s.size ≤ 9223372036854775807) :
    Calls Try.prog 60 #[.string s, fnQtd] w fun e w' => e = .returned (.bool (allB quoB s)) ∧ Below w.heap.size w w' := by
  have hq := eq_fn_nil
  have hmf := make_func
  obtain ⟨W3, hW⟩ : ∃ W3, W3 = (((w.alloc (.cells #[.string s] 9)).alloc (.cells #[fnQtd] 46)).alloc (.cells #[.bool false] 4)) := ⟨_, rfl⟩
  have c2 : W3.heap[w.heap.size + 1 + 1]? = some (.cells #[.bool false] 4 (0, 0)) := by
    have := Blk.new ((w.alloc (.cells #[.string s] 9)).alloc (.cells #[fnQtd] 46)) 4 #[.bool false]
    rw [hW]
    simpa [Blk] using this
  have c0 : W3.cell? ⟨w.heap.size, 0, none⟩ = some (.string s) := by rw [hW]; simp [go_sem]
  have c1 : W3.cell? ⟨w.heap.size + 1, 0, none⟩ = some fnQtd := by rw [hW]; simp [go_sem]
  have HB := Lib.hid (show Below w.heap.size w W3 by
    rw [hW]
    exact (((Below.refl _ _).alloc (Nat.le_refl _) _).alloc (by simp) _).alloc (by simp; omega) _)
  have HZ := Lib.hid (show W3.heap.size = w.heap.size + 3 by rw [hW]; simp)
  have HC := Lib.hid (catch_all1_Qtd w.heap.size (w.heap.size + 1) (w.heap.size + 1 + 1) s W3 c0 c1 c2 hs)
  clear c0 c1 c2
  have HW := Lib.hid hW
  clear hW
  go_enter Try.func60, Try.ntmps60
  go_wp2_with (go_at_call 44; rw [← HW.out]; refine HC.out.mono ?_; rintro e w1 ⟨rfl, hm, h1⟩; have j3 := cell_of_one h1; have HM := Lib.hid hm; clear hm h1)
  go_ret
  exact ⟨rfl, HB.out.trans (HM.out.below (B' := w.heap.size) (by have := HZ.out; omega) (by simp; omega))⟩

end Go.Proofs.Yteeheehoaklnbaa
namespace Go.Proofs.Yteeheehoaklnbaa

/-- What is taken behind an opening quote, and how many bytes are gone by. -/
def quoL : List UInt8 → List UInt8 × Nat
  | [] => ([], 0)
  | [b] => if b.toNat == 34 then ([], 1) else ([b], 1)
  | b :: c :: r => if b.toNat == 34 then ([], 1) else if b.toNat == 92 then (c :: (quoL r).1, (quoL r).2 + 2) else (b :: (quoL (c :: r)).1, (quoL (c :: r)).2 + 1)

/-- The same of a text from one place on. -/
def quoS (s : ByteArray) (k : Nat) : List UInt8 × Nat := quoL (s.data.toList.drop k)
/-- Where the piece ends that begins at k: at a comma in no quotes, or at the end. -/
def stopP : ByteArray := ⟨#[34, 44]⟩
def runP (s : ByteArray) (k : Nat) : Nat := scan (fun b => !hasB stopP b) s k
def pEndF (s : ByteArray) : Nat → Nat → Nat
  | 0, k => k
  | f + 1, k => if runP s k < s.size then (if s[runP s k]!.toNat == 44 then runP s k else pEndF s f (runP s k + 1 + (quoS s (runP s k + 1)).2)) else runP s k
def pEnd (s : ByteArray) (k : Nat) : Nat := pEndF s s.size k
/-- Where a piece begins, what it is, and the pieces from a place on. -/
def pFrom (s : ByteArray) (k : Nat) : Nat := scan tabB s k
def pTo (s : ByteArray) (k : Nat) : Nat := pEnd s (pFrom s k)
def piece (s : ByteArray) (k : Nat) : ByteArray := cutP tabB (s.extract (pFrom s k) (pTo s k))
end Go.Proofs.Yteeheehoaklnbaa
