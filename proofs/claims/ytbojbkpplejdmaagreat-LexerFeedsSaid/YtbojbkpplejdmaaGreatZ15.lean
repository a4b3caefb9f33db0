/-
  The document's own reader of layer 28: its eight cells (Sa), and what fail, stop, ended, joined, feed and inner do with them. No condition.
  What the document's own line, block and quote of layer 28 read (SaO). Condition: the text is no longer than a length can be.
  What the document's own pattern, slash and less of layer 28 read (SaO). Conditions: the text is no longer than a length can be; the count of pieces is no greater than a length can be.
-/
import Derived.Test.YtbojbkpplejdmaaGreatZ13
import Derived.Test.YtbojbkpplejdmaaGreatZ14
import Derived.Test.YtbojbkpplejdmaaGreatZ4
import Derived.LoopTactic
namespace Go.Proofs.YtbojbkpplejdmaaGreat
open Go.RowKit

/-- The reader's cells. -/
def saC (D : Nat) (bad : Int) (win : Bool) (h : Hs) : Array Value := List.toArray [.int .i64 bad, .bool win, .string (opT h.op), .int .i64 (h.pc : Nat), .int .i64 (h.en : Nat), .int .i64 (h.last : Nat), .bool h.br, .int .i64 (D : Nat)]
def Sa (w : World) (xb D : Nat) (bad : Int) (win : Bool) (h : Hs) : Prop := Blk w xb 38 (saC D bad win h)
section
variable {w : World} {xb D : Nat} {bad : Int} {win : Bool} {h : Hs}
theorem Sa.c0 (m : Sa w xb D bad win h) : w.cell? ⟨xb, 0, none⟩ = some (.int .i64 bad) := Blk.cell m 0
theorem Sa.c1 (m : Sa w xb D bad win h) : w.cell? ⟨xb, 1, none⟩ = some (.bool win) := Blk.cell m 1
theorem Sa.c2 (m : Sa w xb D bad win h) : w.cell? ⟨xb, 2, none⟩ = some (.string (opT h.op)) := Blk.cell m 2
theorem Sa.c3 (m : Sa w xb D bad win h) : w.cell? ⟨xb, 3, none⟩ = some (.int .i64 (h.pc : Nat)) := Blk.cell m 3
theorem Sa.c4 (m : Sa w xb D bad win h) : w.cell? ⟨xb, 4, none⟩ = some (.int .i64 (h.en : Nat)) := Blk.cell m 4
theorem Sa.c5 (m : Sa w xb D bad win h) : w.cell? ⟨xb, 5, none⟩ = some (.int .i64 (h.last : Nat)) := Blk.cell m 5
theorem Sa.c6 (m : Sa w xb D bad win h) : w.cell? ⟨xb, 6, none⟩ = some (.bool h.br) := Blk.cell m 6
theorem Sa.c7 (m : Sa w xb D bad win h) : w.cell? ⟨xb, 7, none⟩ = some (.int .i64 (D : Nat)) := Blk.cell m 7
theorem Sa.fr (m : Sa w xb D bad win h) (i : Nat) : w.frozen? ⟨xb, i, none⟩ = false := Blk.frozen m i
theorem Sa.s0 (m : Sa w xb D bad win h) (x : Int) : Sa (w.setCell ⟨xb, 0, none⟩ (.int .i64 x)) xb D x win h := by
  have := m.set_ 0 (.int .i64 x)
  unfold saC at this
  rw [List.setIfInBounds_toArray] at this
  exact this
theorem Sa.s1 (m : Sa w xb D bad win h) (x : Bool) : Sa (w.setCell ⟨xb, 1, none⟩ (.bool x)) xb D bad x h := by
  have := m.set_ 1 (.bool x)
  unfold saC at this
  rw [List.setIfInBounds_toArray] at this
  exact this
theorem Sa.s2 (m : Sa w xb D bad win h) {x : ByteArray} {o : List UInt8} (hx : x = opT o) : Sa (w.setCell ⟨xb, 2, none⟩ (.string x)) xb D bad win { h with op := o } := by
  subst hx
  have := m.set_ 2 (.string (opT o))
  unfold saC at this
  rw [List.setIfInBounds_toArray] at this
  exact this
theorem Sa.s3 (m : Sa w xb D bad win h) {x : Int} {n : Nat} (hx : x = (n : Int)) : Sa (w.setCell ⟨xb, 3, none⟩ (.int .i64 x)) xb D bad win { h with pc := n } := by
  subst hx
  have := m.set_ 3 (.int .i64 (n : Int))
  unfold saC at this
  rw [List.setIfInBounds_toArray] at this
  exact this
theorem Sa.s4 (m : Sa w xb D bad win h) {x : Int} {n : Nat} (hx : x = (n : Int)) : Sa (w.setCell ⟨xb, 4, none⟩ (.int .i64 x)) xb D bad win { h with en := n } := by
  subst hx
  have := m.set_ 4 (.int .i64 (n : Int))
  unfold saC at this
  rw [List.setIfInBounds_toArray] at this
  exact this
theorem Sa.s5 (m : Sa w xb D bad win h) {x : Int} {n : Nat} (hx : x = (n : Int)) : Sa (w.setCell ⟨xb, 5, none⟩ (.int .i64 x)) xb D bad win { h with last := n } := by
  subst hx
  have := m.set_ 5 (.int .i64 (n : Int))
  unfold saC at this
  rw [List.setIfInBounds_toArray] at this
  exact this
theorem Sa.s6 (m : Sa w xb D bad win h) (x : Bool) : Sa (w.setCell ⟨xb, 6, none⟩ (.bool x)) xb D bad win { h with br := x } := by
  have := m.set_ 6 (.bool x)
  unfold saC at this
  rw [List.setIfInBounds_toArray] at this
  exact this
theorem Sa.same (m : Sa w xb D bad win h) {w' : World} (e : w'.heap[xb]? = w.heap[xb]?) : Sa w' xb D bad win h := e.trans m
theorem Sa.drewN (m : Sa w xb D bad win h) (n : Nat) : Sa (w.drewN n) xb D bad win h := Blk.drewN m n
end
/-- What reading a piece comes to: the place that is answered, and the cells. -/
def SaO (s : ByteArray) (w : World) (xb D : Nat) (q : Ho) (v : Int) : Prop := match q with
  | .on h r => ∃ j : Nat, j ≤ s.size ∧ r = LL s j ∧ v = (j : Int) ∧ Sa w xb D (-1) false h
  | .bad _ _ => v = -1 ∧ ∃ (k : Nat) (h' : Hs), Sa w xb D (k : Int) false h'
  | .win h => v = -1 ∧ Sa w xb D (-1) true h

set_option maxHeartbeats 400000 in
theorem sfail_any {w : World} {xb D : Nat} {bad : Int} {win : Bool} {h : Hs} (m : Sa w xb D bad win h) (k : Int) :
    Calls Tryz.prog 37 #[mptr xb, .int .i64 k] w fun e w' => e = .returned (.int .i64 (-1)) ∧ Mv w.heap.size [xb] w w' ∧ Sa w' xb D k win h := by
  have c0 := m.c0
  have z0 := m.fr 0
  have M := Lib.hid m
  clear m
  go_enter Tryz.func37, Tryz.ntmps37
  go_wp2
  go_ret
  exact ⟨rfl, (mv0 w xb).put1 _ _, M.out.s0 k⟩
set_option maxHeartbeats 400000 in
theorem sstop_any {w : World} {xb D : Nat} {bad : Int} {win : Bool} {h : Hs} (m : Sa w xb D bad win h) :
    Calls Tryz.prog 57 #[mptr xb] w fun e w' => e = .returned (.int .i64 (-1)) ∧ Mv w.heap.size [xb] w w' ∧ Sa w' xb D bad true h := by
  have c1 := m.c1
  have z1 := m.fr 1
  have M := Lib.hid m
  clear m
  go_enter Tryz.func57, Tryz.ntmps57
  go_wp2
  go_ret
  exact ⟨rfl, (mv0 w xb).put1 _ _, M.out.s1 true⟩
set_option maxHeartbeats 400000 in
theorem sended_any {w : World} {xb D : Nat} {bad : Int} {win : Bool} {h : Hs} (m : Sa w xb D bad win h) (n : Nat) {x : Int} (hx : x = (n : Int)) :
    Calls Tryz.prog 56 #[mptr xb, .int .i64 x] w fun e w' => e = .returned (.tuple #[]) ∧ Mv w.heap.size [xb] w w' ∧ Sa w' xb D bad win (endH h n) := by
  subst hx
  have c5 := m.c5
  have c6 := m.c6
  have z5 := m.fr 5
  have z6 := m.fr 6
  have M := Lib.hid m
  clear m
  go_enter Tryz.func56, Tryz.ntmps56
  go_wp2
  go_end0
  exact ⟨rfl, ((mv0 w xb).put1 _ _).put1 _ _, (M.out.s5 (n := n) rfl).s6 false⟩
set_option maxHeartbeats 400000 in
theorem sjoined_any {w : World} {xb D : Nat} {bad : Int} {win : Bool} {h : Hs} (m : Sa w xb D bad win h) :
    Calls Tryz.prog 36 #[mptr xb] w fun e w' => e = .returned (.bool (joiH h)) ∧ w = w' := by
  have c5 := m.c5
  have c6 := m.c6
  clear m
  have e : joiH h = (((h.last : Nat) : Int) == 1 && !h.br) := by
    unfold joiH
    congr 1
    rw [Bool.eq_iff_iff, beq_iff_eq, beq_iff_eq]
    omega
  rw [e]
  clear e
  generalize ((h.last : Nat) : Int) = l at *
  generalize h.br = b at *
  cases h0 : (l == 1)
  all_goals
    go_enter Tryz.func36, Tryz.ntmps36
    go_wp2
    go_ret
    exact ⟨rfl, rfl⟩
set_option maxHeartbeats 400000 in
theorem sfeed_any (b : UInt8) (w : World) :
    Calls Tryz.prog 33 #[.int .u8 (b.toNat : Int)] w fun e w' => e = .returned (.bool (lineB b)) ∧ w = w' := by
  unfold lineB
  rw [bE b 10, bE b 13, show (((10 : UInt8).toNat : Nat) : Int) = 10 from rfl, show (((13 : UInt8).toNat : Nat) : Int) = 13 from rfl]
  cases h0 : ((b.toNat : Int) == 10)
  all_goals
    go_enter Tryz.func33, Tryz.ntmps33
    go_wp2
    go_ret
    exact ⟨rfl, rfl⟩
set_option maxHeartbeats 400000 in
theorem sinner_any (b : UInt8) (w : World) :
    Calls Tryz.prog 34 #[.int .u8 (b.toNat : Int)] w fun e w' => e = .returned (.bool (innB b)) ∧ w = w' := by
  have e : innB b = (letB b || digB b || ((b.toNat : Int) == 95) || ((b.toNat : Int) == 36) || decide ((127 : Int) < (b.toNat : Int))) := by
    unfold innB
    rw [bE b 95, bE b 36, show (((95 : UInt8).toNat : Nat) : Int) = 95 from rfl, show (((36 : UInt8).toNat : Nat) : Int) = 36 from rfl]
    congr 1
    rw [decide_eq_decide]
    omega
  rw [e]
  clear e
  have HL := Lib.hid (fun W => refLetter_any b W)
  have HD := Lib.hid (fun W => refDigit_any b W)
  generalize letB b = l at *
  generalize digB b = d at *
  cases l <;> cases d <;> cases h0 : ((b.toNat : Int) == 95) <;> cases h1 : ((b.toNat : Int) == 36)
  all_goals
    go_enter Tryz.func34, Tryz.ntmps34
    go_wp2_with (first
      | (go_at_call 54; (with_reducible refine (HL.out _).mono ?_); rintro e w1 ⟨rfl, rfl⟩)
      | (go_at_call 46; (with_reducible refine (HD.out _).mono ?_); rintro e w1 ⟨rfl, rfl⟩))
    go_ret
    exact ⟨rfl, rfl⟩
end Go.Proofs.YtbojbkpplejdmaaGreat
namespace Go.Proofs.YtbojbkpplejdmaaGreat
open Go.RowKit

set_option maxHeartbeats 1000000 in
theorem sdline_any {w : World} {s : ByteArray} {xb D : Nat} {h : Hs} (m : Sa w xb D (-1) false h) (k : Nat) (hk : k ≤ s.size) (hs : s.size ≤ 4611686018427387904) :
    Calls Tryz.prog 58 #[mptr xb, .string s, .int .i64 (k : Nat)] w fun e w' => ∃ v : Int, e = .returned (.int .i64 v) ∧ Mv w.heap.size [xb] w w' ∧ SaO s w' xb D (lineO h (LL s k)) v := by
  have c6 := m.c6
  have z6 := m.fr 6
  have M := Lib.hid m
  have HF := Lib.hid sfeed_any
  obtain ⟨q, hq⟩ : ∃ q, q = lineO h (LL s k) := ⟨_, rfl⟩
  rw [← hq]
  have HQ := Lib.hid hq
  clear hq m
  go_enter Tryz.func58, Tryz.ntmps58
  go_wp2
  go_loop [2] (fun i => ∃ j : Nat, j ≤ s.size ∧ i = .int .i64 j ∧ Hid (q = lineO h (LL s j))) (fun i => s.size - (intOf i).toNat)
  case atStart => exact ⟨k, hk, rfl, HQ⟩
  case round =>
    obtain ⟨j, hjs, rfl, HJ⟩ := hrel
    clear HQ
    by_cases hlt : j < s.size
    · have e1 : decide (j < s.size) = true := by simpa using hlt
      have HB := Lib.hid (fun W => HF.out s[j] W)
      have HC := Lib.hid (ll_cons hlt)
      cases hl : lineB s[j] with
      | true =>
        rw [hl] at HB
        have HZ : Hid (q = .on { h with br := true } (LL s (j + 1))) := Lib.hid (by rw [HJ.out, HC.out, lineO, hl]; rfl)
        clear hl
        go_wp2_with (go_at_call 33; (with_reducible refine (HB.out _).mono ?_); rintro e w1 ⟨rfl, rfl⟩)
        go_ret
        exact ⟨_, rfl, (mv0 w xb).put1 _ _, by rw [HZ.out]; exact ⟨j + 1, by omega, rfl, by go_num, M.out.s6 true⟩⟩
      | false =>
        rw [hl] at HB
        have HZ : Hid (q = lineO h (LL s (j + 1))) := Lib.hid (by rw [HJ.out, HC.out, lineO, hl]; rfl)
        clear hl
        go_wp2_with (go_at_call 33; (with_reducible refine (HB.out _).mono ?_); rintro e w1 ⟨rfl, rfl⟩)
        go_round
        case rel => exact ⟨j + 1, by omega, by go_num, HZ⟩
        case measure => simp [intOf]; omega
    · obtain rfl : j = s.size := by omega
      have HZ : Hid (q = .on h []) := Lib.hid (by rw [HJ.out, ll_nil (Nat.le_refl _)]; rfl)
      go_wp2
      go_ret
      exact ⟨_, rfl, mv0 w xb, by rw [HZ.out]; exact ⟨s.size, Nat.le_refl _, (ll_nil (Nat.le_refl _)).symm, rfl, M.out⟩⟩

theorem br_yes {h : Hs} {b : UInt8} (hb : h.br = true) : brH h b = { h with br := true } := by
  unfold brH
  rw [hb]
  rfl
theorem br_not {h : Hs} {b : UInt8} (hb : h.br = false) : brH h b = { h with br := lineB b } := by
  unfold brH
  rw [hb, Bool.false_or]
theorem ll_head {s : ByteArray} {k : Nat} (h : k < s.size) (c : UInt8) : ((LL s k).head? == some c) = (s[k] == c) := by
  rw [ll_cons h, List.head?_cons]
  rw [Bool.eq_iff_iff, beq_iff_eq, beq_iff_eq]
  exact ⟨fun e => by injection e, fun e => by rw [e]⟩
theorem ll_tail {s : ByteArray} {k : Nat} : (LL s k).tail = LL s (k + 1) := by
  unfold LL
  rw [List.tail_drop]

set_option maxHeartbeats 4000000 in
theorem sblock_any {w : World} {s : ByteArray} {xb D : Nat} {h : Hs} (m : Sa w xb D (-1) false h) (k : Nat) (hk : k ≤ s.size) (hs : s.size ≤ 4611686018427387904) :
    Calls Tryz.prog 59 #[mptr xb, .string s, .int .i64 (k : Nat)] w fun e w' => ∃ v : Int, e = .returned (.int .i64 v) ∧ Mv w.heap.size [xb] w w' ∧ SaO s w' xb D (blockO h (LL s k)) v := by
  have M := Lib.hid m
  have HF := Lib.hid sfeed_any
  obtain ⟨q, hq⟩ : ∃ q, q = blockO h (LL s k) := ⟨_, rfl⟩
  rw [← hq]
  have HQ := Lib.hid hq
  clear hq m
  go_enter Tryz.func59, Tryz.ntmps59
  go_wp2
  go_loopw [2] (fun i wr => ∃ (j : Nat) (h' : Hs), j ≤ s.size ∧ i = .int .i64 j ∧ Hid (Sa wr xb D (-1) false h') ∧ Hid (Mv w.heap.size [xb] w wr) ∧ Hid (q = blockO h' (LL s j))) (fun i _ => s.size - (intOf i).toNat)
  case atStart => exact ⟨k, h, hk, rfl, M, Lib.hid (mv0 w xb), HQ⟩
  case round =>
    obtain ⟨j, h', hjs, rfl, HS, HM, HJ⟩ := hrel
    clear HQ
    have c6 := HS.out.c6
    have z6 := HS.out.fr 6
    by_cases hlt : j < s.size
    · have e1 : decide (j < s.size) = true := by simpa using hlt
      have HB := Lib.hid (fun W => HF.out s[j] W)
      have HC := Lib.hid (ll_cons hlt)
      obtain ⟨n, hn⟩ : ∃ n, n = j + 1 := ⟨_, rfl⟩
      have g : ((j : Nat) : Int) + 1 = (n : Int) := by omega
      rw [← hn] at HC
      have HN := Lib.hid hn
      have hns : n ≤ s.size := by omega
      have e42 : (s[j] == 42) = ((s[j].toNat : Int) == 42) := bE s[j] 42
      by_cases hend : ((s[j] == 42) && ((LL s n).head? == some 47)) = true
      · have HZ : Hid (q = .on h' (LL s (n + 1))) := Lib.hid (by rw [HJ.out, HC.out, blockO, if_pos hend, ll_tail])
        rw [Bool.and_eq_true] at hend
        obtain ⟨hb, hh⟩ := hend
        have hnl : n < s.size := by
          rcases Nat.lt_or_ge n s.size with h1 | h1
          · exact h1
          · rw [ll_nil h1] at hh; cases hh
        have e2 : decide (n < s.size) = true := by simpa using hnl
        have t1 : ((s[j].toNat : Int) == 42) = true := by rw [← e42]; exact hb
        have t2 : ((s[n].toNat : Int) == 47) = true := by
          rw [← (show (s[n] == 47) = ((s[n].toNat : Int) == 47) from bE s[n] 47), ← ll_head hnl]
          exact hh
        clear hb hh hn e42
        go_wp2_with (go_at_call 33; (with_reducible refine (HB.out _).mono ?_); rintro e w1 ⟨rfl, rfl⟩)
        go_ret
        exact ⟨_, rfl, HM.out, by rw [HZ.out]; exact ⟨n + 1, by omega, rfl, by have := HN.out; go_num, HS.out⟩⟩
      · have HZ : Hid (q = blockO (brH h' s[j]) (LL s n)) := Lib.hid (by rw [HJ.out, HC.out, blockO, if_neg hend])
        have hc : decide (n < s.size) = false ∨ (decide (n < s.size) = true ∧ ((s[j].toNat : Int) == 42) = false) ∨ (∃ hnl : n < s.size, decide (n < s.size) = true ∧ ((s[j].toNat : Int) == 42) = true ∧ ((s[n].toNat : Int) == 47) = false) := by
          by_cases hnl : n < s.size
          · refine Or.inr ?_
            cases hb : (s[j] == 42) with
            | false => exact Or.inl ⟨by simpa using hnl, by rw [← e42]; exact hb⟩
            | true =>
              refine Or.inr ⟨hnl, by simpa using hnl, by rw [← e42]; exact hb, ?_⟩
              rw [hb, Bool.true_and, ll_head hnl] at hend
              rw [← (show (s[n] == 47) = ((s[n].toNat : Int) == 47) from bE s[n] 47)]
              exact Bool.eq_false_iff.2 hend
          · exact Or.inl (by simpa using hnl)
        have HR : ∀ x : Bool, brH h' s[j] = { h' with br := x } → Hid (∃ h2, Sa (wr.setCell ⟨xb, 6, none⟩ (.bool x)) xb D (-1) false h2 ∧ q = blockO h2 (LL s n)) := fun x hx => Lib.hid ⟨{ h' with br := x }, HS.out.s6 x, by rw [HZ.out, hx]⟩
        cases hbr : h'.br with
        | true =>
          rw [hbr] at c6
          have HR1 := HR true (br_yes hbr)
          clear hend hn HR hbr e42
          rcases hc with c1 | ⟨c1, c2⟩ | ⟨hnl, c1, c2, c3⟩
          all_goals
            go_wp2
            go_roundw
            case rel =>
              obtain ⟨h2, h3, h4⟩ := HR1.out
              exact ⟨n, h2, hns, rfl, Lib.hid h3, Lib.hid (HM.out.put1 _ _), Lib.hid h4⟩
            case measure => have := HN.out; simp [intOf]; omega
        | false =>
          rw [hbr] at c6
          have HR1 := HR _ (br_not hbr)
          clear hend hn HR hbr e42
          generalize lineB s[j] = x at *
          rcases hc with c1 | ⟨c1, c2⟩ | ⟨hnl, c1, c2, c3⟩
          all_goals
            go_wp2_with (go_at_call 33; (with_reducible refine (HB.out _).mono ?_); rintro e w1 ⟨rfl, rfl⟩)
            go_roundw
            case rel =>
              obtain ⟨h2, h3, h4⟩ := HR1.out
              exact ⟨n, h2, hns, rfl, Lib.hid h3, Lib.hid (HM.out.put1 _ _), Lib.hid h4⟩
            case measure => have := HN.out; simp [intOf]; omega
    · obtain rfl : j = s.size := by omega
      have HZ : Hid (q = .win h') := Lib.hid (by rw [HJ.out, ll_nil (Nat.le_refl _)]; rfl)
      have HT := Lib.hid (sstop_any HS.out)
      go_wp2_with (go_at_call 57; (with_reducible refine HT.out.mono ?_); rintro e w1 ⟨rfl, hm, hx⟩; have HM1 := Lib.hid hm; have HX := Lib.hid hx; clear hm hx)
      go_ret
      exact ⟨_, rfl, HM.out.then1 HM1.out, by rw [HZ.out]; exact ⟨rfl, HX.out⟩⟩

theorem quote_esc {y : UInt8} {h : Hs} {s : ByteArray} {j : Nat} {b : UInt8} (hb : (b == 92) = true) : quoteO y h (b :: LL s (j + 1)) = quoteO y h (LL s (j + 2)) := by
  rw [quoteO_cons, if_pos hb]
  by_cases hlt : j + 1 < s.size
  · rw [ll_cons hlt]
  · rw [ll_nil (s := s) (k := j + 1) (by omega), ll_nil (s := s) (k := j + 2) (by omega)]
    rfl
theorem quote_no {y : UInt8} {h : Hs} {b : UInt8} {l : List UInt8} (hb : (b == 92) = false) : quoteO y h (b :: l) = if lineB b then .bad h (b :: l) else if b == y then .on (endH h 1) l else quoteO y h l := by
  rw [quoteO_cons, hb]
  rfl
set_option maxHeartbeats 4000000 in
theorem squote_any {w : World} {s : ByteArray} {xb D : Nat} {h : Hs} (m : Sa w xb D (-1) false h) (y : UInt8) (k : Nat) (hk : k ≤ s.size) (hs : s.size ≤ 4611686018427387904) :
    Calls Tryz.prog 38 #[mptr xb, .string s, .int .i64 (k : Nat), .int .u8 (y.toNat : Int)] w fun e w' => ∃ v : Int, e = .returned (.int .i64 v) ∧ Mv w.heap.size [xb] w w' ∧ SaO s w' xb D (quoteO y h (LL s k)) v := by
  have HF := Lib.hid sfeed_any
  have HE := Lib.hid (sended_any m 1 (x := 1) rfl)
  have HT := Lib.hid (sstop_any m)
  have HA := Lib.hid (fun k => sfail_any m k)
  obtain ⟨q, hq⟩ : ∃ q, q = quoteO y h (LL s k) := ⟨_, rfl⟩
  rw [← hq]
  have HQ := Lib.hid hq
  clear hq m
  go_enter Tryz.func38, Tryz.ntmps38
  go_wp2
  go_loop [2] (fun i => ∃ j : Nat, j ≤ s.size + 1 ∧ i = .int .i64 j ∧ Hid (q = quoteO y h (LL s j))) (fun i => s.size + 1 - (intOf i).toNat)
  case atStart => exact ⟨k, by omega, rfl, HQ⟩
  case round =>
    obtain ⟨j, hjs, rfl, HJ⟩ := hrel
    clear HQ
    by_cases hlt : j < s.size
    · have e1 : decide (j < s.size) = true := by simpa using hlt
      have HB := Lib.hid (fun W => HF.out s[j] W)
      have HC := Lib.hid (ll_cons hlt)
      have e92 : (s[j] == 92) = ((s[j].toNat : Int) == 92) := bE s[j] 92
      have ey := bE s[j] y
      cases h92 : (s[j] == 92) with
      | true =>
        rw [h92] at e92
        have t1 := e92.symm
        have HZ : Hid (q = quoteO y h (LL s (j + 2))) := Lib.hid (by rw [HJ.out, HC.out, quote_esc h92])
        clear h92 e92 ey
        go_wp2
        go_round
        case rel => exact ⟨j + 2, by omega, by go_num, HZ⟩
        case measure => simp [intOf]; omega
      | false =>
        rw [h92] at e92
        have t1 := e92.symm
        have HR := Lib.hid (HJ.out.trans ((congrArg _ HC.out).trans (quote_no h92)))
        cases hl : lineB s[j] with
        | true =>
          rw [hl] at HB
          have HZ : Hid (q = .bad h (s[j] :: LL s (j + 1))) := Lib.hid (by rw [HR.out, hl]; rfl)
          clear h92 e92 ey hl
          go_wp2_with (first
            | (go_at_call 33; (with_reducible refine (HB.out _).mono ?_); rintro e w1 ⟨rfl, rfl⟩)
            | (go_at_call 37; (with_reducible refine (HA.out _).mono ?_); rintro e w1 ⟨rfl, hm, hx⟩; have HM1 := Lib.hid hm; have HX := Lib.hid hx; clear hm hx))
          go_ret
          exact ⟨_, rfl, HM1.out, by rw [HZ.out]; exact ⟨rfl, j, h, HX.out⟩⟩
        | false =>
          rw [hl] at HB
          cases hy : (s[j] == y) with
          | true =>
            rw [hy] at ey
            have t2 := ey.symm
            have HZ : Hid (q = .on (endH h 1) (LL s (j + 1))) := Lib.hid (by rw [HR.out, hl, hy]; rfl)
            clear h92 e92 ey hl hy
            go_wp2_with (first
              | (go_at_call 33; (with_reducible refine (HB.out _).mono ?_); rintro e w1 ⟨rfl, rfl⟩)
              | (go_at_call 56; (with_reducible refine HE.out.mono ?_); rintro e w1 ⟨rfl, hm, hx⟩; have HM1 := Lib.hid hm; have HX := Lib.hid hx; clear hm hx))
            go_ret
            exact ⟨_, rfl, HM1.out, by rw [HZ.out]; exact ⟨j + 1, by omega, rfl, by go_num, HX.out⟩⟩
          | false =>
            rw [hy] at ey
            have t2 := ey.symm
            have HZ : Hid (q = quoteO y h (LL s (j + 1))) := Lib.hid (by rw [HR.out, hl, hy]; rfl)
            clear h92 e92 ey hl hy
            go_wp2_with (go_at_call 33; (with_reducible refine (HB.out _).mono ?_); rintro e w1 ⟨rfl, rfl⟩)
            go_round
            case rel => exact ⟨j + 1, by omega, by go_num, HZ⟩
            case measure => simp [intOf]; omega
    · have HZ : Hid (q = .win h) := Lib.hid (by rw [HJ.out, ll_nil (by omega)]; rfl)
      have e1 : decide (j < s.size) = false := by simpa using hlt
      go_wp2_with (go_at_call 57; (with_reducible refine HT.out.mono ?_); rintro e w1 ⟨rfl, hm, hx⟩; have HM1 := Lib.hid hm; have HX := Lib.hid hx; clear hm hx)
      go_ret
      exact ⟨_, rfl, HM1.out, by rw [HZ.out]; exact ⟨rfl, HX.out⟩⟩
end Go.Proofs.YtbojbkpplejdmaaGreat
namespace Go.Proofs.YtbojbkpplejdmaaGreat
open Go.RowKit

theorem pat_esc {h : Hs} {inb : Bool} {s : ByteArray} {j : Nat} {b : UInt8} (hb : (b == 92) = true) : patO h inb (b :: LL s (j + 1)) = patO h inb (LL s (j + 2)) := by
  rw [patO_cons, if_pos hb]
  by_cases hlt : j + 1 < s.size
  · rw [ll_cons hlt]
  · rw [ll_nil (s := s) (k := j + 1) (by omega), ll_nil (s := s) (k := j + 2) (by omega)]
    cases inb <;> rfl
theorem pat_no {h : Hs} {inb : Bool} {b : UInt8} {l : List UInt8} (hb : (b == 92) = false) : patO h inb (b :: l) = if lineB b then .bad h (b :: l) else if b == 47 && !inb then .on (endH h 1) (l.dropWhile innB)
      else if b == 91 then patO h true l else if b == 93 then patO h false l else patO h inb l := by
  rw [patO_cons, hb]
  rfl
theorem pat_nil {h : Hs} {inb : Bool} : patO h inb [] = .win h := by cases inb <;> rfl
set_option maxHeartbeats 8000000 in
set_option maxRecDepth 10000 in
theorem spattern_any {w : World} {s : ByteArray} {xb D : Nat} {h : Hs} (m : Sa w xb D (-1) false h) (k : Nat) (hk : k ≤ s.size) (hs : s.size ≤ 4611686018427387904) :
    Calls Tryz.prog 60 #[mptr xb, .string s, .int .i64 (k : Nat)] w fun e w' => ∃ v : Int, e = .returned (.int .i64 v) ∧ Mv w.heap.size [xb] w w' ∧ SaO s w' xb D (patO h false (LL s k)) v := by
  have HF := Lib.hid sfeed_any
  have HI := Lib.hid sinner_any
  have HE := Lib.hid (sended_any m 1 (x := 1) rfl)
  have HT := Lib.hid (sstop_any m)
  have HA := Lib.hid (fun k => sfail_any m k)
  obtain ⟨q, hq⟩ : ∃ q, q = patO h false (LL s k) := ⟨_, rfl⟩
  rw [← hq]
  have HQ := Lib.hid hq
  clear hq m
  go_enter Tryz.func60, Tryz.ntmps60
  go_wp2
  go_loop [2, 7] (fun i c => ∃ (j : Nat) (inb : Bool), j ≤ s.size + 1 ∧ i = .int .i64 j ∧ c = .bool inb ∧ Hid (q = patO h inb (LL s j))) (fun i _ => s.size + 1 - (intOf i).toNat)
  case atStart => exact ⟨k, false, by omega, rfl, rfl, HQ⟩
  case round =>
    obtain ⟨j, inb, hjs, rfl, rfl, HJ⟩ := hrel
    clear HQ
    by_cases hlt : j < s.size
    · have e1 : decide (j < s.size) = true := by simpa using hlt
      have HB := Lib.hid (fun W => HF.out s[j] W)
      have HC := Lib.hid (ll_cons hlt)
      have e92 : (s[j] == 92) = ((s[j].toNat : Int) == 92) := bE s[j] 92
      have e47 : (s[j] == 47) = ((s[j].toNat : Int) == 47) := bE s[j] 47
      have e91 : (s[j] == 91) = ((s[j].toNat : Int) == 91) := bE s[j] 91
      have e93 : (s[j] == 93) = ((s[j].toNat : Int) == 93) := bE s[j] 93
      cases h92 : (s[j] == 92) with
      | true =>
        rw [h92] at e92
        have t1 := e92.symm
        have HZ : Hid (q = patO h inb (LL s (j + 2))) := Lib.hid (by rw [HJ.out, HC.out, pat_esc h92])
        clear h92 e92 e47 e91 e93
        go_wp2
        go_round
        case rel => exact ⟨j + 2, inb, by omega, by go_num, rfl, HZ⟩
        case measure => simp [intOf]; omega
      | false =>
        rw [h92] at e92
        have t1 := e92.symm
        have HR := Lib.hid (HJ.out.trans ((congrArg _ HC.out).trans (pat_no h92)))
        cases hl : lineB s[j] with
        | true =>
          rw [hl] at HB
          have HZ : Hid (q = .bad h (s[j] :: LL s (j + 1))) := Lib.hid (by rw [HR.out, hl]; rfl)
          clear h92 e92 e47 e91 e93 hl
          go_wp2_with (first
            | (go_at_call 33; (with_reducible refine (HB.out _).mono ?_); rintro e w1 ⟨rfl, rfl⟩)
            | (go_at_call 37; (with_reducible refine (HA.out _).mono ?_); rintro e w1 ⟨rfl, hm, hx⟩; have HM1 := Lib.hid hm; have HX := Lib.hid hx; clear hm hx))
          go_ret
          exact ⟨_, rfl, HM1.out, by rw [HZ.out]; exact ⟨rfl, j, h, HX.out⟩⟩
        | false =>
          rw [hl] at HB
          cases h47 : ((s[j] == 47) && !inb) with
          | true =>
            have HZ : Hid (q = .on (endH h 1) ((LL s (j + 1)).dropWhile innB)) := Lib.hid (by rw [HR.out, hl, h47]; rfl)
            rw [Bool.and_eq_true] at h47
            obtain ⟨h47, hi⟩ := h47
            rw [h47] at e47
            have t2 := e47.symm
            have hi' : inb = false := by cases inb; rfl; cases hi
            subst hi'
            clear h92 e92 e47 e91 e93 hl h47 hi HR HC HJ
            go_wp2_with (go_at_call 33; (with_reducible refine (HB.out _).mono ?_); rintro e w1 ⟨rfl, rfl⟩)
            go_loop [2] (fun i => ∃ n : Nat, n ≤ s.size ∧ i = .int .i64 n ∧ Hid (q = .on (endH h 1) ((LL s n).dropWhile innB))) (fun i => s.size - (intOf i).toNat)
            case atStart => exact ⟨j + 1, by omega, by go_num, HZ⟩
            case round =>
              obtain ⟨n, hns, rfl, HN⟩ := hrel
              by_cases hln : n < s.size
              · have e2 : decide (n < s.size) = true := by simpa using hln
                have HBN := Lib.hid (fun W => HI.out s[n] W)
                have HCN := Lib.hid (ll_cons hln)
                cases hi : innB s[n] with
                | true =>
                  rw [hi] at HBN
                  have HY : Hid (q = .on (endH h 1) ((LL s (n + 1)).dropWhile innB)) := Lib.hid (by rw [HN.out, HCN.out, List.dropWhile_cons, hi]; rfl)
                  clear hi HZ
                  go_wp2_with (go_at_call 34; (with_reducible refine (HBN.out _).mono ?_); rintro e w1 ⟨rfl, rfl⟩)
                  go_round
                  case rel => exact ⟨n + 1, by omega, by go_num, HY⟩
                  case measure => simp [intOf]; omega
                | false =>
                  rw [hi] at HBN
                  have HY : Hid (q = .on (endH h 1) (LL s n)) := Lib.hid (by rw [HN.out, HCN.out, List.dropWhile_cons, hi]; rfl)
                  clear hi HZ
                  go_wp2_with (first
                    | (go_at_call 34; (with_reducible refine (HBN.out _).mono ?_); rintro e w1 ⟨rfl, rfl⟩)
                    | (go_at_call 56; (with_reducible refine HE.out.mono ?_); rintro e w1 ⟨rfl, hm, hx⟩; have HM1 := Lib.hid hm; have HX := Lib.hid hx; clear hm hx))
                  go_ret
                  exact ⟨_, rfl, HM1.out, by rw [HY.out]; exact ⟨n, hns, rfl, rfl, HX.out⟩⟩
              · obtain rfl : n = s.size := by omega
                have HY : Hid (q = .on (endH h 1) (LL s s.size)) := Lib.hid (by rw [HN.out, ll_nil (Nat.le_refl _)]; rfl)
                clear HZ
                go_wp2_with (go_at_call 56; (with_reducible refine HE.out.mono ?_); rintro e w1 ⟨rfl, hm, hx⟩; have HM1 := Lib.hid hm; have HX := Lib.hid hx; clear hm hx)
                go_ret
                exact ⟨_, rfl, HM1.out, by rw [HY.out]; exact ⟨s.size, Nat.le_refl _, rfl, rfl, HX.out⟩⟩
          | false =>
            have HR2 := Lib.hid (show q = if s[j] == 91 then patO h true (LL s (j + 1)) else if s[j] == 93 then patO h false (LL s (j + 1)) else patO h inb (LL s (j + 1)) by rw [HR.out, hl, h47]; rfl)
            have hc : ((s[j].toNat : Int) == 47) = false ∨ (((s[j].toNat : Int) == 47) = true ∧ inb = true) := by
              rw [← e47]
              cases hb : (s[j] == 47) with
              | false => exact Or.inl rfl
              | true =>
                rw [hb, Bool.true_and] at h47
                exact Or.inr ⟨rfl, by cases inb; cases h47; rfl⟩
            cases h91 : (s[j] == 91) with
            | true =>
              rw [h91] at e91
              have t2 := e91.symm
              have HZ : Hid (q = patO h true (LL s (j + 1))) := Lib.hid (by rw [HR2.out, h91]; rfl)
              clear h92 e92 e47 e91 e93 hl h47 h91 HR HC HJ HR2
              rcases hc with c1 | ⟨c1, rfl⟩
              all_goals
                go_wp2_with (go_at_call 33; (with_reducible refine (HB.out _).mono ?_); rintro e w1 ⟨rfl, rfl⟩)
                go_round
                case rel => exact ⟨j + 1, true, by omega, by go_num, rfl, HZ⟩
                case measure => simp [intOf]; omega
            | false =>
              rw [h91] at e91
              have t2 := e91.symm
              cases h93 : (s[j] == 93) with
              | true =>
                rw [h93] at e93
                have t3 := e93.symm
                have HZ : Hid (q = patO h false (LL s (j + 1))) := Lib.hid (by rw [HR2.out, h91, h93]; rfl)
                clear h92 e92 e47 e91 e93 hl h47 h91 h93 HR HC HJ HR2
                rcases hc with c1 | ⟨c1, rfl⟩
                all_goals
                  go_wp2_with (go_at_call 33; (with_reducible refine (HB.out _).mono ?_); rintro e w1 ⟨rfl, rfl⟩)
                  go_round
                  case rel => exact ⟨j + 1, false, by omega, by go_num, rfl, HZ⟩
                  case measure => simp [intOf]; omega
              | false =>
                rw [h93] at e93
                have t3 := e93.symm
                have HZ : Hid (q = patO h inb (LL s (j + 1))) := Lib.hid (by rw [HR2.out, h91, h93]; rfl)
                clear h92 e92 e47 e91 e93 hl h47 h91 h93 HR HC HJ HR2
                rcases hc with c1 | ⟨c1, rfl⟩
                all_goals
                  go_wp2_with (go_at_call 33; (with_reducible refine (HB.out _).mono ?_); rintro e w1 ⟨rfl, rfl⟩)
                  go_round
                  case rel => exact ⟨j + 1, _, by omega, by go_num, rfl, HZ⟩
                  case measure => simp [intOf]; omega
    · have HZ : Hid (q = .win h) := Lib.hid (by rw [HJ.out, ll_nil (by omega), pat_nil])
      have e1 : decide (j < s.size) = false := by simpa using hlt
      go_wp2_with (go_at_call 57; (with_reducible refine HT.out.mono ?_); rintro e w1 ⟨rfl, hm, hx⟩; have HM1 := Lib.hid hm; have HX := Lib.hid hx; clear hm hx)
      go_ret
      exact ⟨_, rfl, HM1.out, by rw [HZ.out]; exact ⟨rfl, HX.out⟩⟩

set_option maxHeartbeats 4000000 in
set_option maxRecDepth 10000 in
theorem sslash_any {w : World} {s : ByteArray} {xb D : Nat} {h : Hs} (m : Sa w xb D (-1) false h) (k : Nat) (hk : k < s.size) (hs : s.size ≤ 4611686018427387904) (hp : h.pc + 1 ≤ 4611686018427387904) :
    Calls Tryz.prog 40 #[mptr xb, .string s, .int .i64 (k : Nat)] w fun e w' => ∃ v : Int, e = .returned (.int .i64 v) ∧ Mv w.heap.size [xb] w w' ∧ SaO s w' xb D (slashO h (LL s (k + 1))) v := by
  have c3 := m.c3
  have z3 := m.fr 3
  have c5 := m.c5
  obtain ⟨q, hq⟩ : ∃ q, q = slashO h (LL s (k + 1)) := ⟨_, rfl⟩
  rw [← hq]
  have HQ := Lib.hid hq
  clear hq
  obtain ⟨n, hn⟩ : ∃ n, n = k + 1 := ⟨_, rfl⟩
  have g : ((k : Nat) : Int) + 1 = (n : Int) := by omega
  obtain ⟨n2, hn2⟩ : ∃ n2, n2 = n + 1 := ⟨_, rfl⟩
  have g2 : ((k : Nat) : Int) + 2 = (n2 : Int) := by omega
  rw [← hn] at HQ
  have hns : n ≤ s.size := by omega
  by_cases hlt : n < s.size
  · have e1 : (((n : Nat) : Int) == ((s.size : Nat) : Int)) = false := by rw [beq_eq_false_iff_ne]; omega
    have e47 : (s[n] == 47) = ((s[n].toNat : Int) == 47) := bE s[n] 47
    have e42 : (s[n] == 42) = ((s[n].toNat : Int) == 42) := bE s[n] 42
    have HC := Lib.hid (ll_cons hlt)
    have HR := Lib.hid (HQ.out.trans (show slashO h (LL s n) = if s[n] == 47 then lineO h (LL s (n + 1)) else if s[n] == 42 then blockO h (LL s (n + 1)) else if h.last != 0 then .on (endH (pcH h) 0) (LL s n) else patO (pcH h) false (LL s n) by rw [HC.out]; rfl))
    have M1 := Lib.hid (show Sa (w.setCell ⟨xb, 3, none⟩ (.int .i64 ((h.pc : Int) + 1))) xb D (-1) false (pcH h) from m.s3 (n := h.pc + 1) (by simp))
    cases h47 : (s[n] == 47) with
    | true =>
      rw [h47] at e47
      have t1 := e47.symm
      have HZ : Hid (q = lineO h (LL s n2)) := Lib.hid (by rw [HR.out, h47, hn2]; rfl)
      have HL := Lib.hid (sdline_any m n2 (by omega) hs)
      clear h47 e47 e42 hn m hn2
      go_enter Tryz.func40, Tryz.ntmps40
      go_wp2_with (go_at_call 58; (with_reducible refine HL.out.mono ?_); rintro e w1 ⟨v, rfl, hm, hx⟩; have HM1 := Lib.hid hm; have HX := Lib.hid hx; clear hm hx)
      go_ret
      exact ⟨_, rfl, HM1.out, by rw [HZ.out]; exact HX.out⟩
    | false =>
      rw [h47] at e47
      have t1 := e47.symm
      cases h42 : (s[n] == 42) with
      | true =>
        rw [h42] at e42
        have t2 := e42.symm
        have HZ : Hid (q = blockO h (LL s n2)) := Lib.hid (by rw [HR.out, h47, h42, hn2]; rfl)
        have HL := Lib.hid (sblock_any m n2 (by omega) hs)
        clear h47 e47 h42 e42 hn m hn2
        go_enter Tryz.func40, Tryz.ntmps40
        go_wp2_with (go_at_call 59; (with_reducible refine HL.out.mono ?_); rintro e w1 ⟨v, rfl, hm, hx⟩; have HM1 := Lib.hid hm; have HX := Lib.hid hx; clear hm hx)
        go_ret
        exact ⟨_, rfl, HM1.out, by rw [HZ.out]; exact HX.out⟩
      | false =>
        rw [h42] at e42
        have t2 := e42.symm
        cases hl : (h.last != 0) with
        | true =>
          have t3 : (((h.last : Nat) : Int) != 0) = true := by rw [bne_iff_ne] at hl ⊢; omega
          have HZ : Hid (q = .on (endH (pcH h) 0) (LL s n)) := Lib.hid (by rw [HR.out, h47, h42, hl]; rfl)
          have HE := Lib.hid (sended_any M1.out 0 (x := 0) rfl)
          clear h47 e47 h42 e42 hn m hn2 hl
          generalize ((h.last : Nat) : Int) = x at *
          go_enter Tryz.func40, Tryz.ntmps40
          go_wp2_with (go_at_call 56; (with_reducible refine HE.out.mono ?_); rintro e w1 ⟨rfl, hm, hx⟩; have HM1 := Lib.hid hm; have HX := Lib.hid hx; clear hm hx)
          go_ret
          exact ⟨_, rfl, ((mv0 w xb).put1 _ _).then1 HM1.out, by rw [HZ.out]; exact ⟨n, hns, rfl, rfl, HX.out⟩⟩
        | false =>
          have t3 : (((h.last : Nat) : Int) != 0) = false := by
            rw [bne_eq_false_iff_eq] at hl ⊢
            omega
          have HZ : Hid (q = patO (pcH h) false (LL s n)) := Lib.hid (by rw [HR.out, h47, h42, hl]; rfl)
          have HL := Lib.hid (spattern_any M1.out n hns hs)
          clear h47 e47 h42 e42 hn m hn2 hl
          generalize ((h.last : Nat) : Int) = x at *
          go_enter Tryz.func40, Tryz.ntmps40
          go_wp2_with (go_at_call 60; (with_reducible refine HL.out.mono ?_); rintro e w1 ⟨v, rfl, hm, hx⟩; have HM1 := Lib.hid hm; have HX := Lib.hid hx; clear hm hx)
          go_ret
          exact ⟨_, rfl, ((mv0 w xb).put1 _ _).then1 HM1.out, by rw [HZ.out]; exact HX.out⟩
  · obtain rfl : n = s.size := by omega
    have HZ : Hid (q = .win h) := Lib.hid (by rw [HQ.out, ll_nil (Nat.le_refl _)]; rfl)
    have HT := Lib.hid (sstop_any m)
    clear m hn hn2
    go_enter Tryz.func40, Tryz.ntmps40
    go_wp2_with (go_at_call 57; (with_reducible refine HT.out.mono ?_); rintro e w1 ⟨rfl, hm, hx⟩; have HM1 := Lib.hid hm; have HX := Lib.hid hx; clear hm hx)
    go_ret
    exact ⟨_, rfl, HM1.out, by rw [HZ.out]; exact ⟨rfl, HX.out⟩⟩

/-- What is left of <!-- where i of its bytes are gone by. -/
def lesO (h : Hs) (i : Nat) (l : List UInt8) : Ho := if i = 4 then lineO h l else lessO h i l
theorem les_nil {h : Hs} {i : Nat} (hi : i ≠ 4) : lesO h i [] = .win h := by unfold lesO; rw [if_neg hi]; cases i <;> rfl
theorem les_cons {h : Hs} {i : Nat} {b : UInt8} {l : List UInt8} (hi : i < 4) : lesO h i (b :: l) = if b == minH i then lesO h (i + 1) l else .bad h (b :: l) := by
  unfold lesO
  rw [if_neg (by omega), lessO]
  cases hm : (b == minH i) with
  | false => rfl
  | true =>
    rw [if_pos rfl, if_pos rfl]
    by_cases h3 : i = 3
    · subst h3; rfl
    · rw [if_neg (by simpa using h3), if_neg (by omega)]
set_option maxHeartbeats 4000000 in
set_option maxRecDepth 10000 in
theorem sless_any {w : World} {s : ByteArray} {xb D : Nat} {h : Hs} (m : Sa w xb D (-1) false h) (k : Nat) (hk : k < s.size) (hs : s.size ≤ 4611686018427387904) :
    Calls Tryz.prog 41 #[mptr xb, .string s, .int .i64 (k : Nat)] w fun e w' => ∃ v : Int, e = .returned (.int .i64 v) ∧ Mv w.heap.size [xb] w w' ∧ SaO s w' xb D (lessO h 1 (LL s (k + 1))) v := by
  have HT := Lib.hid (fun n => sstop_any (m.drewN n))
  have HA := Lib.hid (fun n k => sfail_any (m.drewN n) k)
  have HL := Lib.hid (fun n (h4 : k + 4 ≤ s.size) => sdline_any (m.drewN n) (k + 4) h4 hs)
  obtain ⟨q, hq⟩ : ∃ q, q = lessO h 1 (LL s (k + 1)) := ⟨_, rfl⟩
  rw [← hq]
  have HQ := Lib.hid (show q = lesO h 1 (LL s (k + 1)) from hq)
  clear hq m
  go_enter Tryz.func41, Tryz.ntmps41
  go_wp2
  go_loopw [8] (fun i wr => ∃ (n m : Nat) (c : Int), i = .int .i64 c ∧ c = (n : Int) ∧ 1 ≤ n ∧ n ≤ 4 ∧ k + n ≤ s.size ∧ wr = w.drewN m ∧ Hid (q = lesO h n (LL s (k + n)))) (fun i _ => 4 - (intOf i).toNat)
  case atStart => exact ⟨1, 0, 1, rfl, rfl, by omega, by omega, by omega, rfl, HQ⟩
  case round =>
    obtain ⟨n, mm, c, rfl, hcn, hn1, hn4, hks, rfl, HN⟩ := hrel
    clear HQ
    by_cases h4 : n = 4
    · subst h4
      have hc4 : c = 4 := hcn
      subst hc4
      obtain ⟨p, hp⟩ : ∃ p, p = k + 4 := ⟨_, rfl⟩
      have HLL := Lib.hid (HL.out mm hks)
      have g : ((k : Nat) : Int) + 4 = (p : Int) := by omega
      rw [← hp] at HLL HN
      clear hp hcn
      go_wp2_with (go_at_call 58; (with_reducible refine HLL.out.mono ?_); rintro e w1 ⟨v, rfl, hm, hx⟩; have HM1 := Lib.hid hm; have HX := Lib.hid hx; clear hm hx)
      go_ret
      exact ⟨_, rfl, ((mv0 w xb).drewN _).then1 HM1.out, by rw [HN.out]; exact HX.out⟩
    · obtain ⟨p, hp⟩ : ∃ p, p = k + n := ⟨_, rfl⟩
      have g : ((k : Nat) : Int) + c = (p : Int) := by omega
      rw [← hp] at HN hks
      obtain ⟨d, hd⟩ : ∃ d, d = ((minH n).toNat : Int) := ⟨_, rfl⟩
      have hn3 : (c = 1 ∧ d = 33) ∨ (c = 2 ∧ d = 45) ∨ (c = 3 ∧ d = 45) := by
        have : n = 1 ∨ n = 2 ∨ n = 3 := by omega
        rcases this with rfl | rfl | rfl
        · exact Or.inl ⟨hcn, hd⟩
        · exact Or.inr (Or.inl ⟨hcn, hd⟩)
        · exact Or.inr (Or.inr ⟨hcn, hd⟩)
      have HCN := Lib.hid hcn
      by_cases hlt : p < s.size
      · have e1 : (((p : Nat) : Int) == ((s.size : Nat) : Int)) = false := by rw [beq_eq_false_iff_ne]; omega
        have HC := Lib.hid (ll_cons hlt)
        have HR := Lib.hid (HN.out.trans ((congrArg _ HC.out).trans (les_cons (by omega))))
        have eb := bE s[p] (minH n)
        rw [← hd] at eb
        cases hb : (s[p] == minH n) with
        | true =>
          have HNN : Hid (q = lesO h (n + 1) (LL s (k + (n + 1))) ∧ k + (n + 1) ≤ s.size ∧ n + 1 ≤ 4) := Lib.hid ⟨by rw [HR.out, hb, if_pos rfl, show k + (n + 1) = p + 1 from by omega], by omega, by omega⟩
          rw [hb] at eb
          have t1 : ((s[p].toNat : Int) != d) = false := by unfold bne; rw [← eb]; rfl
          clear hb hp eb hd hcn
          rcases hn3 with ⟨rfl, rfl⟩ | ⟨rfl, rfl⟩ | ⟨rfl, rfl⟩
          all_goals
            first
              | have u1 : ((s[p].toNat : Int) != ((({ data := #[60, 33, 45, 45] } : ByteArray)[1]'(by decide)).toNat : Int)) = false := t1
              | (have u2 : ((s[p].toNat : Int) != ((({ data := #[60, 33, 45, 45] } : ByteArray)[2]'(by decide)).toNat : Int)) = false := t1; have u3 : ((s[p].toNat : Int) != ((({ data := #[60, 33, 45, 45] } : ByteArray)[3]'(by decide)).toNat : Int)) = false := t1)
            go_wp2
            go_quiet (fail)
            go_wp2
            exact ⟨⟨n + 1, _, _, rfl, by have := HCN.out; omega, by omega, HNN.out.2.2, HNN.out.2.1, rfl, Lib.hid HNN.out.1⟩, by simp [intOf]⟩
        | false =>
          have HZ : Hid (q = .bad h (s[p] :: LL s (p + 1))) := Lib.hid (by rw [HR.out, hb]; rfl)
          rw [hb] at eb
          have t1 : ((s[p].toNat : Int) != d) = true := by unfold bne; rw [← eb]; rfl
          clear hb hp eb hd hcn
          rcases hn3 with ⟨rfl, rfl⟩ | ⟨rfl, rfl⟩ | ⟨rfl, rfl⟩
          all_goals
            first
              | have u1 : ((s[p].toNat : Int) != ((({ data := #[60, 33, 45, 45] } : ByteArray)[1]'(by decide)).toNat : Int)) = true := t1
              | (have u2 : ((s[p].toNat : Int) != ((({ data := #[60, 33, 45, 45] } : ByteArray)[2]'(by decide)).toNat : Int)) = true := t1; have u3 : ((s[p].toNat : Int) != ((({ data := #[60, 33, 45, 45] } : ByteArray)[3]'(by decide)).toNat : Int)) = true := t1)
            go_wp2
            go_quiet (fail)
            go_wp2_with (go_at_call 37; (with_reducible refine (HA.out _ _).mono ?_); rintro e w1 ⟨rfl, hm, hx⟩; have HM1 := Lib.hid hm; have HX := Lib.hid hx; clear hm hx)
            go_ret
            exact ⟨_, rfl, ((mv0 w xb).drewN _).then1 HM1.out, by rw [HZ.out]; exact ⟨rfl, p, h, by first | exact HX.out | (rw [← g]; exact HX.out)⟩⟩
      · obtain rfl : p = s.size := by omega
        have HZ : Hid (q = .win h) := Lib.hid (by rw [HN.out, ll_nil (Nat.le_refl _), les_nil h4])
        have HTT := Lib.hid (HT.out mm)
        have e1 : (((s.size : Nat) : Int) == ((s.size : Nat) : Int)) = true := by simp
        clear hp hd hcn
        rcases hn3 with ⟨rfl, rfl⟩ | ⟨rfl, rfl⟩ | ⟨rfl, rfl⟩
        all_goals
          go_wp2_with (go_at_call 57; (with_reducible refine HTT.out.mono ?_); rintro e w1 ⟨rfl, hm, hx⟩; have HM1 := Lib.hid hm; have HX := Lib.hid hx; clear hm hx)
          go_ret
          exact ⟨_, rfl, ((mv0 w xb).drewN _).then1 HM1.out, by rw [HZ.out]; exact ⟨rfl, HX.out⟩⟩
end Go.Proofs.YtbojbkpplejdmaaGreat
