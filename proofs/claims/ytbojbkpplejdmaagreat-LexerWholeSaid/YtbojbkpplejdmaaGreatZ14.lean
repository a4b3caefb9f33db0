/-
  What the document's own skip, run and word of layer 27 answer, as bytes that are left (SaidE). Condition: the text is no longer than a length can be.
  Plain facts on layer 28's document side: the text that tells what is open, from without to within (opT): one more, the innermost one, one less. No condition.
  Plain facts on layer 28's document side: what a piece leaves counts no more than one more of each, and no more is open than may be (fewO). No condition.
-/
import Derived.Test.YtbojbkpplejdmaaGreatZ5
import Derived.Test.YtbojbkpplejdmaaGreatZ9
import Derived.Test.YtbojbkpplejdmaaGreatZ4
import Derived.Test.YtbojbkpplejdmaaGreatZ3
import Derived.Test.YtbojbkpplejdmaaGreatZ6
import Derived.LoopTactic
import Derived.RegionTactic
import Derived.BigRegion
import Derived.Deep.QuietTactic
import Derived.BigQuiet
import Derived.Outline
import Derived.StillTailTactics
import Derived.Lib.Hide
import Derived.IntWalk
import Derived.Test.YtbojbkpplejdmaaGreatZ2
namespace Go.Proofs.YtbojbkpplejdmaaGreat
open Go.RowKit

/-- What lies from a place on. -/
def LL (s : ByteArray) (k : Nat) : List UInt8 := s.data.toList.drop k
theorem ll_cons {s : ByteArray} {k : Nat} (h : k < s.size) : LL s k = s[k] :: LL s (k + 1) := by
  have hk : k < s.data.toList.length := by simpa using h
  unfold LL
  rw [List.drop_eq_getElem_cons hk]
  rfl
theorem ll_nil {s : ByteArray} {k : Nat} (h : s.size ≤ k) : LL s k = [] := by
  unfold LL
  exact List.drop_eq_nil_of_le (by simpa using h)
theorem ll_len {s : ByteArray} {k : Nat} : (LL s k).length = s.size - k := by
  unfold LL
  rw [List.length_drop]
  simp
theorem ll_zero (s : ByteArray) : LL s 0 = s.data.toList := List.drop_zero

abbrev sdV (a x : Int) : Value := .agg #[.int .i64 a, .int .i64 x]
/-- What is said of a piece. -/
def SaidE (s : ByteArray) (x : Ej) (v : Value) : Prop := match x with
  | .op => ∃ a : Int, v = sdV a 1
  | .bd r => ∃ k : Nat, k ≤ s.size ∧ r = LL s k ∧ v = sdV k 0
  | .dp r => ∃ k : Nat, k ≤ s.size ∧ r = LL s k ∧ v = sdV k 3
  | .wl r => ∃ k : Nat, k ≤ s.size ∧ r = LL s k ∧ v = sdV k (-1)
theorem Tryz.zeroSaid (w : World) : (zeroValue 57).run Tryz.prog w = .ok (sdV 0 0) w := by kernel_rfl

theorem whi_has (b : UInt8) : hasB ⟨#[9, 10, 13, 32]⟩ b = whiB b := by
  have := bytes_all (p := fun b => hasB ⟨#[9, 10, 13, 32]⟩ b == whiB b) (by kernel_rfl) b
  exact eq_of_beq this

set_option maxHeartbeats 1000000 in
theorem skip27_any (s : ByteArray) (k : Nat) (w : World) (hk : k ≤ s.size) (hs : s.size ≤ 4611686018427387904) :
    Calls Tryz.prog 26 #[.string s, .int .i64 (k : Nat)] w fun e w' => (∃ j : Nat, k ≤ j ∧ j ≤ s.size ∧ LL s j = (LL s k).dropWhile whiB ∧ e = .returned (.int .i64 (j : Nat))) ∧ w = w' := by
  have HH : Hid (∀ b W, Calls Tryz.prog 42 #[.string ⟨#[9, 10, 13, 32]⟩, .int .u8 ((b : UInt8).toNat : Int)] W fun e w' => e = .returned (.bool (whiB b)) ∧ W = w') := Lib.hid fun b W => by
    have := has_any ⟨#[9, 10, 13, 32]⟩ b W (by decide)
    rw [whi_has] at this
    exact this
  obtain ⟨q, hq⟩ : ∃ q, q = (LL s k).dropWhile whiB := ⟨_, rfl⟩
  rw [← hq]
  have HQ := Lib.hid hq
  clear hq
  go_enter Tryz.func26, Tryz.ntmps26
  go_wp2
  go_loop [1] (fun i => ∃ j : Nat, k ≤ j ∧ j ≤ s.size ∧ i = .int .i64 j ∧ Hid (q = (LL s j).dropWhile whiB)) (fun i => s.size - (intOf i).toNat)
  case atStart => exact ⟨k, by omega, hk, rfl, HQ⟩
  case round =>
    obtain ⟨j, hj, hjs, rfl, HJ⟩ := hrel
    by_cases hlt : j < s.size
    · have e1 : decide (j < s.size) = true := by simpa using hlt
      have HB := Lib.hid (fun W => HH.out s[j] W)
      have HC := Lib.hid (ll_cons hlt)
      cases hw : whiB s[j]
      · rw [hw] at HB
        have HZ : Hid (LL s j = q) := Lib.hid (by
          rw [HJ.out, HC.out, List.dropWhile_cons, hw]
          exact (if_neg (by decide)).symm)
        clear hw
        go_wp2_with (go_at_call 42; (with_reducible refine (HB.out _).mono ?_); rintro e w1 ⟨rfl, rfl⟩)
        go_ret
        exact ⟨⟨j, by omega, hjs, HZ.out, rfl⟩, rfl⟩
      · rw [hw] at HB
        have HZ : Hid (q = (LL s (j + 1)).dropWhile whiB) := Lib.hid (by
          rw [HJ.out, HC.out, List.dropWhile_cons, hw]
          exact if_pos rfl)
        clear hw
        go_wp2_with (go_at_call 42; (with_reducible refine (HB.out _).mono ?_); rintro e w1 ⟨rfl, rfl⟩)
        go_round
        case rel => exact ⟨j + 1, by omega, by omega, by go_num, HZ⟩
        case measure => simp [intOf]; omega
    · obtain rfl : j = s.size := by omega
      have HZ : Hid (LL s s.size = q) := Lib.hid (by rw [HJ.out, ll_nil (Nat.le_refl _)]; rfl)
      go_wp2
      go_ret
      exact ⟨⟨s.size, by omega, Nat.le_refl _, HZ.out, rfl⟩, rfl⟩

/-- The answer's own block, written. -/
theorem said_set {w0 W : World} {c : Array Value} (hb : Blk W w0.heap.size 57 c) (hB : Below w0.heap.size w0 W) (hc : c.size = 2) (a x : Int) :
    ((W.setCell ⟨w0.heap.size, 0, none⟩ (.int .i64 a)).setCell ⟨w0.heap.size, 1, none⟩ (.int .i64 x)).cell? ⟨w0.heap.size, 0, none⟩ = some (.int .i64 a) ∧
    ((W.setCell ⟨w0.heap.size, 0, none⟩ (.int .i64 a)).setCell ⟨w0.heap.size, 1, none⟩ (.int .i64 x)).cell? ⟨w0.heap.size, 1, none⟩ = some (.int .i64 x) ∧
    Below w0.heap.size w0 ((W.setCell ⟨w0.heap.size, 0, none⟩ (.int .i64 a)).setCell ⟨w0.heap.size, 1, none⟩ (.int .i64 x)) := by
  have h2 := (hb.set_ 0 (.int .i64 a)).set_ 1 (.int .i64 x)
  obtain ⟨l⟩ := c
  match l, hc with
  | [p, q], _ => exact ⟨h2.cell 0, h2.cell 1, (hB.setCell (p := ⟨w0.heap.size, 0, none⟩) (Nat.le_refl _) _).setCell (p := ⟨w0.heap.size, 1, none⟩) (Nat.le_refl _) _⟩

/-! Digits, one at least. -/
def runE : List UInt8 → Ej
  | [] => .op
  | b :: r => if digB b then .wl (r.dropWhile digB) else .bd (b :: r)
theorem runE_cons (b : UInt8) (r : List UInt8) : runE (b :: r) = if digB b then .wl (r.dropWhile digB) else .bd (b :: r) := rfl
set_option maxHeartbeats 1000000 in
theorem run27_any (s : ByteArray) (k : Nat) (w : World) (hk : k ≤ s.size) (hs : s.size ≤ 4611686018427387904) :
    Calls Tryz.prog 62 #[.string s, .int .i64 (k : Nat)] w fun e w' => (∃ v, e = .returned v ∧ SaidE s (runE (LL s k)) v) ∧ Below w.heap.size w w' := by
  have HD := Lib.hid refDigit_any
  have hz := Tryz.zeroSaid
  obtain ⟨q, hq⟩ : ∃ q, q = runE (LL s k) := ⟨_, rfl⟩
  rw [← hq]
  have HQ := Lib.hid hq
  clear hq
  by_cases hlt : k < s.size
  · have e0 : decide (k = s.size) = false := by rw [decide_eq_false_iff_not]; omega
    have e1 : (((k : Nat) : Int) == ((s.size : Nat) : Int)) = false := by rw [beq_eq_false_iff_ne]; omega
    have HC := Lib.hid (ll_cons hlt)
    have HB := Lib.hid (fun W => HD.out s[k] W)
    cases hd : digB s[k]
    · rw [hd] at HB
      have HZ : Hid (q = .bd (LL s k)) := Lib.hid (by rw [HQ.out, HC.out, runE_cons, hd]; rfl)
      clear hd
      go_enter Tryz.func62, Tryz.ntmps62
      go_wp2_with (go_at_call 46; (with_reducible refine (HB.out _).mono ?_); rintro e w1 ⟨rfl, rfl⟩)
      exact bodyPost_ret (v := sdV (k : Nat) 0) (by simp [results, Tryz.results62, go_sem]) rfl ⟨⟨_, rfl, by rw [HZ.out]; exact ⟨k, hk, rfl, rfl⟩⟩, (Below.refl _ _).alloc (Nat.le_refl _) _⟩
    · rw [hd] at HB
      have HY : Hid (q = .wl ((LL s k).dropWhile digB)) := Lib.hid (by rw [HQ.out, HC.out, runE_cons, List.dropWhile_cons, hd]; rfl)
      have HW := Lib.hid (fun c => (Below.refl w.heap.size w).alloc (Nat.le_refl _) (.cells c 57))
      clear hd
      go_enter Tryz.func62, Tryz.ntmps62
      go_wp2_with (go_at_call 46; (with_reducible refine (HB.out _).mono ?_); rintro e w1 ⟨rfl, rfl⟩)
      go_loop [1] (fun i => ∃ j : Nat, k ≤ j ∧ j ≤ s.size ∧ i = .int .i64 j ∧ Hid (q = .wl ((LL s j).dropWhile digB))) (fun i => s.size - (intOf i).toNat)
      case atStart => exact ⟨k, Nat.le_refl _, hk, rfl, HY⟩
      case round =>
        obtain ⟨j, hj, hjs, rfl, HJ⟩ := hrel
        by_cases hlj : j < s.size
        · have e2 : decide (j < s.size) = true := by simpa using hlj
          have HBJ := Lib.hid (fun W => HD.out s[j] W)
          have HCJ := Lib.hid (ll_cons hlj)
          cases hd : digB s[j]
          · rw [hd] at HBJ
            have HZJ : Hid (q = .wl (LL s j)) := Lib.hid (by rw [HJ.out, HCJ.out, List.dropWhile_cons, hd]; rfl)
            clear hd HB
            go_wp2_with (go_at_call 46; (with_reducible refine (HBJ.out _).mono ?_); rintro e w1 ⟨rfl, rfl⟩)
            exact bodyPost_ret (v := sdV (j : Nat) (-1)) (by simp [results, Tryz.results62, go_sem]) rfl ⟨⟨_, rfl, by rw [HZJ.out]; exact ⟨j, hjs, rfl, rfl⟩⟩, HW.out _⟩
          · rw [hd] at HBJ
            have HZJ : Hid (q = .wl ((LL s (j + 1)).dropWhile digB)) := Lib.hid (by rw [HJ.out, HCJ.out, List.dropWhile_cons, hd]; rfl)
            clear hd HB
            go_wp2_with (go_at_call 46; (with_reducible refine (HBJ.out _).mono ?_); rintro e w1 ⟨rfl, rfl⟩)
            go_round
            case rel => exact ⟨j + 1, by omega, by omega, by go_num, HZJ⟩
            case measure => simp [intOf]; omega
        · obtain rfl : j = s.size := by omega
          have HZJ : Hid (q = .wl (LL s s.size)) := Lib.hid (by rw [HJ.out, ll_nil (Nat.le_refl _)]; rfl)
          go_wp2
          exact bodyPost_ret (v := sdV (s.size : Nat) (-1)) (by simp [results, Tryz.results62, go_sem]) rfl ⟨⟨_, rfl, by rw [HZJ.out]; exact ⟨s.size, Nat.le_refl _, rfl, rfl⟩⟩, HW.out _⟩
  · obtain rfl : k = s.size := by omega
    have HZ : Hid (q = .op) := Lib.hid (by rw [HQ.out, ll_nil (Nat.le_refl _)]; rfl)
    go_enter Tryz.func62, Tryz.ntmps62
    go_wp2
    exact bodyPost_ret (v := sdV (s.size : Nat) 1) (by simp [results, Tryz.results62, go_sem]) rfl ⟨⟨_, rfl, by rw [HZ.out]; exact ⟨_, rfl⟩⟩, (Below.refl _ _).alloc (Nat.le_refl _) _⟩
set_option maxHeartbeats 1000000 in
theorem word27_any (s t : ByteArray) (k : Nat) (w : World) (hk : k ≤ s.size) (hs : s.size ≤ 4611686018427387904) (ht : t.size ≤ 1000) :
    Calls Tryz.prog 48 #[.string s, .int .i64 (k : Nat), .string t] w fun e w' => (∃ v, e = .returned v ∧ SaidE s (worE t.data.toList (LL s k)) v) ∧ Below w.heap.size w w' := by
  have hz := Tryz.zeroSaid
  obtain ⟨q, hq⟩ : ∃ q, q = worE t.data.toList (LL s k) := ⟨_, rfl⟩
  rw [← hq]
  have HQ := Lib.hid (show q = worE (LL t 0) (LL s (k + 0)) by rw [hq, ll_zero]; rfl)
  clear hq
  have HW := Lib.hid (fun W (hb : Below w.heap.size w W) c => hb.alloc hb.size (.cells c 57))
  have HB0 := Lib.hid (fun c => (Below.refl w.heap.size w).alloc (Nat.le_refl _) (.cells c 57))
  go_enter Tryz.func48, Tryz.ntmps48
  go_wp2
  go_loopw [7] (fun i wr => ∃ j : Nat, j ≤ t.size ∧ k + j ≤ s.size ∧ i = .int .i64 j ∧ Hid (q = worE (LL t j) (LL s (k + j))) ∧ Hid (∃ n, wr = (w.alloc (.cells #[.int .i64 0, .int .i64 0] 57)).drewN n)) (fun i _ => t.size - (intOf i).toNat)
  case atStart => exact ⟨0, Nat.zero_le _, hk, rfl, HQ, Lib.hid ⟨0, rfl⟩⟩
  case round =>
    obtain ⟨j, hj, hjs, rfl, HJ, HN⟩ := hrel
    obtain ⟨n, rfl⟩ := HN.out
    obtain ⟨m, hm⟩ : ∃ m, m = k + j := ⟨_, rfl⟩
    have g : ((k : Nat) : Int) + (j : Int) = (m : Int) := by omega
    rw [← hm] at HJ hjs
    by_cases hlt : j < t.size
    · have e1 : decide (j < t.size) = true := by simpa using hlt
      by_cases hls : m < s.size
      · have e2 : (((m : Nat) : Int) == ((s.size : Nat) : Int)) = false := by rw [beq_eq_false_iff_ne]; omega
        have HC := Lib.hid (ll_cons hlt)
        have HE := Lib.hid (ll_cons hls)
        cases hb : (s[m] == t[j])
        · have e3 : ((s[m].toNat : Int) != (t[j].toNat : Int)) = true := by
            rw [bne_iff_ne]
            intro e
            have : s[m] = t[j] := UInt8.toNat_inj.1 (by omega)
            rw [this] at hb
            simp at hb
          have HZ : Hid (q = .bd (LL s m)) := Lib.hid (by rw [HJ.out, HC.out, HE.out, worE, hb]; rfl)
          have HM := Lib.hid hm
          clear hb hm
          go_wp2
          go_quiet (fail)
          go_wp2
          obtain ⟨d0, d1, db⟩ := said_set ((Blk.new w 57 #[.int .i64 0, .int .i64 0]).drewN (n + nq)) (Below.drewN' ((Below.refl w.heap.size w).alloc (Nat.le_refl _) (.cells #[.int .i64 0, .int .i64 0] 57)) (n + nq)) rfl (m : Nat) 0
          exact bodyPost_ret (v := sdV (m : Nat) 0) (by simp only [results, Tryz.results48]; simp [go_sem, d0, d1]) rfl ⟨⟨_, rfl, by rw [HZ.out]; exact ⟨m, hjs, rfl, rfl⟩⟩, db⟩
        · have e3 : ((s[m].toNat : Int) != (t[j].toNat : Int)) = false := by
            have : s[m] = t[j] := eq_of_beq hb
            rw [this]
            simp
          have HZ : Hid (q = worE (LL t (j + 1)) (LL s (k + (j + 1)))) := Lib.hid (by
            rw [HJ.out, HC.out, HE.out, worE, hb, if_pos rfl, hm]
            rfl)
          have HM := Lib.hid hm
          clear hb hm
          go_wp2
          go_quiet (fail)
          go_wp2
          go_roundw
          case rel => exact ⟨j + 1, by omega, by have := HM.out; omega, by go_num, HZ, Lib.hid ⟨_, rfl⟩⟩
          case measure => simp [intOf]; omega
      · have HZ : Hid (q = .op) := Lib.hid (by rw [HJ.out, ll_nil (s := s) (by omega), ll_cons hlt]; rfl)
        obtain rfl : m = s.size := by omega
        clear hm
        go_wp2
        obtain ⟨d0, d1, db⟩ := said_set ((Blk.new w 57 #[.int .i64 0, .int .i64 0]).drewN (n)) (Below.drewN' ((Below.refl w.heap.size w).alloc (Nat.le_refl _) (.cells #[.int .i64 0, .int .i64 0] 57)) (n)) rfl (s.size : Nat) 1
        exact bodyPost_ret (v := sdV (s.size : Nat) 1) (by simp only [results, Tryz.results48]; simp [go_sem, d0, d1]) rfl ⟨⟨_, rfl, by rw [HZ.out]; exact ⟨_, rfl⟩⟩, db⟩
    · obtain rfl : j = t.size := by omega
      have HZ : Hid (q = .wl (LL s m)) := Lib.hid (by rw [HJ.out, ll_nil (s := t) (Nat.le_refl _)]; rfl)
      clear hm
      go_wp2
      obtain ⟨d0, d1, db⟩ := said_set ((Blk.new w 57 #[.int .i64 0, .int .i64 0]).drewN (n)) (Below.drewN' ((Below.refl w.heap.size w).alloc (Nat.le_refl _) (.cells #[.int .i64 0, .int .i64 0] 57)) (n)) rfl (m : Nat) (-1)
      exact bodyPost_ret (v := sdV (m : Nat) (-1)) (by simp only [results, Tryz.results48]; simp [go_sem, d0, d1]) rfl ⟨⟨_, rfl, by rw [HZ.out]; exact ⟨m, hjs, rfl, rfl⟩⟩, db⟩
end Go.Proofs.YtbojbkpplejdmaaGreat
namespace Go.Proofs.YtbojbkpplejdmaaGreat

def opT (o : List UInt8) : ByteArray := ⟨o.reverse.toArray⟩
theorem opT_list (o : List UInt8) : (opT o).data.toList = o.reverse := rfl
theorem opT_size (o : List UInt8) : (opT o).size = o.length := by
  have h : (opT o).data.toList.length = (opT o).size := by simp
  rw [← h, opT_list, List.length_reverse]
theorem opT_nil : opT [] = ⟨#[]⟩ := rfl
theorem opT_push (c : UInt8) (o : List UInt8) : opT o ++ ⟨#[c]⟩ = opT (c :: o) := by
  apply ByteArray.ext
  apply Array.toList_inj.1
  rw [ByteArray.data_append, Array.toList_append]
  show o.reverse ++ [c] = (c :: o).reverse
  rw [List.reverse_cons]
theorem opT_last (c : UInt8) (o : List UInt8) (h : o.length < (opT (c :: o)).size) : (opT (c :: o))[o.length] = c := by
  show (opT (c :: o)).data[o.length] = c
  rw [← Array.getElem_toList]
  have e : (opT (c :: o)).data.toList = o.reverse ++ [c] := by rw [opT_list, List.reverse_cons]
  rw [List.getElem_of_eq e, List.getElem_append_right (by rw [List.length_reverse]; exact Nat.le_refl _)]
  simp
theorem opT_less (c : UInt8) (o : List UInt8) : (opT (c :: o)).extract 0 o.length = opT o := by
  apply ByteArray.ext
  apply Array.toList_inj.1
  rw [ByteArray.data_extract, Array.toList_extract]
  show ((c :: o).reverse.extract 0 o.length) = o.reverse
  rw [List.reverse_cons, List.extract_eq_take_drop, List.drop_zero, Nat.sub_zero, show o.length = o.reverse.length from List.length_reverse.symm, List.take_left]
theorem opT_empty (o : List UInt8) : (opT o).data.toList.isEmpty = o.isEmpty := by
  rw [opT_list]
  cases o with
  | nil => rfl
  | cons c l => rw [List.reverse_cons]; cases l.reverse <;> rfl
/-- State of the document's own side. -/
theorem said_state (x : Th) : staH x = if x.1.isSome then 0 else if x.2.1 || !x.2.2.1.isEmpty then 1 else 2 := by
  unfold staH
  cases x.1 <;> rfl
end Go.Proofs.YtbojbkpplejdmaaGreat
namespace Go.Proofs.YtbojbkpplejdmaaGreat

def FewH (D : Nat) (h0 h : Hs) : Prop := h.pc ≤ h0.pc + 1 ∧ h.en ≤ h0.en + 1 ∧ h.op.length ≤ D
def fewO (D : Nat) (h0 : Hs) : Ho → Prop
  | .on h _ => FewH D h0 h
  | _ => True
theorem line_few {D : Nat} {h0 h : Hs} (hf : FewH D h0 h) : ∀ l : List UInt8, fewO D h0 (lineO h l)
  | [] => hf
  | b :: l => by
    rw [lineO]
    split
    · exact hf
    · exact line_few hf l
theorem block_few {D : Nat} {h0 : Hs} : ∀ (l : List UInt8) {h : Hs}, FewH D h0 h → fewO D h0 (blockO h l)
  | [], _, _ => trivial
  | b :: l, h, hf => by
    rw [blockO]
    split
    · exact hf
    · exact block_few l (h := brH h b) hf
theorem quote_few {D : Nat} {h0 h : Hs} (y : UInt8) (hf : FewH D h0 h) : ∀ l : List UInt8, fewO D h0 (quoteO y h l)
  | [] => trivial
  | b :: l => by
    rw [quoteO_cons]
    split
    · match l with
      | [] => trivial
      | c :: l' => exact quote_few y hf l'
    · split
      · trivial
      · split
        · exact hf
        · exact quote_few y hf l
theorem dol_few {D : Nat} {h0 h : Hs} (hf : FewH D h0 h) (l : List UInt8) : fewO D h0 (dolO D h l) := by
  unfold dolO
  split
  · trivial
  · rename_i hn
    rw [beq_iff_eq] at hn
    refine ⟨hf.1, hf.2.1, ?_⟩
    show (36 :: h.op).length ≤ D
    have := hf.2.2
    rw [List.length_cons]
    omega
theorem grave_few {D : Nat} {h0 h : Hs} (hf : FewH D h0 h) : ∀ l : List UInt8, fewO D h0 (graveO D h l)
  | [] => trivial
  | b :: l => by
    rw [graveO_cons]
    split
    · match l with
      | [] => trivial
      | c :: l' => exact grave_few hf l'
    · split
      · exact hf
      · split
        · exact dol_few hf l
        · exact grave_few hf l
theorem patO_few {D : Nat} {h0 h : Hs} (hf : FewH D h0 h) : ∀ (l : List UInt8) (inb : Bool), fewO D h0 (patO h inb l)
  | [], _ => trivial
  | b :: l, inb => by
    rw [patO_cons]
    split
    · match l with
      | [] => trivial
      | c :: l' => exact patO_few hf l' inb
    · split
      · trivial
      · split
        · exact hf
        · split
          · exact patO_few hf l true
          · split
            · exact patO_few hf l false
            · exact patO_few hf l inb
theorem few_self {D : Nat} {h : Hs} (hd : h.op.length ≤ D) : FewH D h h := ⟨Nat.le_succ _, Nat.le_succ _, hd⟩
theorem few_pc {D : Nat} {h : Hs} (hd : h.op.length ≤ D) : FewH D h (pcH h) := ⟨Nat.le_refl _, Nat.le_succ _, hd⟩
theorem slash_few {D : Nat} {h : Hs} (hd : h.op.length ≤ D) : ∀ l : List UInt8, fewO D h (slashO h l)
  | [] => trivial
  | b :: r => by
    rw [slashO]
    split
    · exact line_few (few_self hd) r
    · split
      · exact block_few r (few_self hd)
      · split
        · exact few_pc hd
        · exact patO_few (few_pc hd) (b :: r) false
theorem less_few {D : Nat} {h0 h : Hs} (hf : FewH D h0 h) : ∀ (l : List UInt8) (i : Nat), fewO D h0 (lessO h i l)
  | [], _ => trivial
  | b :: l, i => by
    rw [lessO]
    split
    · split
      · exact line_few hf l
      · exact less_few hf l (i + 1)
    · trivial
theorem sigO_few {D : Nat} {h : Hs} (hd : h.op.length ≤ D) (b : UInt8) : match sigH D (pcH h) b with
    | .go _ h' => FewH D h h'
    | .no _ => True := by
  unfold sigH
  have hp : (pcH h).op = h.op := rfl
  cases e1 : opnH b with
  | true =>
    rw [if_pos rfl]
    split
    · rename_i e2
      split at e2
      · cases e2
      · rename_i hn
        injection e2 with _ e3
        subst e3
        rw [beq_iff_eq, hp] at hn
        refine ⟨Nat.le_refl _, Nat.le_succ _, ?_⟩
        show (b :: h.op).length ≤ D
        rw [List.length_cons]
        omega
    · trivial
  | false =>
    rw [if_neg (by decide)]
    cases e2 : cloB b with
    | false =>
      rw [if_pos (by rfl)]
      refine ⟨Nat.le_refl _, ?_, hd⟩
      show h.en + (if (b == 59 && h.op.isEmpty) = true then 1 else 0) ≤ h.en + 1
      split <;> omega
    | true =>
      rw [if_neg (by decide)]
      have hop : (pcH h).op = h.op := rfl
      cases ho : (pcH h).op with
      | nil => trivial
      | cons o r =>
        have hr : r.length ≤ D := by
          rw [hop] at ho
          rw [ho, List.length_cons] at hd
          omega
        show match (if (b == 125 && o == 36) = true then Sh.go (.g false false) { pcH h with op := r }
          else if ((b == 41 && o == 40) || (b == 93 && o == 91) || (b == 125 && o == 123)) = true then
            (if (b == 125) = true then .go .z (endH { pcH h with op := r, en := (pcH h).en + (if r.isEmpty = true then 1 else 0) } 2) else .go .z (endH { pcH h with op := r } 1))
          else .no (pcH h)) with
          | .go _ h' => FewH D h h'
          | .no _ => True
        cases (b == 125 && o == 36) with
        | true => exact ⟨Nat.le_refl _, Nat.le_succ _, hr⟩
        | false =>
          rw [if_neg (by decide)]
          cases ((b == 41 && o == 40) || (b == 93 && o == 91) || (b == 125 && o == 123)) with
          | false => exact trivial
          | true =>
            rw [if_pos rfl]
            cases (b == 125) with
            | true =>
              refine ⟨Nat.le_refl _, ?_, hr⟩
              show h.en + (if r.isEmpty = true then 1 else 0) ≤ h.en + 1
              split <;> omega
            | false => exact ⟨Nat.le_refl _, Nat.le_succ _, hr⟩
theorem sign_few {D : Nat} {h : Hs} (hd : h.op.length ≤ D) (b : UInt8) (l : List UInt8) : fewO D h (signO D h b l) := by
  have hs := sigO_few hd b
  unfold signO
  rcases sig_kind D (pcH h) b with ⟨h', e2⟩ | ⟨h', e2⟩ | ⟨h', e2⟩
  · rw [e2] at hs ⊢; exact hs
  · rw [e2] at hs ⊢; exact grave_few hs l
  · rw [e2]; trivial
theorem next_few {D : Nat} {h : Hs} (hd : h.op.length ≤ D) (b : UInt8) (l : List UInt8) : fewO D h (nextO D h b l) := by
  unfold nextO
  split
  · exact few_self hd
  · split
    · split
      · trivial
      · exact few_pc hd
    · split
      · split
        · trivial
        · exact quote_few _ (few_pc hd) l
      · split
        · exact grave_few (few_pc hd) l
        · split
          · exact slash_few hd l
          · split
            · exact less_few (few_self hd) l 1
            · split
              · exact sign_few hd b l
              · trivial
end Go.Proofs.YtbojbkpplejdmaaGreat
