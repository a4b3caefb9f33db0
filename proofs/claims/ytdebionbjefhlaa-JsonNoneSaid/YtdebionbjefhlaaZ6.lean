/-
  Plain facts on layer 24's texts: what is written is read again. No condition.
  What the document's own skip, run and word of layer 27 answer, as bytes that are left (SaidE). Condition: the text is no longer than a length can be.
  What the document's own quote of layer 27 answers, as bytes that are left (SaidE, quoE). Condition: the text is no longer than a length can be.
-/
import Derived.Test.YtdebionbjefhlaaZ5
import Derived.Test.YtdebionbjefhlaaZ3
import Derived.Test.YtdebionbjefhlaaZ4
import Derived.Test.YtdebionbjefhlaaRows
import Derived.WalkKit
import Derived.WalkSpells
import Derived.WalkLawsBesides
import Derived.Defers
import Derived.Recover
import Derived.RegionTactic
import Derived.BigRegion
import Derived.Deep.QuietTactic
import Derived.BigQuiet
import Derived.Deep.RegionHeld2
import Derived.IntWalk
import Derived.Lib.Hide
import Derived.Test.YtdebionbjefhlaaZ2
import Derived.LoopTactic
import Derived.Outline
import Derived.StillTailTactics
namespace Go.Proofs.Ytdebionbjefhlaa

theorem scan_of {p : UInt8 → Bool} {s : ByteArray} {l1 l2 l3 : List UInt8} (hl : s.data.toList = l1 ++ (l2 ++ l3)) (h2 : ∀ b ∈ l2, p b = true) (h3 : ∀ b q, l3 = b :: q → p b = false) : scan p s l1.length = l1.length + l2.length := by
  unfold scan
  rw [hl, List.drop_left]
  congr 2
  have h4 : l3.takeWhile p = [] := by
    cases l3 with
    | nil => rfl
    | cons b q => rw [List.takeWhile_cons, if_neg (by rw [h3 b q rfl]; decide)]
  rw [List.takeWhile_append_of_pos h2, h4, List.append_nil]
theorem atB_of {s : ByteArray} {l1 l3 : List UInt8} {b : UInt8} (hl : s.data.toList = l1 ++ b :: l3) : atB s l1.length b = true := by
  have hz : s.size = l1.length + (l3.length + 1) := by
    have := congrArg List.length hl
    simp at this
    exact this
  have h : l1.length < s.size := by omega
  rw [atB_at h, beq_iff_eq]
  have e : s[l1.length] = s.data.toList[l1.length]'(by simpa using h) := rfl
  rw [e]
  have : ∀ (l : List UInt8) (hh : l1.length < l.length), l = l1 ++ b :: l3 → l[l1.length] = b := fun l hh e => by subst e; simp
  exact this _ _ hl
theorem atB_no {s : ByteArray} {l1 l3 : List UInt8} {b c : UInt8} (hl : s.data.toList = l1 ++ b :: l3) (hne : b ≠ c) : atB s l1.length c = false := by
  have hz : s.size = l1.length + (l3.length + 1) := by
    have := congrArg List.length hl
    simp at this
    exact this
  have h : l1.length < s.size := by omega
  have h2 := atB_of hl
  rw [atB_at h, beq_iff_eq] at h2
  rw [atB_at h, h2, beq_eq_false_iff_ne]
  exact hne
theorem ext_of {s : ByteArray} {l1 l2 l3 : List UInt8} (hl : s.data.toList = l1 ++ (l2 ++ l3)) : s.extract l1.length (l1.length + l2.length) = ⟨l2.toArray⟩ := by
  apply ByteArray.ext
  apply Array.toList_inj.1
  rw [ByteArray.data_extract, Array.toList_extract, hl]
  simp [List.extract]
theorem size_of {s : ByteArray} {l : List UInt8} (hl : s.data.toList = l) : s.size = l.length := by
  have := congrArg List.length hl
  simpa using this
theorem app_list (a b : ByteArray) : (a ++ b).data.toList = a.data.toList ++ b.data.toList := by simp

theorem one_head {c : UInt8} {q : List UInt8} {p : UInt8 → Bool} (hc : p c = false) : ∀ b q', c :: q = b :: q' → p b = false := fun b q' e => by cases e; exact hc
theorem none_mem {p : UInt8 → Bool} : ∀ b ∈ ([] : List UInt8), p b = true := fun b h => by cases h
theorem nil_head {p : UInt8 → Bool} : ∀ b q', ([] : List UInt8) = b :: q' → p b = false := fun b q' e => by cases e

end Go.Proofs.Ytdebionbjefhlaa
namespace Go.Proofs.Ytdebionbjefhlaa
open Go.RowKit

/-- What lies from a place on. -/
def LL (s : ByteArray) (k : Nat) : List UInt8 := s.data.toList.drop k
theorem ll_cons {s : ByteArray} {k : Nat} (h : k < s.size) : LL s k = s[k] :: LL s (k + 1) := by
  have hk : k < s.data.toList.length := by simpa using h
  unfold LL
  rw [List.drop_eq_getElem_cons hk]
  rfl
theorem ll_nil {s : ByteArray} {k : Nat} (h : s.size ≤ k) : LL s k = [] := by
  unfold LL
  exact List.drop_eq_nil_of_le (by simpa using h)
theorem ll_len {s : ByteArray} {k : Nat} : (LL s k).length = s.size - k := by
  unfold LL
  rw [List.length_drop]
  simp
theorem ll_zero (s : ByteArray) : LL s 0 = s.data.toList := List.drop_zero

abbrev sdV (a x : Int) : Value := .agg #[.int .i64 a, .int .i64 x]
/-- What is said of a piece. -/
def SaidE (s : ByteArray) (x : Ej) (v : Value) : Prop := match x with
  | .op => ∃ a : Int, v = sdV a 1
  | .bd r => ∃ k : Nat, k ≤ s.size ∧ r = LL s k ∧ v = sdV k 0
  | .dp r => ∃ k : Nat, k ≤ s.size ∧ r = LL s k ∧ v = sdV k 3
  | .wl r => ∃ k : Nat, k ≤ s.size ∧ r = LL s k ∧ v = sdV k (-1)
theorem Try.zeroSaid (w : World) : (zeroValue 38).run Try.prog w = .ok (sdV 0 0) w := by kernel_rfl

theorem whi_has (b : UInt8) : hasB ⟨#[9, 10, 13, 32]⟩ b = whiB b := by
  have := bytes_all (p := fun b => hasB ⟨#[9, 10, 13, 32]⟩ b == whiB b) (by kernel_rfl) b
  exact eq_of_beq this

set_option maxHeartbeats 1000000 in
theorem skip27_any (s : ByteArray) (k : Nat) (w : World) (hk : k ≤ s.size) (hs : s.size ≤ 4611686018427387904) :
    Calls Try.prog 21 #[.string s, .int .i64 (k : Nat)] w fun e w' => (∃ j : Nat, k ≤ j ∧ j ≤ s.size ∧ LL s j = (LL s k).dropWhile whiB ∧ e = .returned (.int .i64 (j : Nat))) ∧ w = w' := by
  have HH : Hid (∀ b W, Calls Try.prog 30 #[.string ⟨#[9, 10, 13, 32]⟩, .int .u8 ((b : UInt8).toNat : Int)] W fun e w' => e = .returned (.bool (whiB b)) ∧ W = w') := Lib.hid fun b W => by
    have := has_any ⟨#[9, 10, 13, 32]⟩ b W (by decide)
    rw [whi_has] at this
    exact this
  obtain ⟨q, hq⟩ : ∃ q, q = (LL s k).dropWhile whiB := ⟨_, rfl⟩
  rw [← hq]
  have HQ := Lib.hid hq
  clear hq
  go_enter Try.func21, Try.ntmps21
  go_wp2
  go_loop [1] (fun i => ∃ j : Nat, k ≤ j ∧ j ≤ s.size ∧ i = .int .i64 j ∧ Hid (q = (LL s j).dropWhile whiB)) (fun i => s.size - (intOf i).toNat)
  case atStart => exact ⟨k, by omega, hk, rfl, HQ⟩
  case round =>
    obtain ⟨j, hj, hjs, rfl, HJ⟩ := hrel
    by_cases hlt : j < s.size
    · have e1 : decide (j < s.size) = true := by simpa using hlt
      have HB := Lib.hid (fun W => HH.out s[j] W)
      have HC := Lib.hid (ll_cons hlt)
      cases hw : whiB s[j]
      · rw [hw] at HB
        have HZ : Hid (LL s j = q) := Lib.hid (by
          rw [HJ.out, HC.out, List.dropWhile_cons, hw]
          exact (if_neg (by decide)).symm)
        clear hw
        go_wp2_with (go_at_call 30; (with_reducible refine (HB.out _).mono ?_); rintro e w1 ⟨rfl, rfl⟩)
        go_ret
        exact ⟨⟨j, by omega, hjs, HZ.out, rfl⟩, rfl⟩
      · rw [hw] at HB
        have HZ : Hid (q = (LL s (j + 1)).dropWhile whiB) := Lib.hid (by
          rw [HJ.out, HC.out, List.dropWhile_cons, hw]
          exact if_pos rfl)
        clear hw
        go_wp2_with (go_at_call 30; (with_reducible refine (HB.out _).mono ?_); rintro e w1 ⟨rfl, rfl⟩)
        go_round
        case rel => exact ⟨j + 1, by omega, by omega, by go_num, HZ⟩
        case measure => simp [intOf]; omega
    · obtain rfl : j = s.size := by omega
      have HZ : Hid (LL s s.size = q) := Lib.hid (by rw [HJ.out, ll_nil (Nat.le_refl _)]; rfl)
      go_wp2
      go_ret
      exact ⟨⟨s.size, by omega, Nat.le_refl _, HZ.out, rfl⟩, rfl⟩

/-- The answer's own block, written. -/
theorem said_set {w0 W : World} {c : Array Value} (hb : Blk W w0.heap.size 38 c) (hB : Below w0.heap.size w0 W) (hc : c.size = 2) (a x : Int) :
    ((W.setCell ⟨w0.heap.size, 0, none⟩ (.int .i64 a)).setCell ⟨w0.heap.size, 1, none⟩ (.int .i64 x)).cell? ⟨w0.heap.size, 0, none⟩ = some (.int .i64 a) ∧
    ((W.setCell ⟨w0.heap.size, 0, none⟩ (.int .i64 a)).setCell ⟨w0.heap.size, 1, none⟩ (.int .i64 x)).cell? ⟨w0.heap.size, 1, none⟩ = some (.int .i64 x) ∧
    Below w0.heap.size w0 ((W.setCell ⟨w0.heap.size, 0, none⟩ (.int .i64 a)).setCell ⟨w0.heap.size, 1, none⟩ (.int .i64 x)) := by
  have h2 := (hb.set_ 0 (.int .i64 a)).set_ 1 (.int .i64 x)
  obtain ⟨l⟩ := c
  match l, hc with
  | [p, q], _ => exact ⟨h2.cell 0, h2.cell 1, (hB.setCell (p := ⟨w0.heap.size, 0, none⟩) (Nat.le_refl _) _).setCell (p := ⟨w0.heap.size, 1, none⟩) (Nat.le_refl _) _⟩

/-! Digits, one at least. -/
def runE : List UInt8 → Ej
  | [] => .op
  | b :: r => if digB b then .wl (r.dropWhile digB) else .bd (b :: r)
theorem runE_cons (b : UInt8) (r : List UInt8) : runE (b :: r) = if digB b then .wl (r.dropWhile digB) else .bd (b :: r) := rfl
set_option maxHeartbeats 1000000 in
theorem run27_any (s : ByteArray) (k : Nat) (w : World) (hk : k ≤ s.size) (hs : s.size ≤ 4611686018427387904) :
    Calls Try.prog 38 #[.string s, .int .i64 (k : Nat)] w fun e w' => (∃ v, e = .returned v ∧ SaidE s (runE (LL s k)) v) ∧ Below w.heap.size w w' := by
  have HD := Lib.hid refDigit_any
  have hz := Try.zeroSaid
  obtain ⟨q, hq⟩ : ∃ q, q = runE (LL s k) := ⟨_, rfl⟩
  rw [← hq]
  have HQ := Lib.hid hq
  clear hq
  by_cases hlt : k < s.size
  · have e0 : decide (k = s.size) = false := by rw [decide_eq_false_iff_not]; omega
    have e1 : (((k : Nat) : Int) == ((s.size : Nat) : Int)) = false := by rw [beq_eq_false_iff_ne]; omega
    have HC := Lib.hid (ll_cons hlt)
    have HB := Lib.hid (fun W => HD.out s[k] W)
    cases hd : digB s[k]
    · rw [hd] at HB
      have HZ : Hid (q = .bd (LL s k)) := Lib.hid (by rw [HQ.out, HC.out, runE_cons, hd]; rfl)
      clear hd
      go_enter Try.func38, Try.ntmps38
      go_wp2_with (go_at_call 27; (with_reducible refine (HB.out _).mono ?_); rintro e w1 ⟨rfl, rfl⟩)
      exact bodyPost_ret (v := sdV (k : Nat) 0) (by simp [results, Try.results38, go_sem]) rfl ⟨⟨_, rfl, by rw [HZ.out]; exact ⟨k, hk, rfl, rfl⟩⟩, (Below.refl _ _).alloc (Nat.le_refl _) _⟩
    · rw [hd] at HB
      have HY : Hid (q = .wl ((LL s k).dropWhile digB)) := Lib.hid (by rw [HQ.out, HC.out, runE_cons, List.dropWhile_cons, hd]; rfl)
      have HW := Lib.hid (fun c => (Below.refl w.heap.size w).alloc (Nat.le_refl _) (.cells c 38))
      clear hd
      go_enter Try.func38, Try.ntmps38
      go_wp2_with (go_at_call 27; (with_reducible refine (HB.out _).mono ?_); rintro e w1 ⟨rfl, rfl⟩)
      go_loop [1] (fun i => ∃ j : Nat, k ≤ j ∧ j ≤ s.size ∧ i = .int .i64 j ∧ Hid (q = .wl ((LL s j).dropWhile digB))) (fun i => s.size - (intOf i).toNat)
      case atStart => exact ⟨k, Nat.le_refl _, hk, rfl, HY⟩
      case round =>
        obtain ⟨j, hj, hjs, rfl, HJ⟩ := hrel
        by_cases hlj : j < s.size
        · have e2 : decide (j < s.size) = true := by simpa using hlj
          have HBJ := Lib.hid (fun W => HD.out s[j] W)
          have HCJ := Lib.hid (ll_cons hlj)
          cases hd : digB s[j]
          · rw [hd] at HBJ
            have HZJ : Hid (q = .wl (LL s j)) := Lib.hid (by rw [HJ.out, HCJ.out, List.dropWhile_cons, hd]; rfl)
            clear hd HB
            go_wp2_with (go_at_call 27; (with_reducible refine (HBJ.out _).mono ?_); rintro e w1 ⟨rfl, rfl⟩)
            exact bodyPost_ret (v := sdV (j : Nat) (-1)) (by simp [results, Try.results38, go_sem]) rfl ⟨⟨_, rfl, by rw [HZJ.out]; exact ⟨j, hjs, rfl, rfl⟩⟩, HW.out _⟩
          · rw [hd] at HBJ
            have HZJ : Hid (q = .wl ((LL s (j + 1)).dropWhile digB)) := Lib.hid (by rw [HJ.out, HCJ.out, List.dropWhile_cons, hd]; rfl)
            clear hd HB
            go_wp2_with (go_at_call 27; (with_reducible refine (HBJ.out _).mono ?_); rintro e w1 ⟨rfl, rfl⟩)
            go_round
            case rel => exact ⟨j + 1, by omega, by omega, by go_num, HZJ⟩
            case measure => simp [intOf]; omega
        · obtain rfl : j = s.size := by omega
          have HZJ : Hid (q = .wl (LL s s.size)) := Lib.hid (by rw [HJ.out, ll_nil (Nat.le_refl _)]; rfl)
          go_wp2
          exact bodyPost_ret (v := sdV (s.size : Nat) (-1)) (by simp [results, Try.results38, go_sem]) rfl ⟨⟨_, rfl, by rw [HZJ.out]; exact ⟨s.size, Nat.le_refl _, rfl, rfl⟩⟩, HW.out _⟩
  · obtain rfl : k = s.size := by omega
    have HZ : Hid (q = .op) := Lib.hid (by rw [HQ.out, ll_nil (Nat.le_refl _)]; rfl)
    go_enter Try.func38, Try.ntmps38
    go_wp2
    exact bodyPost_ret (v := sdV (s.size : Nat) 1) (by simp [results, Try.results38, go_sem]) rfl ⟨⟨_, rfl, by rw [HZ.out]; exact ⟨_, rfl⟩⟩, (Below.refl _ _).alloc (Nat.le_refl _) _⟩
set_option maxHeartbeats 1000000 in
theorem word27_any (s t : ByteArray) (k : Nat) (w : World) (hk : k ≤ s.size) (hs : s.size ≤ 4611686018427387904) (ht : t.size ≤ 1000) :
    Calls Try.prog 29 #[.string s, .int .i64 (k : Nat), .string t] w fun e w' => (∃ v, e = .returned v ∧ SaidE s (worE t.data.toList (LL s k)) v) ∧ Below w.heap.size w w' := by
  have hz := Try.zeroSaid
  obtain ⟨q, hq⟩ : ∃ q, q = worE t.data.toList (LL s k) := ⟨_, rfl⟩
  rw [← hq]
  have HQ := Lib.hid (show q = worE (LL t 0) (LL s (k + 0)) by rw [hq, ll_zero]; rfl)
  clear hq
  have HW := Lib.hid (fun W (hb : Below w.heap.size w W) c => hb.alloc hb.size (.cells c 38))
  have HB0 := Lib.hid (fun c => (Below.refl w.heap.size w).alloc (Nat.le_refl _) (.cells c 38))
  go_enter Try.func29, Try.ntmps29
  go_wp2
  go_loopw [7] (fun i wr => ∃ j : Nat, j ≤ t.size ∧ k + j ≤ s.size ∧ i = .int .i64 j ∧ Hid (q = worE (LL t j) (LL s (k + j))) ∧ Hid (∃ n, wr = (w.alloc (.cells #[.int .i64 0, .int .i64 0] 38)).drewN n)) (fun i _ => t.size - (intOf i).toNat)
  case atStart => exact ⟨0, Nat.zero_le _, hk, rfl, HQ, Lib.hid ⟨0, rfl⟩⟩
  case round =>
    obtain ⟨j, hj, hjs, rfl, HJ, HN⟩ := hrel
    obtain ⟨n, rfl⟩ := HN.out
    obtain ⟨m, hm⟩ : ∃ m, m = k + j := ⟨_, rfl⟩
    have g : ((k : Nat) : Int) + (j : Int) = (m : Int) := by omega
    rw [← hm] at HJ hjs
    by_cases hlt : j < t.size
    · have e1 : decide (j < t.size) = true := by simpa using hlt
      by_cases hls : m < s.size
      · have e2 : (((m : Nat) : Int) == ((s.size : Nat) : Int)) = false := by rw [beq_eq_false_iff_ne]; omega
        have HC := Lib.hid (ll_cons hlt)
        have HE := Lib.hid (ll_cons hls)
        cases hb : (s[m] == t[j])
        · have e3 : ((s[m].toNat : Int) != (t[j].toNat : Int)) = true := by
            rw [bne_iff_ne]
            intro e
            have : s[m] = t[j] := UInt8.toNat_inj.1 (by omega)
            rw [this] at hb
            simp at hb
          have HZ : Hid (q = .bd (LL s m)) := Lib.hid (by rw [HJ.out, HC.out, HE.out, worE, hb]; rfl)
          have HM := Lib.hid hm
          clear hb hm
          go_wp2
          go_quiet (fail)
          go_wp2
          obtain ⟨d0, d1, db⟩ := said_set ((Blk.new w 38 #[.int .i64 0, .int .i64 0]).drewN (n + nq)) (Below.drewN' ((Below.refl w.heap.size w).alloc (Nat.le_refl _) (.cells #[.int .i64 0, .int .i64 0] 38)) (n + nq)) rfl (m : Nat) 0
          exact bodyPost_ret (v := sdV (m : Nat) 0) (by simp only [results, Try.results29]; simp [go_sem, d0, d1]) rfl ⟨⟨_, rfl, by rw [HZ.out]; exact ⟨m, hjs, rfl, rfl⟩⟩, db⟩
        · have e3 : ((s[m].toNat : Int) != (t[j].toNat : Int)) = false := by
            have : s[m] = t[j] := eq_of_beq hb
            rw [this]
            simp
          have HZ : Hid (q = worE (LL t (j + 1)) (LL s (k + (j + 1)))) := Lib.hid (by
            rw [HJ.out, HC.out, HE.out, worE, hb, if_pos rfl, hm]
            rfl)
          have HM := Lib.hid hm
          clear hb hm
          go_wp2
          go_quiet (fail)
          go_wp2
          go_roundw
          case rel => exact ⟨j + 1, by omega, by have := HM.out; omega, by go_num, HZ, Lib.hid ⟨_, rfl⟩⟩
          case measure => simp [intOf]; omega
      · have HZ : Hid (q = .op) := Lib.hid (by rw [HJ.out, ll_nil (s := s) (by omega), ll_cons hlt]; rfl)
        obtain rfl : m = s.size := by omega
        clear hm
        go_wp2
        obtain ⟨d0, d1, db⟩ := said_set ((Blk.new w 38 #[.int .i64 0, .int .i64 0]).drewN (n)) (Below.drewN' ((Below.refl w.heap.size w).alloc (Nat.le_refl _) (.cells #[.int .i64 0, .int .i64 0] 38)) (n)) rfl (s.size : Nat) 1
        exact bodyPost_ret (v := sdV (s.size : Nat) 1) (by simp only [results, Try.results29]; simp [go_sem, d0, d1]) rfl ⟨⟨_, rfl, by rw [HZ.out]; exact ⟨_, rfl⟩⟩, db⟩
    · obtain rfl : j = t.size := by omega
      have HZ : Hid (q = .wl (LL s m)) := Lib.hid (by rw [HJ.out, ll_nil (s := t) (Nat.le_refl _)]; rfl)
      clear hm
      go_wp2
      obtain ⟨d0, d1, db⟩ := said_set ((Blk.new w 38 #[.int .i64 0, .int .i64 0]).drewN (n)) (Below.drewN' ((Below.refl w.heap.size w).alloc (Nat.le_refl _) (.cells #[.int .i64 0, .int .i64 0] 38)) (n)) rfl (m : Nat) (-1)
      exact bodyPost_ret (v := sdV (m : Nat) (-1)) (by simp only [results, Try.results29]; simp [go_sem, d0, d1]) rfl ⟨⟨_, rfl, by rw [HZ.out]; exact ⟨m, hjs, rfl, rfl⟩⟩, db⟩
end Go.Proofs.Ytdebionbjefhlaa
namespace Go.Proofs.Ytdebionbjefhlaa
open Go.RowKit

theorem esc_has (b : UInt8) : hasB ⟨#[34, 92, 47, 98, 102, 110, 114, 116]⟩ b = escJ b := by
  have := bytes_all (p := fun b => hasB ⟨#[34, 92, 47, 98, 102, 110, 114, 116]⟩ b == escJ b) (by kernel_rfl) b
  exact eq_of_beq this
theorem quo0_end (b : UInt8) (l : List UInt8) (h : ((b.toNat : Int) == 34) = true) : quoE 0 (b :: l) = .wl l := by
  have e : b = 34 := UInt8.toNat_inj.1 (by have := eq_of_beq h; show b.toNat = 34; omega)
  subst e
  rfl
theorem quo0_low (b : UInt8) (l : List UInt8) (h : decide ((b.toNat : Int) < 32) = true) : quoE 0 (b :: l) = .bd (b :: l) := by
  have h1 : b.toNat < 32 := by have := of_decide_eq_true h; omega
  have h2 : (b == 34) = false := by
    rw [beq_eq_false_iff_ne]
    intro e
    rw [e] at h1
    exact absurd h1 (by decide)
  rw [quoE, h2]
  show (match (if decide (b.toNat < 32) then none else if b == 92 then some 1 else some 0) with | some m => quoE m l | none => Ej.bd (b :: l)) = _
  rw [decide_eq_true h1]
  rfl
theorem quo0_go (b : UInt8) (l : List UInt8) (h1 : decide ((b.toNat : Int) < 32) = false) (h2 : ((b.toNat : Int) == 34) = false) : quoE 0 (b :: l) = if (b.toNat : Int) == 92 then quoE 1 l else quoE 0 l := by
  have e1 : decide (b.toNat < 32) = false := by
    rw [decide_eq_false_iff_not] at h1 ⊢
    omega
  have e2 : (b == 34) = false := by
    rw [beq_eq_false_iff_ne] at h2 ⊢
    intro e
    rw [e] at h2
    exact h2 rfl
  have e3 : ((b.toNat : Int) == 92) = (b == 92) := by
    rw [Bool.eq_iff_iff, beq_iff_eq, beq_iff_eq]
    exact ⟨fun h => UInt8.toNat_inj.1 (by show b.toNat = 92; omega), fun h => by rw [h]; rfl⟩
  rw [quoE, e2, e3]
  show (match (if decide (b.toNat < 32) then none else if b == 92 then some 1 else some 0) with | some m => quoE m l | none => Ej.bd (b :: l)) = _
  rw [e1]
  cases b == 92 <;> rfl
theorem quo1_go (b : UInt8) (l : List UInt8) : quoE 1 (b :: l) = if (b.toNat : Int) == 117 then quoE 5 l else if escJ b then quoE 0 l else .bd (b :: l) := by
  have e3 : ((b.toNat : Int) == 117) = (b == 117) := by
    rw [Bool.eq_iff_iff, beq_iff_eq, beq_iff_eq]
    exact ⟨fun h => UInt8.toNat_inj.1 (by show b.toNat = 117; omega), fun h => by rw [h]; rfl⟩
  rw [quoE, e3]
  show (match (if b == 117 then some 5 else if escJ b then some 0 else none) with | some m => quoE m l | none => Ej.bd (b :: l)) = _
  cases b == 117 <;> cases escJ b <;> rfl
/-- Where reading stands ahead of digit j of four. -/
def stQ (j : Nat) : Nat := if j = 5 then 0 else 6 - j
theorem quoh_nil {j : Nat} (_h1 : 1 ≤ j) (_h4 : j ≤ 4) : quoE (stQ j) [] = .op := rfl
theorem quoh_go {j : Nat} (h1 : 1 ≤ j) (h4 : j ≤ 4) (b : UInt8) (l : List UInt8) : quoE (stQ j) (b :: l) = if hexB b < 0 then .bd (b :: l) else quoE (stQ (j + 1)) l := by
  have e : stQ j = (4 - j) + 2 := by unfold stQ; rw [if_neg (by omega)]; omega
  have e2 : stQ (j + 1) = if 4 - j = 0 then 0 else 4 - j + 1 := by unfold stQ; split <;> split <;> omega
  rw [e, quoE, e2]
  show (match (if decide (0 ≤ hexB b) then some (if 4 - j = 0 then 0 else 4 - j + 1) else none) with | some m => quoE m l | none => Ej.bd (b :: l)) = _
  by_cases h : hexB b < 0
  · rw [decide_eq_false (by omega), if_pos h]
    rfl
  · rw [decide_eq_true (by omega), if_neg h]
    rfl

set_option maxHeartbeats 4000000 in
set_option maxRecDepth 10000 in
theorem quote27_any (s : ByteArray) (k : Nat) (w : World) (hk : k ≤ s.size) (hs : s.size ≤ 4611686018427387904) :
    Calls Try.prog 26 #[.string s, .int .i64 (k : Nat)] w fun e w' => (∃ v, e = .returned v ∧ SaidE s (quoE 0 (LL s k)) v) ∧ Below w.heap.size w w' := by
  have hz := Try.zeroSaid
  have HX := Lib.hid refHex_any
  have HH : Hid (∀ b W, Calls Try.prog 30 #[.string ⟨#[34, 92, 47, 98, 102, 110, 114, 116]⟩, .int .u8 ((b : UInt8).toNat : Int)] W fun e w' => e = .returned (.bool (escJ b)) ∧ W = w') := Lib.hid fun b W => by
    have := has_any ⟨#[34, 92, 47, 98, 102, 110, 114, 116]⟩ b W (by decide)
    rw [esc_has] at this
    exact this
  obtain ⟨q, hq⟩ : ∃ q, q = quoE 0 (LL s k) := ⟨_, rfl⟩
  rw [← hq]
  have HQ := Lib.hid hq
  clear hq
  have HW := Lib.hid (fun c => (Below.refl w.heap.size w).alloc (Nat.le_refl _) (.cells c 38))
  go_enter Try.func26, Try.ntmps26
  go_wp2
  go_loop [1] (fun i => ∃ j : Nat, k ≤ j ∧ j ≤ s.size ∧ i = .int .i64 j ∧ Hid (q = quoE 0 (LL s j))) (fun i => s.size - (intOf i).toNat)
  case atStart => exact ⟨k, Nat.le_refl _, hk, rfl, HQ⟩
  case round =>
    obtain ⟨j, hj, hjs, rfl, HJ⟩ := hrel
    clear HQ
    by_cases hlt : j < s.size
    · have e1 : decide (j < s.size) = true := by simpa using hlt
      have HC := Lib.hid (ll_cons hlt)
      obtain ⟨m, hm⟩ : ∃ m, m = j + 1 := ⟨_, rfl⟩
      have g : ((j : Nat) : Int) + 1 = (m : Int) := by omega
      have hms : m ≤ s.size := by omega
      rw [← hm] at HC
      cases h0 : decide ((s[j].toNat : Int) < 32)
      · cases h1 : ((s[j].toNat : Int) == 34)
        · have HY := Lib.hid (quo0_go _ (LL s m) h0 h1)
          cases h2 : ((s[j].toNat : Int) == 92)
          · have h3 : ((s[j].toNat : Int) != 92) = true := by unfold bne; rw [h2]; rfl
            have HZ : Hid (q = quoE 0 (LL s m)) := Lib.hid (by rw [HJ.out, HC.out, HY.out, h2]; rfl)
            clear hm
            go_wp2
            go_round
            case rel => exact ⟨m, by omega, hms, rfl, HZ⟩
            case measure => simp [intOf]; omega
          · have h3 : ((s[j].toNat : Int) != 92) = false := by unfold bne; rw [h2]; rfl
            have HE : Hid (q = quoE 1 (LL s m)) := Lib.hid (by rw [HJ.out, HC.out, HY.out, h2]; rfl)
            by_cases hms2 : m < s.size
            · have e4 : (((m : Nat) : Int) == ((s.size : Nat) : Int)) = false := by rw [beq_eq_false_iff_ne]; omega
              have HC2 := Lib.hid (ll_cons hms2)
              have HY2 := Lib.hid (quo1_go s[m] (LL s (m + 1)))
              cases h5 : ((s[m].toNat : Int) == 117)
              · have HB := Lib.hid (fun W => HH.out s[m] W)
                cases h6 : escJ s[m]
                · rw [h6] at HB
                  have HZ : Hid (q = .bd (LL s m)) := Lib.hid (by rw [HE.out, HC2.out, HY2.out, h5, h6]; rfl)
                  clear hm h6
                  go_wp2_with (go_at_call 30; (with_reducible refine (HB.out _).mono ?_); rintro e w1 ⟨rfl, rfl⟩)
                  exact bodyPost_ret (v := sdV (m : Nat) 0) (by simp [results, Try.results26, go_sem]) rfl ⟨⟨_, rfl, by rw [HZ.out]; exact ⟨m, hms, rfl, rfl⟩⟩, HW.out _⟩
                · rw [h6] at HB
                  have HZ : Hid (q = quoE 0 (LL s (m + 1))) := Lib.hid (by rw [HE.out, HC2.out, HY2.out, h5, h6]; rfl)
                  clear hm h6
                  go_wp2_with (go_at_call 30; (with_reducible refine (HB.out _).mono ?_); rintro e w1 ⟨rfl, rfl⟩)
                  go_round
                  case rel => exact ⟨m + 1, by omega, by omega, by go_num, HZ⟩
                  case measure => simp [intOf]; omega
              · have HR : Hid (q = quoE (stQ 1) (LL s (m + 1))) := Lib.hid (by rw [HE.out, HC2.out, HY2.out, h5]; rfl)
                clear hm
                go_wp2
                go_loop [6] (fun i => ∃ n : Nat, 1 ≤ n ∧ n ≤ 5 ∧ m + n ≤ s.size ∧ i = .int .i64 n ∧ Hid (q = quoE (stQ n) (LL s (m + n)))) (fun i => 5 - (intOf i).toNat)
                case atStart => exact ⟨1, by omega, by omega, by omega, rfl, HR⟩
                case round =>
                  obtain ⟨n, hn1, hn5, hns, rfl, HN⟩ := hrel
                  obtain ⟨p, hp⟩ : ∃ p, p = m + n := ⟨_, rfl⟩
                  have g2 : ((m : Nat) : Int) + (n : Int) = (p : Int) := by omega
                  rw [← hp] at HN hns
                  clear HR
                  by_cases hlt5 : n < 5
                  · have e5 : decide (((n : Nat) : Int) < 5) = true := by rw [decide_eq_true_iff]; omega
                    by_cases hps : p < s.size
                    · have e6 : decide (s.size ≤ p) = false := by rw [decide_eq_false_iff_not]; omega
                      have HC3 := Lib.hid (ll_cons hps)
                      have HY3 := Lib.hid (quoh_go hn1 (show n ≤ 4 by omega) s[p] (LL s (p + 1)))
                      have HB := Lib.hid (fun W => HX.out s[p] W)
                      by_cases hx : hexB s[p] < 0
                      · have HZ : Hid (q = .bd (LL s p)) := Lib.hid (by rw [HN.out, HC3.out, HY3.out, if_pos hx])
                        have e7 : decide (hexB s[p] < 0) = true := decide_eq_true hx
                        clear hx hp
                        generalize hexB s[p] = x at *
                        go_wp2_with (go_at_call 37; (with_reducible refine (HB.out _).mono ?_); rintro e w1 ⟨rfl, rfl⟩)
                        exact bodyPost_ret (v := sdV (p : Nat) 0) (by simp [results, Try.results26, go_sem]) rfl ⟨⟨_, rfl, by rw [HZ.out]; exact ⟨p, hns, rfl, rfl⟩⟩, HW.out _⟩
                      · have HZ : Hid (q = quoE (stQ (n + 1)) (LL s (m + (n + 1)))) := Lib.hid (by rw [HN.out, HC3.out, HY3.out, if_neg hx, hp]; rfl)
                        have e7 : decide (hexB s[p] < 0) = false := decide_eq_false hx
                        have HP := Lib.hid hp
                        clear hx hp
                        generalize hexB s[p] = x at *
                        go_wp2_with (go_at_call 37; (with_reducible refine (HB.out _).mono ?_); rintro e w1 ⟨rfl, rfl⟩)
                        go_round
                        case rel => exact ⟨n + 1, by omega, by omega, by have := HP.out; omega, by go_num, HZ⟩
                        case measure => simp [intOf]; omega
                    · have e6 : decide (s.size ≤ p) = true := by rw [decide_eq_true_iff]; omega
                      have HZ : Hid (q = .op) := Lib.hid (by rw [HN.out, ll_nil (s := s) (by omega)]; exact quoh_nil hn1 (by omega))
                      clear hp
                      go_wp2
                      exact bodyPost_ret (v := sdV (s.size : Nat) 1) (by simp [results, Try.results26, go_sem]) rfl ⟨⟨_, rfl, by rw [HZ.out]; exact ⟨_, rfl⟩⟩, HW.out _⟩
                  · obtain rfl : n = 5 := by omega
                    have g3 : ((m : Nat) : Int) + 5 = (p : Int) := by omega
                    have HZ : Hid (q = quoE 0 (LL s p)) := HN
                    have HP := Lib.hid hp
                    clear g2 hp hn1 hn5 hlt5
                    go_wp2
                    go_round
                    case rel => exact ⟨p, by have := HP.out; omega, by omega, rfl, HZ⟩
                    case measure => have hpo := HP.out; simp [intOf]; omega
            · obtain rfl : m = s.size := by omega
              have HZ : Hid (q = .op) := Lib.hid (by rw [HE.out, ll_nil (Nat.le_refl _)]; rfl)
              clear hm
              go_wp2
              exact bodyPost_ret (v := sdV (s.size : Nat) 1) (by simp [results, Try.results26, go_sem]) rfl ⟨⟨_, rfl, by rw [HZ.out]; exact ⟨_, rfl⟩⟩, HW.out _⟩
        · have HZ : Hid (q = .wl (LL s m)) := Lib.hid (by rw [HJ.out, HC.out, quo0_end _ _ h1])
          clear hm
          go_wp2
          exact bodyPost_ret (v := sdV (m : Nat) (-1)) (by simp [results, Try.results26, go_sem]) rfl ⟨⟨_, rfl, by rw [HZ.out]; exact ⟨m, hms, rfl, rfl⟩⟩, HW.out _⟩
      · have HZ : Hid (q = .bd (LL s j)) := Lib.hid (by rw [HJ.out, HC.out, quo0_low _ _ h0])
        clear hm
        go_wp2
        exact bodyPost_ret (v := sdV (j : Nat) 0) (by simp [results, Try.results26, go_sem]) rfl ⟨⟨_, rfl, by rw [HZ.out]; exact ⟨j, hjs, rfl, rfl⟩⟩, HW.out _⟩
    · obtain rfl : j = s.size := by omega
      have HZ : Hid (q = .op) := Lib.hid (by rw [HJ.out, ll_nil (Nat.le_refl _)]; rfl)
      go_wp2
      exact bodyPost_ret (v := sdV (s.size : Nat) 1) (by simp [results, Try.results26, go_sem]) rfl ⟨⟨_, rfl, by rw [HZ.out]; exact ⟨_, rfl⟩⟩, HW.out _⟩
end Go.Proofs.Ytdebionbjefhlaa
