/-
  What strconv.Itoa answers at this translation: the decimal numeral. Condition: the library's table of powers of ten is laid.
  What Text of layer 5 answers, and the document's own. Condition: the library's table of powers of ten is laid.
  What Text and Write of both sides answer at layer 24. Condition: the library's table of powers of ten is laid.
-/
import Derived.Shelf.LaysM
import Derived.Shelf.Strconv.Itoa3
import Derived.Lib.AppendIntMem
import Derived.Stop.LaidErr
import Derived.Test.YtaolclpjlkdkjaaDoorRows
import Derived.WalkKit
import Derived.Test.YtaolclpjlkdkjaaDoorZ7
import Derived.WalkSpells
import Derived.WalkLawsBesides
import Derived.Lib.Hide
namespace Go.Proofs.YtaolclpjlkdkjaaDoor
open Go.RowKit

def itoaRen : Go.Shelf.Ren := ⟨fun | 171 => 39 | 243 => 56 | 246 => 66 | 283 => 70 | 284 => 71 | 285 => 72 | 286 => 73 | 129 => 75 | 317 => 74 | 318 => 76 | 319 => 77 | 320 => 78 | 337 => 79 | 338 => 80 | n => n, fun | 3 => 3 | 9 => 9 | 2 => 2 | 4 => 4 | 171 => 89 | 0 => 0 | 53 => 69 | 37 => 92 | 5 => 5 | 173 => 93 | 212 => 97 | 51 => 98 | 20 => 20 | 213 => 99 | 46 => 100 | 232 => 103 | 233 => 104 | n => n, fun | 17 => 0 | 18 => 1 | 19 => 2 | n => n⟩
theorem itoaLays : Go.Proofs.LaysM.n171 Tryd.prog itoaRen := {
  mixed := by kernel_rfl
  f129 := Tryd.func75.trans (congrArg some (by kernel_rfl))
  f171 := Tryd.func39.trans (congrArg some (by kernel_rfl))
  f243 := Tryd.func56.trans (congrArg some (by kernel_rfl))
  f246 := Tryd.func66.trans (congrArg some (by kernel_rfl))
  f283 := Tryd.func70.trans (congrArg some (by kernel_rfl))
  f284 := Tryd.func71.trans (congrArg some (by kernel_rfl))
  f285 := Tryd.func72.trans (congrArg some (by kernel_rfl))
  f286 := Tryd.func73.trans (congrArg some (by kernel_rfl))
  f317 := Tryd.func74.trans (congrArg some (by kernel_rfl))
  f318 := Tryd.func76.trans (congrArg some (by kernel_rfl))
  f319 := Tryd.func77.trans (congrArg some (by kernel_rfl))
  f320 := Tryd.func78.trans (congrArg some (by kernel_rfl))
  f337 := Tryd.func79.trans (congrArg some (by kernel_rfl))
  f338 := Tryd.func80.trans (congrArg some (by kernel_rfl))
  t0 := Tryd.underlying0
  a0 := Tryd.isAgg0
  z0 := Tryd.sizeOf0
  v0 := Tryd.zeroValue0
  t2 := Tryd.underlying2
  a2 := Tryd.isAgg2
  z2 := Tryd.sizeOf2
  v2 := Tryd.zeroValue2
  t3 := Tryd.underlying3
  a3 := Tryd.isAgg3
  z3 := Tryd.sizeOf3
  v3 := Tryd.zeroValue3
  t4 := Tryd.underlying4
  a4 := Tryd.isAgg4
  z4 := Tryd.sizeOf4
  v4 := Tryd.zeroValue4
  t5 := Tryd.underlying5
  a5 := Tryd.isAgg5
  z5 := Tryd.sizeOf5
  v5 := Tryd.zeroValue5
  t9 := Tryd.underlying9
  a9 := Tryd.isAgg9
  z9 := Tryd.sizeOf9
  v9 := Tryd.zeroValue9
  t20 := Tryd.underlying20
  a20 := Tryd.isAgg20
  z20 := Tryd.sizeOf20
  v20 := Tryd.zeroValue20
  t37 := Tryd.underlying92
  a37 := Tryd.isAgg92
  z37 := Tryd.sizeOf92
  v37 := Tryd.zeroValue92
  t46 := Tryd.underlying100
  a46 := Tryd.isAgg100
  z46 := Tryd.sizeOf100
  v46 := Tryd.zeroValue100
  t51 := Tryd.underlying98
  a51 := Tryd.isAgg98
  z51 := Tryd.sizeOf98
  v51 := Tryd.zeroValue98
  t53 := Tryd.underlying69
  a53 := Tryd.isAgg69
  z53 := Tryd.sizeOf69
  v53 := Tryd.zeroValue69
  t171 := Tryd.underlying89
  a171 := Tryd.isAgg89
  z171 := Tryd.sizeOf89
  v171 := Tryd.zeroValue89
  t173 := Tryd.underlying93
  a173 := Tryd.isAgg93
  z173 := Tryd.sizeOf93
  v173 := Tryd.zeroValue93
  t212 := Tryd.underlying97
  a212 := Tryd.isAgg97
  z212 := Tryd.sizeOf97
  v212 := Tryd.zeroValue97
  t213 := Tryd.underlying99
  a213 := Tryd.isAgg99
  z213 := Tryd.sizeOf99
  t232 := Tryd.underlying103
  a232 := Tryd.isAgg103
  z232 := Tryd.sizeOf103
  v232 := Tryd.zeroValue103
  t233 := Tryd.underlying104
  a233 := Tryd.isAgg104
  z233 := Tryd.sizeOf104
  v233 := Tryd.zeroValue104
  g17 := by kernel_rfl
  g18 := by kernel_rfl
  g19 := by kernel_rfl
  i0 := by kernel_rfl
  i2 := by kernel_rfl
  i3 := by kernel_rfl
  i4 := by kernel_rfl
  i5 := by kernel_rfl
  i9 := by kernel_rfl
  i20 := by kernel_rfl
  i37 := by kernel_rfl
  i46 := by kernel_rfl
  i51 := by kernel_rfl
  i53 := by kernel_rfl
  i171 := by kernel_rfl
  i173 := by kernel_rfl
  i212 := by kernel_rfl
  i232 := by kernel_rfl
  i233 := by kernel_rfl
  m17 := by kernel_rfl
  m18 := by kernel_rfl
  m19 := by kernel_rfl }

/-- The library's table of powers of ten lies as its initialiser lays it. -/
def PowTab (w : World) : Prop := ∀ nm, Tryd.prog.globalNamed nm = some 0 → Lib.TabIs Tryd.prog w nm .u64 Lib.pow10Tab

theorem itoa_any (n : Int) (w : World) (h0 : -9223372036854775808 ≤ n) (h1 : n ≤ 9223372036854775807) (ht : PowTab w) :
    Calls Tryd.prog 39 #[.int .i64 n] w fun e w' => e = .returned (.string ⟨(Lib.itoa n).toArray⟩) ∧ Below w.heap.size w w' := by
  refine Calls.mono (Any.strconv_Itoa itoaLays n h0 h1 w (ht _ itoaLays.m17)) ?_
  rintro e w' ⟨rfl, k, os, rfl⟩
  exact ⟨rfl, Lib.below_grow _ _ (Nat.le_refl _) k os⟩

end Go.Proofs.YtaolclpjlkdkjaaDoor
namespace Go.Proofs.YtaolclpjlkdkjaaDoor
open Go.RowKit

set_option maxHeartbeats 400000 in
theorem text_any (n : Int) (w : World) (h0 : -9223372036854775808 ≤ n) (h1 : n ≤ 9223372036854775807) (ht : PowTab w) :
    Calls Tryd.prog 21 #[.int .i64 n] w fun e w' => e = .returned (.string ⟨(Lib.itoa n).toArray⟩) ∧ Below w.heap.size w w' := by
  have HI := Lib.hid (itoa_any n w h0 h1 ht)
  go_enter Tryd.func21, Tryd.ntmps21
  go_wp2_with (go_at_call 39; refine HI.out.mono ?_; rintro e w1 ⟨rfl, hb⟩)
  go_ret
  exact ⟨rfl, hb⟩

def tenS : ByteArray := ⟨#[48, 49, 50, 51, 52, 53, 54, 55, 56, 57]⟩
theorem tenS_piece {u : Nat} (h : u < 10) : tenS.extract u (u + 1) = digS u := by
  have key : (List.range 10).all (fun u => decide (tenS.extract u (u + 1) = (⟨#[UInt8.ofNat (48 + u)]⟩ : ByteArray))) = true := by kernel_rfl
  rw [List.all_eq_true] at key
  have := key u (List.mem_range.2 h)
  rw [decide_eq_true_eq] at this
  rw [this]
  unfold digS
  rw [Lib.decDigits, dif_pos h]

theorem digS_join {u : Nat} (h : ¬ u < 10) : digS (u / 10) ++ digS (u % 10) = digS u := by
  have e : Lib.decDigits u = Lib.decDigits (u / 10) ++ Lib.decDigits (u % 10) := by
    rw [Lib.decDigits, dif_neg h]
    congr 1
    rw [Lib.decDigits, dif_pos (by omega)]
  unfold digS
  rw [e]
  apply ByteArray.ext
  rw [ByteArray.data_append]
  simp

set_option maxHeartbeats 1000000 in
theorem num_nat (k : Nat) : ∀ (u : Nat) (w : World), u ≤ k → u < 18446744073709551616 →
    Calls Tryd.prog 44 #[.int .u64 (u : Int)] w fun e w' => e = .returned (.string (digS u)) ∧ w = w' := by
  induction k with
  | zero =>
    intro u w hk _
    obtain rfl : u = 0 := by omega
    have HV := Lib.hid (tenS_piece (u := 0) (by omega))
    go_enter Tryd.func44, Tryd.ntmps44
    go_wp2_with fail
    go_ret
    exact ⟨by rw [← HV.out]; rfl, rfl⟩
  | succ k ih =>
    intro u w hk hu
    by_cases h : u < 10
    · have HV := Lib.hid (tenS_piece h)
      have g1 : (u : Int) < 10 := by omega
      go_enter Tryd.func44, Tryd.ntmps44
      go_wp2_with fail
      go_ret
      exact ⟨by rw [← HV.out]; rfl, rfl⟩
    · have HV := Lib.hid (digS_join h)
      have l1 := digS_le (u := u / 10) (by omega)
      have l2 := digS_le (u := u % 10) (by omega)
      have HQ : Hid (∀ W, Calls Tryd.prog 44 #[.int .u64 ((u : Int) / 10)] W fun e w' => e = .returned (.string (digS (u / 10))) ∧ W = w') := fun W => ih (u / 10) W (by omega) (by omega)
      have HR : Hid (∀ W, Calls Tryd.prog 44 #[.int .u64 ((u : Int) % 10)] W fun e w' => e = .returned (.string (digS (u % 10))) ∧ W = w') := fun W => ih (u % 10) W (by omega) (by omega)
      have g1 : ¬ (u : Int) < 10 := by omega
      clear ih
      generalize digS (u / 10) = x at *
      generalize digS (u % 10) = y at *
      go_enter Tryd.func44, Tryd.ntmps44
      go_wp2_with (first
        | (go_at_call 44; with_reducible refine (HQ.out _).mono ?_; rintro e w' ⟨rfl, rfl⟩)
        | (go_at_call 44; with_reducible refine (HR.out _).mono ?_; rintro e w' ⟨rfl, rfl⟩))
      go_ret
      exact ⟨by rw [← HV.out]; rfl, rfl⟩

set_option maxHeartbeats 400000 in
theorem refText_pos (u : Nat) (w : World) (h1 : u ≤ 9223372036854775807) :
    Calls Tryd.prog 25 #[.int .i64 (u : Int)] w fun e w' => e = .returned (.string (digS u)) ∧ w = w' := by
  have HN : Hid (∀ W, Calls Tryd.prog 44 #[.int .u64 (u : Int)] W fun e w' => e = .returned (.string (digS u)) ∧ W = w') := fun W => num_nat u u W (Nat.le_refl _) (by omega)
  have g1 : ¬ (u : Int) < 0 := by omega
  generalize digS u = y at *
  go_enter Tryd.func25, Tryd.ntmps25
  go_wp2_with (go_at_call 44; refine (HN.out _).mono ?_; rintro e w' ⟨rfl, rfl⟩)
  go_ret
  exact ⟨rfl, rfl⟩

end Go.Proofs.YtaolclpjlkdkjaaDoor
namespace Go.Proofs.YtaolclpjlkdkjaaDoor
open Go.RowKit

theorem PowTab.stays {w w' : World} (h : PowTab w) (hb : Below w.heap.size w w') : PowTab w' := fun nm hn => Lib.tabBelow_of_tabIs (h nm hn) w' hb
theorem worS_neg {n : Int} (h : n < 0) : worS n = ⟨#[]⟩ := if_pos h
theorem worS_pos {n : Int} (h : ¬n < 0) : worS n = digS n.toNat := if_neg h

theorem worS_le {n : Int} (h : n ≤ 9223372036854775807) : (worS n).size ≤ 20 := by
  unfold worS
  split
  · exact Nat.zero_le _
  · exact digS_le (by omega)

set_option maxHeartbeats 400000 in
theorem word24_any (n : Int) (w : World) (h1 : n ≤ 9223372036854775807) :
    Calls Tryd.prog 17 #[.int .i64 n] w fun e w' => e = .returned (.string (worS n)) ∧ w = w' := by
  by_cases h0 : n < 0
  · rw [worS_neg h0]
    go_enter Tryd.func17, Tryd.ntmps17
    go_wp2
    go_ret
    exact ⟨rfl, rfl⟩
  · rw [worS_pos h0]
    have HT := Lib.hid (fun W => refText_pos n.toNat W (by omega))
    rw [show ((n.toNat : Nat) : Int) = n from by omega] at HT
    generalize digS n.toNat = y at *
    clear h1
    go_enter Tryd.func17, Tryd.ntmps17
    go_wp2_with (go_at_call 25; (with_reducible refine (HT.out _).mono ?_); rintro e w1 ⟨rfl, rfl⟩)
    go_ret
    exact ⟨rfl, rfl⟩
theorem dtext24_any (n : Int) (w : World) (h0 : 0 ≤ n) (h1 : n ≤ 9223372036854775807) (ht : PowTab w) :
    Calls Tryd.prog 21 #[.int .i64 n] w fun e w' => e = .returned (.string (worS n)) ∧ Below w.heap.size w w' := by
  have := text_any n w (by omega) h1 ht
  rw [show n = ((n.toNat : Nat) : Int) from by omega, itoa_pos] at this
  rw [worS_pos (by omega)]
  rw [show ((n.toNat : Nat) : Int) = n from by omega] at this
  exact this
/-- A number's digits, or what stands in place of one that is not said. -/
def insS (n : Int) (x : ByteArray) : ByteArray := cond (n == -1) x (worS n)
set_option maxHeartbeats 400000 in
theorem ptext24_any (n : Int) (x : ByteArray) (w : World) (h0 : -1 ≤ n) (h1 : n ≤ 9223372036854775807) (ht : PowTab w) :
    Calls Tryd.prog 15 #[.int .i64 n, .string x] w fun e w' => e = .returned (.string (insS n x)) ∧ Below w.heap.size w w' := by
  unfold insS
  cases h : (n == -1)
  · have hn : n ≠ -1 := by simpa using h
    have HT := Lib.hid (dtext24_any n w (by omega) h1 ht)
    generalize worS n = y at *
    clear h0 h1 ht hn
    go_enter Tryd.func15, Tryd.ntmps15
    go_wp2_with (go_at_call 21; (with_reducible refine HT.out.mono ?_); rintro e w1 ⟨rfl, b1⟩)
    go_ret
    exact ⟨rfl, b1⟩
  · have HB := Lib.hid (Below.refl w.heap.size w)
    clear h0 h1 ht
    go_enter Tryd.func15, Tryd.ntmps15
    go_wp2
    go_ret
    exact ⟨rfl, HB.out⟩
theorem insS_le {n : Int} (h : n ≤ 9223372036854775807) : (insS n ⟨#[42]⟩).size ≤ 20 := by
  unfold insS
  cases n == -1
  · exact worS_le h
  · show (⟨#[42]⟩ : ByteArray).size ≤ 20
    decide
theorem insS_nil (n : Int) (_h : -1 ≤ n) : insS n ⟨#[]⟩ = worS n := by
  unfold insS
  cases e : (n == -1)
  · rfl
  · have e2 : n = -1 := by simpa using e
    rw [worS_neg (by omega)]
    rfl

/-- What Text answers: the code, and the text. -/
def txE (a b : Int) : Int := cond (!(a == -1 && b == -1) && inB a && inB b) (cond (b == -1 || decide (a ≤ b)) 0 9) 2
abbrev txG (a b : Int) : ByteArray := ((⟨#[98, 121, 116, 101, 115, 61]⟩ ++ worS a) ++ ⟨#[45]⟩) ++ worS b
def txV (a b : Int) : Value := cond (!(a == -1 && b == -1) && inB a && inB b) (cond (b == -1 || decide (a ≤ b)) (.tuple #[.string (txG a b), .int .i64 0]) (.tuple #[.string ⟨#[]⟩, .int .i64 9])) (.tuple #[.string ⟨#[]⟩, .int .i64 2])
theorem one_rng (w : World) (a b : Int) : Blk (w.alloc (rngC a b)) w.heap.size 23 #[.int .i64 a, .int .i64 b] := Blk.new w _ _
theorem rng_keep {w : World} {B : Nat} {a b : Int} (h : Blk w B 23 #[.int .i64 a, .int .i64 b]) : w.cell? ⟨B, 0, none⟩ = some (.int .i64 a) ∧ w.cell? ⟨B, 1, none⟩ = some (.int .i64 b) := ⟨h.cell 0, h.cell 1⟩
theorem part_keep {w : World} {B : Nat} {a b c : Int} (h : Blk w B 25 #[.int .i64 a, .int .i64 b, .int .i64 c]) : w.cell? ⟨B, 0, none⟩ = some (.int .i64 a) ∧ w.cell? ⟨B, 1, none⟩ = some (.int .i64 b) ∧ w.cell? ⟨B, 2, none⟩ = some (.int .i64 c) := ⟨h.cell 0, h.cell 1, h.cell 2⟩

set_option maxRecDepth 100000 in
set_option maxHeartbeats 4000000 in
theorem text24_any (a b : Int) (w : World) (ht : PowTab w) : Calls Tryd.prog 4 #[rngV a b] w fun e w' => e = .returned (txV a b) ∧ Below w.heap.size w w' := by
  have HA := Lib.hid (fun W => within_any a W)
  have HB1 := Lib.hid (fun W => within_any b W)
  have HO := Lib.hid (fun W => inOrder_any a b W)
  have HT1 := Lib.hid (fun W (hW : Below w.heap.size w W) (h : inB a = true) => by have := ptext24_any a ⟨#[]⟩ W (inB_yes h).1 (by have := (inB_yes h).2; omega) (ht.stays hW); rw [insS_nil a (inB_yes h).1] at this; exact this)
  have HT2 := Lib.hid (fun W (hW : Below w.heap.size w W) (h : inB b = true) => by have := ptext24_any b ⟨#[]⟩ W (inB_yes h).1 (by have := (inB_yes h).2; omega) (ht.stays hW); rw [insS_nil b (inB_yes h).1] at this; exact this)
  have HB := Lib.hid ((Below.refl w.heap.size w).alloc (Nat.le_refl _) (rngC a b))
  have HK := Lib.hid (one_rng w a b)
  clear ht
  cases h1 : (a == -1)
  · cases h3 : inB a
    · rw [h3] at HA
      have hv := Lib.hid (show txV a b = .tuple #[.string ⟨#[]⟩, .int .i64 2] from by unfold txV; rw [h1, h3]; rfl)
      rw [hv.out]
      clear hv
      go_enter Tryd.func4, Tryd.ntmps4
      go_wp2_with (first
      | (go_at_call 13; (with_reducible refine (HA.out _).mono ?_); rintro e w1 ⟨rfl, rfl⟩)
      | (go_at_call 13; (with_reducible refine (HB1.out _).mono ?_); rintro e w1 ⟨rfl, rfl⟩)
      | (go_at_call 14; (with_reducible refine (HO.out _).mono ?_); rintro e w1 ⟨rfl, b1⟩; replace HB := Lib.hid (below_on HB.out b1); replace HK := Lib.hid (HK.out.below b1 HK.out.lt); obtain ⟨c0, c1⟩ := rng_keep HK.out; clear b1))
      go_ret2
      exact ⟨rfl, HB.out⟩
    rw [h3] at HA
    cases h4 : inB b
    · rw [h4] at HB1
      have hv := Lib.hid (show txV a b = .tuple #[.string ⟨#[]⟩, .int .i64 2] from by unfold txV; rw [h1, h3, h4]; rfl)
      rw [hv.out]
      clear hv
      go_enter Tryd.func4, Tryd.ntmps4
      go_wp2_with (first
      | (go_at_call 13; (with_reducible refine (HA.out _).mono ?_); rintro e w1 ⟨rfl, rfl⟩)
      | (go_at_call 13; (with_reducible refine (HB1.out _).mono ?_); rintro e w1 ⟨rfl, rfl⟩)
      | (go_at_call 14; (with_reducible refine (HO.out _).mono ?_); rintro e w1 ⟨rfl, b1⟩; replace HB := Lib.hid (below_on HB.out b1); replace HK := Lib.hid (HK.out.below b1 HK.out.lt); obtain ⟨c0, c1⟩ := rng_keep HK.out; clear b1))
      go_ret2
      exact ⟨rfl, HB.out⟩
    rw [h4] at HB1
    replace HT1 := Lib.hid (fun W hW => HT1.out W hW h3)
    replace HT2 := Lib.hid (fun W hW => HT2.out W hW h4)
    cases h5 : (b == -1 || decide (a ≤ b))
    · rw [h5] at HO
      have hv := Lib.hid (show txV a b = .tuple #[.string ⟨#[]⟩, .int .i64 9] from by unfold txV; rw [h5, h1, h3, h4]; rfl)
      rw [hv.out]
      clear hv
      go_enter Tryd.func4, Tryd.ntmps4
      go_wp2_with (first
      | (go_at_call 13; (with_reducible refine (HA.out _).mono ?_); rintro e w1 ⟨rfl, rfl⟩)
      | (go_at_call 13; (with_reducible refine (HB1.out _).mono ?_); rintro e w1 ⟨rfl, rfl⟩)
      | (go_at_call 14; (with_reducible refine (HO.out _).mono ?_); rintro e w1 ⟨rfl, b1⟩; replace HB := Lib.hid (below_on HB.out b1); replace HK := Lib.hid (HK.out.below b1 HK.out.lt); obtain ⟨c0, c1⟩ := rng_keep HK.out; clear b1))
      go_ret2
      exact ⟨rfl, HB.out⟩
    · rw [h5] at HO
      have hv := Lib.hid (show txV a b = .tuple #[.string (txG a b), .int .i64 0] from by unfold txV; rw [h5, h1, h3, h4]; rfl)
      rw [hv.out]
      clear hv
      go_enter Tryd.func4, Tryd.ntmps4
      go_wp2_with (first
      | (go_at_call 13; (with_reducible refine (HA.out _).mono ?_); rintro e w1 ⟨rfl, rfl⟩)
      | (go_at_call 13; (with_reducible refine (HB1.out _).mono ?_); rintro e w1 ⟨rfl, rfl⟩)
      | (go_at_call 14; (with_reducible refine (HO.out _).mono ?_); rintro e w1 ⟨rfl, b1⟩; replace HB := Lib.hid (below_on HB.out b1); replace HK := Lib.hid (HK.out.below b1 HK.out.lt); obtain ⟨c0, c1⟩ := rng_keep HK.out; clear b1))
      have la := worS_le (n := a) (by have := inB_yes h3; omega)
      have lb := worS_le (n := b) (by have := inB_yes h4; omega)
      have s1 : ¬9223372036854775807 < 6 + (worS a).size := by omega
      have s2 : ¬9223372036854775807 < 6 + (worS a).size + 1 := by omega
      have s3 : ¬9223372036854775807 < 6 + (worS a).size + 1 + (worS b).size := by omega
      go_region_held2 (fun w' => w'.cell? ⟨w.heap.size, 0, none⟩ = some (.int .i64 a) ∧ w'.cell? ⟨w.heap.size, 1, none⟩ = some (.int .i64 b))
        (first | with_reducible exact rng_keep HK.out | with_reducible exact rng_keep HK.out.drew | go_keep)
        (first
          | (go_at_call 15; first | (with_reducible refine (HT1.out _ (by first | exact HB.out | exact HB.out.drew)).mono ?_) | (with_reducible refine (HT2.out _ (by first | exact HB.out | exact HB.out.drew)).mono ?_)
             rintro r w2 ⟨rfl, b2⟩
             have HK := Lib.hid (show Blk w2 w.heap.size _ _ from by first | exact HK.out.below b2 HK.out.lt | exact HK.out.drew.below b2 HK.out.lt)
             have HB := Lib.hid (show Below w.heap.size w w2 from by first | exact below_on HB.out b2 | exact below_on HB.out.drew b2)
             clear b2))
      all_goals
        go_wp2
        go_ret2
        exact ⟨rfl, HB.out⟩
  cases h2 : (b == -1)
  · cases h3 : inB a
    · rw [h3] at HA
      have hv := Lib.hid (show txV a b = .tuple #[.string ⟨#[]⟩, .int .i64 2] from by unfold txV; rw [h1, h2, h3]; rfl)
      rw [hv.out]
      clear hv
      go_enter Tryd.func4, Tryd.ntmps4
      go_wp2_with (first
      | (go_at_call 13; (with_reducible refine (HA.out _).mono ?_); rintro e w1 ⟨rfl, rfl⟩)
      | (go_at_call 13; (with_reducible refine (HB1.out _).mono ?_); rintro e w1 ⟨rfl, rfl⟩)
      | (go_at_call 14; (with_reducible refine (HO.out _).mono ?_); rintro e w1 ⟨rfl, b1⟩; replace HB := Lib.hid (below_on HB.out b1); replace HK := Lib.hid (HK.out.below b1 HK.out.lt); obtain ⟨c0, c1⟩ := rng_keep HK.out; clear b1))
      go_ret2
      exact ⟨rfl, HB.out⟩
    rw [h3] at HA
    cases h4 : inB b
    · rw [h4] at HB1
      have hv := Lib.hid (show txV a b = .tuple #[.string ⟨#[]⟩, .int .i64 2] from by unfold txV; rw [h1, h2, h3, h4]; rfl)
      rw [hv.out]
      clear hv
      go_enter Tryd.func4, Tryd.ntmps4
      go_wp2_with (first
      | (go_at_call 13; (with_reducible refine (HA.out _).mono ?_); rintro e w1 ⟨rfl, rfl⟩)
      | (go_at_call 13; (with_reducible refine (HB1.out _).mono ?_); rintro e w1 ⟨rfl, rfl⟩)
      | (go_at_call 14; (with_reducible refine (HO.out _).mono ?_); rintro e w1 ⟨rfl, b1⟩; replace HB := Lib.hid (below_on HB.out b1); replace HK := Lib.hid (HK.out.below b1 HK.out.lt); obtain ⟨c0, c1⟩ := rng_keep HK.out; clear b1))
      go_ret2
      exact ⟨rfl, HB.out⟩
    rw [h4] at HB1
    replace HT1 := Lib.hid (fun W hW => HT1.out W hW h3)
    replace HT2 := Lib.hid (fun W hW => HT2.out W hW h4)
    cases h5 : (b == -1 || decide (a ≤ b))
    · rw [h5] at HO
      have hv := Lib.hid (show txV a b = .tuple #[.string ⟨#[]⟩, .int .i64 9] from by unfold txV; rw [h5, h1, h2, h3, h4]; rfl)
      rw [hv.out]
      clear hv
      go_enter Tryd.func4, Tryd.ntmps4
      go_wp2_with (first
      | (go_at_call 13; (with_reducible refine (HA.out _).mono ?_); rintro e w1 ⟨rfl, rfl⟩)
      | (go_at_call 13; (with_reducible refine (HB1.out _).mono ?_); rintro e w1 ⟨rfl, rfl⟩)
      | (go_at_call 14; (with_reducible refine (HO.out _).mono ?_); rintro e w1 ⟨rfl, b1⟩; replace HB := Lib.hid (below_on HB.out b1); replace HK := Lib.hid (HK.out.below b1 HK.out.lt); obtain ⟨c0, c1⟩ := rng_keep HK.out; clear b1))
      go_ret2
      exact ⟨rfl, HB.out⟩
    · rw [h5] at HO
      have hv := Lib.hid (show txV a b = .tuple #[.string (txG a b), .int .i64 0] from by unfold txV; rw [h5, h1, h2, h3, h4]; rfl)
      rw [hv.out]
      clear hv
      go_enter Tryd.func4, Tryd.ntmps4
      go_wp2_with (first
      | (go_at_call 13; (with_reducible refine (HA.out _).mono ?_); rintro e w1 ⟨rfl, rfl⟩)
      | (go_at_call 13; (with_reducible refine (HB1.out _).mono ?_); rintro e w1 ⟨rfl, rfl⟩)
      | (go_at_call 14; (with_reducible refine (HO.out _).mono ?_); rintro e w1 ⟨rfl, b1⟩; replace HB := Lib.hid (below_on HB.out b1); replace HK := Lib.hid (HK.out.below b1 HK.out.lt); obtain ⟨c0, c1⟩ := rng_keep HK.out; clear b1))
      have la := worS_le (n := a) (by have := inB_yes h3; omega)
      have lb := worS_le (n := b) (by have := inB_yes h4; omega)
      have s1 : ¬9223372036854775807 < 6 + (worS a).size := by omega
      have s2 : ¬9223372036854775807 < 6 + (worS a).size + 1 := by omega
      have s3 : ¬9223372036854775807 < 6 + (worS a).size + 1 + (worS b).size := by omega
      go_region_held2 (fun w' => w'.cell? ⟨w.heap.size, 0, none⟩ = some (.int .i64 a) ∧ w'.cell? ⟨w.heap.size, 1, none⟩ = some (.int .i64 b))
        (first | with_reducible exact rng_keep HK.out | with_reducible exact rng_keep HK.out.drew | go_keep)
        (first
          | (go_at_call 15; first | (with_reducible refine (HT1.out _ (by first | exact HB.out | exact HB.out.drew)).mono ?_) | (with_reducible refine (HT2.out _ (by first | exact HB.out | exact HB.out.drew)).mono ?_)
             rintro r w2 ⟨rfl, b2⟩
             have HK := Lib.hid (show Blk w2 w.heap.size _ _ from by first | exact HK.out.below b2 HK.out.lt | exact HK.out.drew.below b2 HK.out.lt)
             have HB := Lib.hid (show Below w.heap.size w w2 from by first | exact below_on HB.out b2 | exact below_on HB.out.drew b2)
             clear b2))
      all_goals
        go_wp2
        go_ret2
        exact ⟨rfl, HB.out⟩
  · have hv := Lib.hid (show txV a b = .tuple #[.string ⟨#[]⟩, .int .i64 2] from by unfold txV; rw [h1, h2]; rfl)
    rw [hv.out]
    clear hv
    go_enter Tryd.func4, Tryd.ntmps4
    go_wp2_with (first
      | (go_at_call 13; (with_reducible refine (HA.out _).mono ?_); rintro e w1 ⟨rfl, rfl⟩)
      | (go_at_call 13; (with_reducible refine (HB1.out _).mono ?_); rintro e w1 ⟨rfl, rfl⟩)
      | (go_at_call 14; (with_reducible refine (HO.out _).mono ?_); rintro e w1 ⟨rfl, b1⟩; replace HB := Lib.hid (below_on HB.out b1); replace HK := Lib.hid (HK.out.below b1 HK.out.lt); obtain ⟨c0, c1⟩ := rng_keep HK.out; clear b1))
    go_ret2
    exact ⟨rfl, HB.out⟩

set_option maxRecDepth 100000 in
set_option maxHeartbeats 4000000 in
theorem rtext24_any (a b : Int) (w : World) : Calls Tryd.prog 5 #[rngV a b] w fun e w' => e = .returned (txV a b) ∧ Below w.heap.size w w' := by
  have HA := Lib.hid (fun W => rin_any a W)
  have HB1 := Lib.hid (fun W => rin_any b W)
  have HB := Lib.hid ((Below.refl w.heap.size w).alloc (Nat.le_refl _) (rngC a b))
  have HK := Lib.hid (one_rng w a b)
  have z3 : ∀ x : Bool, (x && false) = false := fun x => by cases x <;> rfl
  cases h3 : inB a
  · rw [h3] at HA
    have hv := Lib.hid (show txV a b = .tuple #[.string ⟨#[]⟩, .int .i64 2] from by unfold txV; rw [h3, z3]; rfl)
    rw [hv.out]
    clear hv
    go_enter Tryd.func5, Tryd.ntmps5
    go_wp2_with (first
      | (go_at_call 16; (with_reducible refine (HA.out _).mono ?_); rintro e w1 ⟨rfl, rfl⟩)
      | (go_at_call 16; (with_reducible refine (HB1.out _).mono ?_); rintro e w1 ⟨rfl, rfl⟩))
    go_ret2
    exact ⟨rfl, HB.out⟩
  rw [h3] at HA
  cases h4 : inB b
  · rw [h4] at HB1
    have hv := Lib.hid (show txV a b = .tuple #[.string ⟨#[]⟩, .int .i64 2] from by unfold txV; rw [h4, z3]; rfl)
    rw [hv.out]
    clear hv
    go_enter Tryd.func5, Tryd.ntmps5
    go_wp2_with (first
      | (go_at_call 16; (with_reducible refine (HA.out _).mono ?_); rintro e w1 ⟨rfl, rfl⟩)
      | (go_at_call 16; (with_reducible refine (HB1.out _).mono ?_); rintro e w1 ⟨rfl, rfl⟩))
    go_ret2
    exact ⟨rfl, HB.out⟩
  rw [h4] at HB1
  have ia := inB_yes h3
  have ib := inB_yes h4
  have HT1 := Lib.hid (fun W => word24_any a W (by omega))
  have HT2 := Lib.hid (fun W => word24_any b W (by omega))
  by_cases h1 : a < 0
  · have d1 : decide (a < 0) = true := decide_eq_true h1
    have e1 : (a == -1) = true := by rw [beq_iff_eq]; omega
    by_cases h2 : b < 0
    · have d2 : decide (b < 0) = true := decide_eq_true h2
      have e2 : (b == -1) = true := by rw [beq_iff_eq]; omega
      clear h1 h2 ia ib
      have hv := Lib.hid (show txV a b = .tuple #[.string ⟨#[]⟩, .int .i64 2] from by unfold txV; rw [e1, e2]; rfl)
      rw [hv.out]
      clear hv
      go_enter Tryd.func5, Tryd.ntmps5
      go_wp2_with (first
      | (go_at_call 16; (with_reducible refine (HA.out _).mono ?_); rintro e w1 ⟨rfl, rfl⟩)
      | (go_at_call 16; (with_reducible refine (HB1.out _).mono ?_); rintro e w1 ⟨rfl, rfl⟩))
      go_ret2
      exact ⟨rfl, HB.out⟩
    have d2 : decide (b < 0) = false := decide_eq_false h2
    have e2 : (b == -1) = false := by rw [beq_eq_false_iff_ne]; omega
    have d3 : decide (b < a) = false := decide_eq_false (by omega)
    have d4 : decide (a ≤ b) = true := decide_eq_true (by omega)
    clear h1 h2 ia ib
    have hv := Lib.hid (show txV a b = .tuple #[.string (txG a b), .int .i64 0] from by unfold txV; rw [e1, e2, h3, h4, d4]; rfl)
    rw [hv.out]
    clear hv
    go_enter Tryd.func5, Tryd.ntmps5
    go_wp2_with (first
      | (go_at_call 16; (with_reducible refine (HA.out _).mono ?_); rintro e w1 ⟨rfl, rfl⟩)
      | (go_at_call 16; (with_reducible refine (HB1.out _).mono ?_); rintro e w1 ⟨rfl, rfl⟩))
    have la := worS_le (n := a) (by have := inB_yes h3; omega)
    have lb := worS_le (n := b) (by have := inB_yes h4; omega)
    have s1 : ¬9223372036854775807 < 6 + (worS a).size := by omega
    have s2 : ¬9223372036854775807 < 6 + (worS a).size + 1 := by omega
    have s3 : ¬9223372036854775807 < 6 + (worS a).size + 1 + (worS b).size := by omega
    go_region_held2 (fun w' => w'.cell? ⟨w.heap.size, 0, none⟩ = some (.int .i64 a) ∧ w'.cell? ⟨w.heap.size, 1, none⟩ = some (.int .i64 b))
      (first | with_reducible exact rng_keep HK.out | with_reducible exact rng_keep HK.out.drew | go_keep)
      (first
        | (go_at_call 17; first | (with_reducible refine (HT1.out _).mono ?_) | (with_reducible refine (HT2.out _).mono ?_)
           rintro r w2 ⟨rfl, rfl⟩))
    all_goals
      go_wp2
      go_ret2
      exact ⟨rfl, HB.out.drew⟩
  have d1 : decide (a < 0) = false := decide_eq_false h1
  have e1 : (a == -1) = false := by rw [beq_eq_false_iff_ne]; omega
  by_cases h5 : b < a
  · have d5 : decide (b < a) = true := decide_eq_true h5
    have d6 : decide (a ≤ b) = false := decide_eq_false (by omega)
    by_cases h6 : 0 ≤ b
    · have d7 : decide (0 ≤ b) = true := decide_eq_true h6
      have e2 : (b == -1) = false := by rw [beq_eq_false_iff_ne]; omega
      clear h1 h5 h6 ia ib
      have hv := Lib.hid (show txV a b = .tuple #[.string ⟨#[]⟩, .int .i64 9] from by unfold txV; rw [e1, e2, h3, h4, d6]; rfl)
      rw [hv.out]
      clear hv
      go_enter Tryd.func5, Tryd.ntmps5
      go_wp2_with (first
      | (go_at_call 16; (with_reducible refine (HA.out _).mono ?_); rintro e w1 ⟨rfl, rfl⟩)
      | (go_at_call 16; (with_reducible refine (HB1.out _).mono ?_); rintro e w1 ⟨rfl, rfl⟩))
      go_ret2
      exact ⟨rfl, HB.out⟩
    have d7 : decide (0 ≤ b) = false := decide_eq_false h6
    have e2 : (b == -1) = true := by rw [beq_iff_eq]; omega
    clear h1 h5 h6 ia ib
    have hv := Lib.hid (show txV a b = .tuple #[.string (txG a b), .int .i64 0] from by unfold txV; rw [e1, e2, h3, h4]; rfl)
    rw [hv.out]
    clear hv
    go_enter Tryd.func5, Tryd.ntmps5
    go_wp2_with (first
      | (go_at_call 16; (with_reducible refine (HA.out _).mono ?_); rintro e w1 ⟨rfl, rfl⟩)
      | (go_at_call 16; (with_reducible refine (HB1.out _).mono ?_); rintro e w1 ⟨rfl, rfl⟩))
    have la := worS_le (n := a) (by have := inB_yes h3; omega)
    have lb := worS_le (n := b) (by have := inB_yes h4; omega)
    have s1 : ¬9223372036854775807 < 6 + (worS a).size := by omega
    have s2 : ¬9223372036854775807 < 6 + (worS a).size + 1 := by omega
    have s3 : ¬9223372036854775807 < 6 + (worS a).size + 1 + (worS b).size := by omega
    go_region_held2 (fun w' => w'.cell? ⟨w.heap.size, 0, none⟩ = some (.int .i64 a) ∧ w'.cell? ⟨w.heap.size, 1, none⟩ = some (.int .i64 b))
      (first | with_reducible exact rng_keep HK.out | with_reducible exact rng_keep HK.out.drew | go_keep)
      (first
        | (go_at_call 17; first | (with_reducible refine (HT1.out _).mono ?_) | (with_reducible refine (HT2.out _).mono ?_)
           rintro r w2 ⟨rfl, rfl⟩))
    all_goals
      go_wp2
      go_ret2
      exact ⟨rfl, HB.out.drew⟩
  have d5 : decide (b < a) = false := decide_eq_false h5
  have d6 : decide (a ≤ b) = true := decide_eq_true (by omega)
  have e2 : (b == -1) = false := by rw [beq_eq_false_iff_ne]; omega
  clear h1 h5 ia ib
  have hv := Lib.hid (show txV a b = .tuple #[.string (txG a b), .int .i64 0] from by unfold txV; rw [e1, e2, h3, h4, d6]; rfl)
  rw [hv.out]
  clear hv
  go_enter Tryd.func5, Tryd.ntmps5
  go_wp2_with (first
      | (go_at_call 16; (with_reducible refine (HA.out _).mono ?_); rintro e w1 ⟨rfl, rfl⟩)
      | (go_at_call 16; (with_reducible refine (HB1.out _).mono ?_); rintro e w1 ⟨rfl, rfl⟩))
  have la := worS_le (n := a) (by have := inB_yes h3; omega)
  have lb := worS_le (n := b) (by have := inB_yes h4; omega)
  have s1 : ¬9223372036854775807 < 6 + (worS a).size := by omega
  have s2 : ¬9223372036854775807 < 6 + (worS a).size + 1 := by omega
  have s3 : ¬9223372036854775807 < 6 + (worS a).size + 1 + (worS b).size := by omega
  go_region_held2 (fun w' => w'.cell? ⟨w.heap.size, 0, none⟩ = some (.int .i64 a) ∧ w'.cell? ⟨w.heap.size, 1, none⟩ = some (.int .i64 b))
    (first | with_reducible exact rng_keep HK.out | with_reducible exact rng_keep HK.out.drew | go_keep)
    (first
      | (go_at_call 17; first | (with_reducible refine (HT1.out _).mono ?_) | (with_reducible refine (HT2.out _).mono ?_)
         rintro r w2 ⟨rfl, rfl⟩))
  all_goals
    go_wp2
    go_ret2
    exact ⟨rfl, HB.out.drew⟩

/-- What Write answers of a good part. -/
def wriQ (a b c : Int) : ByteArray := ((⟨#[98, 121, 116, 101, 115, 32]⟩ ++ cond (a == -1) ⟨#[42]⟩ ((worS a ++ ⟨#[45]⟩) ++ worS b)) ++ ⟨#[47]⟩) ++ insS c ⟨#[42]⟩
def wrV (a b c : Int) : Value := cond (goodQ a b c) (.tuple #[.string (wriQ a b c), .int .i64 0]) (.tuple #[.string ⟨#[]⟩, .int .i64 2])

set_option maxRecDepth 100000 in
set_option maxHeartbeats 4000000 in
theorem write24_any (a b c : Int) (w : World) (ht : PowTab w) : Calls Tryd.prog 7 #[partV a b c] w fun e w' => e = .returned (wrV a b c) ∧ Below w.heap.size w w' := by
  have HG := Lib.hid (fun W => pgood_any a b c W)
  have HH := Lib.hid (fun W => hasBytes_any a b c W)
  have HB := Lib.hid ((Below.refl w.heap.size w).alloc (Nat.le_refl _) (partC a b c))
  have HK := Lib.hid (one_part w a b c)
  have HT := Lib.hid ht
  clear ht
  cases h1 : goodQ a b c
  · rw [h1] at HG
    have hv := Lib.hid (show wrV a b c = .tuple #[.string ⟨#[]⟩, .int .i64 2] from by unfold wrV; rw [h1]; rfl)
    rw [hv.out]
    clear hv
    go_enter Tryd.func7, Tryd.ntmps7
    go_wp2_with (first
      | (go_at_call 8; (with_reducible refine (HG.out _).mono ?_); rintro e w1 ⟨rfl, b1⟩; replace HB := Lib.hid (below_on HB.out b1); replace HK := Lib.hid (HK.out.below b1 HK.out.lt); obtain ⟨c0, c1, c2⟩ := part_keep HK.out; clear b1)
      | (go_at_call 20; (with_reducible refine (HH.out _).mono ?_); rintro e w1 ⟨rfl, b1⟩; replace HB := Lib.hid (below_on HB.out b1); replace HK := Lib.hid (HK.out.below b1 HK.out.lt); obtain ⟨c0, c1, c2⟩ := part_keep HK.out; clear b1))
    go_ret2
    exact ⟨rfl, HB.out⟩
  rw [h1] at HG
  obtain ⟨⟨a1, a2⟩, ⟨b1, b2⟩, k1, k2⟩ := goodQ_in h1
  have HTC := Lib.hid (fun W (hW : Below w.heap.size w W) => ptext24_any c ⟨#[42]⟩ W k1 (by omega) (HT.out.stays hW))
  cases h2 : (a == -1)
  · rw [h2] at HH
    have ha : a ≠ -1 := by simpa using h2
    obtain ⟨ab, _⟩ := goodQ_bytes h1 ha
    have HTA := Lib.hid (fun W (hW : Below w.heap.size w W) => dtext24_any a W (by omega) (by omega) (HT.out.stays hW))
    have HTB := Lib.hid (fun W (hW : Below w.heap.size w W) => dtext24_any b W (by omega) (by omega) (HT.out.stays hW))
    have hv := Lib.hid (show wrV a b c = .tuple #[.string (((⟨#[98, 121, 116, 101, 115, 32]⟩ ++ ((worS a ++ ⟨#[45]⟩) ++ worS b)) ++ ⟨#[47]⟩) ++ insS c ⟨#[42]⟩), .int .i64 0] from by unfold wrV wriQ; rw [h1, h2]; rfl)
    rw [hv.out]
    clear hv ha ab a1 a2 b1 b2 k1 k2 HT
    have la := worS_le (n := a) (by have := goodQ_in h1; omega)
    have lb := worS_le (n := b) (by have := goodQ_in h1; omega)
    have lc := insS_le (n := c) (by have := goodQ_in h1; omega)
    generalize worS a = xa at *
    generalize worS b = xb at *
    generalize insS c ⟨#[42]⟩ = xc at *
    have s1 : ¬9223372036854775807 < xa.size + 1 := by omega
    have s2 : ¬9223372036854775807 < xa.size + 1 + xb.size := by omega
    go_enter Tryd.func7, Tryd.ntmps7
    go_wp2_with (first
      | (go_at_call 8; (with_reducible refine (HG.out _).mono ?_); rintro e w1 ⟨rfl, b1⟩; replace HB := Lib.hid (below_on HB.out b1); replace HK := Lib.hid (HK.out.below b1 HK.out.lt); obtain ⟨c0, c1, c2⟩ := part_keep HK.out; clear b1)
      | (go_at_call 20; (with_reducible refine (HH.out _).mono ?_); rintro e w1 ⟨rfl, b1⟩; replace HB := Lib.hid (below_on HB.out b1); replace HK := Lib.hid (HK.out.below b1 HK.out.lt); obtain ⟨c0, c1, c2⟩ := part_keep HK.out; clear b1))
    go_region_held2 (fun w' => w'.cell? ⟨w.heap.size, 0, none⟩ = some (.int .i64 a) ∧ w'.cell? ⟨w.heap.size, 1, none⟩ = some (.int .i64 b) ∧ w'.cell? ⟨w.heap.size, 2, none⟩ = some (.int .i64 c))
      (first | with_reducible exact part_keep HK.out | with_reducible exact part_keep HK.out.drew | go_keep)
      (first
        | (go_at_call 21; first | (with_reducible refine (HTA.out _ (by first | exact HB.out | exact HB.out.drew)).mono ?_) | (with_reducible refine (HTB.out _ (by first | exact HB.out | exact HB.out.drew)).mono ?_)
           rintro r w2 ⟨rfl, b2⟩
           have HK := Lib.hid (show Blk w2 w.heap.size _ _ from by first | exact HK.out.below b2 HK.out.lt | exact HK.out.drew.below b2 HK.out.lt)
           have HB := Lib.hid (show Below w.heap.size w w2 from by first | exact below_on HB.out b2 | exact below_on HB.out.drew b2)
           clear b2))
    all_goals
      obtain ⟨c0, c1, c2⟩ := part_keep HK.out
      go_wp2_with (go_at_call 15; (refine (HTC.out _ HB.out).mono ?_); rintro r w3 ⟨rfl, b3⟩; have HB3 := Lib.hid (below_on HB.out b3); clear b3)
      go_ret2
      exact ⟨rfl, HB3.out⟩
  · rw [h2] at HH
    have hv := Lib.hid (show wrV a b c = .tuple #[.string (((⟨#[98, 121, 116, 101, 115, 32]⟩ ++ ⟨#[42]⟩) ++ ⟨#[47]⟩) ++ insS c ⟨#[42]⟩), .int .i64 0] from by unfold wrV wriQ; rw [h1, h2]; rfl)
    rw [hv.out]
    clear hv a1 a2 b1 b2 k1 k2 HT
    have lc := insS_le (n := c) (by have := goodQ_in h1; omega)
    generalize insS c ⟨#[42]⟩ = xc at *
    go_enter Tryd.func7, Tryd.ntmps7
    go_wp2_with (first
      | (go_at_call 8; (with_reducible refine (HG.out _).mono ?_); rintro e w1 ⟨rfl, b1⟩; replace HB := Lib.hid (below_on HB.out b1); replace HK := Lib.hid (HK.out.below b1 HK.out.lt); obtain ⟨c0, c1, c2⟩ := part_keep HK.out; clear b1)
      | (go_at_call 20; (with_reducible refine (HH.out _).mono ?_); rintro e w1 ⟨rfl, b1⟩; replace HB := Lib.hid (below_on HB.out b1); replace HK := Lib.hid (HK.out.below b1 HK.out.lt); obtain ⟨c0, c1, c2⟩ := part_keep HK.out; clear b1)
      | (go_at_call 15; (refine (HTC.out _ HB.out).mono ?_); rintro r w3 ⟨rfl, b3⟩; have HB3 := Lib.hid (below_on HB.out b3); clear b3))
    go_ret2
    exact ⟨rfl, HB3.out⟩

theorem wr_assoc (u x y z : ByteArray) : (u ++ x) ++ y ++ z = u ++ ((x ++ y) ++ z) := by simp [ByteArray.append_assoc]
set_option maxRecDepth 100000 in
set_option maxHeartbeats 4000000 in
theorem rwrite24_any (a b c : Int) (w : World) (h1 : goodQ a b c = true) : Calls Tryd.prog 12 #[partV a b c] w fun e w' => e = .returned (.string (wriQ a b c)) ∧ Below w.heap.size w w' := by
  have HB := Lib.hid ((Below.refl w.heap.size w).alloc (Nat.le_refl _) (partC a b c))
  have HK := Lib.hid (one_part w a b c)
  obtain ⟨⟨a1, a2⟩, ⟨b1, b2⟩, k1, k2⟩ := goodQ_in h1
  have HTA := Lib.hid (fun W => word24_any a W (by omega))
  have HTB := Lib.hid (fun W => word24_any b W (by omega))
  have HTC := Lib.hid (fun W => word24_any c W (by omega))
  by_cases ha : a = -1
  · have e1 : (a == -1) = true := by rw [beq_iff_eq]; exact ha
    have d1 : decide (0 ≤ a) = false := decide_eq_false (by omega)
    obtain ⟨hb1, hc⟩ := goodQ_none h1 ha
    have e2 : (c == -1) = false := by rw [beq_eq_false_iff_ne]; exact hc
    have d2 : decide (c < 0) = false := decide_eq_false (by omega)
    have hv := Lib.hid (show wriQ a b c = (⟨#[98, 121, 116, 101, 115, 32, 42]⟩ ++ ⟨#[47]⟩) ++ worS c from by
      unfold wriQ insS
      rw [e1, e2]
      rfl)
    clear ha hc a1 a2 b1 b2 k1 k2 hb1
    rw [hv.out]
    clear hv
    have la := worS_le (n := a) (by have := goodQ_in h1; omega)
    have lb := worS_le (n := b) (by have := goodQ_in h1; omega)
    have lc := worS_le (n := c) (by have := goodQ_in h1; omega)
    have s1 : ¬9223372036854775807 < 6 + (worS a).size := by omega
    have s2 : ¬9223372036854775807 < 6 + (worS a).size + 1 := by omega
    have s3 : ¬9223372036854775807 < 6 + (worS a).size + 1 + (worS b).size := by omega
    go_enter Tryd.func12, Tryd.ntmps12
    go_wp2_with (go_at_call 17; (with_reducible refine (HTC.out _).mono ?_); rintro r w2 ⟨rfl, rfl⟩)
    go_ret
    exact ⟨rfl, HB.out⟩
  · have e1 : (a == -1) = false := by rw [beq_eq_false_iff_ne]; exact ha
    have d1 : decide (0 ≤ a) = true := decide_eq_true (by omega)
    by_cases hc : c = -1
    · have e2 : (c == -1) = true := by rw [beq_iff_eq]; exact hc
      have d2 : decide (c < 0) = true := decide_eq_true (by omega)
      have hv := Lib.hid (show wriQ a b c = (((⟨#[98, 121, 116, 101, 115, 32]⟩ ++ worS a) ++ ⟨#[45]⟩) ++ worS b) ++ ⟨#[47, 42]⟩ from by
        unfold wriQ insS
        rw [e1, e2, cond_false, cond_true, ← wr_assoc, ByteArray.append_assoc (b := ⟨#[47]⟩)]
        rfl)
      clear ha hc a1 a2 b1 b2 k1 k2
      rw [hv.out]
      clear hv
      have la := worS_le (n := a) (by have := goodQ_in h1; omega)
      have lb := worS_le (n := b) (by have := goodQ_in h1; omega)
      have lc := worS_le (n := c) (by have := goodQ_in h1; omega)
      have s1 : ¬9223372036854775807 < 6 + (worS a).size := by omega
      have s2 : ¬9223372036854775807 < 6 + (worS a).size + 1 := by omega
      have s3 : ¬9223372036854775807 < 6 + (worS a).size + 1 + (worS b).size := by omega
      go_enter Tryd.func12, Tryd.ntmps12
      go_wp2_with (go_at_call 17; (with_reducible refine (HTC.out _).mono ?_); rintro r w2 ⟨rfl, rfl⟩)
      go_region_held2 (fun w' => w'.cell? ⟨w.heap.size, 0, none⟩ = some (.int .i64 a) ∧ w'.cell? ⟨w.heap.size, 1, none⟩ = some (.int .i64 b) ∧ w'.cell? ⟨w.heap.size, 2, none⟩ = some (.int .i64 c))
        (first | with_reducible exact part_keep HK.out | with_reducible exact part_keep HK.out.drew | go_keep)
        (first
          | (go_at_call 17; first | (with_reducible refine (HTA.out _).mono ?_) | (with_reducible refine (HTB.out _).mono ?_)
             rintro r w2 ⟨rfl, rfl⟩))
      all_goals
      go_wp2_with (go_at_call 17; (with_reducible refine (HTC.out _).mono ?_); rintro r w2 ⟨rfl, rfl⟩)
      go_ret
      exact ⟨rfl, HB.out.drew⟩
    · have e2 : (c == -1) = false := by rw [beq_eq_false_iff_ne]; exact hc
      have d2 : decide (c < 0) = false := decide_eq_false (by omega)
      have hv := Lib.hid (show wriQ a b c = ((((⟨#[98, 121, 116, 101, 115, 32]⟩ ++ worS a) ++ ⟨#[45]⟩) ++ worS b) ++ ⟨#[47]⟩) ++ worS c from by
        unfold wriQ insS
        rw [e1, e2, cond_false, cond_false, ← wr_assoc])
      clear ha hc a1 a2 b1 b2 k1 k2
      rw [hv.out]
      clear hv
      have la := worS_le (n := a) (by have := goodQ_in h1; omega)
      have lb := worS_le (n := b) (by have := goodQ_in h1; omega)
      have lc := worS_le (n := c) (by have := goodQ_in h1; omega)
      have s1 : ¬9223372036854775807 < 6 + (worS a).size := by omega
      have s2 : ¬9223372036854775807 < 6 + (worS a).size + 1 := by omega
      have s3 : ¬9223372036854775807 < 6 + (worS a).size + 1 + (worS b).size := by omega
      go_enter Tryd.func12, Tryd.ntmps12
      go_wp2_with (go_at_call 17; (with_reducible refine (HTC.out _).mono ?_); rintro r w2 ⟨rfl, rfl⟩)
      go_region_held2 (fun w' => w'.cell? ⟨w.heap.size, 0, none⟩ = some (.int .i64 a) ∧ w'.cell? ⟨w.heap.size, 1, none⟩ = some (.int .i64 b) ∧ w'.cell? ⟨w.heap.size, 2, none⟩ = some (.int .i64 c))
        (first | with_reducible exact part_keep HK.out | with_reducible exact part_keep HK.out.drew | go_keep)
        (first
          | (go_at_call 17; first | (with_reducible refine (HTA.out _).mono ?_) | (with_reducible refine (HTB.out _).mono ?_)
             rintro r w2 ⟨rfl, rfl⟩))
      all_goals
      go_wp2_with (go_at_call 17; (with_reducible refine (HTC.out _).mono ?_); rintro r w2 ⟨rfl, rfl⟩)
      go_ret
      exact ⟨rfl, HB.out.drew⟩

end Go.Proofs.YtaolclpjlkdkjaaDoor
