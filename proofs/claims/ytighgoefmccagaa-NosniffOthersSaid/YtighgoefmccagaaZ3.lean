/-
  What Has answers: whether a byte is among some. Condition: the text is as long as a length can be.
  What package class's functions of one byte answer, and those of the document's own answer. No condition.
  What package trap's Throw, Check and Catch do to the world, for whatever place and code, and over whatever function value. No condition.
-/
import Derived.Test.YtighgoefmccagaaRows
import Derived.Test.YtighgoefmccagaaZ1
import Derived.WalkKit
import Derived.WalkSpells
import Derived.WalkLawsBesides
import Derived.LoopTactic
import Derived.Lib.Hide
import Derived.Laws.Externs
import Derived.Test.YtighgoefmccagaaZ2
import Derived.Defers
import Derived.Recover
namespace Go.Proofs.Ytighgoefmccagaa
open Go.RowKit

set_option maxHeartbeats 1000000 in
theorem has_any (t : ByteArray) (b : UInt8) (w : World) (hs : t.size ≤ 9223372036854775807) :
    Calls Try.prog 66 #[.string t, .int .u8 (b.toNat : Int)] w fun e w' => e = .returned (.bool (hasB t b)) ∧ w = w' := by
  go_enter Try.func66, Try.ntmps66
  go_wp2
  go_loop [5] (fun i => ∃ k : Nat, k ≤ t.size ∧ i = .int .i64 k ∧ ∀ j (hj : j < t.size), j < k → t[j] ≠ b) (fun i => t.size - (intOf i).toNat)
  case atStart => exact ⟨0, by omega, rfl, fun j _ h => absurd h (by omega)⟩
  case round =>
    obtain ⟨k, hk, rfl, hno⟩ := hrel
    have HN := Lib.hid hno
    clear hno
    by_cases hlt : k < t.size
    · by_cases he : t[k] = b
      · have HA : Hid (hasB t b = true) := hasB_at hlt he
        have d1 : ((t[k].toNat : Int) == (b.toNat : Int)) = true := by rw [he]; simp
        clear he
        go_wp2
        go_ret
        exact ⟨by rw [HA.out]; rfl, rfl⟩
      · have d1 : ((t[k].toNat : Int) == (b.toNat : Int)) = false := by
          simp only [beq_eq_false_iff_ne, ne_eq]
          intro h
          exact he (UInt8.toNat_inj.1 (by omega))
        have HE := Lib.hid he
        clear he
        go_wp2
        go_round
        case rel => exact ⟨k + 1, by omega, by go_num, fun j hj h => if h1 : j = k then by subst h1; exact HE.out else HN.out j hj (by omega)⟩
        case measure => simp [intOf]; omega
    · obtain rfl : k = t.size := by omega
      have HA : Hid (hasB t b = false) := hasB_no fun i hi => HN.out i hi hi
      go_wp2
      go_ret
      exact ⟨by rw [HA.out]; rfl, rfl⟩

end Go.Proofs.Ytighgoefmccagaa
namespace Go.Proofs.Ytighgoefmccagaa
open Go.RowKit

theorem dI (a : Nat) (b : UInt8) : decide (a ≤ b.toNat) = decide ((a : Int) ≤ (b.toNat : Int)) := by simp
theorem dJ (a : Nat) (b : UInt8) : decide (b.toNat ≤ a) = decide ((b.toNat : Int) ≤ (a : Int)) := by simp
theorem dE (a : Nat) (b : UInt8) : (b.toNat == a) = ((b.toNat : Int) == (a : Int)) := by
  rw [Bool.eq_iff_iff, beq_iff_eq, beq_iff_eq]
  omega

set_option maxHeartbeats 400000 in
theorem lower1_any (b : UInt8) (w : World) :
    Calls Try.prog 34 #[.int .u8 (b.toNat : Int)] w fun e w' => e = .returned (.int .u8 ((lowB b).toNat : Int)) ∧ w = w' := by
  have hb := b.toNat_lt
  by_cases h : 65 ≤ b.toNat ∧ b.toNat ≤ 90
  · have e : (lowB b).toNat = b.toNat + 32 := by
      unfold lowB
      rw [if_pos (by simpa using h), UInt8.toNat_ofNat']
      omega
    rw [e]
    have h1 : (65 : Int) ≤ (b.toNat : Int) := by omega
    have h2 : (b.toNat : Int) ≤ 90 := by omega
    clear e
    go_enter Try.func34, Try.ntmps34
    go_wp2
    go_ret
    refine ⟨?_, rfl⟩
    go_num
  · have e : lowB b = b := by
      unfold lowB
      rw [if_neg (by simpa using h)]
    rw [e]
    clear e
    by_cases h1 : (65 : Int) ≤ (b.toNat : Int)
    · have h2 : decide ((b.toNat : Int) ≤ 90) = false := by simp; omega
      go_enter Try.func34, Try.ntmps34
      go_wp2
      go_ret
      exact ⟨rfl, rfl⟩
    · have h2 : decide ((65 : Int) ≤ (b.toNat : Int)) = false := by simp; omega
      go_enter Try.func34, Try.ntmps34
      go_wp2
      go_ret
      exact ⟨rfl, rfl⟩

set_option maxHeartbeats 400000 in
theorem digit_any (b : UInt8) (w : World) :
    Calls Try.prog 104 #[.int .u8 (b.toNat : Int)] w fun e w' => e = .returned (.bool (digB b)) ∧ w = w' := by
  have e : digB b = (decide ((48 : Int) ≤ (b.toNat : Int)) && decide ((b.toNat : Int) ≤ 57)) := by unfold digB; rw [dI, dJ]; rfl
  rw [e]
  clear e
  cases h1 : decide ((48 : Int) ≤ (b.toNat : Int)) <;>
  · go_enter Try.func104, Try.ntmps104
    go_wp2
    go_ret
    exact ⟨rfl, rfl⟩

set_option maxHeartbeats 400000 in
theorem tab_any (b : UInt8) (w : World) :
    Calls Try.prog 39 #[.int .u8 (b.toNat : Int)] w fun e w' => e = .returned (.bool (tabB b)) ∧ w = w' := by
  have e : tabB b = ((b.toNat : Int) == 9 || (b.toNat : Int) == 32) := by unfold tabB; rw [dE, dE]; rfl
  rw [e]
  clear e
  cases h0 : ((b.toNat : Int) == 9) <;>
  · go_enter Try.func39, Try.ntmps39
    go_wp2
    go_ret
    exact ⟨rfl, rfl⟩

set_option maxHeartbeats 400000 in
theorem quoted_any (b : UInt8) (w : World) :
    Calls Try.prog 100 #[.int .u8 (b.toNat : Int)] w fun e w' => e = .returned (.bool (quoB b)) ∧ w = w' := by
  have e : quoB b = ((b.toNat : Int) == 9 || decide ((32 : Int) ≤ (b.toNat : Int)) && (b.toNat : Int) != 127) := by unfold quoB; unfold bne; rw [dE, dE, dI]; rfl
  rw [e]
  clear e
  cases h0 : ((b.toNat : Int) == 9) <;> cases h1 : decide ((32 : Int) ≤ (b.toNat : Int)) <;>
  · go_enter Try.func100, Try.ntmps100
    go_wp2
    go_ret
    exact ⟨rfl, rfl⟩

set_option maxHeartbeats 400000 in
theorem letter_any (b : UInt8) (w : World) :
    Calls Try.prog 103 #[.int .u8 (b.toNat : Int)] w fun e w' => e = .returned (.bool (letB b)) ∧ w = w' := by
  have e : letB b = (decide ((97 : Int) ≤ ((lowB b).toNat : Int)) && decide (((lowB b).toNat : Int) ≤ 122)) := by unfold letB lowerB; rw [dI, dJ]; rfl
  rw [e]
  clear e
  cases h0 : decide ((97 : Int) ≤ ((lowB b).toNat : Int)) <;>
  · go_enter Try.func103, Try.ntmps103
    go_wp2_with (go_at_call 34; refine (lower1_any b _).mono ?_; rintro e w' ⟨rfl, rfl⟩)
    go_ret
    exact ⟨rfl, rfl⟩

set_option maxHeartbeats 400000 in
theorem white_any (b : UInt8) (w : World) :
    Calls Try.prog 92 #[.int .u8 (b.toNat : Int)] w fun e w' => e = .returned (.bool (whiB b)) ∧ w = w' := by
  have e : whiB b = (tabB b || (b.toNat : Int) == 10 || (b.toNat : Int) == 13) := by unfold whiB; rw [dE, dE]; rfl
  rw [e]
  clear e
  cases h0 : tabB b <;> cases h1 : ((b.toNat : Int) == 10) <;>
  · go_enter Try.func92, Try.ntmps92
    go_wp2_with (go_at_call 39; refine (tab_any b _).mono ?_; rintro e w' ⟨rfl, rfl⟩; simp only [*])
    go_ret
    exact ⟨rfl, rfl⟩

set_option maxHeartbeats 400000 in
theorem refTab_any (b : UInt8) (w : World) :
    Calls Try.prog 48 #[.int .u8 (b.toNat : Int)] w fun e w' => e = .returned (.bool (tabB b)) ∧ w = w' := by
  rw [← tabB_has]
  go_enter Try.func48, Try.ntmps48
  go_wp2_with (go_at_call 66; refine (has_any _ b _ (of_decide_eq_true rfl)).mono ?_; rintro e w' ⟨rfl, rfl⟩)
  go_ret
  exact ⟨rfl, rfl⟩

theorem indexByte2_any (s : ByteArray) (b : UInt8) (w : World) : (callFunc 110 #[.string s, .int .u8 (b.toNat : Int)]).run Try.prog w = .ok (.value (.int .i64 (firstIdx s b))) w := by
  rw [run_callFunc_extern (fn := Try.f110) (e := Extern.BytealgIndexByte.indexByte) Try.func110 rfl rfl rfl rfl]
  rw [run_indexByte_string]
  simp [Result.andThen]

set_option maxHeartbeats 400000 in
theorem indexByte1_any (s : ByteArray) (b : UInt8) (w : World) :
    Calls Try.prog 109 #[.string s, .int .u8 (b.toNat : Int)] w fun e w' => e = .returned (.int .i64 (firstIdx s b)) ∧ w = w' := by
  have hx := indexByte2_any s b
  go_enter Try.func109, Try.ntmps109
  go_wp2
  go_ret
  exact ⟨rfl, rfl⟩

set_option maxHeartbeats 400000 in
theorem indexByte_any (s : ByteArray) (b : UInt8) (w : World) :
    Calls Try.prog 105 #[.string s, .int .u8 (b.toNat : Int)] w fun e w' => e = .returned (.int .i64 (firstIdx s b)) ∧ w = w' := by
  go_enter Try.func105, Try.ntmps105
  go_wp2_with (go_at_call 109; refine (indexByte1_any s b _).mono ?_; rintro e w' ⟨rfl, rfl⟩)
  go_ret
  exact ⟨rfl, rfl⟩

set_option maxHeartbeats 400000 in
theorem token_any (b : UInt8) (w : World) :
    Calls Try.prog 94 #[.int .u8 (b.toNat : Int)] w fun e w' => e = .returned (.bool (tokB b)) ∧ w = w' := by
  have e : tokB b = (letB b || digB b || decide ((0 : Int) ≤ firstIdx marks b)) := by rw [marks_first]; rfl
  have hx : ∀ w, Calls Try.prog 105 #[.string marks, .int .u8 (b.toNat : Int)] w fun e w' => e = .returned (.int .i64 (firstIdx marks b)) ∧ w = w' := indexByte_any marks b
  rw [e]
  clear e
  generalize firstIdx marks b = i at *
  cases h0 : letB b <;> cases h1 : digB b <;>
  · go_enter Try.func94, Try.ntmps94
    go_wp2_with (first
      | (go_at_call 103; refine (letter_any b _).mono ?_; rintro e w' ⟨rfl, rfl⟩; simp only [*])
      | (go_at_call 104; refine (digit_any b _).mono ?_; rintro e w' ⟨rfl, rfl⟩; simp only [*])
      | (go_at_call 105; refine (hx _).mono ?_; rintro e w' ⟨rfl, rfl⟩))
    go_ret
    exact ⟨rfl, rfl⟩

end Go.Proofs.Ytighgoefmccagaa
namespace Go.Proofs.Ytighgoefmccagaa
open Go.RowKit


abbrev flt (a c : Int) : Value := .agg #[.int .i64 a, .int .i64 c]
set_option maxHeartbeats 400000 in
theorem check_ok (a c : Int) (w : World) :
    Calls Try.prog 61 #[.bool true, .int .i64 a, .int .i64 c] w fun e w' => e = .returned (.tuple #[]) ∧ w = w' := by
  go_enter Try.func61, Try.ntmps61
  go_wp2
  go_end0
  exact ⟨rfl, rfl⟩

abbrev flc (a c : Int) : Obj := .cells #[.int .i64 a, .int .i64 c] 95
theorem closure_idle (p q : Addr) (w : World) (hc : w.cell? p = some (.bool false)) :
    CallsD Try.prog 75 #[.pointer (some p), .pointer (some q)] .returning w fun e u' w' =>
      e = .returned (.tuple #[]) ∧ u' = .returning ∧ w' = w := by
  refine callsD_of_wpS Try.func75 rfl fun c₀ cs hu => ?_
  refine wpS_of_wp ?_
  go_wp2
  cases c₀
  simp_all [bodyPostS, results, Try.results75]

theorem eq_func_nil (fn : Fn) (fi ca : Array Value) (w : World) : (binOp .eql 1 (.func fn fi ca) .nilFunc).run Try.prog w = .ok (.bool false) w := by kernel_rfl
theorem make_func (fn : Fn) (first cap : Array Value) (w : World) : (Instr.makeFunc fn first cap).run Try.prog w = .ok (.func fn first cap) w := rfl

/-- What Catch's own two variables are, while f runs. -/
abbrev cw (w : World) : World := (w.alloc (flc 0 0)).alloc (.cells #[.bool true] 4)
structure Keeps (n : Nat) (w1 : World) : Prop where
  c0 : w1.cell? ⟨n, 0, none⟩ = some (.int .i64 0)
  c1 : w1.cell? ⟨n, 1, none⟩ = some (.int .i64 0)
  c2 : w1.cell? ⟨n + 1, 0, none⟩ = some (.bool true)
  z0 : w1.frozen? ⟨n, 0, none⟩ = false
  z1 : w1.frozen? ⟨n, 1, none⟩ = false
  z2 : w1.frozen? ⟨n + 1, 0, none⟩ = false
  size : n + 1 < w1.heap.size

set_option maxHeartbeats 400000 in
theorem catch_returns (g : FuncId) (fi ca : Array Value) (w : World) (Q : World → Prop) (hQ : ∀ w1, Q w1 → Keeps w.heap.size w1)
    (hen : ∀ w : World, (callFunc g (fi ++ ca)).run Try.prog w = .ok (.enter g (fi ++ ca)) w)
    (hb : Calls Try.prog g (fi ++ ca) (cw w) fun e w1 => (∃ v, e = .returned v) ∧ Q w1) :
    Calls Try.prog 54 #[.func (.func g) fi ca] w fun e w' => e = .returned (.tuple #[flt 0 0, .bool false]) ∧
      ∃ w1, Q w1 ∧ w' = ((w1.setCell ⟨w.heap.size, 0, none⟩ (.int .i64 0)).setCell ⟨w.heap.size, 1, none⟩ (.int .i64 0)).setCell ⟨w.heap.size + 1, 0, none⟩ (.bool false) := by
  have hmf := make_func
  have heq := eq_func_nil
  go_enter_defers Try.func54, Try.ntmps54
  go_wp2_with fail
  refine Calls.mono hb ?_
  rintro e w1 ⟨⟨v, rfl⟩, hq⟩
  obtain ⟨c0, c1, c2, z0, z1, z2, hsz⟩ := hQ w1 hq
  clear hmf heq hen hQ hb
  go_wp2
  have ne1 : (⟨w.heap.size + 1, 0, none⟩ : Addr) ≠ ⟨w.heap.size, 0, none⟩ := by simp
  have ne2 : (⟨w.heap.size + 1, 0, none⟩ : Addr) ≠ ⟨w.heap.size, 1, none⟩ := by simp
  have ne3 : (⟨w.heap.size, 0, none⟩ : Addr) ≠ ⟨w.heap.size, 1, none⟩ := by simp
  have e0 : (((w1.setCell ⟨w.heap.size, 0, none⟩ (.int .i64 0)).setCell ⟨w.heap.size, 1, none⟩ (.int .i64 0)).setCell ⟨w.heap.size + 1, 0, none⟩ (.bool false)).cell? ⟨w.heap.size, 0, none⟩ = some (.int .i64 0) := by
    rw [World.cell?_setCell_other _ _ _ _ ne1, World.cell?_setCell_other _ _ _ _ ne3.symm, World.cell?_setCell_same (h := c0)]
  have e1 : (((w1.setCell ⟨w.heap.size, 0, none⟩ (.int .i64 0)).setCell ⟨w.heap.size, 1, none⟩ (.int .i64 0)).setCell ⟨w.heap.size + 1, 0, none⟩ (.bool false)).cell? ⟨w.heap.size, 1, none⟩ = some (.int .i64 0) := by
    rw [World.cell?_setCell_other _ _ _ _ ne2, World.cell?_setCell_same _ _ _ (h := (World.cell?_setCell_other _ _ _ _ ne3).trans c1)]
  have e2 : (((w1.setCell ⟨w.heap.size, 0, none⟩ (.int .i64 0)).setCell ⟨w.heap.size, 1, none⟩ (.int .i64 0)).setCell ⟨w.heap.size + 1, 0, none⟩ (.bool false)).cell? ⟨w.heap.size + 1, 0, none⟩ = some (.bool false) :=
    World.cell?_setCell_same _ _ _ (h := (World.cell?_setCell_other _ _ _ _ ne2.symm).trans ((World.cell?_setCell_other _ _ _ _ ne1.symm).trans c2))
  generalize hwf : ((w1.setCell ⟨w.heap.size, 0, none⟩ (.int .i64 0)).setCell ⟨w.heap.size, 1, none⟩ (.int .i64 0)).setCell ⟨w.heap.size + 1, 0, none⟩ (.bool false) = wf at *
  refine leaves_cons (f := 75) (args := #[.pointer (some ⟨w.heap.size + 1, 0, none⟩), .pointer (some ⟨w.heap.size, 0, none⟩)]) (by simp) (by simp [go_sem]) ?_
  refine (closure_idle ⟨w.heap.size + 1, 0, none⟩ ⟨w.heap.size, 0, none⟩ _ ?_).mono ?_
  · exact e2
  rintro e u' w'' ⟨rfl, rfl, rfl⟩
  simp [Leaves, settle, results, Try.results54, go_sem, e0, e1, e2]
  exact ⟨w1, hq, hwf.symm⟩

/-- What runs within Catch leaves Catch's two variables alone, where it turns rows of r alone. -/
theorem keeps_mv (w w1 : World) (r : List Nat) (hr : ∀ x ∈ r, x < w.heap.size) (h : Mv (w.heap.size + 2) r (cw w) w1) : Keeps w.heap.size w1 := by
  have hs := h.size
  simp at hs
  have n0 : w.heap.size ∉ r := fun hm => by have := hr _ hm; omega
  have n1 : w.heap.size + 1 ∉ r := fun hm => by have := hr _ hm; omega
  refine ⟨?_, ?_, ?_, ?_, ?_, ?_, by omega⟩
  · rw [h.cell (by simp) n0]; simp [go_sem]
  · rw [h.cell (by simp) n0]; simp [go_sem]
  · rw [h.cell (by simp) n1]; simp [go_sem]
  · rw [h.frozen (by simp) n0]; simp [go_sem]
  · rw [h.frozen (by simp) n0]; simp [go_sem]
  · rw [h.frozen (by simp) n1]; simp [go_sem]

theorem cw_below (w : World) : Below w.heap.size w (cw w) := ((Below.refl _ _).alloc (Nat.le_refl _) _).alloc (by simp) _

/-- Catch over a function value that returns, turns rows of r alone, and leaves R, which is known of older memory alone. -/
theorem catch_mv_returns (g : FuncId) (fi ca : Array Value) (w : World) (r : List Nat) (R : World → Prop) (hr : ∀ x ∈ r, x < w.heap.size)
    (hR : ∀ W1 W2, Below w.heap.size W1 W2 → R W1 → R W2) (hen : ∀ w : World, (callFunc g (fi ++ ca)).run Try.prog w = .ok (.enter g (fi ++ ca)) w)
    (hf : ∀ W, Below w.heap.size w W → Calls Try.prog g (fi ++ ca) W fun e w1 => (∃ v, e = .returned v) ∧ Mv W.heap.size r W w1 ∧ R w1) :
    Calls Try.prog 54 #[.func (.func g) fi ca] w fun e w' => e = .returned (.tuple #[flt 0 0, .bool false]) ∧ Mv w.heap.size r w w' ∧ R w' := by
  refine (catch_returns g fi ca w (fun w1 => Mv (w.heap.size + 2) r (cw w) w1 ∧ R w1) (fun w1 h => keeps_mv w w1 r hr h.1) hen ((hf _ (cw_below w)).mono ?_)).mono ?_
  · rintro e w1 ⟨h1, h2, h3⟩
    exact ⟨h1, h2.mono (by simp) fun x hx => .inl hx, h3⟩
  · rintro e w' ⟨rfl, w1, ⟨h, hq⟩, rfl⟩
    have hb : Below w.heap.size w1 (((w1.setCell ⟨w.heap.size, 0, none⟩ (.int .i64 0)).setCell ⟨w.heap.size, 1, none⟩ (.int .i64 0)).setCell ⟨w.heap.size + 1, 0, none⟩ (.bool false)) :=
      (((Below.refl _ _).setCell (by simp) _).setCell (by simp) _).setCell (by simp) _
    exact ⟨rfl, ((Mv.of_below (cw_below w) r).trans (h.mono (by omega) fun x hx => .inl hx)).trans (Mv.of_below hb r), hR _ _ hb hq⟩

end Go.Proofs.Ytighgoefmccagaa
