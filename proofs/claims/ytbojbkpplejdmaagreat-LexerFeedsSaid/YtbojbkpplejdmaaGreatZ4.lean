/-
  What package class's functions of one byte answer, and those of the document's own answer. No condition.
  'Mv B r w w'': below block B nothing has turned but the blocks of r. Plain facts on worlds; no condition.
  What Count and All answer where they are asked of Token, of Digit and of no function. Condition: the text is as long as a length can be.
-/
import Derived.Test.YtbojbkpplejdmaaGreatRows
import Derived.Test.YtbojbkpplejdmaaGreatZ1
import Derived.Test.YtbojbkpplejdmaaGreatZ3
import Derived.WalkKit
import Derived.WalkSpells
import Derived.WalkLawsBesides
import Derived.Laws.Externs
import Derived.Below
import Derived.Deep.Draws
import Derived.LoopTactic
import Derived.BigQuiet
import Derived.OneCell
import Derived.Defers
import Derived.Recover
namespace Go.Proofs.YtbojbkpplejdmaaGreat
open Go.RowKit

theorem dI (a : Nat) (b : UInt8) : decide (a ≤ b.toNat) = decide ((a : Int) ≤ (b.toNat : Int)) := by simp
theorem dJ (a : Nat) (b : UInt8) : decide (b.toNat ≤ a) = decide ((b.toNat : Int) ≤ (a : Int)) := by simp
theorem dE (a : Nat) (b : UInt8) : (b.toNat == a) = ((b.toNat : Int) == (a : Int)) := by
  rw [Bool.eq_iff_iff, beq_iff_eq, beq_iff_eq]
  omega

set_option maxHeartbeats 400000 in
theorem lower1_any (b : UInt8) (w : World) :
    Calls Tryz.prog 96 #[.int .u8 (b.toNat : Int)] w fun e w' => e = .returned (.int .u8 ((lowB b).toNat : Int)) ∧ w = w' := by
  have hb := b.toNat_lt
  by_cases h : 65 ≤ b.toNat ∧ b.toNat ≤ 90
  · have e : (lowB b).toNat = b.toNat + 32 := by
      unfold lowB
      rw [if_pos (by simpa using h), UInt8.toNat_ofNat']
      omega
    rw [e]
    have h1 : (65 : Int) ≤ (b.toNat : Int) := by omega
    have h2 : (b.toNat : Int) ≤ 90 := by omega
    clear e
    go_enter Tryz.func96, Tryz.ntmps96
    go_wp2
    go_ret
    refine ⟨?_, rfl⟩
    go_num
  · have e : lowB b = b := by
      unfold lowB
      rw [if_neg (by simpa using h)]
    rw [e]
    clear e
    by_cases h1 : (65 : Int) ≤ (b.toNat : Int)
    · have h2 : decide ((b.toNat : Int) ≤ 90) = false := by simp; omega
      go_enter Tryz.func96, Tryz.ntmps96
      go_wp2
      go_ret
      exact ⟨rfl, rfl⟩
    · have h2 : decide ((65 : Int) ≤ (b.toNat : Int)) = false := by simp; omega
      go_enter Tryz.func96, Tryz.ntmps96
      go_wp2
      go_ret
      exact ⟨rfl, rfl⟩

set_option maxHeartbeats 400000 in
theorem digit_any (b : UInt8) (w : World) :
    Calls Tryz.prog 86 #[.int .u8 (b.toNat : Int)] w fun e w' => e = .returned (.bool (digB b)) ∧ w = w' := by
  have e : digB b = (decide ((48 : Int) ≤ (b.toNat : Int)) && decide ((b.toNat : Int) ≤ 57)) := by unfold digB; rw [dI, dJ]; rfl
  rw [e]
  clear e
  cases h1 : decide ((48 : Int) ≤ (b.toNat : Int)) <;>
  · go_enter Tryz.func86, Tryz.ntmps86
    go_wp2
    go_ret
    exact ⟨rfl, rfl⟩

set_option maxHeartbeats 400000 in
theorem refDigit_any (b : UInt8) (w : World) :
    Calls Tryz.prog 46 #[.int .u8 (b.toNat : Int)] w fun e w' => e = .returned (.bool (digB b)) ∧ w = w' := by
  have e : digB b = (decide ((48 : Int) ≤ (b.toNat : Int)) && decide ((b.toNat : Int) ≤ 57)) := by unfold digB; rw [dI, dJ]; rfl
  rw [e]
  clear e
  cases h0 : decide ((48 : Int) ≤ (b.toNat : Int)) <;>
  · go_enter Tryz.func46, Tryz.ntmps46
    go_wp2
    go_ret
    exact ⟨rfl, rfl⟩

set_option maxHeartbeats 400000 in
theorem tab_any (b : UInt8) (w : World) :
    Calls Tryz.prog 98 #[.int .u8 (b.toNat : Int)] w fun e w' => e = .returned (.bool (tabB b)) ∧ w = w' := by
  have e : tabB b = ((b.toNat : Int) == 9 || (b.toNat : Int) == 32) := by unfold tabB; rw [dE, dE]; rfl
  rw [e]
  clear e
  cases h0 : ((b.toNat : Int) == 9) <;>
  · go_enter Tryz.func98, Tryz.ntmps98
    go_wp2
    go_ret
    exact ⟨rfl, rfl⟩

set_option maxHeartbeats 400000 in
theorem letter_any (b : UInt8) (w : World) :
    Calls Tryz.prog 100 #[.int .u8 (b.toNat : Int)] w fun e w' => e = .returned (.bool (letB b)) ∧ w = w' := by
  have e : letB b = (decide ((97 : Int) ≤ ((lowB b).toNat : Int)) && decide (((lowB b).toNat : Int) ≤ 122)) := by unfold letB lowerB; rw [dI, dJ]; rfl
  rw [e]
  clear e
  cases h0 : decide ((97 : Int) ≤ ((lowB b).toNat : Int)) <;>
  · go_enter Tryz.func100, Tryz.ntmps100
    go_wp2_with (go_at_call 96; refine (lower1_any b _).mono ?_; rintro e w' ⟨rfl, rfl⟩)
    go_ret
    exact ⟨rfl, rfl⟩

set_option maxHeartbeats 400000 in
theorem refLetter_any (b : UInt8) (w : World) :
    Calls Tryz.prog 54 #[.int .u8 (b.toNat : Int)] w fun e w' => e = .returned (.bool (letB b)) ∧ w = w' := by
  have e : letB b = (decide ((97 : Int) ≤ (b.toNat : Int)) && decide ((b.toNat : Int) ≤ 122) || decide ((65 : Int) ≤ (b.toNat : Int)) && decide ((b.toNat : Int) ≤ 90)) := by rw [letB_eq, dI, dJ, dI, dJ]; rfl
  rw [e]
  clear e
  cases h0 : decide ((97 : Int) ≤ (b.toNat : Int)) <;> cases h1 : decide ((b.toNat : Int) ≤ 122) <;> cases h2 : decide ((65 : Int) ≤ (b.toNat : Int)) <;>
  · go_enter Tryz.func54, Tryz.ntmps54
    go_wp2
    go_ret
    exact ⟨rfl, rfl⟩

set_option maxHeartbeats 400000 in
theorem white_any (b : UInt8) (w : World) :
    Calls Tryz.prog 80 #[.int .u8 (b.toNat : Int)] w fun e w' => e = .returned (.bool (whiB b)) ∧ w = w' := by
  have e : whiB b = (tabB b || (b.toNat : Int) == 10 || (b.toNat : Int) == 13) := by unfold whiB; rw [dE, dE]; rfl
  rw [e]
  clear e
  cases h0 : tabB b <;> cases h1 : ((b.toNat : Int) == 10) <;>
  · go_enter Tryz.func80, Tryz.ntmps80
    go_wp2_with (go_at_call 98; refine (tab_any b _).mono ?_; rintro e w' ⟨rfl, rfl⟩; simp only [*])
    go_ret
    exact ⟨rfl, rfl⟩

theorem indexByte2_any (s : ByteArray) (b : UInt8) (w : World) : (callFunc 106 #[.string s, .int .u8 (b.toNat : Int)]).run Tryz.prog w = .ok (.value (.int .i64 (firstIdx s b))) w := by
  rw [run_callFunc_extern (fn := Tryz.f106) (e := Extern.BytealgIndexByte.indexByte) Tryz.func106 rfl rfl rfl rfl]
  rw [run_indexByte_string]
  simp [Result.andThen]

set_option maxHeartbeats 400000 in
theorem indexByte1_any (s : ByteArray) (b : UInt8) (w : World) :
    Calls Tryz.prog 104 #[.string s, .int .u8 (b.toNat : Int)] w fun e w' => e = .returned (.int .i64 (firstIdx s b)) ∧ w = w' := by
  have hx := indexByte2_any s b
  go_enter Tryz.func104, Tryz.ntmps104
  go_wp2
  go_ret
  exact ⟨rfl, rfl⟩

set_option maxHeartbeats 400000 in
theorem indexByte_any (s : ByteArray) (b : UInt8) (w : World) :
    Calls Tryz.prog 95 #[.string s, .int .u8 (b.toNat : Int)] w fun e w' => e = .returned (.int .i64 (firstIdx s b)) ∧ w = w' := by
  go_enter Tryz.func95, Tryz.ntmps95
  go_wp2_with (go_at_call 104; refine (indexByte1_any s b _).mono ?_; rintro e w' ⟨rfl, rfl⟩)
  go_ret
  exact ⟨rfl, rfl⟩

set_option maxHeartbeats 400000 in
theorem hex_digit (b : UInt8) (w : World) (h : digB b = true) :
    Calls Tryz.prog 78 #[.int .u8 (b.toNat : Int)] w fun e w' => e = .returned (.tuple #[.int .i64 (hexB b), .bool true]) ∧ w = w' := by
  have hb : 48 ≤ b.toNat ∧ b.toNat ≤ 57 := by unfold digB at h; simpa using h
  have e : hexB b = (b.toNat : Int) - 48 := by unfold hexB; rw [if_pos h]
  have h1 : (0 : Int) ≤ (b.toNat : Int) - 48 := by omega
  have h2 : (b.toNat : Int) - 48 ≤ 255 := by omega
  rw [e]
  clear e hb
  go_enter Tryz.func78, Tryz.ntmps78
  go_wp2_with (first
    | (go_at_call 96; refine (lower1_any b _).mono ?_; rintro e w' ⟨rfl, rfl⟩)
    | (go_at_call 86; refine (digit_any b _).mono ?_; rintro e w' ⟨rfl, rfl⟩; simp only [*]))
  go_ret2
  exact ⟨rfl, rfl⟩

set_option maxHeartbeats 400000 in
theorem hex_letter (b : UInt8) (w : World) (h : digB b = false) (h1 : 97 ≤ (lowB b).toNat) (h2 : (lowB b).toNat ≤ 102) :
    Calls Tryz.prog 78 #[.int .u8 (b.toNat : Int)] w fun e w' => e = .returned (.tuple #[.int .i64 (hexB b), .bool true]) ∧ w = w' := by
  have e : hexB b = ((lowB b).toNat : Int) - 97 + 10 := by unfold hexB; rw [if_neg (by simp [h]), if_pos (by simp [h1, h2])]; omega
  have g1 : (97 : Int) ≤ ((lowB b).toNat : Int) := by omega
  have g2 : ((lowB b).toNat : Int) ≤ 102 := by omega
  have g3 : (0 : Int) ≤ ((lowB b).toNat : Int) - 97 := by omega
  have g4 : ((lowB b).toNat : Int) - 97 ≤ 255 := by omega
  rw [e]
  clear e h1 h2
  go_enter Tryz.func78, Tryz.ntmps78
  go_wp2_with (first
    | (go_at_call 96; refine (lower1_any b _).mono ?_; rintro e w' ⟨rfl, rfl⟩)
    | (go_at_call 86; refine (digit_any b _).mono ?_; rintro e w' ⟨rfl, rfl⟩; simp only [*]))
  go_ret2
  exact ⟨rfl, rfl⟩

set_option maxHeartbeats 400000 in
theorem hex_none (b : UInt8) (w : World) (h : digB b = false) (h1 : ¬ (97 ≤ (lowB b).toNat ∧ (lowB b).toNat ≤ 102)) :
    Calls Tryz.prog 78 #[.int .u8 (b.toNat : Int)] w fun e w' => e = .returned (.tuple #[.int .i64 0, .bool false]) ∧ w = w' := by
  have g : decide ((97 : Int) ≤ ((lowB b).toNat : Int)) = false ∨ decide ((97 : Int) ≤ ((lowB b).toNat : Int)) = true ∧ decide (((lowB b).toNat : Int) ≤ 102) = false := by
    simp
    omega
  clear h1
  rcases g with g1 | ⟨g1, g2⟩ <;>
  · go_enter Tryz.func78, Tryz.ntmps78
    go_wp2_with (first
      | (go_at_call 96; refine (lower1_any b _).mono ?_; rintro e w' ⟨rfl, rfl⟩)
      | (go_at_call 86; refine (digit_any b _).mono ?_; rintro e w' ⟨rfl, rfl⟩; simp only [*]))
    go_ret2
    exact ⟨rfl, rfl⟩

/-- What Hex answers: of none, 0 and false. -/
def hexV (b : UInt8) : Value := if 0 ≤ hexB b then .tuple #[.int .i64 (hexB b), .bool true] else .tuple #[.int .i64 0, .bool false]
theorem hex_any (b : UInt8) (w : World) :
    Calls Tryz.prog 78 #[.int .u8 (b.toNat : Int)] w fun e w' => e = .returned (hexV b) ∧ w = w' := by
  by_cases h : digB b = true
  · have e : hexV b = .tuple #[.int .i64 (hexB b), .bool true] := by
      have hb : 48 ≤ b.toNat ∧ b.toNat ≤ 57 := by unfold digB at h; simpa using h
      unfold hexV
      rw [if_pos (by unfold hexB; rw [if_pos h]; omega)]
    rw [e]
    exact hex_digit b w h
  have h : digB b = false := by simpa using h
  by_cases h1 : 97 ≤ (lowB b).toNat ∧ (lowB b).toNat ≤ 102
  · have e : hexV b = .tuple #[.int .i64 (hexB b), .bool true] := by
      unfold hexV
      rw [if_pos (by unfold hexB; rw [if_neg (by simp [h]), if_pos (by simp [h1])]; omega)]
    rw [e]
    exact hex_letter b w h h1.1 h1.2
  · have e : hexV b = .tuple #[.int .i64 0, .bool false] := by
      unfold hexV
      rw [if_neg (by unfold hexB; rw [if_neg (by simp [h]), if_neg (by simpa using h1)]; omega)]
    rw [e]
    exact hex_none b w h h1

set_option maxHeartbeats 1000000 in
theorem refHex_any (b : UInt8) (w : World) :
    Calls Tryz.prog 61 #[.int .u8 (b.toNat : Int)] w fun e w' => e = .returned (.int .i64 (hexB b)) ∧ w = w' := by
  go_enter Tryz.func61, Tryz.ntmps61
  go_wp2
  go_loop [5] (fun i => ∃ k : Nat, k ≤ 16 ∧ i = .int .i64 k ∧ ∀ j (hj : j < 16), j < k → (hexS[j]'(by rw [hexS_size]; exact hj)).toNat ≠ b.toNat ∧ (hexT[j]'(by rw [hexT_size]; exact hj)).toNat ≠ b.toNat) (fun i => 16 - (intOf i).toNat)
  case atStart => exact ⟨0, by omega, rfl, fun j _ h => absurd h (by omega)⟩
  case round =>
    obtain ⟨k, hk, rfl, hno⟩ := hrel
    have HN := Lib.hid hno
    clear hno
    obtain ⟨S, hS⟩ : ∃ S, S = hexS := ⟨_, rfl⟩
    obtain ⟨T, hT⟩ : ∃ T, T = hexT := ⟨_, rfl⟩
    have eS : (⟨#[48, 49, 50, 51, 52, 53, 54, 55, 56, 57, 97, 98, 99, 100, 101, 102]⟩ : ByteArray) = S := hS.symm
    have eT : (⟨#[48, 49, 50, 51, 52, 53, 54, 55, 56, 57, 65, 66, 67, 68, 69, 70]⟩ : ByteArray) = T := hT.symm
    rw [eS, eT]
    clear eS eT
    by_cases hlt : k < 16
    · have hlS : k < S.size := by rw [hS]; exact hlt
      have hlT : k < T.size := by rw [hT]; exact hlt
      have HS : Hid (S[k].toNat = (hexS[k]'(by rw [hexS_size]; exact hlt)).toNat) := by subst hS; rfl
      have HT : Hid (T[k].toNat = (hexT[k]'(by rw [hexT_size]; exact hlt)).toNat) := by subst hT; rfl
      clear hS hT
      cases d1 : ((S[k].toNat : Int) == (b.toNat : Int))
      · cases d2 : ((T[k].toNat : Int) == (b.toNat : Int))
        · have HE : Hid (S[k].toNat ≠ b.toNat ∧ T[k].toNat ≠ b.toNat) := ⟨fun e => by rw [e] at d1; simp at d1, fun e => by rw [e] at d2; simp at d2⟩
          go_wp2
          go_round
          case rel =>
            refine ⟨k + 1, by omega, by go_num, fun j hj h => ?_⟩
            by_cases h1 : j = k
            · subst h1
              exact ⟨by rw [← HS.out]; exact HE.out.1, by rw [← HT.out]; exact HE.out.2⟩
            · exact HN.out j hj (by omega)
          case measure => simp [intOf]; omega
        · have HA : Hid (hexB b = k) := hexB_at hlt (Or.inr (by rw [← HT.out]; have := beq_iff_eq.1 d2; omega))
          go_wp2
          go_ret
          exact ⟨by rw [HA.out]; rfl, rfl⟩
      · have HA : Hid (hexB b = k) := hexB_at hlt (Or.inl (by rw [← HS.out]; have := beq_iff_eq.1 d1; omega))
        go_wp2
        go_ret
        exact ⟨by rw [HA.out]; rfl, rfl⟩
    · obtain rfl : k = 16 := by omega
      have HA : Hid (hexB b = -1) := hexB_no fun j hj => HN.out j hj hj
      clear hS hT
      go_wp2
      go_ret
      exact ⟨by rw [HA.out]; rfl, rfl⟩

end Go.Proofs.YtbojbkpplejdmaaGreat
namespace Go.Proofs.YtbojbkpplejdmaaGreat
open Go.RowKit

structure Mv (B : Nat) (r : List Nat) (w w' : World) : Prop where
  os : w'.os = w.os
  tape : w'.tape = w.tape
  output : w'.output = w.output
  size : w.heap.size ≤ w'.heap.size
  block : ∀ k, k < B → k ∉ r → w'.heap[k]? = w.heap[k]?

theorem Mv.refl (B : Nat) (r : List Nat) (w : World) : Mv B r w w := ⟨rfl, rfl, rfl, Nat.le_refl _, fun _ _ _ => rfl⟩
theorem Mv.trans {B : Nat} {r : List Nat} {a b c : World} (h : Mv B r a b) (k : Mv B r b c) : Mv B r a c :=
  ⟨k.os.trans h.os, k.tape.trans h.tape, k.output.trans h.output, Nat.le_trans h.size k.size, fun i hi hr => (k.block i hi hr).trans (h.block i hi hr)⟩
theorem Mv.mono {B B' : Nat} {r r' : List Nat} {w w' : World} (h : Mv B r w w') (hB : B' ≤ B) (hr : ∀ x ∈ r, x ∈ r' ∨ B' ≤ x) : Mv B' r' w w' :=
  ⟨h.os, h.tape, h.output, h.size, fun k hk hk' => h.block k (by omega) (fun hm => by rcases hr k hm with h1 | h1; exact hk' h1; omega)⟩
theorem Mv.of_below {B : Nat} {w w' : World} (h : Below B w w') (r : List Nat) : Mv B r w w' := ⟨h.os, h.tape, h.output, h.size, fun k hk _ => h.block k hk⟩
theorem Mv.below {B B' : Nat} {r : List Nat} {w w' : World} (h : Mv B r w w') (hB : B' ≤ B) (hr : ∀ x ∈ r, B' ≤ x) : Below B' w w' :=
  ⟨h.os, h.tape, h.output, h.size, fun k hk => h.block k (by omega) (fun hm => by have := hr k hm; omega)⟩
theorem Mv.drew {B : Nat} {r : List Nat} {a w : World} (h : Mv B r a w) : Mv B r a w.drew := ⟨h.os, h.tape, h.output, h.size, h.block⟩
theorem Mv.drewN {B : Nat} {r : List Nat} {a w : World} (h : Mv B r a w) (n : Nat) : Mv B r a (w.drewN n) := ⟨h.os, h.tape, h.output, h.size, h.block⟩
theorem Mv.alloc {B : Nat} {r : List Nat} {a w : World} (h : Mv B r a w) (hB : B ≤ w.heap.size) (o : Obj) : Mv B r a (w.alloc o) :=
  h.trans ⟨rfl, rfl, rfl, by simp, fun k hk _ => Below.heap_alloc _ _ _ (by omega)⟩
theorem Mv.setCell {B : Nat} {r : List Nat} {a w : World} (h : Mv B r a w) {p : Addr} (hp : p.block ∈ r ∨ B ≤ p.block) (u : Value) : Mv B r a (w.setCell p u) :=
  h.trans ⟨rfl, rfl, rfl, by simp [World.setCell], fun k hk hr => Below.heap_setCell _ _ _ _ (fun e => by subst e; rcases hp with h1 | h1; exact hr h1; omega)⟩
theorem Mv.cell {B : Nat} {r : List Nat} {w w' : World} (h : Mv B r w w') {p : Addr} (hp : p.block < B) (hr : p.block ∉ r) : w'.cell? p = w.cell? p := World.cell?_of_block (w := w) (h.block p.block hp hr)
theorem Mv.frozen {B : Nat} {r : List Nat} {w w' : World} (h : Mv B r w w') {p : Addr} (hp : p.block < B) (hr : p.block ∉ r) : w'.frozen? p = w.frozen? p := World.frozen?_of_block (w := w) (h.block p.block hp hr)
theorem Below.drewN' {B : Nat} {a w : World} (h : Below B a w) (n : Nat) : Below B a (w.drewN n) := ⟨h.os, h.tape, h.output, h.size, h.block⟩

theorem bcell {W w1 : World} {B : Nat} (hb : Below B W w1) : (∀ b o, b < B → w1.cell? ⟨b, o, none⟩ = W.cell? ⟨b, o, none⟩) ∧ (∀ b o, b < B → w1.frozen? ⟨b, o, none⟩ = W.frozen? ⟨b, o, none⟩) :=
  ⟨fun b o h => hb.cell (p := ⟨b, o, none⟩) h, fun b o h => hb.frozen (p := ⟨b, o, none⟩) h⟩
theorem mcell {W w1 : World} {B : Nat} {r : List Nat} (hb : Mv B r W w1) : (∀ b o, b < B → b ∉ r → w1.cell? ⟨b, o, none⟩ = W.cell? ⟨b, o, none⟩) ∧ (∀ b o, b < B → b ∉ r → w1.frozen? ⟨b, o, none⟩ = W.frozen? ⟨b, o, none⟩) :=
  ⟨fun b o h hr => hb.cell (p := ⟨b, o, none⟩) h hr, fun b o h hr => hb.frozen (p := ⟨b, o, none⟩) h hr⟩

/-- Block g is known whole. -/
def Blk (w : World) (g : Nat) (t : TypeId) (cs : Array Value) : Prop := w.heap[g]? = some (.cells cs t (0, 0))

section
variable {w w' : World} {g : Nat} {t : TypeId} {cs : Array Value}
theorem Blk.lt (h : Blk w g t cs) : g < w.heap.size := by
  rcases Nat.lt_or_ge g w.heap.size with hlt | hge
  · exact hlt
  · unfold Blk at h; rw [Array.getElem?_eq_none hge] at h; cases h
theorem Blk.cell (h : Blk w g t cs) (i : Nat) : w.cell? ⟨g, i, none⟩ = cs[i]? := by
  unfold Blk at h; simp [World.cell?, h]
theorem Blk.frozen (h : Blk w g t cs) (i : Nat) : w.frozen? ⟨g, i, none⟩ = false := by
  unfold Blk at h
  simp [World.frozen?, h]
theorem Blk.new (w : World) (t : TypeId) (cs : Array Value) : Blk (w.alloc (.cells cs t)) w.heap.size t cs := by
  unfold Blk
  show (w.heap.push _)[w.heap.size]? = _
  simp
theorem Blk.drew (h : Blk w g t cs) : Blk w.drew g t cs := h
theorem Blk.drewN (h : Blk w g t cs) (n : Nat) : Blk (w.drewN n) g t cs := h
theorem Blk.alloc (h : Blk w g t cs) (o : Obj) : Blk (w.alloc o) g t cs := (Below.heap_alloc w o g h.lt).trans h
theorem Blk.set_ (h : Blk w g t cs) (i : Nat) (u : Value) : Blk (w.setCell ⟨g, i, none⟩ u) g t (cs.setIfInBounds i u) := by
  unfold Blk at h ⊢
  simp [World.setCell, Array.getElem?_modify, h]
theorem Blk.far (h : Blk w g t cs) {p : Addr} (hp : g ≠ p.block) (u : Value) : Blk (w.setCell p u) g t cs := (Below.heap_setCell w p u g hp).trans h
theorem Blk.below {B : Nat} (h : Blk w g t cs) (hb : Below B w w') (hg : g < B) : Blk w' g t cs := (hb.block g hg).trans h
theorem Blk.mv {B : Nat} {r : List Nat} (h : Blk w g t cs) (hb : Mv B r w w') (hg : g < B) (hr : g ∉ r) : Blk w' g t cs := (hb.block g hg hr).trans h
end

end Go.Proofs.YtbojbkpplejdmaaGreat
namespace Go.Proofs.YtbojbkpplejdmaaGreat
open Go.RowKit

/-- Of how many of the first k bytes p holds. -/
def cntT (p : UInt8 → Bool) (s : ByteArray) (k : Nat) : Nat := ((s.data.toList.take k).filter p).length
theorem cntT_yes {p : UInt8 → Bool} {s : ByteArray} {k : Nat} (h : k < s.size) (hp : p s[k] = true) : cntT p s (k + 1) = cntT p s k + 1 := by
  unfold cntT
  rw [take_snoc _ _ h, List.filter_append]
  simp [hp]
theorem cntT_no {p : UInt8 → Bool} {s : ByteArray} {k : Nat} (h : k < s.size) (hp : p s[k] = false) : cntT p s (k + 1) = cntT p s k := by
  unfold cntT
  rw [take_snoc _ _ h, List.filter_append]
  simp [hp]
theorem cntT_le (p : UInt8 → Bool) (s : ByteArray) (k : Nat) : cntT p s k ≤ k := by
  unfold cntT
  have h1 := List.length_filter_le p (s.data.toList.take k)
  have h2 : (s.data.toList.take k).length ≤ k := by simp; omega
  omega
theorem cntT_zero (p : UInt8 → Bool) (s : ByteArray) : cntT p s 0 = 0 := by unfold cntT; simp

/-- Whether p holds of all bytes. -/
def allB (p : UInt8 → Bool) (s : ByteArray) : Bool := (cntT p s s.size : Int) == (s.size : Int)
theorem allB_yes {p : UInt8 → Bool} {s : ByteArray} (h : ∀ j (hj : j < s.size), p s[j] = true) : allB p s = true := by
  have key : ∀ k, k ≤ s.size → cntT p s k = k := fun k => by
    induction k with
    | zero => intro _; exact cntT_zero p s
    | succ k ih => intro hk; rw [cntT_yes (by omega) (h k (by omega)), ih (by omega)]
  unfold allB
  rw [key _ (Nat.le_refl _)]
  simp
theorem allB_no {p : UInt8 → Bool} {s : ByteArray} {j : Nat} (hj : j < s.size) (h : p s[j] = false) : allB p s = false := by
  have key : ∀ k, j < k → k ≤ s.size → cntT p s k < k := fun k => by
    induction k with
    | zero => omega
    | succ k ih =>
      intro h1 h2
      by_cases e : k = j
      · subst e
        rw [cntT_no (by omega) h]
        have := cntT_le p s k
        omega
      · have := ih (by omega) (by omega)
        cases hp : p (s[k]'(by omega))
        · rw [cntT_no (by omega) hp]; omega
        · rw [cntT_yes (by omega) hp]; omega
  have := key s.size hj (Nat.le_refl _)
  unfold allB
  rw [beq_eq_false_iff_ne]
  omega

end Go.Proofs.YtbojbkpplejdmaaGreat
