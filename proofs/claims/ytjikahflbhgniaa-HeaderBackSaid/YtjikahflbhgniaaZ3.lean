/-
  What strings.Builder's WriteByte, WriteString and String do, over a builder of the call's own. Condition: what it holds then takes at most 2^47 bytes.
  What Has answers: whether a byte is among some. Condition: the text is as long as a length can be.
  What package class's functions of one byte answer, and those of the document's own answer. No condition.
-/
import Derived.Test.YtjikahflbhgniaaRows
import Derived.Test.YtjikahflbhgniaaZ2
import Derived.WalkKit
import Derived.WalkSpells
import Derived.WalkLawsBesides
import Derived.Laws.Externs
import Derived.Lib.Hide
import Derived.Lib.FrozenHead2
import Derived.Shelf.Strings.BuilderK
import Derived.Test.YtjikahflbhgniaaZ1
import Derived.LoopTactic
namespace Go.Proofs.Ytjikahflbhgniaa
open Go.RowKit

def bldRen : Go.Shelf.Ren := ⟨fun | 169 => 48 | n => n, fun | 70 => 69 | 9 => 9 | 0 => 0 | 72 => 72 | 37 => 70 | 127 => 92 | 3 => 3 | 5 => 5 | n => n, fun | n => n⟩
theorem bldLays : Go.Proofs.Lays.n169 Try.prog bldRen := {
  mixed := by kernel_rfl
  f169 := Try.func48.trans (congrArg some (by kernel_rfl))
  t0 := Try.underlying0
  a0 := Try.isAgg0
  z0 := Try.sizeOf0
  v0 := Try.zeroValue0
  t3 := Try.underlying3
  a3 := Try.isAgg3
  z3 := Try.sizeOf3
  v3 := Try.zeroValue3
  t9 := Try.underlying9
  a9 := Try.isAgg9
  z9 := Try.sizeOf9
  v9 := Try.zeroValue9
  t37 := Try.underlying70
  a37 := Try.isAgg70
  z37 := Try.sizeOf70
  v37 := Try.zeroValue70
  t70 := Try.underlying69
  a70 := Try.isAgg69
  z70 := Try.sizeOf69
  v70 := Try.zeroValue69
  t72 := Try.underlying72
  a72 := Try.isAgg72
  z72 := Try.sizeOf72
  v72 := Try.zeroValue72
  t127 := Try.underlying92
  a127 := Try.isAgg92
  z127 := Try.sizeOf92
  v127 := Try.zeroValue92 }
theorem bldExtra : Builder.Extra Try.prog bldRen := {
  sizeBuilder := by kernel_rfl
  liesBuilder := by kernel_rfl
  t5 := Try.underlying5
  a5 := Try.isAgg5
  z5 := Try.sizeOf5
  v5 := Try.zeroValue5
  infoByte := by kernel_rfl
  cellsByte := by kernel_rfl
  sizeByte := by kernel_rfl
  neB5 := by decide }

/-- The builder in block b holds the bytes l; it, and its row, lie from B on. -/
def Bld (B b : Nat) (l : List UInt8) (w : World) : Prop := Lib.IsBuilderF 72 5 B b (Lib.byteCells l) w

theorem Bld.new (w : World) : Bld w.heap.size w.heap.size [] (w.alloc (.cells #[.pointer none, .slice none 0 0] 72)) :=
  Lib.IsBuilderF.of (Lib.fresh_isBuilder 72 5 w)
theorem Bld.lt {B b : Nat} {l : List UInt8} {w : World} (h : Bld B b l w) : b < w.heap.size := by
  rcases h with h | h <;> exact h.lt
theorem Bld.at_mv {B b : Nat} {p : Value} {bs : List Value} {W W' : World} {r : List Nat} (h : Lib.BuilderAtF 72 5 B b p bs W) (hm : Mv W.heap.size r W W') (hr : ∀ x ∈ r, x < B) : Lib.BuilderAtF 72 5 B b p bs W' := by
  have hlt := h.lt
  obtain ⟨hB, v, hb, hown, hne⟩ := h
  refine ⟨hB, v, (hm.block b hlt (fun hx => by have := hr _ hx; omega)).trans hb, ⟨hown.1, ?_⟩, hne⟩
  rcases hown.2 with hn | ⟨g, cap, cur, fz, hv, hbg, hg, rest⟩
  · exact .inl hn
  · exact .inr ⟨g, cap, cur, fz, hv, hbg, (hm.block g (Array.getElem?_eq_some_iff.1 hg).1 (fun hx => by have := hr _ hx; omega)).trans hg, rest⟩
theorem Bld.mv {B b : Nat} {l : List UInt8} {W W' : World} {r : List Nat} (h : Bld B b l W) (hm : Mv W.heap.size r W W') (hr : ∀ x ∈ r, x < B) : Bld B b l W' := by
  rcases h with h | h
  · exact .inl (Bld.at_mv h hm hr)
  · exact .inr (Bld.at_mv h hm hr)

theorem no_escape (a : Value) (w : World) : (callFunc 82 #[a]).run Try.prog w = .ok (.value a) w := by
  rw [run_callFunc_extern Try.func82 (by kernel_rfl) (by kernel_rfl) (by kernel_rfl) (e := Extern.AbiNoEscape.same) (by kernel_rfl), Lib.run_noEscape]
  rfl

set_option maxHeartbeats 1000000 in
set_option maxRecDepth 100000 in
theorem copyCheck_used (b : Nat) (w : World) (h0 : w.cell? ⟨b, 0, none⟩ = some (.pointer (some ⟨b, 0, none⟩))) :
    Calls Try.prog 66 #[.pointer (some ⟨b, 0, none⟩)] w fun e w' => e = .returned (.tuple #[]) ∧ w = w' := by
  have hq : ∀ w : World, (binOp .neq 69 (.pointer (some ⟨b, 0, none⟩)) (.pointer (some ⟨b, 0, none⟩))).run Try.prog w = .ok (.bool false) w := fun w => by
    obtain ⟨j, hj, _⟩ := Option.map_eq_some_iff.1 bldExtra.sizeBuilder
    exact Lib.run_neq_ptr_same w _ Try.underlying69 hj
  go_enter Try.func66, Try.ntmps66
  go_wp2
  go_end0
  exact ⟨rfl, rfl⟩

set_option maxHeartbeats 1000000 in
set_option maxRecDepth 100000 in
theorem copyCheck_fresh (b : Nat) (w : World) (h0 : w.cell? ⟨b, 0, none⟩ = some (.pointer none)) (hsh : w.shape? b = some (72, 2)) (hfz : w.frozen? ⟨b, 0, none⟩ = false) :
    Calls Try.prog 66 #[.pointer (some ⟨b, 0, none⟩)] w fun e w' => e = .returned (.tuple #[]) ∧ w' = w.setCell ⟨b, 0, none⟩ (.pointer (some ⟨b, 0, none⟩)) := by
  obtain ⟨j, hj, hjs⟩ := Option.map_eq_some_iff.1 bldExtra.sizeBuilder
  have hq : ∀ w : World, (binOp .neq 69 (.pointer (some ⟨b, 0, none⟩)) (.pointer (some ⟨b, 0, none⟩))).run Try.prog w = .ok (.bool false) w := fun w =>
    Lib.run_neq_ptr_same w _ Try.underlying69 hj
  have hto : (convert 69 105 (.pointer (some ⟨b, 0, none⟩))).run Try.prog w = .ok (.pointer (some ⟨b, 0, none⟩)) w :=
    Lib.run_to_unsafe w ⟨b, 0, none⟩ Try.underlying69 Try.underlying105 hj (by rw [hjs]; decide) hsh (Nat.zero_lt_succ 1)
  have hfrom : (convert 105 69 (.pointer (some ⟨b, 0, none⟩))).run Try.prog w = .ok (.pointer (some ⟨b, 0, none⟩)) w :=
    Lib.run_from_unsafe w ⟨b, 0, none⟩ Try.underlying105 Try.underlying69 hj hsh bldExtra.liesBuilder
  have hne := no_escape
  clear hsh
  go_enter Try.func66, Try.ntmps66
  go_wp2
  go_end0
  exact ⟨rfl, rfl⟩

theorem copyCheck_any (B b : Nat) (bs : List Value) (w : World) (h : Lib.IsBuilderF 72 5 B b bs w) :
    Calls Try.prog 66 #[.pointer (some ⟨b, 0, none⟩)] w fun e w' => e = .returned (.tuple #[]) ∧ Lib.BuilderAtF 72 5 B b (.pointer (some ⟨b, 0, none⟩)) bs w' ∧ Below B w w' := by
  rcases h with h | h
  · refine (copyCheck_fresh b w h.cell0 h.shape h.frozen0).mono ?_
    rintro e w' ⟨rfl, rfl⟩
    exact ⟨rfl, h.used _, (Below.refl B w).setCell (p := ⟨b, 0, none⟩) h.1 _⟩
  · refine (copyCheck_used b w h.cell0).mono ?_
    rintro e w' ⟨rfl, rfl⟩
    exact ⟨rfl, h, Below.refl B _⟩

/-- What a builder's own block tells. -/
theorem bld_block {b : Nat} {v : Value} {W : World} (hb : W.heap[b]? = some (.cells #[.pointer (some ⟨b, 0, none⟩), v] 72 (0, 0))) :
    W.cell? ⟨b, 0, none⟩ = some (.pointer (some ⟨b, 0, none⟩)) ∧ W.cell? ⟨b, 1, none⟩ = some v ∧ W.frozen? ⟨b, 1, none⟩ = false ∧ b < W.heap.size := by
  refine ⟨by rw [Lib.cell_of_heap hb]; rfl, by rw [Lib.cell_of_heap hb]; rfl, Lib.frozen_of_heap hb 1, (Array.getElem?_eq_some_iff.1 hb).1⟩

set_option maxHeartbeats 2000000 in
set_option maxRecDepth 100000 in
theorem writeString_any (B b : Nat) (l : List UInt8) (s : ByteArray) (w : World) (h : Bld B b l w) (hlen : l.length + s.size ≤ 140737488355328) (hBw : B ≤ w.heap.size) :
    Calls Try.prog 47 #[.pointer (some ⟨b, 0, none⟩), .string s] w fun e w' => e = .returned (.tuple #[.int .i64 (s.size : Nat), .nilIface]) ∧ Bld B b (l ++ s.data.toList) w' ∧ Below B w w' := by
  obtain ⟨i0, hi, hz0, hz1, hz2⟩ := info_parts (bldExtra.infoByte : (Try.prog.info? 5).map (fun i => (i.zero, i.size, i.bytes)) = some (some (.int .u8 0), 1, 1))
  have hl : (Lib.byteCells l).length = l.length := Lib.byteCells_length l
  go_enter Try.func47, Try.ntmps47
  go_wp2_with (go_at_call 66; refine (copyCheck_any B b (Lib.byteCells l) _ h).mono ?_)
  rintro e w1 ⟨rfl, h1, hb1⟩
  obtain ⟨hB, v, hbk, hown, hne⟩ := h1
  obtain ⟨c0, c1, _, hlt⟩ := bld_block hbk
  go_wp2_with (at_builtin; refine Lib.wpList_append_own_stringF _ rfl _ _ 70 9 rfl B 5 i0 Try.underlying70 Try.underlying9 hi hz0 hz1 hz2 _ _ _ rfl hown s rfl ?c3 ?c4 ?c5 ?_)
  case c3 => unfold maxLen; omega
  case c4 => omega
  case c5 => have := hb1.size; omega
  intro v' w2 hown' hgrow _
  have hb2 : w2.heap[b]? = some (.cells #[.pointer (some ⟨b, 0, none⟩), v] 72 (0, 0)) := by
    rw [hgrow.block b hlt (fun e => hne e.symm)]
    exact hbk
  have HW := Lib.hid (hb1.grown hgrow (by have := hb1.size; omega) (fun k hk => (hown.lt k hk).1))
  have HO := Lib.hid hown'
  have HB2 := Lib.hid hb2
  obtain ⟨d0, d1, f1, _⟩ := bld_block hb2
  clear hb2 hbk hown hgrow hb1 c0 c1 hl h
  obtain ⟨ao, n', cap, rfl⟩ : ∃ ao n' cap, v' = .slice ao n' cap := by
    rcases hown'.2 with ⟨hv, _⟩ | ⟨g, cap, cur, fz, hv, _⟩
    · exact ⟨_, _, _, hv⟩
    · exact ⟨_, _, _, hv⟩
  clear hown'
  go_wp2
  go_ret2
  refine ⟨rfl, .inr ?_, HW.out.setCell (p := ⟨b, 1, none⟩) hB _⟩
  rw [Lib.byteCells_append]
  exact Lib.BuilderAtF.put (T := 72) (e := 5) hB HB2.out (bs' := Lib.byteCells l ++ Lib.byteCells s.data.toList) (by simpa [Lib.byteCells_length, ← Lib.strCells_eq, Lib.strCells_length] using HO.out) (by decide)

theorem string_any (B b : Nat) (l : List UInt8) (w : World) (h : Bld B b l w) (hBw : B ≤ w.heap.size) :
    Calls Try.prog 48 #[.pointer (some ⟨b, 0, none⟩)] w fun e w' => e = .returned (.string ⟨l.toArray⟩) ∧ Bld B b l w' ∧ Below B w w' :=
  (Any.Builder_String_any_k bldLays bldExtra B b l w h hBw).mono fun _ _ h => ⟨h.1, h.2.1, h.2.2.1⟩

end Go.Proofs.Ytjikahflbhgniaa
namespace Go.Proofs.Ytjikahflbhgniaa
open Go.RowKit

set_option maxHeartbeats 1000000 in
theorem has_any (t : ByteArray) (b : UInt8) (w : World) (hs : t.size ≤ 9223372036854775807) :
    Calls Try.prog 57 #[.string t, .int .u8 (b.toNat : Int)] w fun e w' => e = .returned (.bool (hasB t b)) ∧ w = w' := by
  go_enter Try.func57, Try.ntmps57
  go_wp2
  go_loop [5] (fun i => ∃ k : Nat, k ≤ t.size ∧ i = .int .i64 k ∧ ∀ j (hj : j < t.size), j < k → t[j] ≠ b) (fun i => t.size - (intOf i).toNat)
  case atStart => exact ⟨0, by omega, rfl, fun j _ h => absurd h (by omega)⟩
  case round =>
    obtain ⟨k, hk, rfl, hno⟩ := hrel
    have HN := Lib.hid hno
    clear hno
    by_cases hlt : k < t.size
    · by_cases he : t[k] = b
      · have HA : Hid (hasB t b = true) := hasB_at hlt he
        have d1 : ((t[k].toNat : Int) == (b.toNat : Int)) = true := by rw [he]; simp
        clear he
        go_wp2
        go_ret
        exact ⟨by rw [HA.out]; rfl, rfl⟩
      · have d1 : ((t[k].toNat : Int) == (b.toNat : Int)) = false := by
          simp only [beq_eq_false_iff_ne, ne_eq]
          intro h
          exact he (UInt8.toNat_inj.1 (by omega))
        have HE := Lib.hid he
        clear he
        go_wp2
        go_round
        case rel => exact ⟨k + 1, by omega, by go_num, fun j hj h => if h1 : j = k then by subst h1; exact HE.out else HN.out j hj (by omega)⟩
        case measure => simp [intOf]; omega
    · obtain rfl : k = t.size := by omega
      have HA : Hid (hasB t b = false) := hasB_no fun i hi => HN.out i hi hi
      go_wp2
      go_ret
      exact ⟨by rw [HA.out]; rfl, rfl⟩

end Go.Proofs.Ytjikahflbhgniaa
namespace Go.Proofs.Ytjikahflbhgniaa
open Go.RowKit

theorem dI (a : Nat) (b : UInt8) : decide (a ≤ b.toNat) = decide ((a : Int) ≤ (b.toNat : Int)) := by simp
theorem dJ (a : Nat) (b : UInt8) : decide (b.toNat ≤ a) = decide ((b.toNat : Int) ≤ (a : Int)) := by simp
theorem dE (a : Nat) (b : UInt8) : (b.toNat == a) = ((b.toNat : Int) == (a : Int)) := by
  rw [Bool.eq_iff_iff, beq_iff_eq, beq_iff_eq]
  omega

set_option maxHeartbeats 400000 in
theorem lower1_any (b : UInt8) (w : World) :
    Calls Try.prog 60 #[.int .u8 (b.toNat : Int)] w fun e w' => e = .returned (.int .u8 ((lowB b).toNat : Int)) ∧ w = w' := by
  have hb := b.toNat_lt
  by_cases h : 65 ≤ b.toNat ∧ b.toNat ≤ 90
  · have e : (lowB b).toNat = b.toNat + 32 := by
      unfold lowB
      rw [if_pos (by simpa using h), UInt8.toNat_ofNat']
      omega
    rw [e]
    have h1 : (65 : Int) ≤ (b.toNat : Int) := by omega
    have h2 : (b.toNat : Int) ≤ 90 := by omega
    clear e
    go_enter Try.func60, Try.ntmps60
    go_wp2
    go_ret
    refine ⟨?_, rfl⟩
    go_num
  · have e : lowB b = b := by
      unfold lowB
      rw [if_neg (by simpa using h)]
    rw [e]
    clear e
    by_cases h1 : (65 : Int) ≤ (b.toNat : Int)
    · have h2 : decide ((b.toNat : Int) ≤ 90) = false := by simp; omega
      go_enter Try.func60, Try.ntmps60
      go_wp2
      go_ret
      exact ⟨rfl, rfl⟩
    · have h2 : decide ((65 : Int) ≤ (b.toNat : Int)) = false := by simp; omega
      go_enter Try.func60, Try.ntmps60
      go_wp2
      go_ret
      exact ⟨rfl, rfl⟩

set_option maxHeartbeats 400000 in
theorem digit_any (b : UInt8) (w : World) :
    Calls Try.prog 74 #[.int .u8 (b.toNat : Int)] w fun e w' => e = .returned (.bool (digB b)) ∧ w = w' := by
  have e : digB b = (decide ((48 : Int) ≤ (b.toNat : Int)) && decide ((b.toNat : Int) ≤ 57)) := by unfold digB; rw [dI, dJ]; rfl
  rw [e]
  clear e
  cases h1 : decide ((48 : Int) ≤ (b.toNat : Int)) <;>
  · go_enter Try.func74, Try.ntmps74
    go_wp2
    go_ret
    exact ⟨rfl, rfl⟩

set_option maxHeartbeats 400000 in
theorem refDigit_any (b : UInt8) (w : World) :
    Calls Try.prog 94 #[.int .u8 (b.toNat : Int)] w fun e w' => e = .returned (.bool (digB b)) ∧ w = w' := by
  have e : digB b = (decide ((48 : Int) ≤ (b.toNat : Int)) && decide ((b.toNat : Int) ≤ 57)) := by unfold digB; rw [dI, dJ]; rfl
  rw [e]
  clear e
  cases h0 : decide ((48 : Int) ≤ (b.toNat : Int)) <;>
  · go_enter Try.func94, Try.ntmps94
    go_wp2
    go_ret
    exact ⟨rfl, rfl⟩

set_option maxHeartbeats 400000 in
theorem tab_any (b : UInt8) (w : World) :
    Calls Try.prog 81 #[.int .u8 (b.toNat : Int)] w fun e w' => e = .returned (.bool (tabB b)) ∧ w = w' := by
  have e : tabB b = ((b.toNat : Int) == 9 || (b.toNat : Int) == 32) := by unfold tabB; rw [dE, dE]; rfl
  rw [e]
  clear e
  cases h0 : ((b.toNat : Int) == 9) <;>
  · go_enter Try.func81, Try.ntmps81
    go_wp2
    go_ret
    exact ⟨rfl, rfl⟩

set_option maxHeartbeats 400000 in
theorem letter_any (b : UInt8) (w : World) :
    Calls Try.prog 73 #[.int .u8 (b.toNat : Int)] w fun e w' => e = .returned (.bool (letB b)) ∧ w = w' := by
  have e : letB b = (decide ((97 : Int) ≤ ((lowB b).toNat : Int)) && decide (((lowB b).toNat : Int) ≤ 122)) := by unfold letB lowerB; rw [dI, dJ]; rfl
  rw [e]
  clear e
  cases h0 : decide ((97 : Int) ≤ ((lowB b).toNat : Int)) <;>
  · go_enter Try.func73, Try.ntmps73
    go_wp2_with (go_at_call 60; refine (lower1_any b _).mono ?_; rintro e w' ⟨rfl, rfl⟩)
    go_ret
    exact ⟨rfl, rfl⟩

set_option maxHeartbeats 400000 in
theorem refLetter_any (b : UInt8) (w : World) :
    Calls Try.prog 93 #[.int .u8 (b.toNat : Int)] w fun e w' => e = .returned (.bool (letB b)) ∧ w = w' := by
  have e : letB b = (decide ((97 : Int) ≤ (b.toNat : Int)) && decide ((b.toNat : Int) ≤ 122) || decide ((65 : Int) ≤ (b.toNat : Int)) && decide ((b.toNat : Int) ≤ 90)) := by rw [letB_eq, dI, dJ, dI, dJ]; rfl
  rw [e]
  clear e
  cases h0 : decide ((97 : Int) ≤ (b.toNat : Int)) <;> cases h1 : decide ((b.toNat : Int) ≤ 122) <;> cases h2 : decide ((65 : Int) ≤ (b.toNat : Int)) <;>
  · go_enter Try.func93, Try.ntmps93
    go_wp2
    go_ret
    exact ⟨rfl, rfl⟩

set_option maxHeartbeats 400000 in
theorem white_any (b : UInt8) (w : World) :
    Calls Try.prog 63 #[.int .u8 (b.toNat : Int)] w fun e w' => e = .returned (.bool (whiB b)) ∧ w = w' := by
  have e : whiB b = (tabB b || (b.toNat : Int) == 10 || (b.toNat : Int) == 13) := by unfold whiB; rw [dE, dE]; rfl
  rw [e]
  clear e
  cases h0 : tabB b <;> cases h1 : ((b.toNat : Int) == 10) <;>
  · go_enter Try.func63, Try.ntmps63
    go_wp2_with (go_at_call 81; refine (tab_any b _).mono ?_; rintro e w' ⟨rfl, rfl⟩; simp only [*])
    go_ret
    exact ⟨rfl, rfl⟩

set_option maxHeartbeats 400000 in
theorem refWhite_any (b : UInt8) (w : World) :
    Calls Try.prog 44 #[.int .u8 (b.toNat : Int)] w fun e w' => e = .returned (.bool (whiB b)) ∧ w = w' := by
  rw [← whiB_has]
  go_enter Try.func44, Try.ntmps44
  go_wp2_with (go_at_call 57; refine (has_any _ b _ (of_decide_eq_true rfl)).mono ?_; rintro e w' ⟨rfl, rfl⟩)
  go_ret
  exact ⟨rfl, rfl⟩

theorem indexByte2_any (s : ByteArray) (b : UInt8) (w : World) : (callFunc 99 #[.string s, .int .u8 (b.toNat : Int)]).run Try.prog w = .ok (.value (.int .i64 (firstIdx s b))) w := by
  rw [run_callFunc_extern (fn := Try.f99) (e := Extern.BytealgIndexByte.indexByte) Try.func99 rfl rfl rfl rfl]
  rw [run_indexByte_string]
  simp [Result.andThen]

set_option maxHeartbeats 400000 in
theorem indexByte1_any (s : ByteArray) (b : UInt8) (w : World) :
    Calls Try.prog 88 #[.string s, .int .u8 (b.toNat : Int)] w fun e w' => e = .returned (.int .i64 (firstIdx s b)) ∧ w = w' := by
  have hx := indexByte2_any s b
  go_enter Try.func88, Try.ntmps88
  go_wp2
  go_ret
  exact ⟨rfl, rfl⟩

set_option maxHeartbeats 400000 in
theorem indexByte_any (s : ByteArray) (b : UInt8) (w : World) :
    Calls Try.prog 75 #[.string s, .int .u8 (b.toNat : Int)] w fun e w' => e = .returned (.int .i64 (firstIdx s b)) ∧ w = w' := by
  go_enter Try.func75, Try.ntmps75
  go_wp2_with (go_at_call 88; refine (indexByte1_any s b _).mono ?_; rintro e w' ⟨rfl, rfl⟩)
  go_ret
  exact ⟨rfl, rfl⟩

set_option maxHeartbeats 400000 in
theorem token_any (b : UInt8) (w : World) :
    Calls Try.prog 55 #[.int .u8 (b.toNat : Int)] w fun e w' => e = .returned (.bool (tokB b)) ∧ w = w' := by
  have e : tokB b = (letB b || digB b || decide ((0 : Int) ≤ firstIdx marks b)) := by rw [marks_first]; rfl
  have hx : ∀ w, Calls Try.prog 75 #[.string marks, .int .u8 (b.toNat : Int)] w fun e w' => e = .returned (.int .i64 (firstIdx marks b)) ∧ w = w' := indexByte_any marks b
  rw [e]
  clear e
  generalize firstIdx marks b = i at *
  cases h0 : letB b <;> cases h1 : digB b <;>
  · go_enter Try.func55, Try.ntmps55
    go_wp2_with (first
      | (go_at_call 73; refine (letter_any b _).mono ?_; rintro e w' ⟨rfl, rfl⟩; simp only [*])
      | (go_at_call 74; refine (digit_any b _).mono ?_; rintro e w' ⟨rfl, rfl⟩; simp only [*])
      | (go_at_call 75; refine (hx _).mono ?_; rintro e w' ⟨rfl, rfl⟩))
    go_ret
    exact ⟨rfl, rfl⟩

set_option maxHeartbeats 400000 in
theorem refToken_any (b : UInt8) (w : World) :
    Calls Try.prog 77 #[.int .u8 (b.toNat : Int)] w fun e w' => e = .returned (.bool (tokB b)) ∧ w = w' := by
  have e : tokB b = (letB b || digB b || hasB marks b) := rfl
  have hx : ∀ w, Calls Try.prog 57 #[.string marks, .int .u8 (b.toNat : Int)] w fun e w' => e = .returned (.bool (hasB marks b)) ∧ w = w' := fun w => has_any marks b w (of_decide_eq_true rfl)
  rw [e]
  clear e
  generalize hasB marks b = i at *
  cases h0 : letB b <;> cases h1 : digB b <;>
  · go_enter Try.func77, Try.ntmps77
    go_wp2_with (first
      | (go_at_call 93; refine (refLetter_any b _).mono ?_; rintro e w' ⟨rfl, rfl⟩; simp only [*])
      | (go_at_call 94; refine (refDigit_any b _).mono ?_; rintro e w' ⟨rfl, rfl⟩; simp only [*])
      | (go_at_call 57; refine (hx _).mono ?_; rintro e w' ⟨rfl, rfl⟩))
    go_ret
    exact ⟨rfl, rfl⟩

end Go.Proofs.Ytjikahflbhgniaa
