/-
  Plain facts on types, as layer 10 has them: parameters, which are good, what a text says, and what it is written as. No condition.
  What Lower, Same and Begins answer, and the document's own Lower. Condition: the text is as long as a length can be.
  What Lower, Prefix, HasPrefix and Has answer, and what Skip does to a cursor. Conditions: lengths as they can be.
-/
import Derived.Test.YtagbndkfbnlpoaaGreatDoorZ5
import Derived.Test.YtagbndkfbnlpoaaGreatDoorZ4
import Derived.LoopTactic
import Derived.Test.YtagbndkfbnlpoaaGreatDoorZ2
import Derived.Test.YtagbndkfbnlpoaaGreatDoorZ1
import Derived.Test.YtagbndkfbnlpoaaGreatDoorZ3
import Derived.BigQuiet
import Derived.OneCell
import Derived.OwnWalk
import Derived.Laws.IdiomStrings
import Derived.Laws.OwnMore
import Derived.Laws.BytesArg
import Derived.RegionTactic
import Derived.BigRegion
import Derived.Deep.QuietTactic
import Derived.Outline
import Derived.Deep.RegionHeld3
import Derived.StillTailTactics
import Derived.Lib.Hide
import Derived.IntWalk
namespace Go.Proofs.YtagbndkfbnlpoaaGreatDoor

abbrev eqS (a b : ByteArray) : Bool := a.toList == b.toList
theorem eqS_eq {a b : ByteArray} (h : eqS a b = true) : a = b := by
  have e : a.toList = b.toList := beq_iff_eq.1 h
  rw [Lib.toList_data, Lib.toList_data] at e
  exact ByteArray.ext (Array.toList_inj.1 e)
theorem eqS_self (a : ByteArray) : eqS a a = true := beq_self_eq_true _

end Go.Proofs.YtagbndkfbnlpoaaGreatDoor
namespace Go.Proofs.YtagbndkfbnlpoaaGreatDoor
open Go.RowKit

/-- Block g is known whole, its frozen range too. -/
def Blm (w : World) (g : Nat) (t : TypeId) (cs : Array Value) (fr : Nat × Nat) : Prop := w.heap[g]? = some (.cells cs t fr)
section
variable {w w' : World} {g : Nat} {t : TypeId} {cs : Array Value} {fr : Nat × Nat}
theorem Blm.lt (h : Blm w g t cs fr) : g < w.heap.size := by
  rcases Nat.lt_or_ge g w.heap.size with hlt | hge
  · exact hlt
  · unfold Blm at h; rw [Array.getElem?_eq_none hge] at h; cases h
theorem Blm.cell (h : Blm w g t cs fr) (i : Nat) : w.cell? ⟨g, i, none⟩ = cs[i]? := by
  unfold Blm at h; simp [World.cell?, h]
theorem Blm.frozen (h : Blm w g t cs fr) (i : Nat) (hi : i < fr.1) : w.frozen? ⟨g, i, none⟩ = false := by
  unfold Blm at h
  simp [World.frozen?, h]
  omega
theorem Blm.new (w : World) (t : TypeId) (cs : Array Value) (fr : Nat × Nat) : Blm (w.alloc (.cells cs t fr)) w.heap.size t cs fr := by
  unfold Blm
  show (w.heap.push _)[w.heap.size]? = _
  simp
theorem Blm.set_ (h : Blm w g t cs fr) (i : Nat) (u : Value) : Blm (w.setCell ⟨g, i, none⟩ u) g t (cs.setIfInBounds i u) fr := by
  unfold Blm at h ⊢
  simp [World.setCell, Array.getElem?_modify, h]
end

/-- The cells of a text of which the first k bytes are made small. -/
def Small (s : ByteArray) (k : Nat) (C : Array Value) : Prop := ∀ j (h : j < s.size), C[j]? = some (.int .u8 ((if j < k then lowB s[j] else s[j]).toNat : Int))
theorem Small.zero (s : ByteArray) (cap : Nat) : Small s 0 (bytesRow s cap) := fun j h => by
  rw [bytesRow_at s cap j h, if_neg (by omega)]
  rfl
theorem Small.lt {s : ByteArray} {k j : Nat} {C : Array Value} (h : Small s k C) (hj : j < s.size) : j < C.size := (Array.getElem?_eq_some_iff.1 (h j hj)).1
theorem Small.succ {s : ByteArray} {k : Nat} {C : Array Value} (h : Small s k C) (hk : k < s.size) : Small s (k + 1) (C.setIfInBounds k (.int .u8 ((lowB s[k]).toNat : Int))) := fun j hj => by
  have hlt := h.lt hj
  by_cases e : k = j
  · subst e
    rw [Array.getElem?_setIfInBounds_self_of_lt hlt, if_pos (by omega)]
  · rw [Array.getElem?_setIfInBounds_ne e, h j hj]
    by_cases h1 : j < k
    · rw [if_pos h1, if_pos (by omega)]
    · rw [if_neg h1, if_neg (by omega)]
theorem Small.back {s : ByteArray} {C : Array Value} (h : Small s s.size C) {W : World} {g : Nat} {fr : Nat × Nat} (hg : Blm W g 5 C fr) (cap : Nat) :
    (convert 38 9 (.slice (some ⟨g, 0, none⟩) s.size cap)).run Tryz.prog W = .ok (.string (lowS s)) W := by
  have := run_convert_bytes_back (P := Tryz.prog) W 38 9 5 ⟨g, 0, none⟩ cap (lowS s).data.toList Tryz.underlying38 Tryz.underlying5 Tryz.underlying9 (fun j hj => by
    have hj' : j < s.size := by
      have h2 : (lowS s).data.toList.length = (lowS s).size := by simp
      rw [lowS_size] at h2
      omega
    have e : (⟨g, 0, none⟩ : Addr).add j = ⟨g, j, none⟩ := by cases j <;> simp [Addr.add]
    rw [e, hg.cell, h j hj', if_pos hj']
    congr 3
    exact congrArg UInt8.toNat (lowS_at s j hj').symm)
  have h2 : (lowS s).data.toList.length = s.size := by
    have h3 : (lowS s).data.toList.length = (lowS s).size := by simp
    rw [h3, lowS_size]
  rw [h2] at this
  simpa using this

set_option maxHeartbeats 1000000 in
theorem lowerS_any (s : ByteArray) (w : World) (hs : s.size ≤ 9223372036854775807) :
    Calls Tryz.prog 46 #[.string s] w fun e w' => e = .returned (.string (lowS s)) ∧ Below w.heap.size w w' := by
  have hcv := run_bytes_of_string (P := Tryz.prog) w 9 38 5 s Tryz.underlying9 Tryz.underlying38 Tryz.underlying5
  obtain ⟨cap, hcap⟩ : ∃ cap, cap = grownCap w s.size 0 5 := ⟨_, rfl⟩
  rw [← hcap] at hcv
  clear hcap
  obtain ⟨C0, hC⟩ : ∃ C0, C0 = bytesRow s cap := ⟨_, rfl⟩
  have HS0 := Lib.hid (show Small s 0 C0 from by rw [hC]; exact Small.zero s cap)
  rw [← hC] at hcv
  clear hC
  have HB0 := Lib.hid (show Blm (w.alloc (.cells C0 5 (C0.size, C0.size + 1))).drew w.heap.size 5 C0 (C0.size, C0.size + 1) from Blm.new w.drew _ _ _)
  have HW0 := Lib.hid (((Below.refl w.heap.size w).alloc (Nat.le_refl _) (.cells C0 5 (C0.size, C0.size + 1))).drew)
  go_enter Tryz.func46, Tryz.ntmps46
  go_wp2
  clear hcv
  go_loopw [9] (fun i wr => ∃ (k : Nat) (C : Array Value), k ≤ s.size ∧ i = .int .i64 k ∧ Small s k C ∧ C.size = C0.size ∧ Blm wr w.heap.size 5 C (C0.size, C0.size + 1) ∧ Below w.heap.size w wr) (fun i _ => s.size - (intOf i).toNat)
  case atStart => exact ⟨0, C0, Nat.zero_le _, rfl, HS0.out, rfl, HB0.out, HW0.out⟩
  case round =>
    obtain ⟨k, C, hk, rfl, hS, hN, hB, hW⟩ := hrel
    have HS := Lib.hid hS
    have HN := Lib.hid hN
    have HB := Lib.hid hB
    have HW := Lib.hid hW
    clear HS0 HB0 HW0 hS hN hB hW
    by_cases hlt : k < s.size
    · have c0 : wr.cell? ⟨w.heap.size, k, none⟩ = some (.int .u8 (s[k].toNat : Int)) := by
        rw [HB.out.cell, HS.out k hlt, if_neg (by omega)]
      have z0 : wr.frozen? ⟨w.heap.size, k, none⟩ = false := HB.out.frozen k (by have := HS.out.lt hlt; have := HN.out; omega)
      go_wp2_with (go_at_call 67; refine (lower1_any s[k] _).mono ?_; rintro e w' ⟨rfl, rfl⟩)
      go_roundw
      case rel => exact ⟨k + 1, C.setIfInBounds k (.int .u8 ((lowB s[k]).toNat : Int)), by omega, by go_num, HS.out.succ hlt, by simpa using HN.out, HB.out.set_ k _, HW.out.setCell (Nat.le_refl _) _⟩
      case measure => simp [intOf]; omega
    · obtain rfl : k = s.size := by omega
      have hback := HS.out.back HB.out cap
      go_wp2
      go_ret
      exact ⟨rfl, HW.out⟩

/-- The cells of the first k bytes, made small. -/
def smallL (s : ByteArray) (k : Nat) : List Value := (s.data.toList.take k).map fun b => .int .u8 ((lowB b).toNat : Int)
theorem smallL_succ {s : ByteArray} {k : Nat} (h : k < s.size) {x : Int} (hx : x = ((lowB s[k]).toNat : Int)) : smallL s (k + 1) = smallL s k ++ [.int .u8 x] := by
  unfold smallL
  rw [hx, List.take_add_one]
  have : s.data.toList[k]? = some s[k] := by
    rw [List.getElem?_eq_getElem (by simpa using h)]
    rfl
  rw [this]
  simp
theorem smallL_at {s : ByteArray} {j : Nat} (h : j < s.size) : (smallL s s.size)[j]? = some (.int .u8 ((lowB s[j]).toNat : Int)) := by
  unfold smallL
  rw [List.take_of_length_le (by simp), List.getElem?_map]
  have : s.data.toList[j]? = some s[j] := by
    rw [List.getElem?_eq_getElem (by simpa using h)]
    rfl
  rw [this]
  rfl
theorem small_back {s : ByteArray} {v : Value} {W : World} {base : Nat} (h : W.ownsRow base 5 1 v s.size (smallL s s.size)) :
    (convert 38 9 v).run Tryz.prog W = .ok (.string (lowS s)) W := by
  have hl : (lowS s).data.toList.length = s.size := by
    have h3 : (lowS s).data.toList.length = (lowS s).size := by simp
    rw [h3, lowS_size]
  have h' := h
  rcases h.2 with ⟨rfl, h0⟩ | ⟨g, cap, cur, rfl, _⟩
  · have e : lowS s = ByteArray.empty := by
      generalize lowS s = x at *
      cases x with | mk d => have : d = #[] := Array.eq_empty_of_size_eq_zero (by simpa using hl.trans h0); rw [this]; rfl
    rw [e]
    exact run_convert_bytes_nil (P := Tryz.prog) W 38 5 Tryz.underlying38 Tryz.underlying5 0 0 9 Tryz.underlying9
  · have := run_convert_bytes_back (P := Tryz.prog) W 38 9 5 ⟨g, 0, none⟩ cap (lowS s).data.toList Tryz.underlying38 Tryz.underlying5 Tryz.underlying9 (fun j hj => by
      have hj' : j < s.size := by omega
      have e : (⟨g, 0, none⟩ : Addr).add j = ⟨g, j, none⟩ := by cases j <;> simp [Addr.add]
      rw [e, h'.cellAt j (by omega), smallL_at hj']
      congr 3
      exact congrArg UInt8.toNat (lowS_at s j hj').symm)
    rw [hl] at this
    simpa using this

theorem Tryz.info5 : (Tryz.prog.info? 5).map (fun i => (i.zero, i.size, i.bytes)) = some (some (.int .u8 0), 1, 1) := by kernel_rfl

set_option maxHeartbeats 1600000 in
theorem refLowerS_any (s : ByteArray) (w : World) (hs : s.size ≤ 140737488351232) :
    Calls Tryz.prog 26 #[.string s] w fun e w' => e = .returned (.string (lowS s)) ∧ Below w.heap.size w w' := by
  obtain ⟨i0, hi, hz0, hz1, hz2⟩ := info_parts Tryz.info5
  go_enter Tryz.func26, Tryz.ntmps26
  go_wp2
  go_loopw [3, 4] (fun v i wr => ∃ k : Nat, k ≤ s.size ∧ i = .int .i64 k ∧ wr.ownsRow w.heap.size 5 1 v k (smallL s k) ∧ Below w.heap.size w wr) (fun _ i _ => s.size - (intOf i).toNat)
  case atStart => exact ⟨0, Nat.zero_le _, rfl, World.ownsRow_made w #[] 0 (Nat.le_refl _) (Nat.zero_le _) rfl, (Below.refl _ _).alloc (Nat.le_refl _) _⟩
  case round =>
    obtain ⟨k, hk, rfl, hown, hW⟩ := hrel
    have HO := Lib.hid hown
    have HW := Lib.hid hW
    clear hown hW
    by_cases hlt : k < s.size
    · have hb := s[k].toNat_lt
      by_cases hg : 65 ≤ s[k].toNat ∧ s[k].toNat ≤ 90
      · have g1 : (65 : Int) ≤ (s[k].toNat : Int) := by omega
        have g2 : (s[k].toNat : Int) ≤ 90 := by omega
        have HX := Lib.hid (smallL_succ (x := (s[k].toNat : Int) + 32) hlt (by
          unfold lowB
          rw [if_pos (by simpa using hg), UInt8.toNat_ofNat']
          omega))
        clear hg
        go_wp2_with (at_builtin; refine wpList_append_own _ rfl _ _ 38 rfl w.heap.size 5 i0 (.int .u8 0) 1 1 Tryz.underlying38 hi hz0 hz1 hz2 rfl (by decide) _ _ _ rfl (HO.out.alloc _) ⟨wr.heap.size, 0, none⟩ 1 1 [.int .u8 ((s[k].toNat : Int) + 32)] rfl rfl ?_ ?_ ?_ ?_ ?_ ?_)
        · intro j u hj
          match j, hj with
          | 0, hj => simp at hj; subst hj; simp [Addr.add]
        · intro u hu; simp at hu; subst hu; rfl
        · unfold maxLen; omega
        · omega
        · have := HW.out.size; simp; omega
        · intro v' w1 hown' hgrow _
          have hown2 : w1.ownsRow w.heap.size 5 1 v' (k + 1) (smallL s (k + 1)) := by rw [HX.out]; exact hown'
          have HO2 := Lib.hid hown2
          have HG := Lib.hid (Below.grown (HW.out.alloc (by have := HW.out.size; omega) _) hgrow (by have := HW.out.size; simp; omega) (fun g hg => (HO.out.lt g hg).1))
          clear hown2 hown' hgrow
          go_wp2
          go_roundw
          case rel => exact ⟨k + 1, by omega, by go_num, HO2.out, HG.out⟩
          case measure => simp [intOf]; omega
      · have HX := Lib.hid (smallL_succ (x := (s[k].toNat : Int)) hlt (by
          unfold lowB
          rw [if_neg (by simpa using hg)]))
        have hg2 : decide ((65 : Int) ≤ (s[k].toNat : Int)) = false ∨ decide ((65 : Int) ≤ (s[k].toNat : Int)) = true ∧ decide ((s[k].toNat : Int) ≤ 90) = false := by
          simp
          omega
        clear hg
        rcases hg2 with g1 | ⟨g1, g2⟩
        · go_wp2_with (at_builtin; refine wpList_append_own _ rfl _ _ 38 rfl w.heap.size 5 i0 (.int .u8 0) 1 1 Tryz.underlying38 hi hz0 hz1 hz2 rfl (by decide) _ _ _ rfl (HO.out.alloc _) ⟨wr.heap.size, 0, none⟩ 1 1 [.int .u8 ((s[k].toNat : Int))] rfl rfl ?_ ?_ ?_ ?_ ?_ ?_)
          · intro j u hj
            match j, hj with
            | 0, hj => simp at hj; subst hj; simp [Addr.add]
          · intro u hu; simp at hu; subst hu; rfl
          · unfold maxLen; omega
          · omega
          · have := HW.out.size; simp; omega
          · intro v' w1 hown' hgrow _
            have hown2 : w1.ownsRow w.heap.size 5 1 v' (k + 1) (smallL s (k + 1)) := by rw [HX.out]; exact hown'
            have HO2 := Lib.hid hown2
            have HG := Lib.hid (Below.grown (HW.out.alloc (by have := HW.out.size; omega) _) hgrow (by have := HW.out.size; simp; omega) (fun g hg => (HO.out.lt g hg).1))
            clear hown2 hown' hgrow
            go_wp2
            go_roundw
            case rel => exact ⟨k + 1, by omega, by go_num, HO2.out, HG.out⟩
            case measure => simp [intOf]; omega
        · go_wp2_with (at_builtin; refine wpList_append_own _ rfl _ _ 38 rfl w.heap.size 5 i0 (.int .u8 0) 1 1 Tryz.underlying38 hi hz0 hz1 hz2 rfl (by decide) _ _ _ rfl (HO.out.alloc _) ⟨wr.heap.size, 0, none⟩ 1 1 [.int .u8 ((s[k].toNat : Int))] rfl rfl ?_ ?_ ?_ ?_ ?_ ?_)
          · intro j u hj
            match j, hj with
            | 0, hj => simp at hj; subst hj; simp [Addr.add]
          · intro u hu; simp at hu; subst hu; rfl
          · unfold maxLen; omega
          · omega
          · have := HW.out.size; simp; omega
          · intro v' w1 hown' hgrow _
            have hown2 : w1.ownsRow w.heap.size 5 1 v' (k + 1) (smallL s (k + 1)) := by rw [HX.out]; exact hown'
            have HO2 := Lib.hid hown2
            have HG := Lib.hid (Below.grown (HW.out.alloc (by have := HW.out.size; omega) _) hgrow (by have := HW.out.size; simp; omega) (fun g hg => (HO.out.lt g hg).1))
            clear hown2 hown' hgrow
            go_wp2
            go_roundw
            case rel => exact ⟨k + 1, by omega, by go_num, HO2.out, HG.out⟩
            case measure => simp [intOf]; omega
    · obtain rfl : k = s.size := by omega
      have hback := small_back HO.out
      go_wp2
      go_ret
      exact ⟨rfl, HW.out⟩

end Go.Proofs.YtagbndkfbnlpoaaGreatDoor
namespace Go.Proofs.YtagbndkfbnlpoaaGreatDoor
open Go.RowKit

set_option maxHeartbeats 400000 in
theorem prefix_any (s p : ByteArray) (w : World) (_hs : s.size ≤ 9223372036854775807) (_hp : p.size ≤ 9223372036854775807) :
    Calls Tryz.prog 25 #[.string s, .string p] w fun e w' => e = .returned (.bool (prefB s p)) ∧ w = w' := by
  by_cases h1 : p.size ≤ s.size
  · have d1 : decide (p.size ≤ s.size) = true := by simpa using h1
    have e : prefB s p = ((s.extract 0 p.size).toList == p.toList) := by unfold prefB; rw [d1]; rfl
    rw [e]
    clear e
    go_enter Tryz.func25, Tryz.ntmps25
    go_wp2
    go_ret
    exact ⟨rfl, rfl⟩
  · have d1 : decide (p.size ≤ s.size) = false := by simpa using h1
    have e : prefB s p = false := by unfold prefB; rw [d1]; rfl
    rw [e]
    clear e
    go_enter Tryz.func25, Tryz.ntmps25
    go_wp2
    go_ret
    exact ⟨rfl, rfl⟩

set_option maxHeartbeats 400000 in
theorem hasPrefix0_any (s p : ByteArray) (w : World) (_hs : s.size ≤ 9223372036854775807) (_hp : p.size ≤ 9223372036854775807) :
    Calls Tryz.prog 78 #[.string s, .string p] w fun e w' => e = .returned (.bool (prefB s p)) ∧ w = w' := by
  by_cases h1 : p.size ≤ s.size
  · have d1 : decide (p.size ≤ s.size) = true := by simpa using h1
    have e : prefB s p = ((s.extract 0 p.size).toList == p.toList) := by unfold prefB; rw [d1]; rfl
    rw [e]
    clear e
    go_enter Tryz.func78, Tryz.ntmps78
    go_wp2
    go_ret
    exact ⟨rfl, rfl⟩
  · have d1 : decide (p.size ≤ s.size) = false := by simpa using h1
    have e : prefB s p = false := by unfold prefB; rw [d1]; rfl
    rw [e]
    clear e
    go_enter Tryz.func78, Tryz.ntmps78
    go_wp2
    go_ret
    exact ⟨rfl, rfl⟩

set_option maxHeartbeats 400000 in
theorem hasPrefix_any (s p : ByteArray) (w : World) (hs : s.size ≤ 9223372036854775807) (hp : p.size ≤ 9223372036854775807) :
    Calls Tryz.prog 55 #[.string s, .string p] w fun e w' => e = .returned (.bool (prefB s p)) ∧ w = w' := by
  go_enter Tryz.func55, Tryz.ntmps55
  go_wp2_with (go_at_call 78; refine (hasPrefix0_any s p _ hs hp).mono ?_; rintro e w' ⟨rfl, rfl⟩)
  go_ret
  exact ⟨rfl, rfl⟩

end Go.Proofs.YtagbndkfbnlpoaaGreatDoor
