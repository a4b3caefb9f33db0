/-
  What Is of the document's own answer of layer 17 answers. Condition: the text is not longer than memory.
  Plain facts on frames of sound. No condition.
  The tables of package mp3, and whether a number is in one. No condition.
-/
import Derived.Test.YtkdjjlfpaciohaaGreatDoorZ26
import Derived.Test.YtkdjjlfpaciohaaGreatDoorZ20
import Derived.Test.YtkdjjlfpaciohaaGreatDoorZ2
import Derived.Test.YtkdjjlfpaciohaaGreatDoorZ18
import Derived.BigQuiet
import Derived.Deep.QuietTactic
import Derived.OwnWalk
import Derived.LoopTactic
import Derived.WalkKit
import Derived.Lib.Hide
namespace Go.Proofs.YtkdjjlfpaciohaaGreatDoor
open Go.RowKit

set_option maxHeartbeats 1000000 in
set_option maxRecDepth 100000 in
theorem ris_any (s : ByteArray) (w : World) (hs : s.size ≤ 140737488355328) :
    Calls Tryz.prog 67 #[.string s] w fun e w' => e = .returned (.bool (filW s)) ∧ w = w' := by
  have HM := Lib.hid (fun W => rbegins_any s mrkS W (by omega) (by decide))
  cases hm : begS s mrkS
  · have HE := Lib.hid (show filW s = false from by unfold filW; rw [hm]; rfl)
    rw [hm] at HM
    rw [HE.out]
    clear HE
    go_enter Tryz.func67, Tryz.ntmps67
    go_wp2_with (go_at_call 94; (with_reducible refine (HM.out _).mono ?_); rintro e w1 ⟨rfl, rfl⟩)
    go_ret
    exact ⟨rfl, rfl⟩
  · have HE := Lib.hid (show filW s = filA s 4 from by unfold filW; rw [hm]; rfl)
    rw [hm] at HM
    clear hm
    have HB := Lib.hid (fun i W => rbegins_any (s.extract i s.size) elmS W (by simp; omega) (by decide))
    have HP := Lib.hid (fun i W => rpadded_any (s.extract i s.size) wbmS W (by simp; omega) (by decide))
    go_enter Tryz.func67, Tryz.ntmps67
    go_wp2_with (go_at_call 94; (with_reducible refine (HM.out _).mono ?_); rintro e w1 ⟨rfl, rfl⟩)
    clear HM
    go_loop [3] (fun i => ∃ k : Nat, i = .int .i64 k ∧ Hid (filA s k = filA s 4)) (fun i => 38 - (intOf i).toNat)
    case atStart => exact ⟨4, rfl, Lib.hid rfl⟩
    case round =>
      obtain ⟨k, rfl, HK⟩ := hrel
      by_cases hin : k < s.size ∧ k < 38
      · obtain ⟨hk1, hk2⟩ := hin
        have HBK := Lib.hid (fun W => HB.out k W)
        have HF := Lib.hid (filA_step (s := s) (i := k) ⟨hk1, hk2⟩)
        cases hb : begS (s.extract k s.size) elmS
        · rw [hb] at HBK HF
          clear hb
          have HV := Lib.hid (HF.out.symm.trans HK.out)
          clear HF
          go_wp2_with (go_at_call 94; (with_reducible refine (HBK.out _).mono ?_); rintro e w1 ⟨rfl, rfl⟩)
          go_round
          case rel => exact ⟨k + 1, by go_num, Lib.hid HV.out⟩
          case measure => simp [intOf]; omega
        · rw [hb] at HBK HF
          clear hb
          by_cases h2 : k + 2 < s.size
          · obtain ⟨b, hb, eb⟩ : ∃ b : UInt8, s[k + 2]'h2 = b ∧ Hid (s[k + 2]! = b) := ⟨_, rfl, getElem!_pos s (k + 2) h2⟩
            rw [eb.out] at HF
            have HW := Lib.hid (fun W => rwidth_any b W)
            have hw1 := widB_pos b
            have hw8 := widB_le b
            generalize widB b = z at *
            by_cases h3 : k + 2 + z + 4 < s.size
            · have HPK := Lib.hid (fun W => HP.out (k + 2 + z) W)
              cases hp : padB (s.extract (k + 2 + z) s.size) wbmS
              · rw [hp] at HPK HF
                clear hp
                have HV := Lib.hid (show filA s (k + 2 + z + 1) = filA s 4 from by rw [← HK.out, HF.out, if_pos rfl, if_pos h2, if_pos h3]; rfl)
                clear HF
                go_wp2_with (first
                  | (go_at_call 94; (with_reducible refine (HBK.out _).mono ?_); rintro e w1 ⟨rfl, rfl⟩)
                  | (go_at_call 95; (with_reducible refine (HW.out _).mono ?_); rintro e w1 ⟨rfl, rfl⟩)
                  | (go_at_call 96; (refine (HPK.out _).mono ?_); rintro e w1 ⟨rfl, rfl⟩))
                go_round
                case rel => exact ⟨k + 2 + z + 1, by go_num, Lib.hid HV.out⟩
                case measure => simp [intOf]; omega
              · rw [hp] at HPK HF
                clear hp
                have HV := Lib.hid (show filW s = true from by rw [HE.out, ← HK.out, HF.out, if_pos rfl, if_pos h2, if_pos h3]; rfl)
                clear HF
                go_wp2_with (first
                  | (go_at_call 94; (with_reducible refine (HBK.out _).mono ?_); rintro e w1 ⟨rfl, rfl⟩)
                  | (go_at_call 95; (with_reducible refine (HW.out _).mono ?_); rintro e w1 ⟨rfl, rfl⟩)
                  | (go_at_call 96; (refine (HPK.out _).mono ?_); rintro e w1 ⟨rfl, rfl⟩))
                go_ret
                exact ⟨by rw [HV.out]; rfl, rfl⟩
            · have HV := Lib.hid (show filW s = false from by rw [HE.out, ← HK.out, HF.out, if_pos rfl, if_pos h2, if_neg h3])
              clear HF
              go_wp2_with (first
                | (go_at_call 94; (with_reducible refine (HBK.out _).mono ?_); rintro e w1 ⟨rfl, rfl⟩)
                | (go_at_call 95; (with_reducible refine (HW.out _).mono ?_); rintro e w1 ⟨rfl, rfl⟩))
              go_ret
              exact ⟨by rw [HV.out]; rfl, rfl⟩
          · have HV := Lib.hid (show filW s = false from by rw [HE.out, ← HK.out, HF.out, if_pos rfl, if_neg h2])
            clear HF
            go_wp2_with (go_at_call 94; (with_reducible refine (HBK.out _).mono ?_); rintro e w1 ⟨rfl, rfl⟩)
            go_ret
            exact ⟨by rw [HV.out]; rfl, rfl⟩
      · have HV := Lib.hid (show filW s = false from by rw [HE.out, ← HK.out, filA_over hin])
        by_cases hk1 : k < s.size
        · have hk2 : ¬k < 38 := fun h => hin ⟨hk1, h⟩
          go_wp2
          go_ret
          exact ⟨by rw [HV.out]; rfl, rfl⟩
        · go_wp2
          go_ret
          exact ⟨by rw [HV.out]; rfl, rfl⟩

end Go.Proofs.YtkdjjlfpaciohaaGreatDoor
namespace Go.Proofs.YtkdjjlfpaciohaaGreatDoor

/-- A frame. -/
structure Frm where
  ver : Int
  lay : Int
  rate : Int
  freq : Int
  pad : Bool
/-- The frame of nothing. -/
def zeroF : Frm := ⟨0, 0, 0, 0, false⟩
/-- The rates of a version. -/
def ratL (odd : Bool) : List Nat :=
  match odd with
  | true => [0, 32000, 40000, 48000, 56000, 64000, 80000, 96000, 112000, 128000, 160000, 192000, 224000, 256000, 320000]
  | false => [0, 8000, 16000, 24000, 32000, 40000, 48000, 56000, 64000, 80000, 96000, 112000, 128000, 144000, 160000]
def freL : List Nat := [44100, 48000, 32000]
def ratN (odd : Bool) (n : Nat) : Nat := (ratL odd).getD n 0
def freN (n : Nat) : Nat := freL.getD n 32000
/-- Whether a version is odd. -/
def oddB (v : Int) : Bool := decide (v % 2 = 1)
/-- Whether these two bytes are those of a head. -/
def hedB (b c : UInt8) : Bool := decide (224 ≤ b.toNat) && (decide (b.toNat / 2 % 4 = 1) && (decide (c.toNat / 16 < 15) && decide (c.toNat / 4 % 4 < 3)))
/-- The frame that they tell. -/
def hedF (b c : UInt8) : Frm := ⟨(b.toNat / 8 % 4 : Nat), 3, (ratN (oddB (b.toNat / 8 % 4 : Nat)) (c.toNat / 16) : Nat), (freN (c.toNat / 4 % 4) : Nat), decide (c.toNat / 2 % 2 = 1)⟩
def hdO (s : ByteArray) : Bool := decide (4 ≤ s.size) && (decide (s[0]!.toNat = 255) && hedB s[1]! s[2]!)
def hdF (s : ByteArray) : Frm := if hdO s = true then hedF s[1]! s[2]! else zeroF
/-- How many samples a frame has. -/
def lenN (v : Int) : Nat := match oddB v with | true => 1152 | false => 576
/-- Whether a frame is one that a head tells. -/
def gdB (f : Frm) : Bool := decide (0 ≤ f.ver) && (decide (f.ver < 4) && (decide (f.lay = 3) && ((ratL (oddB f.ver)).any (fun r => decide ((r : Int) = f.rate)) && freL.any (fun r => decide ((r : Int) = f.freq)))))
def szF (f : Frm) : Nat := if gdB f = true then f.rate.toNat * (lenN f.ver / 8) / f.freq.toNat + (if f.pad then 1 else 0) else 0
/-- How many bytes the first frame has, if it is whole. -/
def nxN (s : ByteArray) : Nat := if szF (hdF s) < 4 ∨ s.size < szF (hdF s) then 0 else szF (hdF s)

theorem hdF_yes {s : ByteArray} (h : hdO s = true) : hdF s = hedF s[1]! s[2]! := if_pos h
theorem hdF_no {s : ByteArray} (h : hdO s = false) : hdF s = zeroF := if_neg (by rw [h]; decide)
theorem gdB_zero : gdB zeroF = false := by kernel_rfl
theorem szF_no {f : Frm} (h : gdB f = false) : szF f = 0 := if_neg (by rw [h]; decide)
theorem szF_yes {f : Frm} (h : gdB f = true) : szF f = f.rate.toNat * (lenN f.ver / 8) / f.freq.toNat + (if f.pad then 1 else 0) := if_pos h
theorem hedB_all {b c : UInt8} (h : hedB b c = true) : 224 ≤ b.toNat ∧ b.toNat / 2 % 4 = 1 ∧ c.toNat / 16 < 15 ∧ c.toNat / 4 % 4 < 3 := by
  unfold hedB at h
  simpa only [Bool.and_eq_true, decide_eq_true_eq] using h
theorem hdO_all {s : ByteArray} (h : hdO s = true) : 4 ≤ s.size ∧ s[0]!.toNat = 255 ∧ hedB s[1]! s[2]! = true := by
  unfold hdO at h
  simpa only [Bool.and_eq_true, decide_eq_true_eq] using h
theorem ratL_len (o : Bool) : (ratL o).length = 15 := by cases o <;> rfl
theorem ratN_in {o : Bool} {n : Nat} (h : n < 15) : (ratL o).any (fun r => decide ((r : Int) = (ratN o n : Nat))) = true := by
  have hl : n < (ratL o).length := by rw [ratL_len]; exact h
  have e : ratN o n = (ratL o)[n] := by unfold ratN; rw [List.getD_eq_getElem?_getD, List.getElem?_eq_getElem hl]; rfl
  exact List.any_eq_true.2 ⟨_, List.getElem_mem hl, by rw [e]; simp⟩
theorem freN_in {n : Nat} (h : n < 3) : freL.any (fun r => decide ((r : Int) = (freN n : Nat))) = true := by
  have hl : n < freL.length := h
  have e : freN n = freL[n] := by unfold freN; rw [List.getD_eq_getElem?_getD, List.getElem?_eq_getElem hl]; rfl
  exact List.any_eq_true.2 ⟨_, List.getElem_mem hl, by rw [e]; simp⟩
theorem hedF_good {b c : UInt8} (h : hedB b c = true) : gdB (hedF b c) = true := by
  obtain ⟨_, _, h1, h2⟩ := hedB_all h
  unfold gdB hedF
  simp only [ratN_in h1, freN_in h2, Bool.and_eq_true, decide_eq_true_eq, Bool.true_and, and_true]
  omega
theorem hdF_good (s : ByteArray) : gdB (hdF s) = hdO s := by
  cases h : hdO s
  · rw [hdF_no h, gdB_zero]
  · rw [hdF_yes h, hedF_good (hdO_all h).2.2]
theorem gdB_all {f : Frm} (h : gdB f = true) : 0 ≤ f.ver ∧ f.ver < 4 ∧ f.lay = 3 ∧ 0 ≤ f.rate ∧ f.rate ≤ 320000 ∧ 32000 ≤ f.freq ∧ f.freq ≤ 48000 := by
  unfold gdB at h
  simp only [Bool.and_eq_true, decide_eq_true_eq] at h
  obtain ⟨h1, h2, h3, h4, h5⟩ := h
  obtain ⟨r, hr, e⟩ := List.any_eq_true.1 h4
  obtain ⟨q, hq, e2⟩ := List.any_eq_true.1 h5
  have e := of_decide_eq_true e
  have e2 := of_decide_eq_true e2
  have b1 : r ≤ 320000 := by
    have : (ratL (oddB f.ver)).all (fun r => decide (r ≤ 320000)) = true := by cases oddB f.ver <;> rfl
    simpa using List.all_eq_true.1 this r hr
  have b2 : 32000 ≤ q ∧ q ≤ 48000 := by
    have : freL.all (fun r => decide (32000 ≤ r) && decide (r ≤ 48000)) = true := rfl
    simpa using List.all_eq_true.1 this q hq
  omega
theorem lenN_le (v : Int) : lenN v / 8 ≤ 144 := by unfold lenN; split <;> decide
theorem szF_le (f : Frm) : szF f ≤ 1441 := by
  cases h : gdB f
  · rw [szF_no h]; omega
  · obtain ⟨_, _, _, h1, h2, h3, _⟩ := gdB_all h
    have h4 := lenN_le f.ver
    rw [szF_yes h]
    have a1 : f.rate.toNat * (lenN f.ver / 8) ≤ 320000 * 144 := Nat.mul_le_mul (by omega) h4
    have a2 : f.rate.toNat * (lenN f.ver / 8) / f.freq.toNat ≤ 320000 * 144 / 32000 := Nat.div_le_div a1 (by omega) (by decide)
    have a3 : (if f.pad then 1 else 0) ≤ 1 := by split <;> omega
    omega
theorem nxN_le (s : ByteArray) : nxN s ≤ s.size := by unfold nxN; split <;> omega
/-- A frame with which a text begins, and whose size says that it is whole; else nothing. -/
def fsF (s : ByteArray) : Frm := if nxN s = 0 then zeroF else hdF s
/-- Whether a text is a sound. -/
def isO (s : ByteArray) : Bool := decide (nxN s ≠ 0) && hdO (s.extract (nxN s) s.size)

end Go.Proofs.YtkdjjlfpaciohaaGreatDoor
namespace Go.Proofs.YtkdjjlfpaciohaaGreatDoor
open Go.RowKit

/-- A frame's value. -/
abbrev frmV (f : Frm) : Value := .agg #[.int .i64 f.ver, .int .i64 f.lay, .int .i64 f.rate, .int .i64 f.freq, .bool f.pad]
theorem four_ways {v : Int} (h : 0 ≤ v ∧ v < 4) : v = 0 ∨ v = 1 ∨ v = 2 ∨ v = 3 := by omega
set_option maxRecDepth 100000 in
theorem even_any (v : Int) (w : World) (h : 0 ≤ v ∧ v < 4) :
    Calls Tryz.prog 142 #[.int .i64 v] w fun e w' => e = .returned (.bool (!oddB v)) ∧ w = w' := by
  rcases four_ways h with rfl | rfl | rfl | rfl
  all_goals
    as_aux_lemma =>
    go_enter Tryz.func142, Tryz.ntmps142
    go_wp2
    go_ret
    exact ⟨rfl, rfl⟩
set_option maxRecDepth 100000 in
theorem length_parts (v l r q : Int) (p : Bool) (w : World) (h : 0 ≤ v ∧ v < 4) :
    Calls Tryz.prog 141 #[frmV ⟨v, l, r, q, p⟩] w fun e w' => e = .returned (.int .i64 (lenN v : Nat)) ∧ Below w.heap.size w w' := by
  have HE := Lib.hid (fun W => even_any v W h)
  unfold lenN
  generalize oddB v = o at *
  cases o
  all_goals
    as_aux_lemma =>
    go_enter Tryz.func141, Tryz.ntmps141
    go_wp2_with (go_at_call 142; (with_reducible refine (HE.out _).mono ?_); rintro e w1 ⟨rfl, rfl⟩)
    go_ret
    exact ⟨rfl, (Below.refl _ _).alloc (Nat.le_refl _) _⟩
/-- A table's value. -/
def tabL (l : List Nat) : Array Value := (l.map (fun n => Value.int .i64 (n : Nat))).toArray
set_option maxRecDepth 100000 in
set_option maxHeartbeats 4000000 in
theorem rates_even (v : Int) (w : World) (h : 0 ≤ v ∧ v < 4) (ho : oddB v = false) :
    Calls Tryz.prog 120 #[.int .i64 v] w fun e w' => e = .returned (.agg (tabL (ratL false))) ∧ Below w.heap.size w w' := by
  have HE := Lib.hid (fun W => even_any v W h)
  rw [ho] at HE
  go_enter Tryz.func120, Tryz.ntmps120
  go_wp2_with (go_at_call 142; (with_reducible refine (HE.out _).mono ?_); rintro e w1 ⟨rfl, rfl⟩)
  exact bodyPost_ret (v := .agg (tabL (ratL false))) (by simp [results, Tryz.results120, go_sem, tabL, ratL]) rfl ⟨rfl, (Below.refl w.heap.size w).alloc (Nat.le_refl _) _⟩
set_option maxRecDepth 100000 in
set_option maxHeartbeats 4000000 in
theorem rates_odd (v : Int) (w : World) (h : 0 ≤ v ∧ v < 4) (ho : oddB v = true) :
    Calls Tryz.prog 120 #[.int .i64 v] w fun e w' => e = .returned (.agg (tabL (ratL true))) ∧ Below w.heap.size w w' := by
  have HE := Lib.hid (fun W => even_any v W h)
  rw [ho] at HE
  go_enter Tryz.func120, Tryz.ntmps120
  go_wp2_with (go_at_call 142; (with_reducible refine (HE.out _).mono ?_); rintro e w1 ⟨rfl, rfl⟩)
  exact bodyPost_ret (v := .agg (tabL (ratL true))) (by simp [results, Tryz.results120, go_sem, tabL, ratL]) rfl ⟨rfl, (Below.refl w.heap.size w).alloc (Nat.le_refl _) _⟩
theorem rates_any (v : Int) (w : World) (h : 0 ≤ v ∧ v < 4) :
    Calls Tryz.prog 120 #[.int .i64 v] w fun e w' => e = .returned (.agg (tabL (ratL (oddB v)))) ∧ Below w.heap.size w w' := by
  cases ho : oddB v
  · exact rates_even v w h ho
  · exact rates_odd v w h ho
set_option maxRecDepth 100000 in
theorem freqs_any (w : World) :
    Calls Tryz.prog 121 #[] w fun e w' => e = .returned (.agg (tabL freL)) ∧ Below w.heap.size w w' := by
  go_enter Tryz.func121, Tryz.ntmps121
  go_wp2
  exact bodyPost_ret (v := .agg (tabL freL)) (by simp [results, Tryz.results121, go_sem, tabL, freL]) rfl ⟨rfl, (Below.refl w.heap.size w).alloc (Nat.le_refl _) _⟩

end Go.Proofs.YtkdjjlfpaciohaaGreatDoor
