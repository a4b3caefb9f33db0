/-
  What the document's own answers of layer 17 but Is answer. Condition: the texts are not longer than memory.
  What Is of the document's own answer of layer 17 answers. Condition: the text is not longer than memory.
  Plain facts on frames of sound. No condition.
-/
import Derived.Test.YtjaockmbnjflaaaGreatDoorZ21
import Derived.Test.YtjaockmbnjflaaaGreatDoorZ16
import Derived.Test.YtjaockmbnjflaaaGreatDoorZ3
import Derived.Test.YtjaockmbnjflaaaGreatDoorZ7
import Derived.BigQuiet
import Derived.Deep.QuietTactic
import Derived.OwnWalk
import Derived.LoopTactic
import Derived.WalkKit
import Derived.Lib.Hide
namespace Go.Proofs.YtjaockmbnjflaaaGreatDoor
open Go.RowKit

/-- The bit that a first byte is held against when n bytes are reckoned. -/
def widP (n : Nat) : Nat := 128 / 2 ^ (n - 1)
theorem widP_next {n : Nat} (h : 1 ≤ n) : widP (n + 1) = widP n / 2 := by
  unfold widP
  rw [show n + 1 - 1 = (n - 1) + 1 from by omega, Nat.pow_succ, Nat.div_div_eq_div_mul]
theorem widP_le (n : Nat) : widP n ≤ 128 := Nat.div_le_self _ _
theorem widB_step (b : UInt8) {n : Nat} (h1 : 1 ≤ n) (h8 : n < 8) (h : n ≤ widB b) : (b.toNat < widP n → n + 1 ≤ widB b) ∧ (¬b.toNat < widP n → widB b = n) := by
  have := bytes_all (p := fun b => (List.range 8).all fun n => decide (n < 1) || (decide (widB b < n) || ((decide (b.toNat < widP n) && decide (n + 1 ≤ widB b)) || (!decide (b.toNat < widP n) && decide (widB b = n))))) (by kernel_rfl) b
  have := List.all_eq_true.1 this n (List.mem_range.2 h8)
  simp only [Bool.or_eq_true, Bool.and_eq_true, decide_eq_true_eq, Bool.not_eq_true', decide_eq_false_iff_not] at this
  omega

set_option maxHeartbeats 400000 in
theorem rwidth_any (b : UInt8) (w : World) :
    Calls Tryz.prog 74 #[.int .u8 (b.toNat : Int)] w fun e w' => e = .returned (.int .i64 (widB b : Nat)) ∧ w = w' := by
  have hb := b.toNat_lt
  have h1 := widB_pos b
  have hw8 := widB_le b
  have HS := Lib.hid (fun n => widB_step b (n := n))
  generalize widB b = K at *
  generalize b.toNat = B at *
  go_enter Tryz.func74, Tryz.ntmps74
  go_wp2
  go_loop [3, 4] (fun n p => ∃ k : Nat, 1 ≤ k ∧ k ≤ K ∧ n = .int .i64 k ∧ p = .int .i64 (widP k : Nat)) (fun n _ => 9 - (intOf n).toNat)
  case atStart => exact ⟨1, by omega, by omega, rfl, rfl⟩
  case round =>
    obtain ⟨k, hk1, hk, rfl, rfl⟩ := hrel
    have hp := widP_le k
    by_cases h8 : k < 8
    · have HT := Lib.hid (HS.out k hk1 h8 hk)
      have HP := Lib.hid (widP_next hk1)
      generalize widP k = p at *
      by_cases hlt : B < p
      · go_wp2
        go_round
        case rel => exact ⟨k + 1, by omega, HT.out.1 hlt, by go_num, by rw [HP.out]; go_num⟩
        case measure => simp [intOf]; omega
      · have hK := Lib.hid (HT.out.2 hlt)
        go_wp2
        go_ret
        exact ⟨by rw [hK.out]; rfl, rfl⟩
    · have hK := Lib.hid (show K = k from by omega)
      go_wp2
      go_ret
      exact ⟨by rw [hK.out]; rfl, rfl⟩

set_option maxHeartbeats 400000 in
theorem rbegins_any (s t : ByteArray) (w : World) (_hs : s.size ≤ 9223372036854775807) (_ht : t.size ≤ 9223372036854775807) :
    Calls Tryz.prog 73 #[.string s, .string t] w fun e w' => e = .returned (.bool (begS s t)) ∧ w = w' := by
  have hF := Lib.hid (show begS s t = (decide (t.size ≤ s.size) && (s.extract 0 t.size).toList == t.toList) from rfl)
  rw [hF.out]
  by_cases h : t.size ≤ s.size
  · go_enter Tryz.func73, Tryz.ntmps73
    go_wp2
    go_ret
    exact ⟨by simp [h], rfl⟩
  · go_enter Tryz.func73, Tryz.ntmps73
    go_wp2
    go_ret
    exact ⟨by simp [h], rfl⟩

set_option maxHeartbeats 1000000 in
theorem rpadded_any (s t : ByteArray) (w : World) (hs : s.size ≤ 9223372036854775806) (ht : t.size ≤ 9223372036854775807) :
    Calls Tryz.prog 75 #[.string s, .string t] w fun e w' => e = .returned (.bool (padB s t)) ∧ w = w' := by
  have HP := Lib.hid (show padA s t 0 = padB s t from rfl)
  have HB := Lib.hid (fun i W => rbegins_any (s.extract i s.size) t W (by simp; omega) ht)
  go_enter Tryz.func75, Tryz.ntmps75
  go_wp2
  go_loop [5] (fun i => ∃ k : Nat, k ≤ s.size + 1 ∧ i = .int .i64 k ∧ Hid (k ≤ s.size → padA s t k = padB s t) ∧ Hid (k = s.size + 1 → padB s t = false)) (fun i => s.size + 1 - (intOf i).toNat)
  case atStart => exact ⟨0, by omega, rfl, Lib.hid fun _ => HP.out, Lib.hid fun h => by omega⟩
  case round =>
    obtain ⟨k, hk1, rfl, HK, HL⟩ := hrel
    by_cases hk : k ≤ s.size
    · have HBK := Lib.hid (fun W => HB.out k W)
      have HH := Lib.hid (padA_here (s := s) (t := t) hk)
      have HE := Lib.hid (fun h2 => padA_end (s := s) (t := t) (i := k) h2)
      have HS := Lib.hid (fun h2 => padA_stop (s := s) (t := t) (i := k) h2)
      have HN := Lib.hid (fun h2 => padA_next (s := s) (t := t) (i := k) h2)
      have HKK := Lib.hid (HK.out hk)
      clear HB HK HL
      cases hc : begS (s.extract k s.size) t
      · rw [hc] at HBK
        by_cases hlt : k < s.size
        · obtain ⟨b, hb, eb⟩ : ∃ b : UInt8, s[k]'hlt = b ∧ Hid (s[k]! = b) := ⟨_, rfl, getElem!_pos s k hlt⟩
          by_cases hz : b = 0
          · subst hz
            have HV := Lib.hid (HN.out hlt hc eb.out)
            go_wp2_with (go_at_call 73; (with_reducible refine (HBK.out _).mono ?_); rintro e w1 ⟨rfl, rfl⟩)
            go_round
            case rel => exact ⟨k + 1, by omega, by go_num, Lib.hid fun _ => HV.out.symm.trans HKK.out, Lib.hid fun h => by omega⟩
            case measure => simp [intOf]; omega
          · have HV := Lib.hid (HKK.out.symm.trans (HS.out hlt hc (by rw [eb.out]; exact hz)))
            have hbz : ((b.toNat : Int) == 0) = false := byte_ne hz rfl
            go_wp2_with (go_at_call 73; (with_reducible refine (HBK.out _).mono ?_); rintro e w1 ⟨rfl, rfl⟩)
            go_ret
            exact ⟨by rw [HV.out]; rfl, rfl⟩
        · have HV := Lib.hid (HKK.out.symm.trans (HE.out (by omega) hc))
          go_wp2_with (go_at_call 73; (with_reducible refine (HBK.out _).mono ?_); rintro e w1 ⟨rfl, rfl⟩)
          go_round
          case rel => exact ⟨k + 1, by omega, by go_num, Lib.hid fun h => by omega, Lib.hid fun _ => HV.out⟩
          case measure => simp [intOf]; omega
      · rw [hc] at HBK
        have HV := Lib.hid (HKK.out.symm.trans (HH.out hc))
        go_wp2_with (go_at_call 73; (with_reducible refine (HBK.out _).mono ?_); rintro e w1 ⟨rfl, rfl⟩)
        go_ret
        exact ⟨by rw [HV.out]; rfl, rfl⟩
    · have HV := Lib.hid (HL.out (by omega))
      go_wp2
      go_ret
      exact ⟨by rw [HV.out]; rfl, rfl⟩

end Go.Proofs.YtjaockmbnjflaaaGreatDoor
namespace Go.Proofs.YtjaockmbnjflaaaGreatDoor
open Go.RowKit

set_option maxHeartbeats 1000000 in
set_option maxRecDepth 100000 in
theorem ris_any (s : ByteArray) (w : World) (hs : s.size ≤ 140737488355328) :
    Calls Tryz.prog 47 #[.string s] w fun e w' => e = .returned (.bool (filW s)) ∧ w = w' := by
  have HM := Lib.hid (fun W => rbegins_any s mrkS W (by omega) (by decide))
  cases hm : begS s mrkS
  · have HE := Lib.hid (show filW s = false from by unfold filW; rw [hm]; rfl)
    rw [hm] at HM
    rw [HE.out]
    clear HE
    go_enter Tryz.func47, Tryz.ntmps47
    go_wp2_with (go_at_call 73; (with_reducible refine (HM.out _).mono ?_); rintro e w1 ⟨rfl, rfl⟩)
    go_ret
    exact ⟨rfl, rfl⟩
  · have HE := Lib.hid (show filW s = filA s 4 from by unfold filW; rw [hm]; rfl)
    rw [hm] at HM
    clear hm
    have HB := Lib.hid (fun i W => rbegins_any (s.extract i s.size) elmS W (by simp; omega) (by decide))
    have HP := Lib.hid (fun i W => rpadded_any (s.extract i s.size) wbmS W (by simp; omega) (by decide))
    go_enter Tryz.func47, Tryz.ntmps47
    go_wp2_with (go_at_call 73; (with_reducible refine (HM.out _).mono ?_); rintro e w1 ⟨rfl, rfl⟩)
    clear HM
    go_loop [3] (fun i => ∃ k : Nat, i = .int .i64 k ∧ Hid (filA s k = filA s 4)) (fun i => 38 - (intOf i).toNat)
    case atStart => exact ⟨4, rfl, Lib.hid rfl⟩
    case round =>
      obtain ⟨k, rfl, HK⟩ := hrel
      by_cases hin : k < s.size ∧ k < 38
      · obtain ⟨hk1, hk2⟩ := hin
        have HBK := Lib.hid (fun W => HB.out k W)
        have HF := Lib.hid (filA_step (s := s) (i := k) ⟨hk1, hk2⟩)
        cases hb : begS (s.extract k s.size) elmS
        · rw [hb] at HBK HF
          clear hb
          have HV := Lib.hid (HF.out.symm.trans HK.out)
          clear HF
          go_wp2_with (go_at_call 73; (with_reducible refine (HBK.out _).mono ?_); rintro e w1 ⟨rfl, rfl⟩)
          go_round
          case rel => exact ⟨k + 1, by go_num, Lib.hid HV.out⟩
          case measure => simp [intOf]; omega
        · rw [hb] at HBK HF
          clear hb
          by_cases h2 : k + 2 < s.size
          · obtain ⟨b, hb, eb⟩ : ∃ b : UInt8, s[k + 2]'h2 = b ∧ Hid (s[k + 2]! = b) := ⟨_, rfl, getElem!_pos s (k + 2) h2⟩
            rw [eb.out] at HF
            have HW := Lib.hid (fun W => rwidth_any b W)
            have hw1 := widB_pos b
            have hw8 := widB_le b
            generalize widB b = z at *
            by_cases h3 : k + 2 + z + 4 < s.size
            · have HPK := Lib.hid (fun W => HP.out (k + 2 + z) W)
              cases hp : padB (s.extract (k + 2 + z) s.size) wbmS
              · rw [hp] at HPK HF
                clear hp
                have HV := Lib.hid (show filA s (k + 2 + z + 1) = filA s 4 from by rw [← HK.out, HF.out, if_pos rfl, if_pos h2, if_pos h3]; rfl)
                clear HF
                go_wp2_with (first
                  | (go_at_call 73; (with_reducible refine (HBK.out _).mono ?_); rintro e w1 ⟨rfl, rfl⟩)
                  | (go_at_call 74; (with_reducible refine (HW.out _).mono ?_); rintro e w1 ⟨rfl, rfl⟩)
                  | (go_at_call 75; (refine (HPK.out _).mono ?_); rintro e w1 ⟨rfl, rfl⟩))
                go_round
                case rel => exact ⟨k + 2 + z + 1, by go_num, Lib.hid HV.out⟩
                case measure => simp [intOf]; omega
              · rw [hp] at HPK HF
                clear hp
                have HV := Lib.hid (show filW s = true from by rw [HE.out, ← HK.out, HF.out, if_pos rfl, if_pos h2, if_pos h3]; rfl)
                clear HF
                go_wp2_with (first
                  | (go_at_call 73; (with_reducible refine (HBK.out _).mono ?_); rintro e w1 ⟨rfl, rfl⟩)
                  | (go_at_call 74; (with_reducible refine (HW.out _).mono ?_); rintro e w1 ⟨rfl, rfl⟩)
                  | (go_at_call 75; (refine (HPK.out _).mono ?_); rintro e w1 ⟨rfl, rfl⟩))
                go_ret
                exact ⟨by rw [HV.out]; rfl, rfl⟩
            · have HV := Lib.hid (show filW s = false from by rw [HE.out, ← HK.out, HF.out, if_pos rfl, if_pos h2, if_neg h3])
              clear HF
              go_wp2_with (first
                | (go_at_call 73; (with_reducible refine (HBK.out _).mono ?_); rintro e w1 ⟨rfl, rfl⟩)
                | (go_at_call 74; (with_reducible refine (HW.out _).mono ?_); rintro e w1 ⟨rfl, rfl⟩))
              go_ret
              exact ⟨by rw [HV.out]; rfl, rfl⟩
          · have HV := Lib.hid (show filW s = false from by rw [HE.out, ← HK.out, HF.out, if_pos rfl, if_neg h2])
            clear HF
            go_wp2_with (go_at_call 73; (with_reducible refine (HBK.out _).mono ?_); rintro e w1 ⟨rfl, rfl⟩)
            go_ret
            exact ⟨by rw [HV.out]; rfl, rfl⟩
      · have HV := Lib.hid (show filW s = false from by rw [HE.out, ← HK.out, filA_over hin])
        by_cases hk1 : k < s.size
        · have hk2 : ¬k < 38 := fun h => hin ⟨hk1, h⟩
          go_wp2
          go_ret
          exact ⟨by rw [HV.out]; rfl, rfl⟩
        · go_wp2
          go_ret
          exact ⟨by rw [HV.out]; rfl, rfl⟩

end Go.Proofs.YtjaockmbnjflaaaGreatDoor
namespace Go.Proofs.YtjaockmbnjflaaaGreatDoor

/-- A frame. -/
structure Frm where
  ver : Int
  lay : Int
  rate : Int
  freq : Int
  pad : Bool
/-- The frame of nothing. -/
def zeroF : Frm := ⟨0, 0, 0, 0, false⟩
/-- The rates of a version. -/
def ratL (odd : Bool) : List Nat :=
  match odd with
  | true => [0, 32000, 40000, 48000, 56000, 64000, 80000, 96000, 112000, 128000, 160000, 192000, 224000, 256000, 320000]
  | false => [0, 8000, 16000, 24000, 32000, 40000, 48000, 56000, 64000, 80000, 96000, 112000, 128000, 144000, 160000]
def freL : List Nat := [44100, 48000, 32000]
def ratN (odd : Bool) (n : Nat) : Nat := (ratL odd).getD n 0
def freN (n : Nat) : Nat := freL.getD n 32000
/-- Whether a version is odd. -/
def oddB (v : Int) : Bool := decide (v % 2 = 1)
/-- Whether these two bytes are those of a head. -/
def hedB (b c : UInt8) : Bool := decide (224 ≤ b.toNat) && (decide (b.toNat / 2 % 4 = 1) && (decide (c.toNat / 16 < 15) && decide (c.toNat / 4 % 4 < 3)))
/-- The frame that they tell. -/
def hedF (b c : UInt8) : Frm := ⟨(b.toNat / 8 % 4 : Nat), 3, (ratN (oddB (b.toNat / 8 % 4 : Nat)) (c.toNat / 16) : Nat), (freN (c.toNat / 4 % 4) : Nat), decide (c.toNat / 2 % 2 = 1)⟩
def hdO (s : ByteArray) : Bool := decide (4 ≤ s.size) && (decide (s[0]!.toNat = 255) && hedB s[1]! s[2]!)
def hdF (s : ByteArray) : Frm := if hdO s = true then hedF s[1]! s[2]! else zeroF
/-- How many samples a frame has. -/
def lenN (v : Int) : Nat := match oddB v with | true => 1152 | false => 576
/-- Whether a frame is one that a head tells. -/
def gdB (f : Frm) : Bool := decide (0 ≤ f.ver) && (decide (f.ver < 4) && (decide (f.lay = 3) && ((ratL (oddB f.ver)).any (fun r => decide ((r : Int) = f.rate)) && freL.any (fun r => decide ((r : Int) = f.freq)))))
def szF (f : Frm) : Nat := if gdB f = true then f.rate.toNat * (lenN f.ver / 8) / f.freq.toNat + (if f.pad then 1 else 0) else 0
/-- How many bytes the first frame has, if it is whole. -/
def nxN (s : ByteArray) : Nat := if szF (hdF s) < 4 ∨ s.size < szF (hdF s) then 0 else szF (hdF s)

theorem hdF_yes {s : ByteArray} (h : hdO s = true) : hdF s = hedF s[1]! s[2]! := if_pos h
theorem hdF_no {s : ByteArray} (h : hdO s = false) : hdF s = zeroF := if_neg (by rw [h]; decide)
theorem gdB_zero : gdB zeroF = false := by kernel_rfl
theorem szF_no {f : Frm} (h : gdB f = false) : szF f = 0 := if_neg (by rw [h]; decide)
theorem szF_yes {f : Frm} (h : gdB f = true) : szF f = f.rate.toNat * (lenN f.ver / 8) / f.freq.toNat + (if f.pad then 1 else 0) := if_pos h
theorem hedB_all {b c : UInt8} (h : hedB b c = true) : 224 ≤ b.toNat ∧ b.toNat / 2 % 4 = 1 ∧ c.toNat / 16 < 15 ∧ c.toNat / 4 % 4 < 3 := by
  unfold hedB at h
  simpa only [Bool.and_eq_true, decide_eq_true_eq] using h
theorem hdO_all {s : ByteArray} (h : hdO s = true) : 4 ≤ s.size ∧ s[0]!.toNat = 255 ∧ hedB s[1]! s[2]! = true := by
  unfold hdO at h
  simpa only [Bool.and_eq_true, decide_eq_true_eq] using h
theorem ratL_len (o : Bool) : (ratL o).length = 15 := by cases o <;> rfl
theorem ratN_in {o : Bool} {n : Nat} (h : n < 15) : (ratL o).any (fun r => decide ((r : Int) = (ratN o n : Nat))) = true := by
  have hl : n < (ratL o).length := by rw [ratL_len]; exact h
  have e : ratN o n = (ratL o)[n] := by unfold ratN; rw [List.getD_eq_getElem?_getD, List.getElem?_eq_getElem hl]; rfl
  exact List.any_eq_true.2 ⟨_, List.getElem_mem hl, by rw [e]; simp⟩
theorem freN_in {n : Nat} (h : n < 3) : freL.any (fun r => decide ((r : Int) = (freN n : Nat))) = true := by
  have hl : n < freL.length := h
  have e : freN n = freL[n] := by unfold freN; rw [List.getD_eq_getElem?_getD, List.getElem?_eq_getElem hl]; rfl
  exact List.any_eq_true.2 ⟨_, List.getElem_mem hl, by rw [e]; simp⟩
theorem hedF_good {b c : UInt8} (h : hedB b c = true) : gdB (hedF b c) = true := by
  obtain ⟨_, _, h1, h2⟩ := hedB_all h
  unfold gdB hedF
  simp only [ratN_in h1, freN_in h2, Bool.and_eq_true, decide_eq_true_eq, Bool.true_and, and_true]
  omega
theorem hdF_good (s : ByteArray) : gdB (hdF s) = hdO s := by
  cases h : hdO s
  · rw [hdF_no h, gdB_zero]
  · rw [hdF_yes h, hedF_good (hdO_all h).2.2]
theorem gdB_all {f : Frm} (h : gdB f = true) : 0 ≤ f.ver ∧ f.ver < 4 ∧ f.lay = 3 ∧ 0 ≤ f.rate ∧ f.rate ≤ 320000 ∧ 32000 ≤ f.freq ∧ f.freq ≤ 48000 := by
  unfold gdB at h
  simp only [Bool.and_eq_true, decide_eq_true_eq] at h
  obtain ⟨h1, h2, h3, h4, h5⟩ := h
  obtain ⟨r, hr, e⟩ := List.any_eq_true.1 h4
  obtain ⟨q, hq, e2⟩ := List.any_eq_true.1 h5
  have e := of_decide_eq_true e
  have e2 := of_decide_eq_true e2
  have b1 : r ≤ 320000 := by
    have : (ratL (oddB f.ver)).all (fun r => decide (r ≤ 320000)) = true := by cases oddB f.ver <;> rfl
    simpa using List.all_eq_true.1 this r hr
  have b2 : 32000 ≤ q ∧ q ≤ 48000 := by
    have : freL.all (fun r => decide (32000 ≤ r) && decide (r ≤ 48000)) = true := rfl
    simpa using List.all_eq_true.1 this q hq
  omega
theorem lenN_le (v : Int) : lenN v / 8 ≤ 144 := by unfold lenN; split <;> decide
theorem szF_le (f : Frm) : szF f ≤ 1441 := by
  cases h : gdB f
  · rw [szF_no h]; omega
  · obtain ⟨_, _, _, h1, h2, h3, _⟩ := gdB_all h
    have h4 := lenN_le f.ver
    rw [szF_yes h]
    have a1 : f.rate.toNat * (lenN f.ver / 8) ≤ 320000 * 144 := Nat.mul_le_mul (by omega) h4
    have a2 : f.rate.toNat * (lenN f.ver / 8) / f.freq.toNat ≤ 320000 * 144 / 32000 := Nat.div_le_div a1 (by omega) (by decide)
    have a3 : (if f.pad then 1 else 0) ≤ 1 := by split <;> omega
    omega
theorem nxN_le (s : ByteArray) : nxN s ≤ s.size := by unfold nxN; split <;> omega
/-- A frame with which a text begins, and whose size says that it is whole; else nothing. -/
def fsF (s : ByteArray) : Frm := if nxN s = 0 then zeroF else hdF s
/-- Whether a text is a sound. -/
def isO (s : ByteArray) : Bool := decide (nxN s ≠ 0) && hdO (s.extract (nxN s) s.size)

end Go.Proofs.YtjaockmbnjflaaaGreatDoor
