/-
  What package ranges' reader does: check, blanks, unit, mark, digits, end, number. Conditions: the place lies in the text, which is no longer than a length can be.
  What package url's Quote answers. Condition: the text takes at most 2^40 bytes.
  What points of both sides of layer 26 answers. Conditions: the text takes at most 2^31 bytes; for package url's one the variable MaxLen of the library holds a number.
-/
import Derived.Test.YtagbndkfbnlpoaaGreatDoorZ4
import Derived.Test.YtagbndkfbnlpoaaGreatDoorZ6
import Derived.Test.YtagbndkfbnlpoaaGreatDoorZ7
import Derived.Test.YtagbndkfbnlpoaaGreatDoorZ12
import Derived.Deep.RegionHeld2
import Derived.Test.YtagbndkfbnlpoaaGreatDoorZ5
import Derived.LoopTactic
import Derived.Test.YtagbndkfbnlpoaaGreatDoorZ11
import Derived.Test.YtagbndkfbnlpoaaGreatDoorZ9
namespace Go.Proofs.YtagbndkfbnlpoaaGreatDoor
open Go.RowKit

theorem size_bool (x : ByteArray) : (x.toList == []) = decide (x.size = 0) := by
  rw [Bool.eq_iff_iff, beq_iff_eq, decide_eq_true_eq, ← toList_size]
  exact List.length_eq_zero_iff.symm

end Go.Proofs.YtagbndkfbnlpoaaGreatDoor
namespace Go.Proofs.YtagbndkfbnlpoaaGreatDoor
open Go.RowKit

theorem escL_len (b : UInt8) : (escL b).length ≤ 3 := by unfold escL; split <;> simp
theorem pqL_len : ∀ (n : Nat) (l : List UInt8), l.length ≤ n → (pqL l).length ≤ 3 * l.length
  | _, [], _ => by simp [pqL]
  | _, [b], _ => by have := escL_len b; simp [pqL]; omega
  | _, [b, x], _ => by have := escL_len b; have := escL_len x; simp [pqL]; omega
  | 0, b :: x :: y :: l, hn => by simp at hn
  | n + 1, b :: x :: y :: l, hn => by
    simp at hn
    rw [pqL]
    split
    · have := pqL_len n l (by omega)
      simp
      omega
    · have := pqL_len n (x :: y :: l) (by simp; omega)
      have := escL_len b
      simp at *
      omega
theorem pqS_size (s : ByteArray) : (pqS s).size ≤ 3 * s.size := by
  have h1 : (pqS s).size = (pqL s.data.toList).length := size_of (pqS_list s)
  have h2 := pqL_len _ s.data.toList (Nat.le_refl _)
  rw [h1]
  simpa using h2
theorem list_at {x : ByteArray} {l : List UInt8} (h : x.data.toList = l) {i : Nat} (hi : i < x.size) {a : UInt8} (e : l[i]? = some a) : x[i] = a := by
  subst h
  have e3 : x[i] = x.data.toList[i]'(by simpa using hi) := rfl
  rw [e3]
  rw [List.getElem?_eq_getElem (by simpa using hi)] at e
  exact Option.some.inj e
theorem escaped_yes {x : ByteArray} {a b : UInt8} {l : List UInt8} (h : x.data.toList = 37 :: a :: b :: l) (ha : hexY a = true) (hb : hexY b = true) :
    ∃ c : UInt8, c.toNat / 16 = (hexB a).toNat ∧ c.toNat % 16 = (hexB b).toNat ∧ ∀ W, Calls Tryz.prog 71 #[.string x] W fun e w' => e = .returned (.tuple #[.int .u8 (c.toNat : Int), .bool true]) ∧ W = w' := by
  have hz : x.size = l.length + 3 := by rw [size_of h]; simp
  have r1 := hexB_range a
  have r2 := hexB_range b
  have ha' : 0 ≤ hexB a := of_decide_eq_true ha
  have hb' : 0 ≤ hexB b := of_decide_eq_true hb
  have na : hexN a = hexB a := by unfold hexN; rw [if_pos ha']
  have nb : hexN b = hexB b := by unfold hexN; rw [if_pos hb']
  have hc : (UInt8.ofNat ((hexB a).toNat * 16 + (hexB b).toNat)).toNat = (hexB a).toNat * 16 + (hexB b).toNat := by
    rw [UInt8.toNat_ofNat']
    exact Nat.mod_eq_of_lt (by omega)
  refine ⟨UInt8.ofNat ((hexB a).toNat * 16 + (hexB b).toNat), by rw [hc]; omega, by rw [hc]; omega, fun W => ?_⟩
  have := escaped_pct x a b (hexY a) (hexY b) (hexN a) (hexN b) W (by omega) (list_at h (by omega) rfl) (list_at h (by omega) rfl) (list_at h (by omega) rfl) (hexN_range a) (hexN_range b) (Lib.hid fun W => hex_two a W) (Lib.hid fun W => hex_two b W)
  rw [ha, hb, na, nb] at this
  rw [hc, show (((hexB a).toNat * 16 + (hexB b).toNat : Nat) : Int) = hexB a * 16 + hexB b from by omega]
  exact this
theorem escaped_not {x : ByteArray} {a : UInt8} {l : List UInt8} (h : x.data.toList = a :: l) (hp : pctL a l = false) :
    ∃ v : Int, ∀ W, Calls Tryz.prog 71 #[.string x] W fun e w' => e = .returned (.tuple #[.int .u8 v, .bool false]) ∧ W = w' := by
  have hz : x.size = l.length + 1 := by rw [size_of h]; simp
  match l, h, hp, hz with
  | [], h, hp, hz => exact ⟨0, fun W => escaped_short x W (by simp at hz; omega)⟩
  | [b], h, hp, hz => exact ⟨0, fun W => escaped_short x W (by simp at hz; omega)⟩
  | b :: c :: l, h, hp, hz =>
    simp at hz
    by_cases h37 : a = 37
    · subst h37
      refine ⟨hexN b * 16 + hexN c, fun W => ?_⟩
      have := escaped_pct x b c (hexY b) (hexY c) (hexN b) (hexN c) W (by omega) (list_at h (by omega) rfl) (list_at h (by omega) rfl) (list_at h (by omega) rfl) (hexN_range b) (hexN_range c) (Lib.hid fun W => hex_two b W) (Lib.hid fun W => hex_two c W)
      have e : (hexY b && hexY c) = false := by
        have : ((37 : UInt8) == 37 && hexY b && hexY c) = false := hp
        simpa using this
      rw [e] at this
      exact this
    · exact ⟨0, fun W => escaped_other x a W (by omega) (list_at h (by omega) rfl) h37⟩

set_option maxHeartbeats 4000000 in
set_option maxRecDepth 100000 in
theorem quote_any (s : ByteArray) (w : World) (hs : s.size ≤ 1099511627776) :
    Calls Tryz.prog 48 #[.string s] w fun e w' => e = .returned (.string (pqS s)) ∧ Below w.heap.size w w' := by
  have HN := Lib.hid (Bld.new w)
  have HL := Lib.hid (show (pqL s.data.toList).length ≤ 3298534883328 from by have := pqL_len _ s.data.toList (Nat.le_refl _); simp at this; omega)
  have HM := Lib.hid ((Below.refl w.heap.size w).alloc (Nat.le_refl _) (.cells #[.pointer none, .slice none 0 0] 72))
  obtain ⟨w0, hw0⟩ : ∃ w0, w0 = w.alloc (.cells #[.pointer none, .slice none 0 0] 72) := ⟨_, rfl⟩
  rw [← hw0] at HM
  replace HN := Lib.hid (show Bld w.heap.size w.heap.size [] w0 from by rw [hw0]; exact HN.out)
  go_enter Tryz.func48, Tryz.ntmps48
  go_wp2_with fail
  rw [← hw0]
  clear hw0
  go_loopw [0] (fun i wr => ∃ (x : ByteArray) (l : List UInt8), i = .string x ∧ Bld w.heap.size w.heap.size l wr ∧ Below w.heap.size w wr ∧ l ++ pqL x.data.toList = pqL s.data.toList) (fun i _ => strLen i)
  case atStart => exact ⟨s, [], rfl, HN.out, HM.out, rfl⟩
  case round =>
    obtain ⟨x, l, rfl, hb, hm, he⟩ := hrel
    have HB := Lib.hid hb
    have HM := Lib.hid hm
    have HE := Lib.hid he
    clear hb hm he HN
    have hl : l.length ≤ 3298534883328 := by
      have := congrArg List.length HE.out
      have h2 := HL.out
      simp at this
      omega
    have hse := size_bool x
    cases hx : x.data.toList with
    | nil =>
      have hz : x.size = 0 := by rw [size_of hx]; rfl
      rw [decide_eq_true hz] at hse
      have HF := Lib.hid (show l = pqL s.data.toList from by have := HE.out; rw [hx] at this; simpa [pqL] using this)
      clear hx hz HE
      go_wp2_with fail
      refine (string_any w.heap.size w.heap.size _ _ HB.out HM.out.size).mono ?_
      rintro e w3 ⟨rfl, _, m3⟩
      have HM3 := Lib.hid (HM.out.trans m3)
      clear m3
      go_wp2
      go_ret
      exact ⟨by rw [HF.out]; rfl, HM3.out⟩
    | cons a q =>
      have hz : x.size = q.length + 1 := by rw [size_of hx]; simp
      rw [decide_eq_false (by omega)] at hse
      cases hp : pctL a q
      · obtain ⟨v, hv⟩ := escaped_not hx hp
        have HV := Lib.hid hv
        have HT := Lib.hid (show (x.extract 1 x.size).data.toList = q from by rw [tail_list, hx]; rfl)
        have HF := Lib.hid (show l ++ (escL a ++ pqL q) = pqL s.data.toList from by rw [← HE.out, hx, pqL_esc hp])
        have hl2 : l.length + (escL a).length ≤ 3298534883328 := by
          have := congrArg List.length HF.out
          have h2 := HL.out
          simp at this
          omega
        have h0 : 0 < x.size := by omega
        have ha : x[0] = a := list_at hx h0 rfl
        have hzt : (x.extract 1 x.size).size = x.size - 1 := by simp
        have HS := Lib.hid (fun W => stands_any a W)
        have HC := Lib.hid (fun W => escape_any a W)
        clear hv hp hx HE HL hz
        cases ho : ownB a
        · rw [ho] at HS
          have HG := Lib.hid (show escL a = [37, digG (a.toNat / 16), digG (a.toNat % 16)] from by unfold escL; rw [ho]; rfl)
          rw [HG.out] at HF hl2
          clear ho
          go_wp2_with (first
            | (go_at_call 71; (with_reducible refine (HV.out _).mono ?_); rintro e w1 ⟨rfl, rfl⟩)
            | (go_at_call 74; (with_reducible refine (HS.out _).mono ?_); rintro e w1 ⟨rfl, rfl⟩))
          refine (HC.out _).mono ?_
          rintro e w2 ⟨rfl, b2⟩
          have HB2 := Lib.hid (Bld.mv HB.out (Mv.of_below b2 []) (by simp))
          have HM2 := Lib.hid (below_on HM.out b2)
          clear b2 HB
          go_wp2_with fail
          refine (writeString_any w.heap.size w.heap.size _ _ _ HB2.out (by have : (⟨#[37, digG (a.toNat / 16), digG (a.toNat % 16)]⟩ : ByteArray).size = 3 := rfl; omega) HM2.out.size).mono ?_
          rintro e w3 ⟨rfl, b3, m3⟩
          have HB3 := Lib.hid b3
          have HM3 := Lib.hid (HM2.out.trans m3)
          clear b3 m3
          go_wp2
          go_roundw
          case rel => exact ⟨_, _, rfl, HB3.out, HM3.out, by rw [HT.out]; simpa using HF.out⟩
          case measure => simp [strLen]; omega
        · rw [ho] at HS
          have HG := Lib.hid (show escL a = [a] from by unfold escL; rw [ho]; rfl)
          rw [HG.out] at HF hl2
          clear ho HC
          go_wp2_with (first
            | (go_at_call 71; (with_reducible refine (HV.out _).mono ?_); rintro e w1 ⟨rfl, rfl⟩)
            | (go_at_call 74; (with_reducible refine (HS.out _).mono ?_); rintro e w1 ⟨rfl, rfl⟩))
          refine (writeByte_any w.heap.size w.heap.size _ a _ HB.out (by simp at hl2 ⊢; omega) HM.out.size).mono ?_
          rintro e w3 ⟨rfl, b3, m3⟩
          have HB3 := Lib.hid b3
          have HM3 := Lib.hid (HM.out.trans m3)
          clear b3 m3
          go_wp2
          go_roundw
          case rel => exact ⟨_, _, rfl, HB3.out, HM3.out, by rw [HT.out]; simpa using HF.out⟩
          case measure => simp [strLen]; omega
      · obtain ⟨b, c, r, rfl, rfl, hb, hc⟩ : ∃ b c r, q = b :: c :: r ∧ a = 37 ∧ hexY b = true ∧ hexY c = true := by
          match q, hp with
          | b :: c :: r, hp =>
            have h2 : (a == 37 && hexY b && hexY c) = true := hp
            simp only [Bool.and_eq_true, beq_iff_eq] at h2
            exact ⟨b, c, r, rfl, h2.1.1, h2.1.2, h2.2⟩
        obtain ⟨v, v1, v2, hv⟩ := escaped_yes hx hb hc
        have HV := Lib.hid hv
        have HT := Lib.hid (show (x.extract 3 x.size).data.toList = r from by rw [tail_list, hx]; rfl)
        have HF := Lib.hid (show l ++ (37 :: digG (hexB b).toNat :: digG (hexB c).toNat :: pqL r) = pqL s.data.toList from by rw [← HE.out, hx, pqL_pct r hb hc])
        have hl2 : l.length + 3 ≤ 3298534883328 := by
          have := congrArg List.length HF.out
          have h2 := HL.out
          simp at this
          omega
        have h3 : 3 ≤ x.size := by simp at hz; omega
        have g3 : (3 : Int) ≤ (x.size : Int) := by omega
        have h0 : 0 < x.size := by omega
        have hzt : (x.extract 3 x.size).size = x.size - 3 := by simp
        have HC := Lib.hid (fun W => escape_any v W)
        rw [v1, v2] at HC
        clear hv hp hx HE HL v1 v2 hb hc hz
        go_wp2_with (go_at_call 71; (with_reducible refine (HV.out _).mono ?_); rintro e w1 ⟨rfl, rfl⟩)
        refine (HC.out _).mono ?_
        rintro e w2 ⟨rfl, b2⟩
        have HB2 := Lib.hid (Bld.mv HB.out (Mv.of_below b2 []) (by simp))
        have HM2 := Lib.hid (below_on HM.out b2)
        clear b2 HB
        go_wp2_with fail
        refine (writeString_any w.heap.size w.heap.size _ _ _ HB2.out (by have : (⟨#[37, digG (hexB b).toNat, digG (hexB c).toNat]⟩ : ByteArray).size = 3 := rfl; omega) HM2.out.size).mono ?_
        rintro e w3 ⟨rfl, b3, m3⟩
        have HB3 := Lib.hid b3
        have HM3 := Lib.hid (HM2.out.trans m3)
        clear b3 m3
        go_wp2
        go_roundw
        case rel => exact ⟨_, _, rfl, HB3.out, HM3.out, by rw [HT.out]; simpa using HF.out⟩
        case measure => simp [strLen]; omega

end Go.Proofs.YtagbndkfbnlpoaaGreatDoor
namespace Go.Proofs.YtagbndkfbnlpoaaGreatDoor
open Go.RowKit

/-- The library's variable MaxLen holds some number. -/
def MaxC (w : World) : Prop := ∃ m, w.cell? ⟨0, 0, none⟩ = some (.int .i64 m)
theorem MaxC.stays {w W : World} (h : MaxC w) (hb : Below w.heap.size w W) : MaxC W := by
  obtain ⟨m, hm⟩ := h
  exact ⟨m, (hb.cell (p := ⟨0, 0, none⟩) (World.block_lt_of_cell? w _ hm)).trans hm⟩

/-- How many points a piece is, if one or two; 0 of any other. -/
def ptV (l : List UInt8) : Int := if ptsL l 0 = 1 then 1 else if ptsL l 0 = 2 then 2 else 0
theorem count_le3 (s : ByteArray) : Lib.countB s ⟨#[37, 50, 101]⟩ * 1 ≤ s.size := by
  have := Lib.countB_le ⟨#[37, 50, 101]⟩ (by decide) _ s (Nat.le_refl _)
  omega
set_option maxHeartbeats 1000000 in
theorem points_any (s : ByteArray) (w : World) (hs : s.size ≤ 2147483648) (hm : MaxC w) :
    Calls Tryz.prog 69 #[.string s] w fun e w' => e = .returned (.int .i64 (ptV s.data.toList)) ∧ Below w.heap.size w w' := by
  have HL := Lib.hid (lowerS_any s w (by omega))
  obtain ⟨z, hz⟩ : ∃ z : ByteArray, z = ⟨(Lib.replaceAll (lowS s).data.toList [37, 50, 101] [46]).toArray⟩ := ⟨_, rfl⟩
  have HR := Lib.hid (fun W (hW : Below w.heap.size w W) => show Calls Tryz.prog 88 #[.string (lowS s), .string ⟨#[37, 50, 101]⟩, .string ⟨#[46]⟩] W fun e w' => e = .returned (.string z) ∧ Below W.heap.size W w' from by
    obtain ⟨m, hm2⟩ := hm.stays hW
    rw [hz]
    exact strings_ReplaceAll (lowS s) ⟨#[37, 50, 101]⟩ ⟨#[46]⟩ m W (by rw [lowS_size]; omega) hm2 (by decide) (by
      have := count_le3 (lowS s)
      rw [lowS_size] at this ⊢
      have e : (⟨#[46]⟩ : ByteArray).size = 1 := rfl
      rw [e]
      omega))
  have hzl : z.data.toList = dotR (s.data.toList.map lowB) := by
    have e1 : Lib.replaceAll (lowS s).data.toList [37, 50, 101] [46] = dotR (lowS s).data.toList := by
      unfold Lib.replaceAll Lib.replace
      rw [if_neg (by decide)]
      have hc : (0 : Int) ≤ (Lib.count (lowS s).data.toList [37, 50, 101] : Int) := by omega
      unfold Lib.replaceNum
      rw [if_pos (.inl (by decide))]
      exact rep_dot _ _ (Nat.le_refl _)
    rw [hz]
    simp only [e1]
    rw [show (lowS s).data.toList = s.data.toList.map lowB from by unfold lowS; exact Array.toList_map]
  obtain ⟨h1, h2⟩ := pts_of hzl
  have HV : Hid (ptV s.data.toList = if z.toList == [46] then 1 else if z.toList == [46, 46] then 2 else 0) := Lib.hid (by
    rw [Lib.toList_data]
    by_cases e1 : z.data.toList = [46]
    · have p1 := h1.1 e1
      simp [ptV, p1, e1]
    · have p1 : ¬ ptsL s.data.toList 0 = 1 := fun h => e1 (h1.2 h)
      by_cases e2 : z.data.toList = [46, 46]
      · have p2 := h2.1 e2
        simp [ptV, p2, e2]
      · have p2 : ¬ ptsL s.data.toList 0 = 2 := fun h => e2 (h2.2 h)
        simp [ptV, p1, p2, e1, e2])
  obtain ⟨v, hv⟩ : ∃ v, v = ptV s.data.toList := ⟨_, rfl⟩
  rw [← hv] at HV ⊢
  clear hz hzl h1 h2 hv
  cases g1 : z.toList == [46] <;> rw [g1] at HV
  · cases g2 : z.toList == [46, 46] <;> rw [g2] at HV
    all_goals
      go_enter Tryz.func69, Tryz.ntmps69
      go_wp2_with fail
      refine HL.out.mono ?_
      rintro e w1 ⟨rfl, b1⟩
      have HB := Lib.hid b1
      clear b1
      go_wp2_with fail
      refine (HR.out _ HB.out).mono ?_
      rintro e w2 ⟨rfl, b2⟩
      replace HB := Lib.hid (below_on HB.out b2)
      clear b2
      go_wp2
      go_ret
      exact ⟨by rw [HV.out]; rfl, HB.out⟩
  · go_enter Tryz.func69, Tryz.ntmps69
    go_wp2_with fail
    refine HL.out.mono ?_
    rintro e w1 ⟨rfl, b1⟩
    have HB := Lib.hid b1
    clear b1
    go_wp2_with fail
    refine (HR.out _ HB.out).mono ?_
    rintro e w2 ⟨rfl, b2⟩
    replace HB := Lib.hid (below_on HB.out b2)
    clear b2
    go_wp2
    go_ret
    exact ⟨by rw [HV.out]; rfl, HB.out⟩

theorem pts_le : ∀ (n : Nat) (l : List UInt8) (m : Nat), l.length ≤ n → ptsL l m ≤ m + l.length := fun n l m h => by
  rw [pts_dot n l m h]
  have : ∀ (n : Nat) (l : List UInt8), l.length ≤ n → (dotR l).length ≤ l.length := by
    intro n
    induction n with
    | zero => intro l h; match l, h with | [], _ => simp [dotR]
    | succ n ih =>
      intro l h
      unfold dotR
      split
      · rename_i l
        have := ih l (by simp at h; omega)
        simp; omega
      · rename_i l _
        have := ih l (by simp at h; omega)
        simp; omega
      · simp
  have h2 := this _ (l.map lowB) (Nat.le_refl _)
  rw [List.length_map] at h2
  split <;> omega
set_option maxHeartbeats 2000000 in
theorem rpoints_any (s : ByteArray) (w : World) (hs : s.size ≤ 2147483648) :
    Calls Tryz.prog 51 #[.string s] w fun e w' => e = .returned (.int .i64 (ptsL s.data.toList 0 : Nat)) ∧ Below w.heap.size w w' := by
  obtain ⟨v, hv⟩ : ∃ v, v = ptsL s.data.toList 0 := ⟨_, rfl⟩
  have HV := Lib.hid hv
  rw [← hv]
  clear hv
  go_enter Tryz.func51, Tryz.ntmps51
  go_wp2_with fail
  go_loopw [0, 3] (fun i n wr => (∃ (x : ByteArray) (m : Nat), i = .string x ∧ n = .int .i64 m ∧ ptsN x m = v ∧ x.size ≤ 2147483648 ∧ m + x.size ≤ 2147483648) ∧ Below w.heap.size w wr) (fun i _ _ => strLen i)
  case atStart => exact ⟨⟨s, 0, rfl, rfl, HV.out.symm, hs, by omega⟩, Below.refl _ _⟩
  case round =>
    obtain ⟨⟨x, m, rfl, rfl, hp, hx, hmx⟩, hb⟩ := hrel
    have HP := Lib.hid hp
    have HB := Lib.hid hb
    clear hp hb
    by_cases h0 : 0 < x.size
    · have g0 : (0 : Int) < (x.size : Int) := by omega
      obtain ⟨a, ha⟩ : ∃ a, x[0] = a := ⟨_, rfl⟩
      obtain ⟨y, hy⟩ : ∃ y, x.extract 0 3 = y := ⟨_, rfl⟩
      have hys : y.size ≤ 3 := by rw [← hy]; simp; omega
      have HL := Lib.hid (fun W => refLowerS_any y W (by omega))
      have ka : ((a.toNat : Int) != 46) = !(a == 46) := by
        by_cases h : a = 46
        · rw [h]; rfl
        · rw [show (a == 46) = false from by simpa using h]
          show _ = true
          rw [bne_iff_ne]
          intro e
          exact h (UInt8.toNat_inj.1 (by show _ = 46; omega))
      have hde : dotE x = (decide (2 < x.size) && ((lowS y).toList == [37, 50, 101])) := by rw [← hy]; rfl
      cases hd : dotE x
      · rw [hd] at hde
        cases h46 : a == 46
        · have HN := Lib.hid (show 0 = v from by rw [← HP.out]; exact (pts_no h0 (by rw [ha]; simpa using h46) hd).symm)
          rw [h46] at ka
          have ka2 : ((a.toNat : Int) != 46) = true := ka
          clear ka hd h46 HP
          generalize lowS y = z at *
          by_cases h2 : 2 < x.size
          · rw [decide_eq_true h2, Bool.true_and] at hde
            have g2 : (2 : Int) < (x.size : Int) := by omega
            have hz2 := hde.symm
            clear hde
            go_wp2_with (go_at_call 26; (with_reducible refine (HL.out _).mono ?_); rintro e w1 ⟨rfl, b1⟩; replace HB := Lib.hid (below_on HB.out b1); clear b1)
            go_ret
            exact ⟨by rw [← HN.out]; rfl, HB.out⟩
          · have g2 : ¬ (2 : Int) < (x.size : Int) := by omega
            clear hde
            go_wp2
            go_ret
            exact ⟨by rw [← HN.out]; rfl, HB.out⟩
        · have HN := Lib.hid (show ptsN (x.extract 1 x.size) (m + 1) = v from by rw [← HP.out]; exact (pts_one h0 (by rw [ha]; simpa using h46)).symm)
          rw [h46] at ka
          have ka2 : ((a.toNat : Int) != 46) = false := ka
          clear ka hd h46 HP
          generalize lowS y = z at *
          have hzt : (x.extract 1 x.size).size = x.size - 1 := by simp
          by_cases h2 : 2 < x.size
          · rw [decide_eq_true h2, Bool.true_and] at hde
            have g2 : (2 : Int) < (x.size : Int) := by omega
            have hz2 := hde.symm
            clear hde
            go_wp2_with (go_at_call 26; (with_reducible refine (HL.out _).mono ?_); rintro e w1 ⟨rfl, b1⟩; replace HB := Lib.hid (below_on HB.out b1); clear b1)
            go_roundw
            case rel => exact ⟨⟨_, m + 1, rfl, by go_num, HN.out, by omega, by omega⟩, HB.out⟩
            case measure => simp [strLen]; omega
          · have g2 : ¬ (2 : Int) < (x.size : Int) := by omega
            clear hde
            go_wp2
            go_roundw
            case rel => exact ⟨⟨_, m + 1, rfl, by go_num, HN.out, by omega, by omega⟩, HB.out⟩
            case measure => simp [strLen]; omega
      · have HN := Lib.hid (show ptsN (x.extract 3 x.size) (m + 1) = v from by rw [← HP.out]; exact (pts_two hd).symm)
        rw [hd] at hde
        have h2 : 2 < x.size := by
          by_cases h2 : 2 < x.size
          · exact h2
          · rw [decide_eq_false h2] at hde; cases hde
        rw [decide_eq_true h2, Bool.true_and] at hde
        have g2 : (2 : Int) < (x.size : Int) := by omega
        have hzt : (x.extract 3 x.size).size = x.size - 3 := by simp
        have hz2 := hde.symm
        clear hde hd ka HP
        generalize lowS y = z at *
        go_wp2_with (go_at_call 26; (with_reducible refine (HL.out _).mono ?_); rintro e w1 ⟨rfl, b1⟩; replace HB := Lib.hid (below_on HB.out b1); clear b1)
        go_roundw
        case rel => exact ⟨⟨_, m + 1, rfl, by go_num, HN.out, by omega, by omega⟩, HB.out⟩
        case measure => simp [strLen]; omega
    · have g0 : ¬ (0 : Int) < (x.size : Int) := by omega
      have HN := Lib.hid (show m = v from by rw [← HP.out]; exact (pts_end (by omega)).symm)
      clear HP
      go_wp2
      go_ret
      exact ⟨by rw [← HN.out]; rfl, HB.out⟩

end Go.Proofs.YtagbndkfbnlpoaaGreatDoor
