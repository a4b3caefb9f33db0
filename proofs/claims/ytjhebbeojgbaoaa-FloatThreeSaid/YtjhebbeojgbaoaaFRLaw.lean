/-
  The law FloatRatios returns true for any whole numbers and any bits. Conditions: what the slice's reading gives.
-/
import Derived.Test.YtjhebbeojgbaoaaFLaws
import Derived.Test.YtjhebbeojgbaoaaMv
import Derived.Laws.OwnMore
import Derived.Laws.AppendOwn
import Derived.Deep.RegionHeld2
namespace Go.Proofs.Ytjhebbeojgbaoaa
open Go.RowKit

theorem madd8_block (a : Addr) (n : Nat) : (a.add n).block = a.block := by unfold Addr.add; split <;> rfl

/-- A slice of bits that came in. -/
def Bit64 (w : World) (A : Option Addr) (n : Nat) (lp : Nat → Nat) : Prop := ∀ i, i < n → ∃ (a : Addr), A = some a ∧ a.block < w.heap.size ∧ w.cell? (a.add i) = some (.int .u64 (lp i : Nat)) ∧ lp i < 18446744073709551616

/-- The cells of the first k of some numbers. -/
def floL (lp : Nat → Nat) : Nat → List Value
  | 0 => []
  | k + 1 => floL lp k ++ [.float .f64 (lp k)]
theorem floL_len (lp : Nat → Nat) : ∀ k, (floL lp k).length = k
  | 0 => rfl
  | k + 1 => by rw [floL, List.length_append, floL_len lp k]; rfl
theorem floL_at (lp : Nat → Nat) : ∀ (k i : Nat), i < k → (floL lp k)[i]? = some (.float .f64 (lp i))
  | 0, i, h => absurd h (by omega)
  | k + 1, i, h => by
    have hl := floL_len lp k
    rw [floL]
    by_cases e : i = k
    · subst e
      rw [List.getElem?_append_right (by omega), hl]
      simp
    · rw [List.getElem?_append_left (by omega)]
      exact floL_at lp k i (by omega)
theorem FIn.own {w : World} {base g k cap : Nat} {lp : Nat → Nat} (h : w.ownsRow base 23 1 (.slice (some ⟨g, 0, none⟩) k cap) k (floL lp k)) : FIn w g lp k :=
  ⟨(h.lt g rfl).2, fun i hi => (h.cellAt _ (by omega)).trans (floL_at lp k i hi)⟩

theorem Try.infoFlo : (Try.prog.info? 23).map (fun i => (i.zero, i.size, i.bytes)) = some (some (.float .f64 0), 1, 8) := by kernel_rfl

theorem tens_self {k : Nat} (h : k ≤ 22) : (FloatKind.f64.format.order (tensB k) (tensB k) == some .eq) = true := by
  have := tens_lt h
  have n : nanB (tensB k) = false := by unfold nanB; rw [decide_eq_false]; omega
  rw [ord_eq (by omega) (by omega), n]
  simp

set_option maxHeartbeats 4000000 in
set_option maxRecDepth 100000 in
theorem floatRatios_any (a b : Int) (A : Option Addr) (n c : Nat) (lp : Nat → Nat) (w : World) (hn : n ≤ 9223372036854775807) (hd : Bit64 w A n lp) :
    Calls Try.prog 6 #[.int .i64 a, .int .i64 b, .slice A n c] w fun e w' => e = .returned (.bool true) ∧ Below w.heap.size w w' := by
  obtain ⟨i0, hi, hz0, hz1, hz2⟩ := info_parts Try.infoFlo
  have HL := Lib.hid hd
  clear hd
  obtain ⟨m, hm⟩ : ∃ m : Int, m = if 22 < b then 22 else b := ⟨_, rfl⟩
  have hu : upto22 b = m.toNat := by unfold upto22; rw [hm]; congr 1; split <;> split <;> omega
  have hm22 : m ≤ 22 := by rw [hm]; split <;> omega
  have HM := Lib.hid hm
  clear hm
  go_enter Try.func6, Try.ntmps6
  go_upto_if 16 with fail
  go_cut [7] from 16 to 16 (fun s7 wx => s7 = .int .i64 m ∧ wx = w)
  case first =>
    by_cases h : 22 < b
    · have e := HM.out
      rw [if_pos h] at e
      subst e
      go_wp2
      go_meet
      exact ⟨rfl, rfl⟩
    · have e := HM.out
      rw [if_neg h] at e
      subst e
      go_wp2
      go_meet
      exact ⟨rfl, rfl⟩
  case rest =>
    obtain ⟨rfl, hwc⟩ := hcut
    have hwc := hwc.symm
    subst hwc
    go_wp2
    go_loop [9, 8] (fun i t => ∃ j : Nat, j ≤ m.toNat ∧ i = .int .i64 j ∧ t = .float .f64 (tensB j)) (fun i _ => m.toNat - (intOf i).toNat)
    case atStart => exact ⟨0, by omega, rfl, rfl⟩
    case round =>
      obtain ⟨j, hj, rfl, rfl⟩ := hrel
      by_cases hlt : (j : Int) < m
      · have ht := tens_mul (k := j) (by omega)
        go_wp2
        go_round
        case rel => exact ⟨j + 1, by omega, by go_num, rfl⟩
        case measure => simp [intOf]; omega
      · obtain rfl : j = m.toNat := by omega
        have HT0 : Hid (tensB m.toNat = tensB (upto22 b)) := by rw [hu]; rfl
        have hts := tens_self (k := m.toNat) (by omega)
        generalize tensB m.toNat = tb at *
        clear hu HM
        go_wp2
        go_loopw [12, 10, 11] (fun i v s wr => ∃ j sb : Nat, j ≤ n ∧ j ≤ 20 ∧ i = .int .i64 j ∧ s = .float .f64 sb ∧ sb < 18446744073709551616 ∧ normB sb = sumB lp j ∧ v ≠ .slice none 0 0 ∧ wr.ownsRow w.heap.size 23 1 v j (floL lp j) ∧ Below w.heap.size w wr) (fun i _ _ _ => 20 - (intOf i).toNat)
        case atStart => exact ⟨0, 0, by omega, by omega, rfl, rfl, by decide, by kernel_rfl, by simp, World.ownsRow_made w #[] 0 (Nat.le_refl _) (Nat.zero_le _) rfl, (Below.refl _ _).alloc (Nat.le_refl _) _⟩
        case round =>
          obtain ⟨k, sb, hk, hk20, rfl, rfl, hsb, hsn, hne, hown, hW⟩ := hrel
          have HO := Lib.hid hown
          have HW := Lib.hid hW
          have HNE := Lib.hid hne
          have HSN := Lib.hid hsn
          clear hown hW hne hsn
          by_cases hlt : k < n ∧ k < 20
          · obtain ⟨h1, h2⟩ := hlt
            obtain ⟨ad, rfl, hab, e0, hlp⟩ := HL.out k h1
            have hab' : (ad.add k).block < w.heap.size := by rw [madd8_block]; exact hab
            have e0' : wr.cell? (ad.add k) = some (.int .u64 (lp k : Nat)) := (HW.out.cell hab').trans e0
            have HOf := Lib.hid fun W => of_any (lp k) W
            have HX : Hid (floL lp k ++ [.float .f64 (lp k)] = floL lp (k + 1)) := rfl
            have HSS := Lib.hid fun r (hr : normB r = arithB .add sb (lp k)) => sumB_step hsb HSN.out hr
            have HA := Lib.hid fun W => run_arith .add (by simp) 23 sb (lp k) W
            have d1 : decide (k < n) = true := by simpa using h1
            have d2 : decide ((k : Int) < 20) = true := by simp; omega
            obtain ⟨fl, hfl⟩ : ∃ fl, fl = floL lp (k + 1) := ⟨_, rfl⟩
            rw [← hfl] at HX
            have HFL := Lib.hid hfl
            clear hfl
            obtain ⟨x, hx⟩ : ∃ x, x = lp k := ⟨_, rfl⟩
            rw [← hx] at HX HA HSS e0' HOf
            clear hx hlp
            clear e0 hab hab' HL
            go_wp2_with (first
              | (go_at_call 7; (with_reducible refine (HOf.out _).mono ?_); rintro e w1 ⟨rfl, rfl⟩)
              | (at_builtin; refine wpList_append_own _ rfl _ _ 38 rfl w.heap.size 23 i0 _ 1 8 Try.underlying38 hi hz0 hz1 hz2 rfl (by decide) _ _ _ rfl (HO.out.alloc _) ⟨wr.heap.size, 0, none⟩ 1 1 [.float .f64 x] rfl rfl ?_ ?_ ?_ ?_ ?_ ?_))
            · intro j u hj
              match j, hj with
              | 0, hj => simp at hj; subst hj; simp [Addr.add]
            · intro u hu; simp at hu; subst hu; rfl
            · unfold maxLen; omega
            · omega
            · have := HW.out.size; simp; omega
            · intro v' w1 hown' hgrow hnil
              have HO2 : Hid (w1.ownsRow w.heap.size 23 1 v' (k + 1) fl) := by rw [← HX.out]; exact hown'
              have HG := Lib.hid (Below.grown (HW.out.alloc (by have := HW.out.size; omega) _) hgrow (by have := HW.out.size; simp; omega) (fun g hg => (HO.out.lt g hg).1))
              have HN2 := Lib.hid (show v' ≠ .slice none 0 0 from hnil)
              obtain ⟨r, nn, hr, hrn, hop⟩ := HA.out w1
              have HR := Lib.hid (HSS.out r hrn)
              clear hown' hgrow hnil hrn
              go_wp2
              go_roundw
              case rel => exact ⟨k + 1, r, by omega, by omega, by go_num, rfl, hr, HR.out, HN2.out, by rw [← HFL.out]; exact HO2.out, Below.drewN' HG.out nn⟩
              case measure => simp [intOf]; omega
          · have hd : decide (k < n) = false ∨ decide (k < n) = true ∧ decide ((k : Int) < 20) = false := by
              by_cases h1 : k < n
              · exact .inr ⟨by simpa using h1, by simp; omega⟩
              · exact .inl (by simpa using h1)
            clear hlt
            rcases HO.out.2 with ⟨h1, _⟩ | ⟨g, cap, cur, h1, _⟩
            · exact absurd h1 HNE.out
            subst h1
            have HP := Lib.hid (FIn.own HO.out)
            have HRA := Lib.hid fun W => ratio_any a b W
            have HRB := Lib.hid fun W => rratio_any a b W
            have HTN : Hid (∀ W, Calls Try.prog 27 #[.int .i64 b] W fun e w' => e = .returned (.float .f64 tb) ∧ W = w') := by
              rw [HT0.out]
              exact fun W => tens_any b W
            have HSM := Lib.hid fun W (h : FIn W g lp k) => sum_any g k cap lp W h (by omega)
            have HF : Hid (∀ r m W, r < 18446744073709551616 → normB r = m → Calls Try.prog 14 #[.float .f64 r] W fun e w' => e = .returned (.int .u64 (m : Nat)) ∧ ∃ n, w' = W.drewN n) := fun r m W h1 h2 => h2 ▸ fbits_any r h1 W
            have HG : Hid (∀ r m W, r < 18446744073709551616 → normB r = m → Calls Try.prog 15 #[.float .f64 r] W fun e w' => e = .returned (.int .u64 (m : Nat)) ∧ ∃ n, w' = W.drewN n) := fun r m W h1 h2 => h2 ▸ rbits_any r h1 W
            have HSB := Lib.hid hsb
            have HLV := Lib.hid fun W => lives8_any W
            generalize normB (quotB a b) = qb at *
            generalize sumB lp k = sm at *
            clear HL HT0 hsb
            rcases hd with d1 | ⟨d1, d2⟩
            all_goals
              go_wp2_with (first
                | (go_at_call 25; (with_reducible refine (HRA.out _).mono ?_); rintro e w1 ⟨r, rfl, hr, hrn, n1, rfl⟩; have H1 := Lib.hid hr; have H2 := Lib.hid hrn; clear hr hrn)
                | (go_at_call 14; (with_reducible refine (HF.out r _ _ H1.out H2.out).mono ?_); rintro e w1 ⟨rfl, n2, rfl⟩)
                | (go_at_call 26; (with_reducible refine (HRB.out _).mono ?_); rintro e w1 ⟨q, rfl, hr, hrn, n3, rfl⟩; have H3 := Lib.hid hr; have H4 := Lib.hid hrn; clear hr hrn)
                | (go_at_call 15; (with_reducible refine (HG.out q _ _ H3.out H4.out).mono ?_); rintro e w1 ⟨rfl, n4, rfl⟩)
                | (go_at_call 27; (with_reducible refine (HTN.out _).mono ?_); rintro e w1 ⟨rfl, rfl⟩)
                | (go_at_call 28; (with_reducible refine (HSM.out _ (HP.out.drewN _)).mono ?_); rintro e w1 ⟨t, rfl, hr, hrn, n5, rfl⟩; have H5 := Lib.hid hr; have H6 := Lib.hid hrn; clear hr hrn)
                | (go_at_call 14; (with_reducible refine (HF.out t _ _ H5.out H6.out).mono ?_); rintro e w1 ⟨rfl, n6, rfl⟩)
                | (go_at_call 15; (with_reducible refine (HG.out sb _ _ HSB.out HSN.out).mono ?_); rintro e w1 ⟨rfl, n7, rfl⟩)
                | (go_at_call 16; refine (HLV.out _).mono ?_; rintro e w1 ⟨rfl, n8, rfl⟩))
              go_ret
              exact ⟨rfl, Below.drewN' HW.out _⟩

end Go.Proofs.Ytjhebbeojgbaoaa
