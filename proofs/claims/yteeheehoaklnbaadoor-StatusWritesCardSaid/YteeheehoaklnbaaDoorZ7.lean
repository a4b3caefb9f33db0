/-
  What Trim and Ends answer, and those of the document's own answer. Condition: the text is as long as a length can be.
  What Same and Serial of package mime answer of types. Condition: texts are as long as a mebibyte, and parameters as many.
  Plain facts on a number's decimal digits: they are digits, their number is the number, and no nought stands ahead of another. No condition.
-/
import Derived.Test.YteeheehoaklnbaaDoorZ2
import Derived.Test.YteeheehoaklnbaaDoorZ4
import Derived.LoopTactic
import Derived.Test.YteeheehoaklnbaaDoorZ5
import Derived.Test.YteeheehoaklnbaaDoorZ6
import Derived.StillTailTactics
import Derived.Deep.RegionWith
import Derived.BigQuiet
import Derived.OneCell
import Derived.OwnWalk
import Derived.Laws.IdiomStrings
import Derived.Laws.OwnMore
import Derived.Laws.BytesArg
import Derived.Maps.OwnSet
import Derived.Maps.AppendAt
import Derived.Laws.AppendOwn
import Derived.Test.YteeheehoaklnbaaDoorZ3
import Derived.Lib.ItoaNum
namespace Go.Proofs.YteeheehoaklnbaaDoor
open Go.RowKit

set_option maxHeartbeats 1000000 in
theorem cutBack_tab (s : ByteArray) (w : World) (hs : s.size ≤ 9223372036854775807) :
    Calls Tryd.prog 40 #[.string s, .func (.func 38) #[] #[]] w fun e w' => e = .returned (.string (cutP tabB s)) ∧ w = w' := by
  go_enter Tryd.func40, Tryd.ntmps40
  go_wp2
  go_loop [5] (fun i => ∃ k : Nat, k ≤ s.size ∧ i = .int .i64 k ∧ backN tabB s k = backN tabB s s.size) (fun i => (intOf i).toNat)
  case atStart => exact ⟨s.size, Nat.le_refl _, rfl, rfl⟩
  case round =>
    obtain ⟨k, hk, rfl, hb⟩ := hrel
    have HB := Lib.hid hb
    clear hb
    cases k with
    | zero =>
      have HE := Lib.hid (show cutP tabB s = ByteArray.empty from by unfold cutP; rw [← HB.out]; simp [backN])
      go_wp2
      go_ret
      exact ⟨by rw [HE.out]; rfl, rfl⟩
    | succ m =>
      have hm : m < s.size := by omega
      have g1 : (0 : Int) < (m : Int) + 1 := by omega
      have g2 : ((m + 1 : Nat) : Int) - 1 = (m : Int) := by omega
      have HL := Lib.hid (fun W => tab_any s[m] W)
      cases hb : tabB s[m]
      · have HE := Lib.hid (show cutP tabB s = s.extract 0 (m + 1) from by unfold cutP; rw [← HB.out, backN_stop hm hb])
        have HL2 : Hid (∀ W, Calls Tryd.prog 38 #[.int .u8 (s[m].toNat : Int)] W fun e w' => e = .returned (.bool false) ∧ W = w') := fun W => by have := HL.out W; rwa [hb] at this
        clear HL hb
        go_wp2_with (go_at_call 38; refine (HL2.out _).mono ?_; rintro e w' ⟨rfl, rfl⟩)
        go_ret
        exact ⟨by rw [HE.out]; rfl, rfl⟩
      · have HE : Hid (backN tabB s (m + 1) = backN tabB s m) := backN_step hm hb
        have HL2 : Hid (∀ W, Calls Tryd.prog 38 #[.int .u8 (s[m].toNat : Int)] W fun e w' => e = .returned (.bool true) ∧ W = w') := fun W => by have := HL.out W; rwa [hb] at this
        clear HL hb
        go_wp2_with (go_at_call 38; refine (HL2.out _).mono ?_; rintro e w' ⟨rfl, rfl⟩)
        go_round
        case rel => exact ⟨m, by omega, by go_num, HE.out.symm.trans HB.out⟩
        case measure => first | (simp [intOf]; done) | (simp [intOf]; omega)

set_option maxHeartbeats 1000000 in
theorem ends_any (s : ByteArray) (w : World) (hs : s.size ≤ 9223372036854775807) :
    Calls Tryd.prog 23 #[.string s] w fun e w' => e = .returned (.string (cutP tabB s)) ∧ w = w' := by
  go_enter Tryd.func23, Tryd.ntmps23
  go_wp2_with (go_at_call 40; refine (cutBack_tab s _ hs).mono ?_; rintro e w' ⟨rfl, rfl⟩)
  go_ret
  exact ⟨rfl, rfl⟩

end Go.Proofs.YteeheehoaklnbaaDoor
namespace Go.Proofs.YteeheehoaklnbaaDoor
open Go.RowKit Go.Maps

theorem below_on {a w w' : World} (h : Below a.heap.size a w) (hb : Below w.heap.size w w') : Below a.heap.size a w' := h.trans (hb.mono h.size)

end Go.Proofs.YteeheehoaklnbaaDoor
namespace Go.Proofs.YteeheehoaklnbaaDoor

theorem digit_toNat {u : Nat} (h : u < 10) : (UInt8.ofNat (48 + u)).toNat = 48 + u := by
  rw [UInt8.toNat_ofNat']
  omega
theorem digit_isB {u : Nat} (h : u < 10) : digB (UInt8.ofNat (48 + u)) = true := by
  unfold digB
  rw [digit_toNat h]
  simp
  omega
theorem decDigits_all : ∀ (n u : Nat), u ≤ n → ∀ b ∈ Lib.decDigits u, digB b = true
  | n, u, hn, b, hb => by
    by_cases h : u < 10
    · rw [Lib.decDigits, dif_pos h] at hb
      rw [List.mem_singleton.1 hb]
      exact digit_isB h
    · rw [Lib.decDigits, dif_neg h] at hb
      rcases List.mem_append.1 hb with h1 | h1
      · cases n with
        | zero => omega
        | succ n => exact decDigits_all n (u / 10) (by omega) b h1
      · rw [List.mem_singleton.1 h1]
        exact digit_isB (by omega)

/-- The number whose digits a list is. -/
def numL (l : List UInt8) : Nat := l.foldl (fun a b => 10 * a + (b.toNat - 48)) 0
theorem numL_snoc (l : List UInt8) (b : UInt8) : numL (l ++ [b]) = 10 * numL l + (b.toNat - 48) := by
  unfold numL
  rw [List.foldl_append]
  rfl
theorem numL_digits : ∀ (n u : Nat), u ≤ n → numL (Lib.decDigits u) = u
  | n, u, hn => by
    by_cases h : u < 10
    · rw [Lib.decDigits, dif_pos h]
      show 10 * 0 + ((UInt8.ofNat (48 + u)).toNat - 48) = u
      rw [digit_toNat h]
      omega
    · rw [Lib.decDigits, dif_neg h, numL_snoc, digit_toNat (by omega)]
      cases n with
      | zero => omega
      | succ n => rw [numL_digits n (u / 10) (by omega)]; omega
theorem numK_list (s : ByteArray) : ∀ k, k ≤ s.size → numK s k = numL (s.data.toList.take k)
  | 0, _ => by simp [numK, numL]
  | k + 1, h => by
    rw [numK_succ (by omega), numK_list s k (by omega), take_snoc s k (by omega), numL_snoc]
theorem decDigits_len : ∀ (n u : Nat), u ≤ n → 1 ≤ (Lib.decDigits u).length
  | n, u, hn => by
    by_cases h : u < 10
    · rw [Lib.decDigits, dif_pos h]
      simp
    · rw [Lib.decDigits, dif_neg h]
      simp
/-- A number's digits, as a text. -/
def digS (u : Nat) : ByteArray := ⟨(Lib.decDigits u).toArray⟩
theorem digS_list (u : Nat) : (digS u).data.toList = Lib.decDigits u := by simp [digS]
theorem digS_size (u : Nat) : (digS u).size = (Lib.decDigits u).length := by
  show (Lib.decDigits u).toArray.size = _
  simp
theorem digS_all (u : Nat) : allB digB (digS u) = true := allB_yes fun j hj => by
  have h : (digS u)[j] ∈ (digS u).data.toList := List.getElem_mem (l := (digS u).data.toList) (by simpa using hj)
  rw [digS_list] at h
  exact decDigits_all u u (Nat.le_refl _) _ h
theorem digS_num (u : Nat) : numK (digS u) (digS u).size = u := by
  rw [numK_list _ _ (Nat.le_refl _), List.take_of_length_le (by simp), digS_list]
  exact numL_digits u u (Nat.le_refl _)
theorem itoa_pos (u : Nat) : (⟨(Lib.itoa (u : Int)).toArray⟩ : ByteArray) = digS u := by
  unfold Lib.itoa digS
  rw [if_neg (by omega)]
  simp
theorem digS_le {u : Nat} (h : u < 18446744073709551616) : (digS u).size ≤ 20 := by
  rw [digS_size]
  have key : ∀ (k u : Nat), u < 10 ^ (k + 1) → (Lib.decDigits u).length ≤ k + 1 := fun k => by
    induction k with
    | zero => intro u hu; rw [Lib.decDigits, dif_pos (by simpa using hu)]; simp
    | succ k ih =>
      intro u hu
      by_cases h1 : u < 10
      · rw [Lib.decDigits, dif_pos h1]; simp
      · rw [Lib.decDigits, dif_neg h1]
        have := ih (u / 10) (by rw [Nat.div_lt_iff_lt_mul (by omega)]; rw [Nat.pow_succ] at hu; exact hu)
        simp only [List.length_append, List.length_cons, List.length_nil]
        omega
  exact key 19 u (by omega)

end Go.Proofs.YteeheehoaklnbaaDoor
