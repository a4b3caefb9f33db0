/-
  What a good host is, of both sides of layer 26. Conditions: the text takes at most 2^31 bytes; the variable MaxLen of the library holds a number.
  What the document's test of a host of layer 26 answers. Condition: the text is as long as a length can be.
  What the document's Quote of layer 26 answers. Condition: the text takes at most 2^40 bytes.
-/
import Derived.Test.YtagbndkfbnlpoaaGreatDoorZ11
import Derived.Test.YtagbndkfbnlpoaaGreatDoorZ15
import Derived.Lib.IndexMore
import Derived.Test.YtagbndkfbnlpoaaGreatDoorZ13
import Derived.Test.YtagbndkfbnlpoaaGreatDoorZ2
namespace Go.Proofs.YtagbndkfbnlpoaaGreatDoor
open Go.RowKit

theorem occ_two (l : List UInt8) (j : Nat) : Lib.occAt l [46, 46] j = true ↔ l[j]? = some 46 ∧ l[j + 1]? = some 46 := by
  unfold Lib.occAt
  rw [show l[j]? = (l.drop j)[0]? from by simp, show l[j + 1]? = (l.drop j)[1]? from by simp]
  match l.drop j with
  | [] => simp [List.isPrefixOf]
  | [a] => simp [List.isPrefixOf]
  | a :: b :: q => simp [List.isPrefixOf]; constructor <;> (rintro ⟨h1, h2⟩; exact ⟨h1.symm, h2.symm⟩)
theorem has_dot (l : List UInt8) : Lib.hasPrefix l [46] = true ↔ l[0]? = some 46 := by
  unfold Lib.hasPrefix
  match l with
  | [] => simp [List.isPrefixOf]
  | a :: q => simp [List.isPrefixOf]; exact eq_comm
theorem con_two (l : List UInt8) : Lib.contains l [46, 46] = true ↔ ∃ j : Nat, l[j]? = some 46 ∧ l[j + 1]? = some 46 := by
  unfold Lib.contains
  rw [decide_eq_true_eq]
  constructor
  · intro h
    rcases Lib.index_spec l [46, 46] with ⟨h1, _⟩ | ⟨i, h1, h2, h3, _⟩
    · omega
    · exact ⟨i, (occ_two l i).1 h3⟩
  · rintro ⟨j, h1, h2⟩
    rcases Lib.index_spec l [46, 46] with ⟨h3, h4⟩ | ⟨i, h3, _⟩
    · have hj : j ≤ l.length := by
        have := (List.getElem?_eq_some_iff.1 h1).1
        omega
      have := h4 j hj
      rw [(occ_two l j).2 ⟨h1, h2⟩] at this
      cases this
    · omega
theorem at_some {s : ByteArray} {i : Nat} (h : i < s.size) : s.data.toList[i]? = some s[i] := by
  rw [List.getElem?_eq_getElem (by simpa using h)]
  rfl
theorem hos_other {b : UInt8} (h : (lowerB b || digB b || b == 45) = true) : b ≠ 46 := by
  intro e
  rw [e] at h
  exact absurd h (by decide)
theorem nam_is (s : ByteArray) : namB s = (!(s.toList == []) && !decide (253 < s.size) && !Lib.hasPrefix s.data.toList [46] && !Lib.contains s.data.toList [46, 46] && allB hoyB s) := by
  rw [Bool.eq_iff_iff]
  simp only [Bool.and_eq_true, Bool.not_eq_true', size_bool, decide_eq_false_iff_not]
  constructor
  · intro h
    have hby := nam_bytes h
    unfold namB at h
    simp only [Bool.and_eq_true, decide_eq_true_eq, List.all_eq_true, List.mem_range] at h
    obtain ⟨⟨h0, h1⟩, h2⟩ := h
    refine ⟨⟨⟨⟨by omega, by omega⟩, ?_⟩, ?_⟩, ?_⟩
    · rw [← Bool.not_eq_true, has_dot, at_some h0]
      intro e
      have e2 := Option.some.inj e
      have := h2 0 h0
      unfold hosB at this
      rw [getElem!_pos s 0 h0, e2] at this
      exact absurd this (by decide)
    · rw [← Bool.not_eq_true, con_two]
      rintro ⟨j, e1, e2⟩
      have hj2 : j + 1 < s.size := by have := (List.getElem?_eq_some_iff.1 e2).1; simpa using this
      rw [at_some (by omega)] at e1
      rw [at_some hj2] at e2
      have := h2 (j + 1) hj2
      unfold hosB at this
      rw [getElem!_pos s (j + 1) hj2, Option.some.inj e2, Nat.add_sub_cancel, getElem!_pos s j (by omega), Option.some.inj e1] at this
      have e3 : (lowerB 46 || digB 46 || (46 : UInt8) == 45) = false := by decide
      rw [e3] at this
      simp at this
    · exact allB_yes fun j hj => hby _ (by exact List.getElem_mem (l := s.data.toList) (by simpa using hj))
  · rintro ⟨⟨⟨⟨h0, h1⟩, h2⟩, h3⟩, h4⟩
    unfold namB
    simp only [Bool.and_eq_true, decide_eq_true_eq, List.all_eq_true, List.mem_range]
    refine ⟨⟨by omega, by omega⟩, fun i hi => ?_⟩
    have hb : hoyB s[i] = true := by
      cases hh : hoyB s[i] with
      | true => rfl
      | false => rw [allB_no hi hh] at h4; cases h4
    unfold hosB
    rw [getElem!_pos s i hi]
    unfold hoyB at hb
    rw [Bool.or_eq_true] at hb ⊢
    rcases hb with hb | hb
    · exact .inl hb
    · refine .inr ?_
      rw [hb]
      have e46 : s[i] = 46 := by simpa using hb
      have hi0 : 0 < i := by
        rcases Nat.eq_zero_or_pos i with rfl | h
        · rw [← Bool.not_eq_true, has_dot, at_some hi, e46] at h2
          exact absurd rfl h2
        · exact h
      rw [decide_eq_true hi0, getElem!_pos s (i - 1) (by omega)]
      rw [Bool.true_and, Bool.true_and, bne_iff_ne]
      intro e
      rw [← Bool.not_eq_true, con_two] at h3
      refine h3 ⟨i - 1, ?_, ?_⟩
      · rw [at_some (by omega), e]
      · rw [show i - 1 + 1 = i from by omega, at_some hi, e46]

set_option maxHeartbeats 4000000 in
theorem goodHost_any (s : ByteArray) (w : World) (hs : s.size ≤ 2147483648) (hm : MaxC w) :
    Calls Tryz.prog 33 #[.string s] w fun e w' => e = .returned (.bool (namB s)) ∧ Below w.heap.size w w' := by
  have HP := Lib.hid (fun W => (strings_HasPrefix s ⟨#[46]⟩ W).mono fun _ _ h => (⟨h.1, h.2.symm⟩ : _ ∧ _))
  obtain ⟨m, hmc⟩ := hm
  have HC := Lib.hid ((strings_Contains s ⟨#[46, 46]⟩ m w (by omega) hmc).mono fun _ _ h => (⟨h.1, h.2.symm⟩ : _ ∧ _))
  have HA := Lib.hid (fun W => all_Hos s W (by omega))
  have HV := Lib.hid (nam_is s)
  have e1 : decide (253 < s.size) = decide ((253 : Int) < (s.size : Int)) := by rw [decide_eq_decide]; omega
  rw [e1] at HV
  have HP2 : Hid (∀ W, Calls Tryz.prog 55 #[.string s, .string ⟨#[46]⟩] W fun e w' => e = .returned (.bool (Lib.hasPrefix s.data.toList [46])) ∧ W = w') := HP
  have HC2 : Hid (Calls Tryz.prog 56 #[.string s, .string ⟨#[46, 46]⟩] w fun e w' => e = .returned (.bool (Lib.contains s.data.toList [46, 46])) ∧ w = w') := HC
  clear e1 hmc HP HC
  generalize namB s = v at *
  generalize Lib.hasPrefix s.data.toList [46] = p at *
  generalize Lib.contains s.data.toList [46, 46] = c at *
  generalize allB hoyB s = A at *
  cases g1 : s.toList == []
  rotate_left
  · rw [g1] at HV
    go_enter Tryz.func33, Tryz.ntmps33
    go_wp2
    go_ret
    exact ⟨by rw [HV.out]; rfl, Below.refl _ _⟩
  cases g2 : decide ((253 : Int) < (s.size : Int))
  rotate_left
  · rw [g1, g2] at HV
    go_enter Tryz.func33, Tryz.ntmps33
    go_wp2
    go_ret
    exact ⟨by rw [HV.out]; rfl, Below.refl _ _⟩
  cases p
  rotate_left
  · rw [g1, g2] at HV
    go_enter Tryz.func33, Tryz.ntmps33
    go_wp2_with (go_at_call 55; (with_reducible refine (HP2.out _).mono ?_); rintro e w1 ⟨rfl, rfl⟩)
    go_ret
    exact ⟨by rw [HV.out]; rfl, Below.refl _ _⟩
  cases c
  rotate_left
  · rw [g1, g2] at HV
    go_enter Tryz.func33, Tryz.ntmps33
    go_wp2_with (first
      | (go_at_call 55; (with_reducible refine (HP2.out _).mono ?_); rintro e w1 ⟨rfl, rfl⟩)
      | (go_at_call 56; (with_reducible refine HC2.out.mono ?_); rintro e w1 ⟨rfl, rfl⟩))
    go_ret
    exact ⟨by rw [HV.out]; rfl, Below.refl _ _⟩
  · rw [g1, g2] at HV
    go_enter Tryz.func33, Tryz.ntmps33
    go_wp2_with (first
      | (go_at_call 55; (with_reducible refine (HP2.out _).mono ?_); rintro e w1 ⟨rfl, rfl⟩)
      | (go_at_call 56; (with_reducible refine HC2.out.mono ?_); rintro e w1 ⟨rfl, rfl⟩))
    refine (HA.out _).mono ?_
    rintro e w2 ⟨rfl, b2⟩
    have HB := Lib.hid b2
    clear b2
    go_wp2
    go_ret
    exact ⟨by rw [HV.out]; rfl, HB.out⟩

end Go.Proofs.YtagbndkfbnlpoaaGreatDoor
namespace Go.Proofs.YtagbndkfbnlpoaaGreatDoor
open Go.RowKit

theorem nam_no {s : ByteArray} {k : Nat} (hk : k < s.size) (h : hosB s k = false) : namB s = false := by
  cases hn : namB s with
  | false => rfl
  | true =>
    unfold namB at hn
    simp only [Bool.and_eq_true, List.all_eq_true, List.mem_range] at hn
    rw [hn.2 k hk] at h
    cases h
theorem nam_end {s : ByteArray} (h : ∀ j, j < s.size → hosB s j = true) : namB s = (decide (0 < s.size) && decide ((s.size : Int) < 254)) := by
  have e2 : decide (s.size < 254) = decide ((s.size : Int) < 254) := by rw [decide_eq_decide]; omega
  unfold namB
  rw [e2, (List.all_eq_true.2 fun j hj => h j (List.mem_range.1 hj)), Bool.and_true]
theorem hos_ways (s : ByteArray) (k : Nat) (b : UInt8) (hk : k < s.size) (hb : s[k] = b) :
    hosB s k = (decide ((97 : Int) ≤ (b.toNat : Int)) && decide ((b.toNat : Int) ≤ 122) || digB b || ((b.toNat : Int) == 45) || (((b.toNat : Int) == 46) && decide (0 < k) && s[k - 1]! != 46)) := by
  have e1 : (b == 45) = ((b.toNat : Int) == 45) := by
    rw [Bool.eq_iff_iff, beq_iff_eq, beq_iff_eq, ← UInt8.toNat_inj]
    show b.toNat = 45 ↔ _
    omega
  have e2 : (b == 46) = ((b.toNat : Int) == 46) := by
    rw [Bool.eq_iff_iff, beq_iff_eq, beq_iff_eq, ← UInt8.toNat_inj]
    show b.toNat = 46 ↔ _
    omega
  unfold hosB
  rw [getElem!_pos s k hk, hb, lower_ways, e1, e2]
theorem bne_46 (a : UInt8) : (a != 46) = ((a.toNat : Int) != 46) := by
  have e : (a == 46) = ((a.toNat : Int) == 46) := by
    rw [Bool.eq_iff_iff, beq_iff_eq, beq_iff_eq, ← UInt8.toNat_inj]
    show a.toNat = 46 ↔ _
    omega
  show (!(a == 46)) = !((a.toNat : Int) == 46)
  rw [e]

set_option maxRecDepth 100000 in
set_option maxHeartbeats 8000000 in
theorem rnamed26_any (s : ByteArray) (w : World) (hs : s.size ≤ 9223372036854775807) :
    Calls Tryz.prog 37 #[.string s] w fun e w' => e = .returned (.bool (namB s)) ∧ w = w' := by
  obtain ⟨V, hV⟩ : ∃ V, V = namB s := ⟨_, rfl⟩
  have HVN := Lib.hid (fun k (hk : k < s.size) h => hV.trans (nam_no hk h))
  have HVE := Lib.hid (fun h => hV.trans (nam_end (s := s) h))
  rw [← hV]
  clear hV
  go_enter Tryz.func37, Tryz.ntmps37
  go_wp2_with fail
  go_loop [3] (fun i => ∃ k : Nat, i = .int .i64 k ∧ k ≤ s.size ∧ ∀ j, j < k → hosB s j = true) (fun i => s.size - (intOf i).toNat)
  case atStart => exact ⟨0, rfl, Nat.zero_le _, fun j h => by omega⟩
  case round =>
    obtain ⟨k, rfl, hk, hno⟩ := hrel
    have HN := Lib.hid hno
    clear hno
    by_cases hlt : k < s.size
    · obtain ⟨b, hb⟩ : ∃ b, s[k] = b := ⟨_, rfl⟩
      have HD := Lib.hid (fun W => refDigit_any b W)
      have HH := hos_ways s k b hlt hb
      have HNY := Lib.hid (fun (h : hosB s k = true) => show ∀ j, j < k + 1 → hosB s j = true from fun j hj => by
        by_cases e : j = k
        · subst e; exact h
        · exact HN.out j (by omega))
      have HNO := Lib.hid (HVN.out k hlt)
      clear HVN HVE HN
      generalize hosB s k = hv at HH HNY HNO
      generalize digB b = d at HD HH
      cases g1 : decide ((97 : Int) ≤ (b.toNat : Int))
      · cases d
        rotate_left
        · rw [g1] at HH
          have HY := Lib.hid (HNY.out HH)
          clear HH HNY HNO
          go_wp2_with (go_at_call 53; (with_reducible refine (HD.out _).mono ?_); rintro e w1 ⟨rfl, rfl⟩)
          go_round
          case rel => exact ⟨k + 1, by go_num, by omega, HY.out⟩
          case measure => simp [intOf] <;> omega
        cases g3 : ((b.toNat : Int) == 45)
        rotate_left
        · rw [g1, g3] at HH
          have HY := Lib.hid (HNY.out HH)
          clear HH HNY HNO
          go_wp2_with (go_at_call 53; (with_reducible refine (HD.out _).mono ?_); rintro e w1 ⟨rfl, rfl⟩)
          go_round
          case rel => exact ⟨k + 1, by go_num, by omega, HY.out⟩
          case measure => simp [intOf] <;> omega
        cases g4 : ((b.toNat : Int) == 46)
        · rw [g1, g3, g4] at HH
          have HY := Lib.hid (HNO.out HH)
          clear HH HNY HNO
          go_wp2_with (go_at_call 53; (with_reducible refine (HD.out _).mono ?_); rintro e w1 ⟨rfl, rfl⟩)
          go_ret
          exact ⟨by rw [HY.out]; rfl, rfl⟩
        rcases Nat.eq_zero_or_pos k with hk0 | hk0
        · have gk : ¬ (0 : Int) < (k : Int) := by omega
          have gk2 : decide (0 < k) = false := decide_eq_false (by omega)
          rw [g1, g3, g4, gk2] at HH
          have HY := Lib.hid (HNO.out HH)
          clear gk2 hk0 HH HNY HNO
          go_wp2_with (go_at_call 53; (with_reducible refine (HD.out _).mono ?_); rintro e w1 ⟨rfl, rfl⟩)
          go_ret
          exact ⟨by rw [HY.out]; rfl, rfl⟩
        have gk : (0 : Int) < (k : Int) := by omega
        have gk2 : decide (0 < k) = true := decide_eq_true hk0
        obtain ⟨a, ha⟩ : ∃ a, s[k - 1] = a := ⟨_, rfl⟩
        rw [getElem!_pos s (k - 1) (by omega), ha, bne_46] at HH
        obtain ⟨m, hm⟩ : ∃ m, m = k - 1 := ⟨_, rfl⟩
        have hml : m < s.size := by omega
        have ha2 : s[m] = a := by subst hm; exact ha
        have hmk : (k : Int) - 1 = (m : Int) := by omega
        clear ha hm
        cases g5 : ((a.toNat : Int) != 46)
        · rw [g1, g3, g4, gk2, g5] at HH
          have HY := Lib.hid (HNO.out HH)
          clear gk2 hk0 HH HNY HNO
          go_wp2_with (go_at_call 53; (with_reducible refine (HD.out _).mono ?_); rintro e w1 ⟨rfl, rfl⟩)
          go_ret
          exact ⟨by rw [HY.out]; rfl, rfl⟩
        · rw [g1, g3, g4, gk2, g5] at HH
          have HY := Lib.hid (HNY.out HH)
          clear gk2 hk0 HH HNY HNO
          go_wp2_with (go_at_call 53; (with_reducible refine (HD.out _).mono ?_); rintro e w1 ⟨rfl, rfl⟩)
          go_round
          case rel => exact ⟨k + 1, by go_num, by omega, HY.out⟩
          case measure => simp [intOf] <;> omega
      · cases g2 : decide ((b.toNat : Int) ≤ 122)
        · cases d
          rotate_left
          · rw [g1, g2] at HH
            have HY := Lib.hid (HNY.out HH)
            clear HH HNY HNO
            go_wp2_with (go_at_call 53; (with_reducible refine (HD.out _).mono ?_); rintro e w1 ⟨rfl, rfl⟩)
            go_round
            case rel => exact ⟨k + 1, by go_num, by omega, HY.out⟩
            case measure => simp [intOf] <;> omega
          cases g3 : ((b.toNat : Int) == 45)
          rotate_left
          · rw [g1, g2, g3] at HH
            have HY := Lib.hid (HNY.out HH)
            clear HH HNY HNO
            go_wp2_with (go_at_call 53; (with_reducible refine (HD.out _).mono ?_); rintro e w1 ⟨rfl, rfl⟩)
            go_round
            case rel => exact ⟨k + 1, by go_num, by omega, HY.out⟩
            case measure => simp [intOf] <;> omega
          cases g4 : ((b.toNat : Int) == 46)
          · rw [g1, g2, g3, g4] at HH
            have HY := Lib.hid (HNO.out HH)
            clear HH HNY HNO
            go_wp2_with (go_at_call 53; (with_reducible refine (HD.out _).mono ?_); rintro e w1 ⟨rfl, rfl⟩)
            go_ret
            exact ⟨by rw [HY.out]; rfl, rfl⟩
          rcases Nat.eq_zero_or_pos k with hk0 | hk0
          · have gk : ¬ (0 : Int) < (k : Int) := by omega
            have gk2 : decide (0 < k) = false := decide_eq_false (by omega)
            rw [g1, g2, g3, g4, gk2] at HH
            have HY := Lib.hid (HNO.out HH)
            clear gk2 hk0 HH HNY HNO
            go_wp2_with (go_at_call 53; (with_reducible refine (HD.out _).mono ?_); rintro e w1 ⟨rfl, rfl⟩)
            go_ret
            exact ⟨by rw [HY.out]; rfl, rfl⟩
          have gk : (0 : Int) < (k : Int) := by omega
          have gk2 : decide (0 < k) = true := decide_eq_true hk0
          obtain ⟨a, ha⟩ : ∃ a, s[k - 1] = a := ⟨_, rfl⟩
          rw [getElem!_pos s (k - 1) (by omega), ha, bne_46] at HH
          obtain ⟨m, hm⟩ : ∃ m, m = k - 1 := ⟨_, rfl⟩
          have hml : m < s.size := by omega
          have ha2 : s[m] = a := by subst hm; exact ha
          have hmk : (k : Int) - 1 = (m : Int) := by omega
          clear ha hm
          cases g5 : ((a.toNat : Int) != 46)
          · rw [g1, g2, g3, g4, gk2, g5] at HH
            have HY := Lib.hid (HNO.out HH)
            clear gk2 hk0 HH HNY HNO
            go_wp2_with (go_at_call 53; (with_reducible refine (HD.out _).mono ?_); rintro e w1 ⟨rfl, rfl⟩)
            go_ret
            exact ⟨by rw [HY.out]; rfl, rfl⟩
          · rw [g1, g2, g3, g4, gk2, g5] at HH
            have HY := Lib.hid (HNY.out HH)
            clear gk2 hk0 HH HNY HNO
            go_wp2_with (go_at_call 53; (with_reducible refine (HD.out _).mono ?_); rintro e w1 ⟨rfl, rfl⟩)
            go_round
            case rel => exact ⟨k + 1, by go_num, by omega, HY.out⟩
            case measure => simp [intOf] <;> omega
        · rw [g1, g2] at HH
          have HY := Lib.hid (HNY.out HH)
          clear HH HNY HNO
          go_wp2_with (go_at_call 53; (with_reducible refine (HD.out _).mono ?_); rintro e w1 ⟨rfl, rfl⟩)
          go_round
          case rel => exact ⟨k + 1, by go_num, by omega, HY.out⟩
          case measure => simp [intOf] <;> omega
    · obtain rfl : k = s.size := by omega
      have HV := Lib.hid (HVE.out HN.out)
      have g1 : ¬ (s.size : Int) < (s.size : Int) := by omega
      clear HVN HVE HN hlt hk
      cases g2 : decide (0 < s.size) <;> cases g3 : decide ((s.size : Int) < 254)
      all_goals
        rw [g2, g3] at HV
        go_wp2
        go_ret
        exact ⟨by rw [HV.out]; rfl, rfl⟩

end Go.Proofs.YtagbndkfbnlpoaaGreatDoor
namespace Go.Proofs.YtagbndkfbnlpoaaGreatDoor
open Go.RowKit

theorem own_37 : ownB 37 = true := by kernel_rfl
theorem hexD_ext : (List.range 16).all (fun n => ((⟨#[48, 49, 50, 51, 52, 53, 54, 55, 56, 57, 65, 66, 67, 68, 69, 70]⟩ : ByteArray).extract n (n + 1)).toList == [digG n]) = true := by kernel_rfl
theorem digE {S : ByteArray} (hS : S = ⟨#[48, 49, 50, 51, 52, 53, 54, 55, 56, 57, 65, 66, 67, 68, 69, 70]⟩) {u : Nat} (hu : u < 16) : S.extract u (u + 1) = ⟨#[digG u]⟩ := by
  have := (List.all_eq_true.1 hexD_ext) u (List.mem_range.2 hu)
  rw [← hS] at this
  exact (arr_of (toList_eq this)).symm
theorem pq_room {s : ByteArray} {o : ByteArray} {l : List UInt8} (hs : s.size ≤ 1099511627776) (h : o.data.toList ++ l = pqL s.data.toList) : o.size + l.length ≤ 3298534883328 := by
  have h1 := congrArg List.length h
  have h2 := pqL_len _ s.data.toList (Nat.le_refl _)
  simp at h1 h2
  omega
/-- A step of the loop. -/
structure QRel (s : ByteArray) (o i : Value) (k : Nat) (x : ByteArray) : Prop where
  ho : o = .string x
  hi : i = .int .i64 k
  hk : k ≤ s.size
  he : x.data.toList ++ pqL (s.data.toList.drop k) = pqL s.data.toList
theorem three_list {o : ByteArray} {x y : UInt8} : (((o ++ ⟨#[37]⟩) ++ ⟨#[x]⟩) ++ ⟨#[y]⟩ : ByteArray).data.toList = o.data.toList ++ [37, x, y] := by simp
theorem three_pq {o : ByteArray} {x y : UInt8} {l m : List UInt8} (h : o.data.toList ++ ([37, x, y] ++ l) = m) : (((o ++ ⟨#[37]⟩) ++ ⟨#[x]⟩) ++ ⟨#[y]⟩ : ByteArray).data.toList ++ l = m := by
  rw [three_list, ← h]
  simp
theorem one_pq {s o : ByteArray} {k : Nat} {b : UInt8} {l m : List UInt8} (hk : k < s.size) (hb : s[k] = b) (h : o.data.toList ++ ([b] ++ l) = m) : (o ++ s.extract k (k + 1)).data.toList ++ l = m := by
  rw [← h, ByteArray.toList_data_append, ext_list, drop_cons s k hk, hb]
  simp
theorem pq_own {b : UInt8} {l : List UInt8} (hp : pctL b l = false) (ho : ownB b = true) : pqL (b :: l) = [b] ++ pqL l := by
  rw [pqL_esc hp]
  unfold escL
  rw [ho]
  rfl
theorem pq_not {b : UInt8} {l : List UInt8} (hp : pctL b l = false) (ho : ownB b = false) : pqL (b :: l) = [37, digG (b.toNat / 16), digG (b.toNat % 16)] ++ pqL l := by
  rw [pqL_esc hp]
  unfold escL
  rw [ho]
  rfl
theorem pct_no {b : UInt8} (h : b ≠ 37) (l : List UInt8) : pctL b l = false := by
  match l with
  | [] => rfl
  | [_] => rfl
  | x :: y :: l =>
    show (b == 37 && hexY x && hexY y) = false
    rw [show (b == 37) = false from by simpa using h]
    rfl
theorem pct_end {s : ByteArray} {k : Nat} (b : UInt8) (h : ¬ k + 2 < s.size) : pctL b (s.data.toList.drop (k + 1)) = false := by
  have hl : (s.data.toList.drop (k + 1)).length ≤ 1 := by simp; omega
  generalize s.data.toList.drop (k + 1) = l at hl
  match l, hl with
  | [], _ => rfl
  | [_], _ => rfl
theorem pct_two {s : ByteArray} {k : Nat} {b x y : UInt8} (h : k + 2 < s.size) (hx : s[k + 1] = x) (hy : s[k + 2] = y) : pctL b (s.data.toList.drop (k + 1)) = (b == 37 && hexY x && hexY y) := by
  rw [drop_cons s (k + 1) (by omega), drop_cons s (k + 1 + 1) h, hx]
  show (b == 37 && hexY x && hexY s[k + 1 + 1]) = _
  rw [show s[k + 1 + 1] = y from hy]

set_option maxHeartbeats 16000000 in
set_option maxRecDepth 100000 in
theorem rquote_any (s : ByteArray) (w : World) (hs : s.size ≤ 1099511627776) :
    Calls Tryz.prog 28 #[.string s] w fun e w' => e = .returned (.string (pqS s)) ∧ Below w.heap.size w w' := by
  obtain ⟨S, hS⟩ : ∃ S : ByteArray, S = ⟨#[48, 49, 50, 51, 52, 53, 54, 55, 56, 57, 65, 66, 67, 68, 69, 70]⟩ := ⟨_, rfl⟩
  have hz : S.size = 16 := by rw [hS]; rfl
  have HD := Lib.hid (fun u (hu : u < 16) => digE hS hu)
  go_enter Tryz.func28, Tryz.ntmps28
  rw [← hS]
  clear hS
  go_wp2_with fail
  go_loopw [3, 5] (fun o i wr => (∃ k x, QRel s o i k x) ∧ Below w.heap.size w wr) (fun _ i _ => s.size - (intOf i).toNat)
  case atStart => exact ⟨⟨0, ⟨#[]⟩, rfl, rfl, Nat.zero_le _, rfl⟩, Below.refl _ _⟩
  case round =>
    obtain ⟨⟨k, o, rfl, rfl, hk, he⟩, hW⟩ := hrel
    have HE := Lib.hid he
    have HW := Lib.hid hW
    have hro := pq_room hs he
    clear he hW
    by_cases hlt : k < s.size
    · obtain ⟨b, hb⟩ : ∃ b, s[k] = b := ⟨_, rfl⟩
      have HBB := Lib.hid hb
      have hdr := drop_cons s k hlt
      rw [hb] at hdr
      rw [hdr] at HE
      clear hdr
      have HH := Lib.hid (fun W => has_any ⟨#[34, 60, 62, 96]⟩ b W (by decide))
      have f1 : decide (33 ≤ b.toNat) = !decide ((b.toNat : Int) < 33) := by
        by_cases h : b.toNat < 33
        · rw [decide_eq_false (by omega), decide_eq_true (by omega)]; rfl
        · rw [decide_eq_true (by omega), decide_eq_false (by omega)]; rfl
      have f2 : decide (b.toNat ≤ 126) = !decide ((126 : Int) < (b.toNat : Int)) := by
        by_cases h : b.toNat ≤ 126
        · rw [decide_eq_true h, decide_eq_false (by omega)]; rfl
        · rw [decide_eq_false h, decide_eq_true (by omega)]; rfl
      have hown : ownB b = (!decide ((b.toNat : Int) < 33) && !decide ((126 : Int) < (b.toNat : Int)) && !hasB ⟨#[34, 60, 62, 96]⟩ b) := by rw [← f1, ← f2]; rfl
      clear f1 f2
      by_cases h37 : b = 37
      · have e1 : ((b.toNat : Int) == 37) = true := by rw [h37]; rfl
        have ho : ownB b = true := by rw [h37]; exact own_37
        have HO := Lib.hid (show decide ((b.toNat : Int) < 33) = false ∧ decide ((126 : Int) < (b.toNat : Int)) = false ∧ hasB ⟨#[34, 60, 62, 96]⟩ b = false from by rw [h37]; exact ⟨rfl, rfl, by kernel_rfl⟩)
        by_cases h2 : k + 2 < s.size
        · have g2 : (k : Int) + 2 < (s.size : Int) := by omega
          have h1 : k + 1 < s.size := by omega
          obtain ⟨x, hx⟩ : ∃ x, s[k + 1] = x := ⟨_, rfl⟩
          obtain ⟨y, hy⟩ : ∃ y, s[k + 2] = y := ⟨_, rfl⟩
          have hpc := pct_two (b := b) h2 hx hy
          have HX := Lib.hid (fun W => refHex_any x W)
          have HY := Lib.hid (fun W => refHex_any y W)
          have rx := hexB_range x
          have ry := hexB_range y
          cases gx : hexY x
          · rw [gx] at hpc
            have HF := Lib.hid (show o.data.toList ++ ([b] ++ pqL (s.data.toList.drop (k + 1))) = pqL s.data.toList from by rw [← HE.out, pq_own (by rw [hpc]; cases (b == 37) <;> rfl) ho])
            have gx2 : decide ((0 : Int) ≤ hexB x) = false := gx
            clear hpc gx HE hown ho h37
            obtain ⟨d1, d2, d3⟩ := HO.out
            rw [d3] at HH
            clear d3
            generalize hexB x = p at *
            generalize hexB y = q at *
            have hw1 : IntKind.i64.wrap ((k : Int) + 1) = (k : Int) + 1 := IntWalk.i64_in _ (by omega)
            have hrm := pq_room hs HF.out
            go_wp2_with (first
              | (go_at_call 50; (with_reducible refine (HH.out _).mono ?_); rintro e w1 ⟨rfl, rfl⟩)
              | (go_at_call 52; first | (with_reducible refine (HX.out _).mono ?_) | (with_reducible refine (HY.out _).mono ?_)
                 rintro e w1 ⟨rfl, rfl⟩))
            go_roundw
            case rel => exact ⟨⟨k + 1, _, rfl, by go_num, by omega, one_pq hlt HBB.out HF.out⟩, HW.out⟩
            case measure => simp [intOf]; omega
          · cases gy : hexY y
            · rw [gx, gy] at hpc
              have HF := Lib.hid (show o.data.toList ++ ([b] ++ pqL (s.data.toList.drop (k + 1))) = pqL s.data.toList from by rw [← HE.out, pq_own (by rw [hpc]; cases (b == 37) <;> rfl) ho])
              have gx2 : decide ((0 : Int) ≤ hexB x) = true := gx
              have gy2 : decide ((0 : Int) ≤ hexB y) = false := gy
              clear hpc gx gy HE hown ho h37
              obtain ⟨d1, d2, d3⟩ := HO.out
              rw [d3] at HH
              clear d3
              generalize hexB x = p at *
              generalize hexB y = q at *
              have hw1 : IntKind.i64.wrap ((k : Int) + 1) = (k : Int) + 1 := IntWalk.i64_in _ (by omega)
              have hrm := pq_room hs HF.out
              go_wp2_with (first
                | (go_at_call 50; (with_reducible refine (HH.out _).mono ?_); rintro e w1 ⟨rfl, rfl⟩)
                | (go_at_call 52; first | (with_reducible refine (HX.out _).mono ?_) | (with_reducible refine (HY.out _).mono ?_)
                   rintro e w1 ⟨rfl, rfl⟩))
              go_roundw
              case rel => exact ⟨⟨k + 1, _, rfl, by go_num, by omega, one_pq hlt HBB.out HF.out⟩, HW.out⟩
              case measure => simp [intOf]; omega
            · have gx2 : decide ((0 : Int) ≤ hexB x) = true := gx
              have gy2 : decide ((0 : Int) ≤ hexB y) = true := gy
              have HF := Lib.hid (show o.data.toList ++ ([37, digG (hexB x).toNat, digG (hexB y).toNat] ++ pqL (s.data.toList.drop (k + 3))) = pqL s.data.toList from by
                rw [← HE.out, h37, drop_cons s (k + 1) h1, drop_cons s (k + 1 + 1) h2, hx, show s[k + 1 + 1] = y from hy, pqL_pct _ gx gy]
                rfl)
              have x0 : (0 : Int) ≤ hexB x := of_decide_eq_true gx
              have y0 : (0 : Int) ≤ hexB y := of_decide_eq_true gy
              obtain ⟨p, hp⟩ : ∃ p : Nat, hexB x = p := ⟨(hexB x).toNat, by omega⟩
              obtain ⟨q, hq⟩ : ∃ q : Nat, hexB y = q := ⟨(hexB y).toNat, by omega⟩
              rw [hp] at rx HX HF gx2
              rw [hq] at ry HY HF gy2
              have HU := HD.out p (by omega)
              have HV := HD.out q (by omega)
              clear hpc gx gy hown ho h37 HO HH HE hp hq x0 y0 HD
              have HFF := Lib.hid (show o.data.toList ++ ([37, digG p, digG q] ++ pqL (s.data.toList.drop (k + 3))) = pqL s.data.toList from HF.out)
              clear HF
              generalize digG p = u at *
              generalize digG q = v at *
              have HX2 := Lib.hid (fun W => (HX.out W).mono fun _ _ h => (⟨h.1, h.2.symm⟩ : _ ∧ _))
              have HY2 := Lib.hid (fun W => (HY.out W).mono fun _ _ h => (⟨h.1, h.2.symm⟩ : _ ∧ _))
              have hrm := pq_room hs HFF.out
              go_wp2_with (first
                | (go_at_call 50; (with_reducible refine (HH.out _).mono ?_); rintro e w1 ⟨rfl, rfl⟩)
                | (go_at_call 52; first | (with_reducible refine (HX.out _).mono ?_) | (with_reducible refine (HY.out _).mono ?_)
                   rintro e w1 ⟨rfl, rfl⟩))
              go_quiet ((go_at_call 52; first | with_reducible exact Calls.quiet_of_same (HX2.out _) | with_reducible exact Calls.quiet_of_same (HY2.out _)))
              go_wp2_with fail
              go_quiet (fail)
              go_wp2
              go_roundw
              case rel => exact ⟨⟨k + 3, _, rfl, by go_num, by omega, three_pq HFF.out⟩, Below.drewN' HW.out _⟩
              case measure => simp [intOf]; omega
        · have g2 : ¬ (k : Int) + 2 < (s.size : Int) := by omega
          have HF := Lib.hid (show o.data.toList ++ ([b] ++ pqL (s.data.toList.drop (k + 1))) = pqL s.data.toList from by rw [← HE.out, pq_own (pct_end b h2) ho])
          clear HE hown ho h37
          obtain ⟨d1, d2, d3⟩ := HO.out
          rw [d3] at HH
          clear d3
          have hw1 : IntKind.i64.wrap ((k : Int) + 1) = (k : Int) + 1 := IntWalk.i64_in _ (by omega)
          have hrm := pq_room hs HF.out
          go_wp2_with (first
            | (go_at_call 50; (with_reducible refine (HH.out _).mono ?_); rintro e w1 ⟨rfl, rfl⟩)
            | (go_at_call 52; first | (with_reducible refine (HX.out _).mono ?_) | (with_reducible refine (HY.out _).mono ?_)
               rintro e w1 ⟨rfl, rfl⟩))
          go_roundw
          case rel => exact ⟨⟨k + 1, _, rfl, by go_num, by omega, one_pq hlt HBB.out HF.out⟩, HW.out⟩
          case measure => simp [intOf]; omega
      · have e1 : ((b.toNat : Int) == 37) = false := by rw [beq_eq_false_iff_ne]; intro e; exact h37 (UInt8.toNat_inj.1 (by show _ = 37; omega))
        have hp := pct_no h37 (s.data.toList.drop (k + 1))
        clear h37
        cases ho : ownB b
        · have HF := Lib.hid (show o.data.toList ++ ([37, digG (b.toNat / 16), digG (b.toNat % 16)] ++ pqL (s.data.toList.drop (k + 1))) = pqL s.data.toList from by rw [← HE.out, pq_not hp ho])
          rw [ho] at hown
          have hbl := b.toNat_lt
          obtain ⟨u, hu⟩ : ∃ u, u = b.toNat / 16 := ⟨_, rfl⟩
          obtain ⟨v, hv⟩ : ∃ v, v = b.toNat % 16 := ⟨_, rfl⟩
          have hu16 : u < 16 := by omega
          have hv16 : v < 16 := by omega
          rw [← hu, ← hv] at HF
          have eu : (b.toNat : Int).tdiv 16 = (u : Int) := by rw [hu]; rfl
          have ev : (b.toNat : Int).tmod 16 = (v : Int) := by rw [hv]; rfl
          have HU := HD.out u hu16
          have HV := HD.out v hv16
          clear hu hv HD HE hp ho
          generalize digG u = x at *
          generalize digG v = y at *
          generalize hasB ⟨#[34, 60, 62, 96]⟩ b = h at *
          cases d1 : decide ((b.toNat : Int) < 33)
          · cases d2 : decide ((126 : Int) < (b.toNat : Int))
            · cases h
              · rw [d1, d2] at hown; cases hown
              · clear hown
                have hrm := pq_room hs HF.out
                go_wp2_with (first
                  | (go_at_call 50; (with_reducible refine (HH.out _).mono ?_); rintro e w1 ⟨rfl, rfl⟩)
                  | (go_at_call 52; first | (with_reducible refine (HX.out _).mono ?_) | (with_reducible refine (HY.out _).mono ?_)
                     rintro e w1 ⟨rfl, rfl⟩))
                go_quiet (fail)
                go_wp2
                go_roundw
                case rel => exact ⟨⟨k + 1, _, rfl, by go_num, by omega, three_pq HF.out⟩, Below.drewN' HW.out _⟩
                case measure => simp [intOf]; omega
            · clear hown
              have hrm := pq_room hs HF.out
              go_wp2_with (first
                | (go_at_call 50; (with_reducible refine (HH.out _).mono ?_); rintro e w1 ⟨rfl, rfl⟩)
                | (go_at_call 52; first | (with_reducible refine (HX.out _).mono ?_) | (with_reducible refine (HY.out _).mono ?_)
                   rintro e w1 ⟨rfl, rfl⟩))
              go_quiet (fail)
              go_wp2
              go_roundw
              case rel => exact ⟨⟨k + 1, _, rfl, by go_num, by omega, three_pq HF.out⟩, Below.drewN' HW.out _⟩
              case measure => simp [intOf]; omega
          · clear hown
            have hrm := pq_room hs HF.out
            go_wp2_with (first
              | (go_at_call 50; (with_reducible refine (HH.out _).mono ?_); rintro e w1 ⟨rfl, rfl⟩)
              | (go_at_call 52; first | (with_reducible refine (HX.out _).mono ?_) | (with_reducible refine (HY.out _).mono ?_)
                 rintro e w1 ⟨rfl, rfl⟩))
            go_quiet (fail)
            go_wp2
            go_roundw
            case rel => exact ⟨⟨k + 1, _, rfl, by go_num, by omega, three_pq HF.out⟩, Below.drewN' HW.out _⟩
            case measure => simp [intOf]; omega
        · have HF := Lib.hid (show o.data.toList ++ ([b] ++ pqL (s.data.toList.drop (k + 1))) = pqL s.data.toList from by rw [← HE.out, pq_own hp ho])
          rw [ho] at hown
          generalize hasB ⟨#[34, 60, 62, 96]⟩ b = h at *
          obtain ⟨⟨d1, d2⟩, rfl⟩ : (decide ((b.toNat : Int) < 33) = false ∧ decide ((126 : Int) < (b.toNat : Int)) = false) ∧ h = false := by
            have := hown.symm
            simpa using this
          clear hown HE hp ho
          have hw1 : IntKind.i64.wrap ((k : Int) + 1) = (k : Int) + 1 := IntWalk.i64_in _ (by omega)
          have hrm := pq_room hs HF.out
          go_wp2_with (first
            | (go_at_call 50; (with_reducible refine (HH.out _).mono ?_); rintro e w1 ⟨rfl, rfl⟩)
            | (go_at_call 52; first | (with_reducible refine (HX.out _).mono ?_) | (with_reducible refine (HY.out _).mono ?_)
               rintro e w1 ⟨rfl, rfl⟩))
          go_roundw
          case rel => exact ⟨⟨k + 1, _, rfl, by go_num, by omega, one_pq hlt HBB.out HF.out⟩, HW.out⟩
          case measure => simp [intOf]; omega
    · have hke : k = s.size := by omega
      have HF := Lib.hid (show o = pqS s from by
        have := HE.out
        rw [pq_end (by omega), List.append_nil] at this
        unfold pqS
        rw [← this])
      have g1 : ¬ (k : Int) < (s.size : Int) := by omega
      clear HE hro
      go_wp2
      go_ret
      exact ⟨by rw [HF.out]; rfl, HW.out⟩

end Go.Proofs.YtagbndkfbnlpoaaGreatDoor
