/-
  What the document's own Is of layer 9 answers: whether the machine of places ends where a text may end. Condition: the text is as long as a length can be.
-/
import Derived.Test.YthiclminkbnibaaDoorJi
namespace Go.Proofs.YthiclminkbnibaaDoor
open Go.RowKit

/-- Whether a byte of a kind stands at a place. -/
def isAt (s : ByteArray) (i : Nat) (p : UInt8 → Bool) : Bool := decide (i < s.size) && p (s.data.toList.getD i 0)
theorem isAt_in {s : ByteArray} {i : Nat} {p : UInt8 → Bool} (h : i < s.size) : isAt s i p = p s[i] := by
  unfold isAt
  rw [getD_at h, decide_eq_true h, Bool.true_and]
theorem isAt_out {s : ByteArray} {i : Nat} {p : UInt8 → Bool} (h : ¬ i < s.size) : isAt s i p = false := by
  unfold isAt
  rw [decide_eq_false h, Bool.false_and]
theorem isAt_yes {s : ByteArray} {i : Nat} {p : UInt8 → Bool} (h : isAt s i p = true) : ∃ h : i < s.size, p s[i] = true := by
  by_cases hi : i < s.size
  · exact ⟨hi, by rw [isAt_in hi] at h; exact h⟩
  · rw [isAt_out hi] at h; cases h
theorem isAt_no {s : ByteArray} {i : Nat} {p : UInt8 → Bool} (h : isAt s i p = false) : ∀ h : i < s.size, p s[i] = false := fun hi => by rw [isAt_in hi] at h; exact h

def minB (b : UInt8) : Bool := decide (b.toNat = 45)
def dotB (b : UInt8) : Bool := decide (b.toNat = 46)
def expB (b : UInt8) : Bool := decide (b.toNat = 101) || decide (b.toNat = 69)
def sigB (b : UInt8) : Bool := decide (b.toNat = 43) || decide (b.toNat = 45)
theorem minB_yes {b : UInt8} (h : minB b = true) : b.toNat = 45 := of_decide_eq_true h
theorem minB_no {b : UInt8} (h : minB b = false) : b.toNat ≠ 45 := of_decide_eq_false h
theorem dotB_yes {b : UInt8} (h : dotB b = true) : b.toNat = 46 := of_decide_eq_true h
theorem dotB_no {b : UInt8} (h : dotB b = false) : b.toNat ≠ 46 := of_decide_eq_false h
theorem expB_yes {b : UInt8} (h : expB b = true) : b.toNat = 101 ∨ b.toNat = 69 := by unfold expB at h; simpa using h
theorem expB_no {b : UInt8} (h : expB b = false) : b.toNat ≠ 101 ∧ b.toNat ≠ 69 := by unfold expB at h; simpa using h
theorem sigB_yes {b : UInt8} (h : sigB b = true) : b.toNat = 43 ∨ b.toNat = 45 := by unfold sigB at h; simpa using h
theorem sigB_no {b : UInt8} (h : sigB b = false) : b.toNat ≠ 43 ∧ b.toNat ≠ 45 := by unfold sigB at h; simpa using h
theorem beqT {b : UInt8} {c : Nat} (h : b.toNat = c) : ((b.toNat : Int) == (c : Int)) = true := by rw [h]; simp
theorem beqF {b : UInt8} {c : Nat} (h : b.toNat ≠ c) : ((b.toNat : Int) == (c : Int)) = false := by
  rw [beq_eq_false_iff_ne]
  omega

set_option maxHeartbeats 8000000 in
set_option maxRecDepth 100000 in
theorem is_any (s : ByteArray) (w : World) (hs : s.size ≤ 9223372036854775807) :
    Calls Tryd.prog 13 #[.string s] w fun e w' => e = .returned (.bool (isB s)) ∧ w = w' := by
  obtain ⟨v, hv⟩ : ∃ v, v = isB s := ⟨_, rfl⟩
  rw [← hv]
  have HV := Lib.hid hv
  clear hv
  go_enter Tryd.func13, Tryd.ntmps13
  go_upto_region 2 with fail
  go_cut [14] from 5 to 13 (fun s14 wx => s14 = .bool (isAt s 0 minB) ∧ wx = w)
  case first =>
    by_cases h0 : 0 < s.size
    · have HI := Lib.hid (isAt_in (p := minB) h0)
      cases h1 : minB s[0]
      · have f : ((s[0].toNat : Int) == 45) = false := beqF (minB_no h1)
        rw [h1] at HI
        clear h1
        go_wp2
        go_meet
        exact ⟨by rw [HI.out], rfl⟩
      · have f : ((s[0].toNat : Int) == 45) = true := beqT (minB_yes h1)
        rw [h1] at HI
        clear h1
        go_wp2
        go_meet
        exact ⟨by rw [HI.out], rfl⟩
    · have HI := Lib.hid (isAt_out (s := s) (p := minB) h0)
      have e1 : decide ((0 : Int) < (s.size : Int)) = false := decide_eq_false (by omega)
      have e2 : decide (0 < s.size) = false := decide_eq_false h0
      clear h0
      go_wp2
      go_meet
      exact ⟨by rw [HI.out], rfl⟩
  case rest =>
    obtain ⟨rfl, hwc⟩ := hcut
    have hwc := hwc.symm
    subst hwc
    go_upto_if 14 with fail
    go_cut [3] from 14 to 16 (fun s3 wx => ∃ i : Nat, i ≤ s.size ∧ s3 = .int .i64 i ∧ Hid (StA s i) ∧ wx = w)
    case first =>
      cases h : isAt s 0 minB
      · have HA := Lib.hid (stA_no fun h0 => minB_no (isAt_no h h0))
        clear h
        go_wp2
        go_meet
        exact ⟨0, by omega, rfl, HA, rfl⟩
      · obtain ⟨h0, h1⟩ := isAt_yes h
        have HA := Lib.hid (stA_yes h0 (minB_yes h1))
        clear h h1
        go_wp2
        go_meet
        exact ⟨1, by omega, rfl, HA, rfl⟩
    case rest =>
      obtain ⟨i, hi, rfl, HA, hwc⟩ := hcut
      have hwc := hwc.symm
      subst hwc
      have HR := Lib.hid fun W => run_any s i W hi hs
      have hk := dgs_le hi
      have hno := fun h : dgs s i = 0 => stA_none HA.out h
      have hone := fun h : dgs s i = 1 => stA_one HA.out h
      have hnou := fun (h : 1 < dgs s i) (hl : i < s.size) (e : s[i].toNat = 48) => stA_nought HA.out h hl e
      have hmany := fun (h : dgs s i ≠ 0) (hl : i < s.size) (e : s[i].toNat ≠ 48) => stA_many HA.out h hl e
      clear HA
      generalize dgs s i = n at *
      by_cases n0 : n = 0
      · have HF := Lib.hid (hno n0)
        subst n0
        clear hno hone hnou hmany
        go_wp2_with (go_at_call 30; refine (HR.out _).mono ?_; rintro e w' ⟨rfl, rfl⟩)
        go_ret
        exact ⟨by rw [HV.out, HF.out]; rfl, rfl⟩
      have hlt : i < s.size := by omega
      by_cases n2 : 1 < n ∧ s[i].toNat = 48
      · obtain ⟨n1, n2⟩ := n2
        have HF := Lib.hid (hnou n1 hlt n2)
        have f : ((s[i].toNat : Int) == 48) = true := beqT n2
        have f0 : ((n : Int) == 0) = false := by rw [beq_eq_false_iff_ne]; omega
        have f1 : decide ((1 : Int) < (n : Int)) = true := decide_eq_true (by omega)
        clear hno hone hnou hmany n2
        go_wp2_with (go_at_call 30; refine (HR.out _).mono ?_; rintro e w' ⟨rfl, rfl⟩)
        go_ret
        exact ⟨by rw [HV.out, HF.out]; rfl, rfl⟩
      have HB : Hid (StB s (i + n)) := by
        by_cases h1 : n = 1
        · exact hone h1
        · exact hmany n0 hlt (fun e => n2 ⟨by omega, e⟩)
      have hg : (((n : Int) == 0) = false) ∧ (decide ((1 : Int) < (n : Int)) = false ∨ decide ((1 : Int) < (n : Int)) = true ∧ ((s[i].toNat : Int) == 48) = false) := by
        refine ⟨by rw [beq_eq_false_iff_ne]; omega, ?_⟩
        by_cases h1 : 1 < n
        · exact .inr ⟨decide_eq_true (by omega), beqF fun e => n2 ⟨h1, e⟩⟩
        · exact .inl (decide_eq_false (by omega))
      clear hno hone hnou hmany n2 n0
      have HG := Lib.hid hg.2
      have f0 := hg.1
      clear hg
      go_upto_region 5 with (go_at_call 30; refine (HR.out _).mono ?_; rintro e w' ⟨rfl, rfl⟩)
      go_cut [31] from 20 to 30 (fun s31 wx => s31 = .bool false ∧ wx = w)
      case first =>
        rcases HG.out with f1 | ⟨f1, f2⟩ <;>
        · go_wp2
          go_meet
          exact ⟨rfl, rfl⟩
      case rest =>
        obtain ⟨rfl, hwc⟩ := hcut
        have hwc := hwc.symm
        subst hwc
        clear HG HR f0 hlt
        go_upto_region 8 with fail
        obtain ⟨j, hj⟩ : ∃ j, j = i + n := ⟨_, rfl⟩
        have hjI : (i : Int) + (n : Int) = (j : Int) := by omega
        rw [← hj] at HB hk
        clear hj
        rw [hjI]
        clear hjI
        go_cut [44] from 35 to 43 (fun s44 wx => s44 = .bool (isAt s j dotB) ∧ wx = w)
        case first =>
          by_cases h0 : j < s.size
          · have HI := Lib.hid (isAt_in (p := dotB) h0)
            cases h1 : dotB s[j]
            · have f : ((s[j].toNat : Int) == 46) = false := beqF (dotB_no h1)
              rw [h1] at HI
              clear h1
              go_wp2
              go_meet
              exact ⟨by rw [HI.out], rfl⟩
            · have f : ((s[j].toNat : Int) == 46) = true := beqT (dotB_yes h1)
              rw [h1] at HI
              clear h1
              go_wp2
              go_meet
              exact ⟨by rw [HI.out], rfl⟩
          · have HI := Lib.hid (isAt_out (s := s) (p := dotB) h0)
            have e1 : decide ((j : Int) < (s.size : Int)) = false := decide_eq_false (by omega)
            have e2 : decide (j < s.size) = false := decide_eq_false h0
            clear h0
            go_wp2
            go_meet
            exact ⟨by rw [HI.out], rfl⟩
        case rest =>
          obtain ⟨rfl, hwc⟩ := hcut
          have hwc := hwc.symm
          subst hwc
          go_upto_if 44 with fail
          go_cut [3, 4] from 44 to 54 (fun s3 _ wx => ∃ i : Nat, i ≤ s.size ∧ s3 = .int .i64 i ∧ Hid (StC s i) ∧ wx = w)
          case first =>
            cases h : isAt s j dotB
            · have HC := Lib.hid (stB_no HB.out fun h0 => dotB_no (isAt_no h h0))
              clear h
              go_wp2
              go_meet
              exact ⟨j, hk, rfl, HC, rfl⟩
            · obtain ⟨h0, h1⟩ := isAt_yes h
              have HR := Lib.hid fun W => run_any s (j + 1) W h0 hs
              have hk2 := dgs_le (s := s) (i := j + 1) h0
              have hn := fun hd => stB_none HB.out h0 (dotB_yes h1) hd
              have hy := fun hd => stB_yes HB.out h0 (dotB_yes h1) hd
              clear h h1
              generalize dgs s (j + 1) = m at *
              by_cases m0 : m = 0
              · have HF := Lib.hid (hn m0)
                subst m0
                clear hn hy
                go_wp2_with (go_at_call 30; refine (HR.out _).mono ?_; rintro e w' ⟨rfl, rfl⟩)
                go_ret
                exact ⟨by rw [HV.out, HF.out]; rfl, rfl⟩
              · have HC := Lib.hid (hy m0)
                have f0 : ((m : Int) == 0) = false := by rw [beq_eq_false_iff_ne]; omega
                clear hn hy m0
                go_wp2_with (go_at_call 30; refine (HR.out _).mono ?_; rintro e w' ⟨rfl, rfl⟩)
                go_meet
                exact ⟨j + 1 + m, by omega, by go_num, HC, rfl⟩
          case rest =>
            obtain ⟨i2, hi2, rfl, HC, hwc⟩ := hcut
            have hwc := hwc.symm
            subst hwc
            clear HB hk
            go_upto_region 13 with fail
            go_cut [70] from 55 to 69 (fun s70 wx => s70 = .bool (isAt s i2 expB) ∧ wx = w)
            case first =>
              by_cases h0 : i2 < s.size
              · have HI := Lib.hid (isAt_in (p := expB) h0)
                cases h1 : expB (s[i2]'h0)
                · have f : (((s[i2]'h0).toNat : Int) == 101) = false := beqF (expB_no h1).1
                  have g : (((s[i2]'h0).toNat : Int) == 69) = false := beqF (expB_no h1).2
                  rw [h1] at HI
                  clear h1
                  go_wp2
                  go_meet
                  exact ⟨by rw [HI.out], rfl⟩
                · rw [h1] at HI
                  rcases expB_yes h1 with h2 | h2
                  · have f : (((s[i2]'h0).toNat : Int) == 101) = true := beqT h2
                    clear h1 h2
                    go_wp2
                    go_meet
                    exact ⟨by rw [HI.out], rfl⟩
                  · have f : (((s[i2]'h0).toNat : Int) == 101) = false := beqF (by rw [h2]; decide)
                    have g : (((s[i2]'h0).toNat : Int) == 69) = true := beqT h2
                    clear h1 h2
                    go_wp2
                    go_meet
                    exact ⟨by rw [HI.out], rfl⟩
              · have HI := Lib.hid (isAt_out (s := s) (p := expB) h0)
                have e1 : decide ((i2 : Int) < (s.size : Int)) = false := decide_eq_false (by omega)
                have e2 : decide (i2 < s.size) = false := decide_eq_false h0
                clear h0
                go_wp2
                go_meet
                exact ⟨by rw [HI.out], rfl⟩
            case rest =>
              obtain ⟨rfl, hwc⟩ := hcut
              have hwc := hwc.symm
              subst hwc
              go_upto_if 70 with fail
              go_cut [3, 4] from 70 to 98 (fun s3 _ wx => ∃ i : Nat, i ≤ s.size ∧ s3 = .int .i64 i ∧ Hid (StE s i) ∧ wx = w)
              case first =>
                cases h : isAt s i2 expB
                · have HE := Lib.hid (stC_no HC.out fun h0 => expB_no (isAt_no h h0))
                  clear h
                  go_wp2
                  go_meet
                  exact ⟨i2, hi2, rfl, HE, rfl⟩
                · obtain ⟨h0, h1⟩ := isAt_yes h
                  have H7 := Lib.hid (stC_mark HC.out h0 (expB_yes h1))
                  clear h h1
                  go_upto_region 15 with fail
                  obtain ⟨k, hk⟩ : ∃ k, k = i2 + 1 := ⟨_, rfl⟩
                  have hkI : (i2 : Int) + 1 = (k : Int) := by omega
                  have hks : k ≤ s.size := by omega
                  rw [← hk] at H7
                  rw [hkI]
                  clear hk hkI
                  go_cut [88] from 73 to 87 (fun s88 wx => s88 = .bool (isAt s k sigB) ∧ wx = w)
                  case first =>
                    by_cases h0 : k < s.size
                    · have HI := Lib.hid (isAt_in (p := sigB) h0)
                      cases h1 : sigB (s[k]'h0)
                      · have f : (((s[k]'h0).toNat : Int) == 43) = false := beqF (sigB_no h1).1
                        have g : (((s[k]'h0).toNat : Int) == 45) = false := beqF (sigB_no h1).2
                        rw [h1] at HI
                        clear h1
                        go_wp2
                        go_meet
                        exact ⟨by rw [HI.out], rfl⟩
                      · rw [h1] at HI
                        rcases sigB_yes h1 with h2 | h2
                        · have f : (((s[k]'h0).toNat : Int) == 43) = true := beqT h2
                          clear h1 h2
                          go_wp2
                          go_meet
                          exact ⟨by rw [HI.out], rfl⟩
                        · have f : (((s[k]'h0).toNat : Int) == 43) = false := beqF (by rw [h2]; decide)
                          have g : (((s[k]'h0).toNat : Int) == 45) = true := beqT h2
                          clear h1 h2
                          go_wp2
                          go_meet
                          exact ⟨by rw [HI.out], rfl⟩
                    · have HI := Lib.hid (isAt_out (s := s) (p := sigB) h0)
                      have e1 : decide ((k : Int) < (s.size : Int)) = false := decide_eq_false (by omega)
                      have e2 : decide (k < s.size) = false := decide_eq_false h0
                      clear h0
                      go_wp2
                      go_meet
                      exact ⟨by rw [HI.out], rfl⟩
                  case rest =>
                    obtain ⟨rfl, hwc⟩ := hcut
                    have hwc := hwc.symm
                    subst hwc
                    go_upto_if 88 with fail
                    go_cut [3] from 88 to 90 (fun s3 wx => ∃ i : Nat, i ≤ s.size ∧ s3 = .int .i64 i ∧ Hid (StD s i) ∧ wx = w)
                    case first =>
                      cases h : isAt s k sigB
                      · have HD := Lib.hid (stD_no hks H7.out fun h0 => sigB_no (isAt_no h h0))
                        clear h
                        go_wp2
                        go_meet
                        exact ⟨k, hks, rfl, HD, rfl⟩
                      · obtain ⟨h0, h1⟩ := isAt_yes h
                        have HD := Lib.hid (stD_yes h0 H7.out (sigB_yes h1))
                        clear h h1
                        go_wp2
                        go_meet
                        exact ⟨k + 1, h0, by go_num, HD, rfl⟩
                    case rest =>
                      obtain ⟨i3, hi3, rfl, HD, hwc⟩ := hcut
                      have hwc := hwc.symm
                      subst hwc
                      have HR := Lib.hid fun W => run_any s i3 W hi3 hs
                      have hk2 := dgs_le (s := s) (i := i3) hi3
                      have hn := fun hd => stD_none HD.out hd
                      have hy := fun hd => stD_yes_digits HD.out hd
                      clear HD H7
                      generalize dgs s i3 = m at *
                      by_cases m0 : m = 0
                      · have HF := Lib.hid (hn m0)
                        subst m0
                        clear hn hy
                        go_wp2_with (go_at_call 30; refine (HR.out _).mono ?_; rintro e w' ⟨rfl, rfl⟩)
                        go_ret
                        exact ⟨by rw [HV.out, HF.out]; rfl, rfl⟩
                      · have HE := Lib.hid (hy m0)
                        have f0 : ((m : Int) == 0) = false := by rw [beq_eq_false_iff_ne]; omega
                        clear hn hy m0
                        go_wp2_with (go_at_call 30; refine (HR.out _).mono ?_; rintro e w' ⟨rfl, rfl⟩)
                        go_meet
                        exact ⟨i3 + m, by omega, by go_num, HE, rfl⟩
              case rest =>
                obtain ⟨i4, hi4, rfl, HE, hwc⟩ := hcut
                have hwc := hwc.symm
                subst hwc
                by_cases he : i4 = s.size
                · have HF := Lib.hid (HE.out.2.1 he)
                  have f : ((i4 : Int) == (s.size : Int)) = true := by rw [beq_iff_eq]; omega
                  clear he HE
                  go_wp2
                  go_ret
                  exact ⟨by rw [HV.out, HF.out]; rfl, rfl⟩
                · have HF := Lib.hid (HE.out.2.2 he)
                  have f : ((i4 : Int) == (s.size : Int)) = false := by rw [beq_eq_false_iff_ne]; omega
                  clear he HE
                  go_wp2
                  go_ret
                  exact ⟨by rw [HV.out, HF.out]; rfl, rfl⟩

end Go.Proofs.YthiclminkbnibaaDoor
