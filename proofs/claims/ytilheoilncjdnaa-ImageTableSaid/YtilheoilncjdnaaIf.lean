/-
  What Type, Is, Needs, Open and Most of package image answer. Condition: the text is not longer than memory.
-/
import Derived.Test.YtilheoilncjdnaaIc
import Derived.Test.YtilheoilncjdnaaIg
namespace Go.Proofs.Ytilheoilncjdnaa
open Go.RowKit

set_option maxHeartbeats 400000 in
theorem imgType_any (s : ByteArray) (r : Int) (w : World) (hs : s.size ≤ 140737488351232) (hr : IsFirst s imgP 8 r) :
    Calls Try.prog 10 #[.string s] w fun e w' => e = .returned (.string (typeOf imgP r)) ∧ Below w.heap.size w w' := by
  have HT := Lib.hid (fun W g (h : PatsIn W g imgP 8) => type_any g 8 8 s imgP r W h (fun i hi => img_ok hi) (by omega) (by decide) hr)
  have HB := Lib.hid (Below.refl w.heap.size w)
  clear hr
  go_enter Try.func10, Try.ntmps10
  go_wp2_with (first
    | (go_at_call 15; refine (imgTable_any _).mono ?_; rintro e w1 ⟨g, rfl, hg, hp, b1⟩; have HB := Lib.hid (HB.out.trans (b1.mono HB.out.size)); have HP := Lib.hid hp; clear b1 hp)
    | (go_at_call 24; refine (HT.out _ _ HP.out).mono ?_; rintro e w2 ⟨rfl, b2⟩; have HB := Lib.hid (HB.out.trans (b2.mono HB.out.size)); clear b2))
  go_ret
  exact ⟨rfl, HB.out⟩

set_option maxHeartbeats 400000 in
theorem imgIs_any (s : ByteArray) (r : Int) (w : World) (hs : s.size ≤ 140737488351232) (hr : IsFirst s imgP 8 r) :
    Calls Try.prog 11 #[.string s] w fun e w' => e = .returned (.bool (decide (0 ≤ r))) ∧ Below w.heap.size w w' := by
  have HT := Lib.hid (fun W => imgType_any s r W hs hr)
  have HE := Lib.hid (show decide (0 ≤ r) = !(typeOf imgP r).toList.isEmpty from by rw [img_said hr]; by_cases h : r < 0 <;> simp [h] <;> omega)
  generalize typeOf imgP r = t at *
  clear hr
  go_enter Try.func11, Try.ntmps11
  go_wp2_with (go_at_call 10; refine (HT.out _).mono ?_; rintro e w1 ⟨rfl, b1⟩; have HB := Lib.hid b1; clear b1)
  go_ret
  exact ⟨by rw [HE.out]; rfl, HB.out⟩

set_option maxHeartbeats 2000000 in
set_option maxRecDepth 100000 in
theorem imgNeeds_any (s : ByteArray) (r : Int) (w : World) (hs : s.size ≤ 140737488351232) (hr : IsFirst s imgP 8 r) :
    Calls Try.prog 13 #[.string s] w fun e w' => e = .returned (.int .i64 (needN s imgP 8 r : Nat)) ∧ Below w.heap.size w w' := by
  have HI := Lib.hid (fun W => imgIs_any s r W hs hr)
  by_cases h0 : 0 ≤ r
  · have HN := Lib.hid (show needN s imgP 8 r = 0 from if_pos h0)
    have e0 : decide (0 ≤ r) = true := by simpa using h0
    rw [e0] at HI
    clear e0 h0 hr
    go_enter Try.func13, Try.ntmps13
    go_wp2_with (go_at_call 11; refine (HI.out _).mono ?_; rintro e w1 ⟨rfl, b1⟩; have HB := Lib.hid b1; clear b1)
    go_ret
    exact ⟨by rw [HN.out]; rfl, HB.out⟩
  · have HN := Lib.hid (show needN s imgP 8 r = lowN s imgP 8 from if_neg h0)
    have e0 : decide (0 ≤ r) = false := by simpa using h0
    rw [e0] at HI
    clear e0 h0 hr
    go_enter Try.func13, Try.ntmps13
    go_wp2_with (first
      | (go_at_call 11; refine (HI.out _).mono ?_; rintro e w1 ⟨rfl, b1⟩; have HB := Lib.hid b1; clear b1)
      | (go_at_call 15; refine (imgTable_any _).mono ?_; rintro e w2 ⟨g, rfl, hg, hp, b2⟩; have HB := Lib.hid (HB.out.trans (b2.mono HB.out.size)); have HP := Lib.hid hp; clear b2 hp))
    go_loopw [3, 11] (fun l i wr => ∃ k : Nat, k ≤ 8 ∧ i = .int .i64 k ∧ l = .int .i64 (lowN s imgP k : Nat) ∧ Aft w2 wr) (fun _ i _ => 8 - (intOf i).toNat)
    case atStart => exact ⟨0, by omega, rfl, rfl, Below.refl _ _⟩
    case round =>
      obtain ⟨k, hk, rfl, rfl, hw⟩ := hrel
      have HW := Lib.hid hw
      clear hw
      by_cases hlt : k < 8
      · have HO := Lib.hid (fun W => open_any s (imgP k).b (imgP k).m (imgP k).k (imgP k).t W (by omega) (img_ok hlt).1 (img_ok hlt).2.1 (img_ok hlt).2.2)
        have hb14 := (img_small hlt).1
        obtain ⟨c0, c1, c2, c3⟩ := (HP.out.below HW.out HP.out.1 (Nat.le_refl _)).2 k hlt
        have HKK := Lib.hid (img_skip hlt)
        have HV : Hid (opnP s (imgP k) = opnB s (imgP k).b (imgP k).m (imgP k).k) := rfl
        cases ho : opnB s (imgP k).b (imgP k).m (imgP k).k
        · have HL := Lib.hid (low_shut (ps := imgP) (HV.out.trans ho))
          rw [ho] at HO
          clear ho HV
          go_wp2_with (go_at_call 25; refine (HO.out _).mono ?_; rintro e w3 ⟨rfl, b3⟩; have HW := Lib.hid (HW.out.trans (((Below.refl wr.heap.size wr).alloc (Nat.le_refl _) _).trans (b3.mono (by simp)) |>.mono HW.out.size)); clear b3)
          go_roundw
          case rel => exact ⟨k + 1, by omega, by go_num, by rw [HL.out], HW.out⟩
          case measure => simp [intOf]; omega
        · have hop : opnP s (imgP k) = true := HV.out.trans ho
          have HL := Lib.hid (low_open hop)
          obtain ⟨hl1, hl2⟩ := lack_le s (imgP k) hop HKK.out
          rw [ho] at HO
          clear ho HV hop
          obtain ⟨lo, hlo⟩ : ∃ lo, lo = lowN s imgP k := ⟨_, rfl⟩
          obtain ⟨la, hla⟩ : ∃ la, la = lackN s (imgP k) := ⟨_, rfl⟩
          rw [← hlo, ← hla] at HL
          rw [← hla] at hl1
          rw [← hlo]
          have hli : ((imgP k).b.size : Int) - (s.size : Int) = (la : Int) := by omega
          clear hlo hla hl1
          by_cases h1 : lo = 0
          · subst h1
            have HL2 := Lib.hid (show lowN s imgP (k + 1) = la from by rw [HL.out, if_pos (.inl rfl)])
            go_wp2_with (go_at_call 25; refine (HO.out _).mono ?_; rintro e w3 ⟨rfl, b3⟩; have HW := Lib.hid (HW.out.trans (((Below.refl wr.heap.size wr).alloc (Nat.le_refl _) _).trans (b3.mono (by simp)) |>.mono HW.out.size)); have c4 := ((Blk.new wr 35 #[.string (imgP k).b, .string (imgP k).m, .string (imgP k).k, .string (imgP k).t]).below b3 (by simp)).cell 0; clear b3)
            go_roundw
            case rel => exact ⟨k + 1, by omega, by go_num, by rw [HL2.out], HW.out⟩
            case measure => simp [intOf]; omega
          · have d1 : ((lo : Int) == 0) = false := by rw [beq_eq_false_iff_ne]; omega
            by_cases h2 : la < lo
            · have HL2 := Lib.hid (show lowN s imgP (k + 1) = la from by rw [HL.out, if_pos (.inr h2)])
              go_wp2_with (go_at_call 25; refine (HO.out _).mono ?_; rintro e w3 ⟨rfl, b3⟩; have HW := Lib.hid (HW.out.trans (((Below.refl wr.heap.size wr).alloc (Nat.le_refl _) _).trans (b3.mono (by simp)) |>.mono HW.out.size)); have c4 := ((Blk.new wr 35 #[.string (imgP k).b, .string (imgP k).m, .string (imgP k).k, .string (imgP k).t]).below b3 (by simp)).cell 0; clear b3)
              go_roundw
              case rel => exact ⟨k + 1, by omega, by go_num, by rw [HL2.out], HW.out⟩
              case measure => simp [intOf]; omega
            · have HL2 := Lib.hid (show lowN s imgP (k + 1) = lo from by rw [HL.out, if_neg (fun h => h.elim h1 h2)])
              go_wp2_with (go_at_call 25; refine (HO.out _).mono ?_; rintro e w3 ⟨rfl, b3⟩; have HW := Lib.hid (HW.out.trans (((Below.refl wr.heap.size wr).alloc (Nat.le_refl _) _).trans (b3.mono (by simp)) |>.mono HW.out.size)); have c4 := ((Blk.new wr 35 #[.string (imgP k).b, .string (imgP k).m, .string (imgP k).k, .string (imgP k).t]).below b3 (by simp)).cell 0; clear b3)
              go_roundw
              case rel => exact ⟨k + 1, by omega, by go_num, by rw [HL2.out], HW.out⟩
              case measure => simp [intOf]; omega
      · obtain rfl : k = 8 := by omega
        go_wp2
        go_ret
        exact ⟨by rw [HN.out]; rfl, HB.out.trans (HW.out.mono HB.out.size)⟩

set_option maxHeartbeats 400000 in
theorem imgOpen_any (s : ByteArray) (r : Int) (w : World) (hs : s.size ≤ 140737488351232) (hr : IsFirst s imgP 8 r) :
    Calls Try.prog 12 #[.string s] w fun e w' => e = .returned (.bool (decide (0 < needN s imgP 8 r))) ∧ Below w.heap.size w w' := by
  have HT := Lib.hid (fun W => imgNeeds_any s r W hs hr)
  generalize needN s imgP 8 r = n at *
  clear hr
  go_enter Try.func12, Try.ntmps12
  go_wp2_with (go_at_call 13; refine (HT.out _).mono ?_; rintro e w1 ⟨rfl, b1⟩; have HB := Lib.hid b1; clear b1)
  go_ret
  exact ⟨by simp, HB.out⟩

set_option maxHeartbeats 2000000 in
set_option maxRecDepth 100000 in
theorem imgMost_any (w : World) :
    Calls Try.prog 17 #[] w fun e w' => e = .returned (.int .i64 14) ∧ Below w.heap.size w w' := by
  go_enter Try.func17, Try.ntmps17
  go_wp2_with (go_at_call 15; refine (imgTable_any _).mono ?_; rintro e w2 ⟨g, rfl, hg, hp, b2⟩; have HB := Lib.hid b2; have HP := Lib.hid hp; clear b2 hp)
  go_loopw [1, 6] (fun m i wr => ∃ k : Nat, k ≤ 8 ∧ i = .int .i64 k ∧ m = .int .i64 (mostN imgP k : Nat) ∧ Aft w2 wr) (fun _ i _ => 8 - (intOf i).toNat)
  case atStart => exact ⟨0, by omega, rfl, rfl, Below.refl _ _⟩
  case round =>
    obtain ⟨k, hk, rfl, rfl, hw⟩ := hrel
    have HW := Lib.hid hw
    clear hw
    by_cases hlt : k < 8
    · obtain ⟨c0, c1, c2, c3⟩ := (HP.out.below HW.out HP.out.1 (Nat.le_refl _)).2 k hlt
      have hb14 := (img_small hlt).1
      have HM := Lib.hid (show mostN imgP (k + 1) = max (mostN imgP k) (imgP k).b.size from rfl)
      go_wp2
      go_roundw
      case rel => exact ⟨k + 1, by omega, by go_num, by rw [HM.out]; go_num, HW.out.trans (((Below.refl wr.heap.size wr).alloc (Nat.le_refl _) _).mono HW.out.size)⟩
      case measure => simp [intOf]; omega
    · obtain rfl : k = 8 := by omega
      go_wp2
      go_ret
      exact ⟨by rw [img_most]; rfl, HB.out.trans (HW.out.mono HB.out.size)⟩

end Go.Proofs.Ytilheoilncjdnaa
