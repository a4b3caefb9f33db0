/-
  The law on what is taken returns true, for every text and every deeds. Conditions: what the arguments' reading gives.
-/
import Derived.Test.YtndinfhgoebcoaaTk
import Derived.Test.YtndinfhgoebcoaaOpen
import Derived.StillTailTactics
import Derived.Test.YtndinfhgoebcoaaSubs
import Derived.LoopTactic
import Derived.Deep.RegionWith
import Derived.Deep.CutRange
import Derived.Deep.Cut
import Derived.Deep.CutBlock
namespace Go.Proofs.Ytndinfhgoebcoaa
open Go.RowKit

/-- What is known of the deed's own variable behind a call that turns the cursor alone. -/
theorem deed_kept {w wr w5 : World} {q N : Int} {S : ByteArray} (hz : w.heap.size < wr.heap.size) (hm : Mv ((wr.alloc (deedc q N S)).alloc (callc (some ⟨w.heap.size, 0, none⟩) N)).heap.size [w.heap.size] ((wr.alloc (deedc q N S)).alloc (callc (some ⟨w.heap.size, 0, none⟩) N)) w5)
    (hb0 : Below w.heap.size w ((wr.alloc (deedc q N S)).alloc (callc (some ⟨w.heap.size, 0, none⟩) N))) :
    w5.cell? ⟨wr.heap.size, 1, none⟩ = some (.int .i64 N) ∧ w5.cell? ⟨wr.heap.size, 0, none⟩ = some (.int .i64 q) ∧ wr.heap.size < w5.heap.size ∧ wr.heap.size + 1 < w5.heap.size ∧ Below w.heap.size w w5 := by
  have hs := hm.size
  simp at hs
  refine ⟨?_, ?_, by omega, by omega, hb0.trans (hm.below (by simp; omega) (by simp))⟩
  · rw [hm.cell (by simp; omega) (by simp; omega)]; simp [go_sem]
  · rw [hm.cell (by simp; omega) (by simp; omega)]; simp [go_sem]

/-- The two variables of a round, and Wants' own. -/
theorem deed_new (B : Nat) (wr : World) (q N : Int) (S : ByteArray) :
    (((wr.alloc (deedc q N S)).alloc (callc (some ⟨B, 0, none⟩) N)).alloc (deedc q N S)).cell? ⟨wr.heap.size + 1, 0, none⟩ = some (.pointer (some ⟨B, 0, none⟩)) ∧
    (((wr.alloc (deedc q N S)).alloc (callc (some ⟨B, 0, none⟩) N)).alloc (deedc q N S)).cell? ⟨wr.heap.size + 1, 1, none⟩ = some (.int .i64 N) ∧
    (((wr.alloc (deedc q N S)).alloc (callc (some ⟨B, 0, none⟩) N)).alloc (deedc q N S)).cell? ⟨wr.heap.size, 0, none⟩ = some (.int .i64 q) ∧
    Mv ((wr.alloc (deedc q N S)).alloc (callc (some ⟨B, 0, none⟩) N)).heap.size [B] ((wr.alloc (deedc q N S)).alloc (callc (some ⟨B, 0, none⟩) N)) (((wr.alloc (deedc q N S)).alloc (callc (some ⟨B, 0, none⟩) N)).alloc (deedc q N S)) := by
  refine ⟨by simp [go_sem], by simp [go_sem], by simp [go_sem], (Mv.refl _ _ _).alloc (Nat.le_refl _) _⟩

theorem end_cases (k n : Nat) : (Hid (k = n) ∧ ((k : Int) == (n : Int)) = true) ∨ (Hid (¬ k = n) ∧ ((k : Int) == (n : Int)) = false) := by
  by_cases h : k = n
  · exact .inl ⟨h, by simp [h]⟩
  · exact .inr ⟨h, by simp; omega⟩
theorem end_yes (cb k : Nat) (s : ByteArray) (w : World) (h : Cur w cb s k) (hk : Hid (k = s.size)) (hs : s.size ≤ 9223372036854775807) :
    Calls Try.prog 16 #[cptr cb] w fun e w' => e = .returned (.bool true) ∧ ∃ n, w' = w.drewN n := by
  have := end_any cb k s w h (by have := hk.out; omega) hs
  rwa [decide_eq_true hk.out] at this
theorem end_no (cb k : Nat) (s : ByteArray) (w : World) (h : Cur w cb s k) (hk : k ≤ s.size) (hn : Hid (¬ k = s.size)) (hs : s.size ≤ 9223372036854775807) :
    Calls Try.prog 16 #[cptr cb] w fun e w' => e = .returned (.bool false) ∧ ∃ n, w' = w.drewN n := by
  have := end_any cb k s w h hk hs
  rwa [decide_eq_false hn.out] at this

set_option maxHeartbeats 16000000 in
set_option maxRecDepth 100000 in
theorem cursorTakes_any (s : ByteArray) (A : Option Addr) (n c : Nat) (w : World) (hs : s.size ≤ 9223372036854775807) (hn : n ≤ 9223372036854775807) (hd : Deeds w A n) :
    Calls Try.prog 3 #[.string s, .slice A n c] w fun e w' => e = .returned (.bool true) ∧ Below w.heap.size w w' := by
  have hmf := make_func
  have hX := cutB_size s 200
  have HD := Lib.hid hd
  clear hd
  go_enter Try.func3, Try.ntmps3
  go_wp2_with (first
    | (go_at_call 7; refine (cut_any s 200 _ hs).mono ?_; rintro e w1 ⟨rfl, rfl⟩)
    | (go_at_call 8; refine (new_any _ _).mono ?_; rintro e w1 ⟨rfl, rfl⟩))
  generalize cutB s 200 = X at *
  go_loopw [6, 7] (fun at_ i wr => ∃ j k : Nat, j ≤ n ∧ j ≤ 60 ∧ k ≤ X.size ∧ at_ = .int .i64 k ∧ i = .int .i64 j ∧ Cur wr w.heap.size X k ∧ Below w.heap.size w wr) (fun _ i _ => 60 - (intOf i).toNat)
  case atStart => exact ⟨0, 0, by omega, by omega, by omega, rfl, rfl, Blk.new _ _ _, (Below.refl _ _).alloc (Nat.le_refl _) _⟩
  case round =>
    obtain ⟨j, k, hj, hj6, hk, rfl, rfl, hcur, hbw⟩ := hrel
    by_cases hlt : j < n ∧ j < 60
    · obtain ⟨h1, h2⟩ := hlt
      obtain ⟨a, kd, N, S, rfl, hab, e0, e1, e2, hS, hN1, hN2⟩ := HD.out j h1
      have hHC := Lib.hid hcur
      have hz : w.heap.size < wr.heap.size := hcur.lt
      have hab' : (a.add (j * 3)).block < w.heap.size := by rw [add_block]; exact hab
      have e0' : wr.cell? (a.add (j * 3)) = some (.int .i64 kd) := (hbw.cell hab').trans e0
      have e1' : wr.cell? ⟨(a.add (j * 3)).block, (a.add (j * 3)).off + 1, none⟩ = some (.int .i64 N) := (hbw.cell (p := ⟨(a.add (j * 3)).block, (a.add (j * 3)).off + 1, none⟩) hab').trans e1
      have e2' : wr.cell? ⟨(a.add (j * 3)).block, (a.add (j * 3)).off + 2, none⟩ = some (.string S) := (hbw.cell (p := ⟨(a.add (j * 3)).block, (a.add (j * 3)).off + 2, none⟩) hab').trans e2
      have HB := Lib.hid hbw
      clear hcur e0 e1 e2 hbw
      have hq := and3 kd
      go_upto_if 46 with (fail)
      generalize bits BinOp.and IntKind.i64 kd 3 = q at *
      have hc0 : Cur ((wr.alloc (deedc q N S)).alloc (callc (some ⟨w.heap.size, 0, none⟩) N)) w.heap.size X k := (hHC.out.alloc _).alloc _
      have hb0 : Below w.heap.size w ((wr.alloc (deedc q N S)).alloc (callc (some ⟨w.heap.size, 0, none⟩) N)) := (HB.out.alloc (by omega) _).alloc (by simp; omega) _
      have HC0 := Lib.hid hc0
      have HB0 := Lib.hid hb0
      clear hc0 hb0 hHC HB e0' e1' e2' hab' hab HD
      go_cut [6, 10, 11, 12, 13, 14] from 22 to 170 (fun s6 _ _ _ _ _ wx => ∃ k' : Nat, s6 = .int .i64 k' ∧ k' ≤ X.size ∧ Cur wx w.heap.size X k' ∧ Below w.heap.size w wx ∧ wr.heap.size + 2 ≤ wx.heap.size ∧ wx.cell? ⟨wr.heap.size, 1, none⟩ = some (.int .i64 N))
      case first =>
        have hs9 : X.size ≤ 9223372036854775807 := by omega
        rcases hq with rfl | rfl | rfl | rfl
        · by_cases hk0 : k < X.size
          · skip
            as_aux_lemma =>
              go_wp2_with (go_at_call 11; refine (wants0_ok N _ S _ (by omega)).mono ?_; rintro e w5 ⟨rfl, rfl⟩)
              obtain ⟨f0, f1, f2, fm⟩ := deed_new w.heap.size wr 0 N S
              have hc1 := HC0.out.alloc (deedc 0 N S)
              generalize ((wr.alloc (deedc 0 N S)).alloc (callc (some ⟨w.heap.size, 0, none⟩) N)).alloc (deedc 0 N S) = w6 at *
              have HC1 := Lib.hid hc1
              have FM := Lib.hid fm
              clear hc1 fm
              have g1 : IntKind.i64.wrap ((k : Int) + 1) = (k : Int) + 1 := IntWalk.i64_in _ (by omega)
              have g2 : 0 ≤ (k : Int) + 1 := by omega
              have g3 : ((k : Int) + 1).toNat = k + 1 := by omega
              have g4 : (k : Int) + 1 ≤ (X.size : Int) := by omega
              have g5 : (k : Int) ≤ (k : Int) + 1 := by omega
              go_still_tail 12, (by kernel_rfl)
              change wpList _ _ _ _ _ (World.drew _)
              go_wp2_with (go_at_call 12; refine (tk0_ok w.heap.size k X _ (by exact HC1.out) hs9 N _ rfl hk0).mono ?_; rintro e w5 ⟨rfl, hm5, hc5⟩; obtain ⟨hN5, _, hz5, hz6, hbw5⟩ := deed_kept hz ((FM.out.drew).trans (hm5.mono (by have := FM.out.size; simpa using this) fun x hx => .inl hx)) HB0.out; have HC5 := Lib.hid hc5; have HB5 := Lib.hid hbw5; clear hm5 hc5 hbw5)
              go_meet
              exact ⟨k + 1, rfl, by omega, HC5.out, HB5.out, by omega, hN5⟩
          · obtain rfl : k = X.size := by omega
            as_aux_lemma =>
              go_wp2_with (go_at_call 11; refine (wants0_far N S _).mono ?_; rintro e w5 ⟨rfl, rfl⟩)
              obtain ⟨f0, f1, f2, fm⟩ := deed_new w.heap.size wr 0 N S
              have hc1 := HC0.out.alloc (deedc 0 N S)
              generalize ((wr.alloc (deedc 0 N S)).alloc (callc (some ⟨w.heap.size, 0, none⟩) N)).alloc (deedc 0 N S) = w6 at *
              have HC1 := Lib.hid hc1
              have FM := Lib.hid fm
              clear hc1 fm
              have g1 : IntKind.i64.wrap (X.size : Int) = (X.size : Int) := IntWalk.i64_in _ (by omega)
              go_still_tail 12, (by kernel_rfl)
              change wpList _ _ _ _ _ (World.drew _)
              go_wp2_with (go_at_call 12; refine (tk0_far w.heap.size X.size X _ (by exact HC1.out) hs9 N _ rfl rfl).mono ?_; rintro e w5 ⟨rfl, hm5, hc5⟩; obtain ⟨hN5, _, hz5, hz6, hbw5⟩ := deed_kept hz ((FM.out.drew).trans (hm5.mono (by have := FM.out.size; simpa using this) fun x hx => .inl hx)) HB0.out; have HC5 := Lib.hid hc5; have HB5 := Lib.hid hbw5; clear hm5 hc5 hbw5)
              go_meet
              exact ⟨X.size, rfl, by omega, HC5.out, HB5.out, by omega, hN5⟩
        · by_cases hN : N < 0
          · skip
            as_aux_lemma =>
              go_wp2_with (go_at_call 11; refine (wants1_neg N _ S _ hN).mono ?_; rintro e w5 ⟨rfl, rfl⟩)
              obtain ⟨f0, f1, f2, fm⟩ := deed_new w.heap.size wr 1 N S
              have hc1 := HC0.out.alloc (deedc 1 N S)
              generalize ((wr.alloc (deedc 1 N S)).alloc (callc (some ⟨w.heap.size, 0, none⟩) N)).alloc (deedc 1 N S) = w6 at *
              have HC1 := Lib.hid hc1
              have FM := Lib.hid fm
              clear hc1 fm
              have g1 : IntKind.i64.wrap (k : Int) = (k : Int) := IntWalk.i64_in _ (by omega)
              have g4 : (k : Int) ≤ (X.size : Int) := by omega
              go_still_tail 12, (by kernel_rfl)
              change wpList _ _ _ _ _ (World.drew _)
              go_wp2_with (go_at_call 12; refine (tk1_neg w.heap.size k X _ (by exact HC1.out) N _ rfl hN).mono ?_; rintro e w5 ⟨rfl, hm5, hc5⟩; obtain ⟨hN5, _, hz5, hz6, hbw5⟩ := deed_kept hz ((FM.out.drew).trans (hm5.mono (by have := FM.out.size; simpa using this) fun x hx => .inl hx)) HB0.out; have HC5 := Lib.hid hc5; have HB5 := Lib.hid hbw5; clear hm5 hc5 hbw5)
              go_meet
              exact ⟨k, rfl, by omega, HC5.out, HB5.out, by omega, hN5⟩
          · by_cases hN2 : (X.size : Int) - k < N
            · skip
              as_aux_lemma =>
                go_wp2_with (go_at_call 11; refine (wants1_far N _ S _ (by omega) hN2).mono ?_; rintro e w5 ⟨rfl, rfl⟩)
                obtain ⟨f0, f1, f2, fm⟩ := deed_new w.heap.size wr 1 N S
                have hc1 := HC0.out.alloc (deedc 1 N S)
                generalize ((wr.alloc (deedc 1 N S)).alloc (callc (some ⟨w.heap.size, 0, none⟩) N)).alloc (deedc 1 N S) = w6 at *
                have HC1 := Lib.hid hc1
                have FM := Lib.hid fm
                clear hc1 fm
                have g1 : IntKind.i64.wrap (k : Int) = (k : Int) := IntWalk.i64_in _ (by omega)
                have g4 : (k : Int) ≤ (X.size : Int) := by omega
                go_still_tail 12, (by kernel_rfl)
                change wpList _ _ _ _ _ (World.drew _)
                go_wp2_with (go_at_call 12; refine (tk1_far w.heap.size k X _ (by exact HC1.out) hs9 N _ rfl hk (by omega) hN2).mono ?_; rintro e w5 ⟨rfl, hm5, hc5⟩; obtain ⟨hN5, _, hz5, hz6, hbw5⟩ := deed_kept hz ((FM.out.drew).trans (hm5.mono (by have := FM.out.size; simpa using this) fun x hx => .inl hx)) HB0.out; have HC5 := Lib.hid hc5; have HB5 := Lib.hid hbw5; clear hm5 hc5 hbw5)
                go_meet
                exact ⟨k, rfl, by omega, HC5.out, HB5.out, by omega, hN5⟩
            · obtain ⟨m, rfl⟩ : ∃ m : Nat, N = m := ⟨N.toNat, by omega⟩
              have hm : k + m ≤ X.size := by omega
              as_aux_lemma =>
                go_wp2_with (go_at_call 11; refine (wants1_ok (m : Int) _ S _ (by omega) (by omega)).mono ?_; rintro e w5 ⟨rfl, rfl⟩)
                obtain ⟨f0, f1, f2, fm⟩ := deed_new w.heap.size wr 1 (m : Int) S
                have hc1 := HC0.out.alloc (deedc 1 (m : Int) S)
                generalize ((wr.alloc (deedc 1 (m : Int) S)).alloc (callc (some ⟨w.heap.size, 0, none⟩) (m : Int))).alloc (deedc 1 (m : Int) S) = w6 at *
                have HC1 := Lib.hid hc1
                have FM := Lib.hid fm
                clear hc1 fm
                have g1 : IntKind.i64.wrap ((k : Int) + (m : Int)) = (k : Int) + (m : Int) := IntWalk.i64_in _ (by omega)
                have g2 : 0 ≤ (k : Int) + (m : Int) := by omega
                have g3 : ((k : Int) + (m : Int)).toNat = k + m := by omega
                have g4 : (k : Int) + (m : Int) ≤ (X.size : Int) := by omega
                have g5 : (k : Int) ≤ (k : Int) + (m : Int) := by omega
                go_still_tail 12, (by kernel_rfl)
                change wpList _ _ _ _ _ (World.drew _)
                go_wp2_with (go_at_call 12; refine (tk1_ok w.heap.size k X _ (by exact HC1.out) hs9 m _ rfl hm).mono ?_; rintro e w5 ⟨rfl, hm5, hc5⟩; obtain ⟨hN5, _, hz5, hz6, hbw5⟩ := deed_kept hz ((FM.out.drew).trans (hm5.mono (by have := FM.out.size; simpa using this) fun x hx => .inl hx)) HB0.out; have HC5 := Lib.hid hc5; have HB5 := Lib.hid hbw5; clear hm5 hc5 hbw5)
                go_meet
                exact ⟨k + m, by simp, by omega, HC5.out, HB5.out, by omega, hN5⟩
        · by_cases hk4 : k + 4 ≤ X.size
          · skip
            as_aux_lemma =>
              go_wp2_with (go_at_call 11; refine (wants2_ok N _ S _ (by omega)).mono ?_; rintro e w5 ⟨rfl, rfl⟩)
              obtain ⟨f0, f1, f2, fm⟩ := deed_new w.heap.size wr 2 N S
              have hc1 := HC0.out.alloc (deedc 2 N S)
              generalize ((wr.alloc (deedc 2 N S)).alloc (callc (some ⟨w.heap.size, 0, none⟩) N)).alloc (deedc 2 N S) = w6 at *
              have HC1 := Lib.hid hc1
              have FM := Lib.hid fm
              clear hc1 fm
              have g1 : IntKind.i64.wrap ((k : Int) + 4) = (k : Int) + 4 := IntWalk.i64_in _ (by omega)
              have g2 : 0 ≤ (k : Int) + 4 := by omega
              have g3 : ((k : Int) + 4).toNat = k + 4 := by omega
              have g4 : (k : Int) + 4 ≤ (X.size : Int) := by omega
              have g5 : (k : Int) ≤ (k : Int) + 4 := by omega
              go_still_tail 12, (by kernel_rfl)
              change wpList _ _ _ _ _ (World.drew _)
              go_wp2_with (go_at_call 12; refine (tk2_ok w.heap.size k X _ (by exact HC1.out) hs9 N _ rfl hk4).mono ?_; rintro e w5 ⟨rfl, hm5, hc5⟩; obtain ⟨hN5, _, hz5, hz6, hbw5⟩ := deed_kept hz ((FM.out.drew).trans (hm5.mono (by have := FM.out.size; simpa using this) fun x hx => .inl hx)) HB0.out; have HC5 := Lib.hid hc5; have HB5 := Lib.hid hbw5; clear hm5 hc5 hbw5)
              go_meet
              exact ⟨k + 4, rfl, by omega, HC5.out, HB5.out, by omega, hN5⟩
          · skip
            as_aux_lemma =>
              go_wp2_with (go_at_call 11; refine (wants2_far N _ S _ (by omega)).mono ?_; rintro e w5 ⟨rfl, rfl⟩)
              obtain ⟨f0, f1, f2, fm⟩ := deed_new w.heap.size wr 2 N S
              have hc1 := HC0.out.alloc (deedc 2 N S)
              generalize ((wr.alloc (deedc 2 N S)).alloc (callc (some ⟨w.heap.size, 0, none⟩) N)).alloc (deedc 2 N S) = w6 at *
              have HC1 := Lib.hid hc1
              have FM := Lib.hid fm
              clear hc1 fm
              have g1 : IntKind.i64.wrap (k : Int) = (k : Int) := IntWalk.i64_in _ (by omega)
              have g4 : (k : Int) ≤ (X.size : Int) := by omega
              go_still_tail 12, (by kernel_rfl)
              change wpList _ _ _ _ _ (World.drew _)
              go_wp2_with (go_at_call 12; refine (tk2_far w.heap.size k X _ (by exact HC1.out) hs9 N _ rfl hk (by omega)).mono ?_; rintro e w5 ⟨rfl, hm5, hc5⟩; obtain ⟨hN5, _, hz5, hz6, hbw5⟩ := deed_kept hz ((FM.out.drew).trans (hm5.mono (by have := FM.out.size; simpa using this) fun x hx => .inl hx)) HB0.out; have HC5 := Lib.hid hc5; have HB5 := Lib.hid hbw5; clear hm5 hc5 hbw5)
              go_meet
              exact ⟨k, rfl, by omega, HC5.out, HB5.out, by omega, hN5⟩
        · by_cases hN : N < 0
          · have d1 : decide (N < 0) = true := by simpa using hN
            go_wp2_with (go_at_call 9; refine (catch_back_bad w.heap.size k N X _ HC0.out (.inl hN)).mono ?_; rintro e w5 ⟨rfl, hb5⟩; obtain ⟨hN5, _, hz5, hz6, hbw5⟩ := deed_kept hz (Mv.of_below hb5 _) HB0.out; have HC5 := Lib.hid (HC0.out.below hb5 (by simp; omega)); have HB5 := Lib.hid hbw5; clear hb5 hbw5)
            go_meet
            exact ⟨k, rfl, hk, HC5.out.alloc _, HB5.out.alloc (by omega) _, by simp; omega, by rw [World.cell?_alloc_past _ _ _ (by simpa using hz5)]; exact hN5⟩
          · by_cases hN2 : (k : Int) < N
            · have d1 : decide (N < 0) = false := by simpa using hN
              have d2 : decide ((k : Int) < N) = true := by simpa using hN2
              go_wp2_with (go_at_call 9; refine (catch_back_bad w.heap.size k N X _ HC0.out (.inr hN2)).mono ?_; rintro e w5 ⟨rfl, hb5⟩; obtain ⟨hN5, _, hz5, hz6, hbw5⟩ := deed_kept hz (Mv.of_below hb5 _) HB0.out; have HC5 := Lib.hid (HC0.out.below hb5 (by simp; omega)); have HB5 := Lib.hid hbw5; clear hb5 hbw5)
              go_meet
              exact ⟨k, rfl, hk, HC5.out.alloc _, HB5.out.alloc (by omega) _, by simp; omega, by rw [World.cell?_alloc_past _ _ _ (by simpa using hz5)]; exact hN5⟩
            · obtain ⟨m, rfl⟩ : ∃ m : Nat, N = m := ⟨N.toNat, by omega⟩
              have hm : m ≤ k := by omega
              as_aux_lemma =>
                have d1 : decide ((m : Int) < 0) = false := by simp
                have d2 : decide (k < m) = false := by simp; omega
                go_wp2_with (go_at_call 9; refine (catch_back_ok w.heap.size k m X _ HC0.out hm).mono ?_; rintro e w5 ⟨rfl, hm5, hc5⟩; obtain ⟨hN5, _, hz5, hz6, hbw5⟩ := deed_kept hz (hm5.mono (Nat.le_refl _) fun x hx => .inl hx) HB0.out; have HC5 := Lib.hid hc5; have HB5 := Lib.hid hbw5; clear hm5 hc5 hbw5)
                go_meet
                exact ⟨m, rfl, by omega, HC5.out.alloc _, HB5.out.alloc (by omega) _, by simp; omega, by rw [World.cell?_alloc_past _ _ _ (by simpa using hz5)]; exact hN5⟩
      case rest =>
        obtain ⟨k', rfl, hk', hc', hb', hz', hN'⟩ := hcut
        have HC := Lib.hid hc'
        have HB := Lib.hid hb'
        have hs9 : X.size ≤ 9223372036854775807 := by omega
        clear hc' hb' HC0 HB0
        have hE := end_cases k' X.size
        rcases hE with ⟨HE, hE1⟩ | ⟨HE, hE1⟩
        · by_cases hN : N < 0
          · skip
            as_aux_lemma =>
              have p1 : decide (0 ≤ N) = false := by simp; omega
              go_wp2_with (first
              | (go_at_call 13; refine (peek_neg _ N _ hN).mono ?_; rintro e w7 ⟨rfl, rfl⟩)
              | (go_at_call 14; refine (at_any w.heap.size k' X _ (by exact HC.out)).mono ?_; rintro e w8 ⟨rfl, rfl⟩)
              | (go_at_call 15; refine (left_any w.heap.size k' X _ (by exact HC.out) hk' hs9).mono ?_; rintro e w8 ⟨rfl, m8, rfl⟩)
              | (go_at_call 16; refine (end_yes w.heap.size k' X _ (by exact HC.out) HE hs9).mono ?_; rintro e w9 ⟨rfl, m9, rfl⟩))
              go_roundw
              case rel => exact ⟨j + 1, k', by omega, by omega, hk', rfl, by go_num, by exact HC.out, by exact Below.drewN' HB.out _⟩
              case measure => simp [intOf]; omega
          by_cases hN2 : (X.size : Int) - k' ≤ N
          · skip
            as_aux_lemma =>
              have p1 : decide (0 ≤ N) = true := by simp; omega
              have p2 : decide (N < (X.size : Int) - k') = false := by simp; omega
              go_wp2_with (first
              | (go_at_call 13; refine (peek_far w.heap.size k' X N _ (by exact HC.out) hk' hs9 (by omega) hN2).mono ?_; rintro e w7 ⟨rfl, m7, rfl⟩)
              | (go_at_call 14; refine (at_any w.heap.size k' X _ (by exact HC.out)).mono ?_; rintro e w8 ⟨rfl, rfl⟩)
              | (go_at_call 15; refine (left_any w.heap.size k' X _ (by exact HC.out) hk' hs9).mono ?_; rintro e w8 ⟨rfl, m8, rfl⟩)
              | (go_at_call 16; refine (end_yes w.heap.size k' X _ (by exact HC.out) HE hs9).mono ?_; rintro e w9 ⟨rfl, m9, rfl⟩))
              go_roundw
              case rel => exact ⟨j + 1, k', by omega, by omega, hk', rfl, by go_num, by exact HC.out, by exact Below.drewN' HB.out _⟩
              case measure => simp [intOf]; omega
          obtain ⟨m, rfl⟩ : ∃ m : Nat, N = m := ⟨N.toNat, by omega⟩
          have hm : k' + m < X.size := by omega
          as_aux_lemma =>
            have p1 : decide (0 ≤ (m : Int)) = true := by simp
            have p2 : decide ((m : Int) < (X.size : Int) - k') = true := by simp; omega
            have g1 : IntKind.i64.wrap ((k' : Int) + (m : Int)) = (k' : Int) + (m : Int) := IntWalk.i64_in _ (by omega)
            have g2 : 0 ≤ (k' : Int) + (m : Int) := by omega
            have g3 : ((k' : Int) + (m : Int)).toNat = k' + m := by omega
            have g4 : (k' : Int) + (m : Int) < (X.size : Int) := by omega
            go_wp2_with (first
            | (go_at_call 13; refine (peek_ok w.heap.size k' m X _ (by exact HC.out) hs9 hm).mono ?_; rintro e w7 ⟨rfl, m7, rfl⟩)
            | (go_at_call 14; refine (at_any w.heap.size k' X _ (by exact HC.out)).mono ?_; rintro e w8 ⟨rfl, rfl⟩)
            | (go_at_call 15; refine (left_any w.heap.size k' X _ (by exact HC.out) hk' hs9).mono ?_; rintro e w8 ⟨rfl, m8, rfl⟩)
            | (go_at_call 16; refine (end_yes w.heap.size k' X _ (by exact HC.out) HE hs9).mono ?_; rintro e w9 ⟨rfl, m9, rfl⟩))
            go_roundw
            case rel => exact ⟨j + 1, k', by omega, by omega, hk', rfl, by go_num, by exact HC.out, by exact Below.drewN' HB.out _⟩
            case measure => simp [intOf]; omega
        · by_cases hN : N < 0
          · skip
            as_aux_lemma =>
              have p1 : decide (0 ≤ N) = false := by simp; omega
              go_wp2_with (first
              | (go_at_call 13; refine (peek_neg _ N _ hN).mono ?_; rintro e w7 ⟨rfl, rfl⟩)
              | (go_at_call 14; refine (at_any w.heap.size k' X _ (by exact HC.out)).mono ?_; rintro e w8 ⟨rfl, rfl⟩)
              | (go_at_call 15; refine (left_any w.heap.size k' X _ (by exact HC.out) hk' hs9).mono ?_; rintro e w8 ⟨rfl, m8, rfl⟩)
              | (go_at_call 16; refine (end_no w.heap.size k' X _ (by exact HC.out) hk' HE hs9).mono ?_; rintro e w9 ⟨rfl, m9, rfl⟩))
              go_roundw
              case rel => exact ⟨j + 1, k', by omega, by omega, hk', rfl, by go_num, by exact HC.out, by exact Below.drewN' HB.out _⟩
              case measure => simp [intOf]; omega
          by_cases hN2 : (X.size : Int) - k' ≤ N
          · skip
            as_aux_lemma =>
              have p1 : decide (0 ≤ N) = true := by simp; omega
              have p2 : decide (N < (X.size : Int) - k') = false := by simp; omega
              go_wp2_with (first
              | (go_at_call 13; refine (peek_far w.heap.size k' X N _ (by exact HC.out) hk' hs9 (by omega) hN2).mono ?_; rintro e w7 ⟨rfl, m7, rfl⟩)
              | (go_at_call 14; refine (at_any w.heap.size k' X _ (by exact HC.out)).mono ?_; rintro e w8 ⟨rfl, rfl⟩)
              | (go_at_call 15; refine (left_any w.heap.size k' X _ (by exact HC.out) hk' hs9).mono ?_; rintro e w8 ⟨rfl, m8, rfl⟩)
              | (go_at_call 16; refine (end_no w.heap.size k' X _ (by exact HC.out) hk' HE hs9).mono ?_; rintro e w9 ⟨rfl, m9, rfl⟩))
              go_roundw
              case rel => exact ⟨j + 1, k', by omega, by omega, hk', rfl, by go_num, by exact HC.out, by exact Below.drewN' HB.out _⟩
              case measure => simp [intOf]; omega
          obtain ⟨m, rfl⟩ : ∃ m : Nat, N = m := ⟨N.toNat, by omega⟩
          have hm : k' + m < X.size := by omega
          as_aux_lemma =>
            have p1 : decide (0 ≤ (m : Int)) = true := by simp
            have p2 : decide ((m : Int) < (X.size : Int) - k') = true := by simp; omega
            have g1 : IntKind.i64.wrap ((k' : Int) + (m : Int)) = (k' : Int) + (m : Int) := IntWalk.i64_in _ (by omega)
            have g2 : 0 ≤ (k' : Int) + (m : Int) := by omega
            have g3 : ((k' : Int) + (m : Int)).toNat = k' + m := by omega
            have g4 : (k' : Int) + (m : Int) < (X.size : Int) := by omega
            go_wp2_with (first
            | (go_at_call 13; refine (peek_ok w.heap.size k' m X _ (by exact HC.out) hs9 hm).mono ?_; rintro e w7 ⟨rfl, m7, rfl⟩)
            | (go_at_call 14; refine (at_any w.heap.size k' X _ (by exact HC.out)).mono ?_; rintro e w8 ⟨rfl, rfl⟩)
            | (go_at_call 15; refine (left_any w.heap.size k' X _ (by exact HC.out) hk' hs9).mono ?_; rintro e w8 ⟨rfl, m8, rfl⟩)
            | (go_at_call 16; refine (end_no w.heap.size k' X _ (by exact HC.out) hk' HE hs9).mono ?_; rintro e w9 ⟨rfl, m9, rfl⟩))
            go_roundw
            case rel => exact ⟨j + 1, k', by omega, by omega, hk', rfl, by go_num, by exact HC.out, by exact Below.drewN' HB.out _⟩
            case measure => simp [intOf]; omega
    · have hs9 : X.size ≤ 9223372036854775807 := by omega
      have HC := Lib.hid hcur
      have HB := Lib.hid hbw
      have hz : w.heap.size < wr.heap.size := hcur.lt
      clear hcur hbw HD
      have hx : (j < n ∧ ¬ j < 60) ∨ ¬ j < n := by omega
      clear hlt
      have g4 : (k : Int) ≤ (X.size : Int) := by omega
      rcases hx with ⟨h1, h2⟩ | h1
      all_goals
       as_aux_lemma =>
        go_wp2_with fail
        go_region_with (first
          | (go_at_call 17; refine (rest_any w.heap.size k X _ (by exact HC.out) hk hs9).mono ?_; rintro e w7 ⟨rfl, rfl⟩)
          | (go_at_call 16; refine (end_yes w.heap.size X.size X _ (by exact Cur.set (Blk.drew HC.out) X.size) rfl hs9).mono ?_; rintro e w8 ⟨rfl, m8, rfl⟩)
          | (go_at_call 18; refine (lives_any _).mono ?_; rintro e w9 ⟨rfl, hb9⟩))
        all_goals
          go_wp2
          go_ret
          exact ⟨rfl, (Below.drewN' ((HB.out).setCell (p := ⟨w.heap.size, 1, none⟩) (by simp) (.int .i64 X.size)) _).trans (hb9.mono (B' := w.heap.size) (by simp [World.setCell]; omega))⟩
end Go.Proofs.Ytndinfhgoebcoaa
