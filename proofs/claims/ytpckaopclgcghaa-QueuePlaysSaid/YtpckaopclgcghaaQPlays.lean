/-
  The law on a queue's calls returns true, for every number and every acts. Conditions: what the arguments' reading gives.
-/
import Derived.Test.YtpckaopclgcghaaQNone
import Derived.Test.YtpckaopclgcghaaCut
import Derived.Test.YtpckaopclgcghaaActs
import Derived.LoopTactic
import Derived.Deep.RegionWith
import Derived.Deep.CutRange
import Derived.Deep.Cut
import Derived.Deep.CutBlock
import Derived.StillTailTactics
import Derived.Deep.RegionHeld2
namespace Go.Proofs.Ytpckaopclgcghaa
open Go.RowKit

set_option maxHeartbeats 4000000 in
set_option maxRecDepth 100000 in
theorem plays_any (most : Nat) (A : Option Addr) (n c : Nat) (w : World) (hm : most ≤ 1048576) (hn : n ≤ 9223372036854775807) (hd : Acts w A n) :
    Calls Try.prog 3 #[.int .i64 most, .slice A n c] w fun e w' => e = .returned (.bool true) ∧ Below w.heap.size w w' := by
  have HD := Lib.hid hd
  clear hd
  have HN := Lib.hid (qnew_ok most w hm)
  have d1 : ¬ (most : Int) < 0 := by omega
  have d2 : ¬ (1048576 : Int) < (most : Int) := by omega
  have d3 : ¬ 1048576 < most := by omega
  have hq := q_eq_nil ⟨w.heap.size, 0, none⟩
  go_enter Try.func3, Try.ntmps3
  go_wp2_with (go_at_call 5; refine HN.out.mono ?_; rintro e w1 ⟨rfl, hQ1, hB1⟩; have HQ1 := Lib.hid hQ1; have HB1 := Lib.hid hB1; clear hQ1 hB1)
  go_loopw [7, 8, 9, 10] (fun sv iv ov jv wr => ∃ (j gone : Nat) (s : ByteArray), j ≤ n ∧ j ≤ 60 ∧ s.size ≤ most ∧ gone + s.size ≤ 50 * j ∧ sv = .string s ∧ iv = .int .i64 (gone + s.size : Nat) ∧ ov = .int .i64 gone ∧ jv = .int .i64 j ∧ Que wr w.heap.size w.heap.size most gone s ∧ Below w.heap.size w wr) (fun _ _ _ jv _ => 60 - (intOf jv).toNat)
  case atStart => exact ⟨0, 0, ⟨#[]⟩, by omega, by omega, Nat.zero_le _, Nat.le_refl _, rfl, rfl, rfl, rfl, HQ1.out, HB1.out⟩
  case round =>
    obtain ⟨j, gone, s, hj, hj6, hs, hg, rfl, rfl, rfl, rfl, hQ, hB⟩ := hrel
    have HQ := Lib.hid hQ
    have HB := Lib.hid hB
    clear hQ hB HQ1 HB1 HN
    by_cases hlt : j < n ∧ j < 60
    · obtain ⟨h1, h2⟩ := hlt
      obtain ⟨a, kd, N, S, rfl, hab, e0, e1, e2, hS, hN1, hN2⟩ := HD.out j h1
      have hab' : (a.add (j * 3)).block < w.heap.size := by rw [add_block]; exact hab
      have e0' : wr.cell? (a.add (j * 3)) = some (.int .i64 kd) := (HB.out.cell hab').trans e0
      have e1' : wr.cell? ⟨(a.add (j * 3)).block, (a.add (j * 3)).off + 1, none⟩ = some (.int .i64 N) := (HB.out.cell (p := ⟨(a.add (j * 3)).block, (a.add (j * 3)).off + 1, none⟩) hab').trans e1
      have e2' : wr.cell? ⟨(a.add (j * 3)).block, (a.add (j * 3)).off + 2, none⟩ = some (.string S) := (HB.out.cell (p := ⟨(a.add (j * 3)).block, (a.add (j * 3)).off + 2, none⟩) hab').trans e2
      have d4 : decide (j < n) = true := by simpa using h1
      have d5 : decide ((j : Int) < 60) = true := by simp; omega
      have HC := Lib.hid (fun W => cut_any S 50 W hS)
      have ht := cutB_size S 50
      generalize cutB S 50 = t at *
      clear e0 e1 e2 hab hab' hS
      have n0 : wr.heap.size ≠ (a.add (j * 3)).block := World.new_ne wr _ e0'
      have n1 : (a.add (j * 3)).block < wr.heap.size := World.block_lt_of_cell? wr _ e0'
      have n2 : (a.add (j * 3)).block ≠ wr.heap.size := fun e => n0 e.symm
      go_wp2
      go_cut [11, 12] from 55 to 64 (fun s11 s12 wx => ∃ ab, s11 = .pointer (some ⟨ab, 0, none⟩) ∧ s12 = .string t ∧ wx.cell? ⟨ab, 0, none⟩ = some (.int .i64 kd) ∧ wx.cell? ⟨ab, 1, none⟩ = some (.int .i64 N) ∧ Que wx w.heap.size w.heap.size most gone s ∧ Below w.heap.size w wx)
      case first =>
        as_aux_lemma =>
          have hS1 : ∀ o, (wr.drew.alloc o).cell? (a.add (j * 3)) = some (.int .i64 kd) ∧ (wr.drew.alloc o).cell? ⟨(a.add (j * 3)).block, (a.add (j * 3)).off + 1, none⟩ = some (.int .i64 N) ∧ (wr.drew.alloc o).cell? ⟨(a.add (j * 3)).block, (a.add (j * 3)).off + 2, none⟩ = some (.string S) := fun o => by
            have hb : Below wr.heap.size wr (wr.drew.alloc o) := (Below.refl _ _).drew.alloc (Nat.le_refl _) o
            exact ⟨(hb.cell n1).trans e0', (hb.cell (p := ⟨(a.add (j * 3)).block, (a.add (j * 3)).off + 1, none⟩) n1).trans e1', (hb.cell (p := ⟨(a.add (j * 3)).block, (a.add (j * 3)).off + 2, none⟩) n1).trans e2'⟩
          have hS1 : ∀ o, (wr.alloc o).cell? (a.add (j * 3)) = some (.int .i64 kd) ∧ (wr.alloc o).cell? ⟨(a.add (j * 3)).block, (a.add (j * 3)).off + 1, none⟩ = some (.int .i64 N) ∧ (wr.alloc o).cell? ⟨(a.add (j * 3)).block, (a.add (j * 3)).off + 2, none⟩ = some (.string S) := fun o => by
            have hb : Below wr.heap.size wr (wr.alloc o) := (Below.refl _ _).alloc (Nat.le_refl _) o
            exact ⟨(hb.cell n1).trans e0', (hb.cell (p := ⟨(a.add (j * 3)).block, (a.add (j * 3)).off + 1, none⟩) n1).trans e1', (hb.cell (p := ⟨(a.add (j * 3)).block, (a.add (j * 3)).off + 2, none⟩) n1).trans e2'⟩
          have HS1 := Lib.hid hS1
          clear n0 n2 hS1
          refine wp_region_held_drew (S := fun w' => w'.cell? (a.add (j * 3)) = some (.int .i64 kd) ∧ w'.cell? ⟨(a.add (j * 3)).block, (a.add (j * 3)).off + 1, none⟩ = some (.int .i64 N) ∧ w'.cell? ⟨(a.add (j * 3)).block, (a.add (j * 3)).off + 2, none⟩ = some (.string S)) (by kernel_rfl) ⟨e0', e1', e2'⟩ (fun hHeld => ?_)
          refine wpAnyH_take (i := 0) (oi := ⟨some 55, _, _, _, _, _⟩) (v := ?_) rfl (by kernel_rfl) (by kernel_rfl) (by kernel_rfl) (fun _ _ _ h => h) (Or.inl ⟨by rfl, ?_⟩) hHeld ?_
          rotate_left
          focus (intro wq hSw; go_simp; try with_reducible rfl; done)
          simp only [Act.put, List.setIfInBounds_toArray, List.set_cons_zero, List.set_cons_succ]
          refine wpAnyH_take (i := 1) (oi := ⟨some 56, _, _, _, _, _⟩) (v := ?_) rfl (by kernel_rfl) (by kernel_rfl) (by kernel_rfl) (fun _ _ _ h => h) (Or.inl ⟨by rfl, ?_⟩) hHeld ?_
          rotate_left
          focus (intro wq hSw; go_simp; try with_reducible rfl; done)
          simp only [Act.put, List.setIfInBounds_toArray, List.set_cons_zero, List.set_cons_succ]
          refine wpAnyH_take (i := 2) (oi := ⟨some 57, _, _, _, _, _⟩) (v := ?_) rfl (by kernel_rfl) (by kernel_rfl) (by kernel_rfl) (fun _ _ _ h => h) (Or.inl ⟨by rfl, ?_⟩) hHeld ?_
          rotate_left
          focus (intro wq hSw; go_simp; try with_reducible rfl; done)
          simp only [Act.put, List.setIfInBounds_toArray, List.set_cons_zero, List.set_cons_succ]
          refine wpAnyH_take (i := 3) (oi := ⟨some 58, _, _, _, _, _⟩) (v := ?_) rfl (by kernel_rfl) (by kernel_rfl) (by kernel_rfl) (fun _ _ _ h => h) (Or.inl ⟨by rfl, ?_⟩) hHeld ?_
          rotate_left
          focus (intro wq hSw; obtain ⟨q0, q1, q2⟩ := hSw; go_simp; try with_reducible rfl; done)
          simp only [Act.put, List.setIfInBounds_toArray, List.set_cons_zero, List.set_cons_succ]
          refine wpAnyH_take (i := 4) (oi := ⟨some 59, _, _, _, _, _⟩) (v := ?_) rfl (by kernel_rfl) (by kernel_rfl) (by kernel_rfl) (fun _ _ _ h => h) (Or.inl ⟨by rfl, ?_⟩) hHeld ?_
          rotate_left
          focus (intro wq hSw; go_simp; try with_reducible rfl; done)
          simp only [Act.put, List.setIfInBounds_toArray, List.set_cons_zero, List.set_cons_succ]
          refine wpAnyH_take (i := 5) (oi := ⟨some 60, _, _, _, _, _⟩) (v := ?_) rfl (by kernel_rfl) (by kernel_rfl) (by kernel_rfl) (fun _ _ _ h => h) (Or.inl ⟨by rfl, ?_⟩) hHeld ?_
          rotate_left
          focus (intro wq hSw; go_simp; try with_reducible rfl; done)
          simp only [Act.put, List.setIfInBounds_toArray, List.set_cons_zero, List.set_cons_succ]
          refine wpAnyH_take (i := 6) (oi := ⟨some 61, _, _, _, _, _⟩) (v := ?_) rfl (by kernel_rfl) (by kernel_rfl) (by kernel_rfl) (fun _ _ _ h => h) (Or.inl ⟨by rfl, ?_⟩) hHeld ?_
          rotate_left
          focus (intro wq hSw; go_simp; try with_reducible rfl; done)
          simp only [Act.put, List.setIfInBounds_toArray, List.set_cons_zero, List.set_cons_succ]
          refine wpAnyH_take (i := 7) (oi := ⟨some 62, _, _, _, _, _⟩) (v := ?_) rfl (by kernel_rfl) (by kernel_rfl) (by kernel_rfl) (fun _ _ _ h => h) (Or.inl ⟨by rfl, ?_⟩) hHeld ?_
          rotate_left
          focus (intro wq hSw; go_simp; try with_reducible rfl; done)
          simp only [Act.put, List.setIfInBounds_toArray, List.set_cons_zero, List.set_cons_succ]
          refine wpAnyH_take (i := 8) (oi := ⟨some 63, _, _, _, _, _⟩) (v := ?_) rfl (by kernel_rfl) (by kernel_rfl) (by kernel_rfl) (fun _ _ _ h => h) (Or.inl ⟨by rfl, ?_⟩) hHeld ?_
          rotate_left
          focus (intro wq hSw; obtain ⟨q0, q1, q2⟩ := hSw; go_simp; try with_reducible rfl; done)
          simp only [Act.put, List.setIfInBounds_toArray, List.set_cons_zero, List.set_cons_succ]
          refine wpAnyH_ready (rs := [9, 10]) (by kernel_rfl) (by simp) ?_
          refine AllReadyH.cons rfl (fun K hK => ?_) (AllReadyH.cons rfl (fun K hK => ?_) AllReadyH.nil)
          · go_simp
            refine (HC.out _).mono ?_
            rintro e w4 ⟨rfl, rfl⟩
            refine hK.out _ _ hHeld (fun hHeld => ?_)
            clear hK K
            refine wpAnyH_ready (rs := [10]) (by kernel_rfl) (by simp) ?_
            refine AllReadyH.cons rfl (fun K hK => ?_) AllReadyH.nil
            go_simp
            refine hK.out _ _ (by first | exact HS1.out _ | (trace_state; fail)) (fun hHeld => ?_)
            clear hK K
            refine wpAnyH_ready (rs := [11]) (by kernel_rfl) (by simp) ?_
            refine AllReadyH.cons rfl (fun K hK => ?_) AllReadyH.nil
            go_simp
            refine hK.out _ _ (by first | exact HS1.out _ | (trace_state; fail)) (fun hHeld => ?_)
            clear hK K
            refine wpAnyH_take (i := 12) (oi := ⟨some 12, _, _, _, _, _⟩) (v := ?_) rfl (by kernel_rfl) (by kernel_rfl) (by kernel_rfl) (fun _ _ _ h => h) (Or.inl ⟨by rfl, ?_⟩) hHeld ?_
            rotate_left
            focus (intro wq hSw; go_simp; try with_reducible rfl; done)
            simp only [Act.put, List.setIfInBounds_toArray, List.set_cons_zero, List.set_cons_succ]
            refine wpAnyH_done (by kernel_rfl) ?_ _
            go_wp2_with fail
            go_meet
            exact ⟨_, rfl, rfl, by simp [go_sem], by simp [go_sem], (HQ.out.alloc _).drew, (HB.out.alloc HB.out.size _).drew⟩
          · go_simp
            refine hK.out _ _ (by first | exact HS1.out _ | (trace_state; fail)) (fun hHeld => ?_)
            clear hK K
            refine wpAnyH_ready (rs := [9]) (by kernel_rfl) (by simp) ?_
            refine AllReadyH.cons rfl (fun K hK => ?_) AllReadyH.nil
            go_simp
            refine (HC.out _).mono ?_
            rintro e w4 ⟨rfl, rfl⟩
            refine hK.out _ _ hHeld (fun hHeld => ?_)
            clear hK K
            refine wpAnyH_ready (rs := [11]) (by kernel_rfl) (by simp) ?_
            refine AllReadyH.cons rfl (fun K hK => ?_) AllReadyH.nil
            go_simp
            refine hK.out _ _ (by first | exact HS1.out _ | (trace_state; fail)) (fun hHeld => ?_)
            clear hK K
            refine wpAnyH_take (i := 12) (oi := ⟨some 12, _, _, _, _, _⟩) (v := ?_) rfl (by kernel_rfl) (by kernel_rfl) (by kernel_rfl) (fun _ _ _ h => h) (Or.inl ⟨by rfl, ?_⟩) hHeld ?_
            rotate_left
            focus (intro wq hSw; go_simp; try with_reducible rfl; done)
            simp only [Act.put, List.setIfInBounds_toArray, List.set_cons_zero, List.set_cons_succ]
            refine wpAnyH_done (by kernel_rfl) ?_ _
            go_wp2_with fail
            go_meet
            exact ⟨_, rfl, rfl, by simp [go_sem], by simp [go_sem], (HQ.out.alloc _).drew, (HB.out.alloc HB.out.size _).drew⟩
      case rest =>
        obtain ⟨ab, rfl, rfl, f0, f1, hQ, hB⟩ := hcut
        have HQ1 := Lib.hid hQ
        have HB1 := Lib.hid hB
        have HM := Lib.hid (fun W => many_any N s.size W)
        have hk := many_le N s.size
        have hkz : (many N s.size : Int) ≤ (s.size : Int) := by omega
        have HT : Hid (∀ W, Que W w.heap.size w.heap.size most gone s → Calls Try.prog 10 #[qptr w.heap.size, .int .i64 N] W fun e w' => e = .returned (.string (s.extract 0 (many N s.size))) ∧ Que w' w.heap.size w.heap.size most (gone + many N s.size) (s.extract (many N s.size) s.size) ∧ Below w.heap.size W w') := Lib.hid fun W hW => qtake_any N W hW (by omega)
        have HP : Hid (∀ W, Que W w.heap.size w.heap.size most gone s → Calls Try.prog 11 #[qptr w.heap.size, .int .i64 N] W fun e w' => e = .returned (.string (s.extract 0 (many N s.size))) ∧ W = w') := Lib.hid fun W hW => qpeek_any N W hW
        generalize many N s.size = k at *
        obtain ⟨d, hd0⟩ : ∃ d, d = most - s.size := ⟨_, rfl⟩
        have g1 : IntKind.i64.wrap ((most : Int) - (s.size : Int)) = (d : Int) := by rw [IntWalk.i64_in _ (by omega)]; omega
        have hso : (most : Int) - (s.size : Int) = (d : Int) := by omega
        have HD0 := Lib.hid hd0
        clear hd0
        have g2 : IntKind.i64.wrap (d : Int) = (d : Int) := IntWalk.i64_in _ (by omega)
        go_upto_block 2 with (go_at_call 8; (with_reducible refine (HM.out _).mono ?_); rintro e w2 ⟨rfl, rfl⟩)
        go_cut [7, 8, 9, 15, 16] from 76 to 150 (fun s7 s8 s9 _ _ wx => ∃ (gone' : Nat) (s' : ByteArray), s'.size ≤ most ∧ gone' + s'.size ≤ 50 * (j + 1) ∧ s7 = .string s' ∧ s8 = .int .i64 (gone' + s'.size : Nat) ∧ s9 = .int .i64 gone' ∧ Que wx w.heap.size w.heap.size most gone' s' ∧ Below w.heap.size w wx)
        case first =>
          by_cases q1 : kd = 1
          · subst q1
            as_aux_lemma =>
              have HMF := Lib.hid (fun W => many_any (t.size : Int) d W)
              have hk2 : many (t.size : Int) d ≤ t.size := by unfold many; omega
              have HF : Hid (∀ W, Que W w.heap.size w.heap.size most gone s → Calls Try.prog 9 #[qptr w.heap.size, .string t] W fun e w' => e = .returned (.string (t.extract (many (t.size : Int) d) t.size)) ∧ Que w' w.heap.size w.heap.size most gone (s ++ t.extract 0 (many (t.size : Int) d)) ∧ Below w.heap.size W w') := Lib.hid fun W hW => qfill_any t W hW hs hm (by omega) _ (by have := HD0.out; unfold many; omega)
              have hk3 : many (t.size : Int) d ≤ d := many_le _ _
              generalize many (t.size : Int) d = k2 at *
              have hk4 : (k2 : Int) ≤ (t.size : Int) := by omega
              have g3 : IntKind.i64.wrap ((gone : Int) + (s.size : Int) + (k2 : Int)) = (gone : Int) + (s.size : Int) + (k2 : Int) := IntWalk.i64_in _ (by omega)
              have hsz : (s ++ t.extract 0 k2).size = s.size + k2 := by simp; omega
              have HSZ := Lib.hid hsz
              have hcat : s.size + min k2 t.size ≤ 9223372036854775807 := by omega
              have hcat' : s.size + k2 ≤ 9223372036854775807 := by omega
              have hmn : min k2 t.size = k2 := by omega
              clear hsz
              go_wp2_with (go_at_call 8; (with_reducible refine (HMF.out _).mono ?_); rintro e w2 ⟨rfl, rfl⟩)
              go_region_with (go_at_call 9; refine (HF.out _ (by exact HQ1.out)).mono ?_; rintro e w3 ⟨rfl, hQ3, hB3⟩; have HQ3 := Lib.hid hQ3; have HB3 := Lib.hid (HB1.out.drew.trans hB3); clear hQ3 hB3)
              all_goals
                go_wp2_with fail
                go_meet
                exact ⟨gone, s ++ t.extract 0 k2, by rw [HSZ.out]; have := HD0.out; omega, by rw [HSZ.out]; omega, rfl, by rw [HSZ.out]; go_num, rfl, HQ3.out, HB3.out⟩
          by_cases q2 : kd = 2
          · subst q2
            clear q1 ht
            as_aux_lemma =>
              have hkk : gone + k + (s.size - k) = gone + s.size := by omega
              have hse : (s.extract k s.size).size = s.size - k := by simp
              have HSE := Lib.hid hse
              have g3 : IntKind.i64.wrap ((gone : Int) + (k : Int)) = (gone : Int) + (k : Int) := IntWalk.i64_in _ (by omega)
              clear hse hkk
              go_wp2_with fail
              go_region_with (go_at_call 10; refine (HT.out _ (by exact HQ1.out)).mono ?_; rintro e w3 ⟨rfl, hQ3, hB3⟩; have HQ3 := Lib.hid hQ3; have HB3 := Lib.hid (HB1.out.drew.trans hB3); clear hQ3 hB3)
              all_goals
                go_wp2_with fail
                go_meet
                exact ⟨gone + k, s.extract k s.size, by rw [HSE.out]; omega, by rw [HSE.out]; omega, rfl, by rw [HSE.out]; go_num, rfl, HQ3.out, HB3.out⟩
          by_cases q3 : kd = 3
          · subst q3
            clear q1 q2 ht
            as_aux_lemma =>
              go_wp2_with fail
              go_quiet ((go_at_call 11; exact Calls.quiet_of_same ((HP.out _ (by exact HQ1.out)).mono fun _ _ h => ⟨h.1, h.2.symm⟩)))
              go_wp2_with fail
              go_meet
              exact ⟨gone, s, hs, by omega, rfl, by go_num, rfl, HQ1.out.drewN _, Below.drewN' HB1.out _⟩
          by_cases q4 : kd = 4
          · subst q4
            clear q1 q2 q3 ht
            as_aux_lemma =>
              have HDR : Hid (∀ W, Que W w.heap.size w.heap.size most gone s → Calls Try.prog 12 #[qptr w.heap.size] W fun e w' => e = .returned (.string s) ∧ Que w' w.heap.size w.heap.size most (gone + s.size) ⟨#[]⟩ ∧ Below w.heap.size W w') := Lib.hid fun W hW => (qdrain_any W hW (by omega)).mono fun e w' h => by
                obtain ⟨r1, r2, r3⟩ := h
                have e1 : s.extract 0 s.size = s := by simp
                have e2 : s.extract s.size s.size = ⟨#[]⟩ := by apply ByteArray.ext; simp
                rw [e1] at r1
                rw [e2] at r2
                exact ⟨r1, r2, r3⟩
              have g3 : IntKind.i64.wrap ((gone : Int) + (s.size : Int)) = (gone : Int) + (s.size : Int) := IntWalk.i64_in _ (by omega)
              go_wp2_with (go_at_call 12; refine (HDR.out _ HQ1.out).mono ?_; rintro e w3 ⟨rfl, hQ3, hB3⟩; have HQ3 := Lib.hid hQ3; have HB3 := Lib.hid (HB1.out.trans hB3); clear hQ3 hB3)
              go_meet
              exact ⟨gone + s.size, ⟨#[]⟩, Nat.zero_le _, (by show gone + s.size + 0 ≤ _; omega), rfl, rfl, rfl, HQ3.out, HB3.out⟩
          · have p1 : (kd == 1) = false := by simpa using q1
            have p2 : (kd == 2) = false := by simpa using q2
            have p3 : (kd == 3) = false := by simpa using q3
            have p4 : (kd == 4) = false := by simpa using q4
            clear q1 q2 q3 q4
            by_cases htd : d < t.size
            · have HPU : Hid (∀ W, Que W w.heap.size w.heap.size most gone s → Calls Try.prog 13 #[qptr w.heap.size, .string t] W fun e w' => e = .returned (.int .i64 3) ∧ ∃ n, w' = W.drewN n) := Lib.hid fun W hW => qpush_full t W hW hs hm (by omega) (by have := HD0.out; omega)
              have t1 : (d : Int) < (t.size : Int) := by omega
              as_aux_lemma =>
                go_wp2_with (go_at_call 13; refine (HPU.out _ HQ1.out).mono ?_; rintro e w3 ⟨rfl, n3, rfl⟩)
                go_meet
                exact ⟨gone, s, hs, by omega, rfl, by go_num, rfl, HQ1.out.drewN n3, Below.drewN' HB1.out n3⟩
            · have HPU : Hid (∀ W, Que W w.heap.size w.heap.size most gone s → Calls Try.prog 13 #[qptr w.heap.size, .string t] W fun e w' => e = .returned (.int .i64 0) ∧ Que w' w.heap.size w.heap.size most gone (s ++ t) ∧ Below w.heap.size W w') := Lib.hid fun W hW => qpush_ok t W hW hs hm (by have := HD0.out; omega)
              have t1 : ¬ (d : Int) < (t.size : Int) := by omega
              have g3 : IntKind.i64.wrap ((gone : Int) + (s.size : Int) + (t.size : Int)) = (gone : Int) + (s.size : Int) + (t.size : Int) := IntWalk.i64_in _ (by omega)
              have hcat : s.size + t.size ≤ 9223372036854775807 := by omega
              have HSZ := Lib.hid (show (s ++ t).size = s.size + t.size by simp)
              as_aux_lemma =>
                go_wp2_with (go_at_call 13; refine (HPU.out _ HQ1.out).mono ?_; rintro e w3 ⟨rfl, hQ3, hB3⟩; have HQ3 := Lib.hid hQ3; have HB3 := Lib.hid (HB1.out.trans hB3); clear hQ3 hB3)
                go_meet
                exact ⟨gone, s ++ t, by rw [HSZ.out]; have := HD0.out; omega, by rw [HSZ.out]; omega, rfl, by rw [HSZ.out]; go_num, rfl, HQ3.out, HB3.out⟩
        case rest =>
          clear HP HT HM HQ1 HB1 HQ HB HC ht HD0 g1 g2 hso hk hkz f0 f1 e0' e1' e2' n0 n1 n2
          obtain ⟨gone', s', hs', hg', rfl, rfl, rfl, hQ', hB'⟩ := hcut
          have HQ2 := Lib.hid hQ'
          have HB2 := Lib.hid hB'
          clear hQ' hB'
          have HPA : Hid (∀ W, Que W w.heap.size w.heap.size most gone' s' → Calls Try.prog 14 #[qptr w.heap.size] W fun e w' => e = .returned (.tuple #[.int .i64 (gone' + s'.size : Nat), .int .i64 gone']) ∧ ∃ n, w' = W.drewN n) := Lib.hid fun W hW => qpassed_any W hW (by omega)
          have HL : Hid (∀ W, Que W w.heap.size w.heap.size most gone' s' → Calls Try.prog 15 #[qptr w.heap.size] W fun e w' => e = .returned (.int .i64 s'.size) ∧ W = w') := Lib.hid fun W hW => qlen_any W hW
          have HR : Hid (∀ W, Que W w.heap.size w.heap.size most gone' s' → Calls Try.prog 16 #[qptr w.heap.size] W fun e w' => e = .returned (.int .i64 ((most - s'.size : Nat) : Int)) ∧ ∃ n, w' = W.drewN n) := Lib.hid fun W hW => qroom_any W hW hs' hm
          have HF : Hid (∀ W, Que W w.heap.size w.heap.size most gone' s' → Calls Try.prog 17 #[qptr w.heap.size] W fun e w' => e = .returned (.bool (decide (most = s'.size))) ∧ ∃ n, w' = W.drewN n) := Lib.hid fun W hW => qfull_any W hW hs' hm
          have HP : Hid (∀ W, Que W w.heap.size w.heap.size most gone' s' → Calls Try.prog 11 #[qptr w.heap.size, .int .i64 s'.size] W fun e w' => e = .returned (.string s') ∧ W = w') := Lib.hid fun W hW => (qpeek_any s'.size W hW).mono fun e w' h => by
            have e1 : s'.extract 0 (many s'.size s'.size) = s' := by
              have : many s'.size s'.size = s'.size := by unfold many; omega
              rw [this]; simp
            rwa [e1] at h
          obtain ⟨d', hd'⟩ : ∃ d', d' = most - s'.size := ⟨_, rfl⟩
          have hso : (most : Int) - (s'.size : Int) = (d' : Int) := by omega
          have g2 : IntKind.i64.wrap (d' : Int) = (d' : Int) := IntWalk.i64_in _ (by omega)
          obtain ⟨fl, hfl⟩ : ∃ fl, fl = decide (most = s'.size) := ⟨_, rfl⟩
          have hfe : ((most : Int) == (s'.size : Int)) = fl := by rw [hfl, Bool.eq_iff_iff]; simp; omega
          rw [← hfl] at HF
          rw [← hd'] at HR
          clear hd' hfl
          as_aux_lemma =>
            go_wp2_with (first
              | (go_at_call 14; refine (HPA.out _ HQ2.out).mono ?_; rintro e w3 ⟨rfl, n3, rfl⟩)
              | (go_at_call 15; refine (HL.out _ (by exact HQ2.out)).mono ?_; rintro e w4 ⟨rfl, rfl⟩)
              | (go_at_call 16; refine (HR.out _ (by exact HQ2.out)).mono ?_; rintro e w4 ⟨rfl, n4, rfl⟩)
              | (go_at_call 17; refine (HF.out _ (by exact HQ2.out)).mono ?_; rintro e w5 ⟨rfl, n5, rfl⟩)
              | (go_at_call 11; refine (HP.out _ (by exact HQ2.out)).mono ?_; rintro e w6 ⟨rfl, rfl⟩))
            go_roundw
            case rel => exact ⟨j + 1, gone', s', by omega, by omega, hs', hg', rfl, by go_num, rfl, by go_num, (by exact HQ2.out), (by exact Below.drewN' HB2.out _)⟩
            case measure => simp [intOf]; omega
    · have hd : decide (j < n) = false ∨ decide (j < n) = true ∧ decide ((j : Int) < 60) = false := by
        by_cases h1 : j < n
        · exact .inr ⟨by simpa using h1, by simp; omega⟩
        · exact .inl (by simpa using h1)
      clear hlt HD HQ
      have HL := Lib.hid (lives7_any wr)
      rcases hd with d4 | ⟨d4, d5⟩
      all_goals
        as_aux_lemma =>
          go_wp2_with (go_at_call 6; refine HL.out.mono ?_; rintro e w3 ⟨rfl, hB3⟩; have HB3 := Lib.hid (HB.out.trans (hB3.mono HB.out.size)); clear hB3)
          go_ret
          exact ⟨rfl, HB3.out⟩

end Go.Proofs.Ytpckaopclgcghaa
