/-
  The law on what is gone by returns true, for every text and every deeds. Conditions: what the arguments' reading gives.
-/
import Derived.Test.YtndinfhgoebcoaaWhile
import Derived.Test.YtndinfhgoebcoaaUntil
import Derived.Test.YtndinfhgoebcoaaOpen
import Derived.LoopTactic
import Derived.Deep.CutRange
import Derived.Deep.Cut
import Derived.Deep.CutBlock
import Derived.Deep.RegionWith
namespace Go.Proofs.Ytndinfhgoebcoaa
open Go.RowKit

theorem extract_app (s : ByteArray) (i j : Nat) (h : i ≤ j) (_hj : j ≤ s.size) : s.extract 0 i ++ s.extract i j = s.extract 0 j := by
  apply ByteArray.ext
  simp only [ByteArray.data_append, ByteArray.data_extract]
  rw [Array.extract_append_extract]
  congr 1 <;> omega

theorem prefB_le {s p : ByteArray} (h : prefB s p = true) : p.size ≤ s.size := by
  unfold prefB at h
  simp only [Bool.and_eq_true, decide_eq_true_eq] at h
  exact h.1

set_option maxHeartbeats 4000000 in
set_option maxRecDepth 100000 in
theorem cursorRuns_any (s : ByteArray) (A : Option Addr) (n c : Nat) (w : World) (hs : s.size ≤ 9223372036854775807) (hn : n ≤ 9223372036854775807) (hd : Deeds w A n) :
    Calls Try.prog 4 #[.string s, .slice A n c] w fun e w' => e = .returned (.bool true) ∧ Below w.heap.size w w' := by
  have hX := cutB_size s 200
  have HD := Lib.hid hd
  clear hd
  go_enter Try.func4, Try.ntmps4
  go_wp2_with (first
    | (go_at_call 7; refine (cut_any s 200 _ hs).mono ?_; rintro e w1 ⟨rfl, rfl⟩)
    | (go_at_call 8; refine (new_any _ _).mono ?_; rintro e w1 ⟨rfl, rfl⟩))
  generalize cutB s 200 = X at *
  have hs9 : X.size ≤ 9223372036854775807 := by omega
  go_loopw [6, 7, 8] (fun at_ all i wr => ∃ j k : Nat, j ≤ n ∧ j ≤ 40 ∧ k ≤ X.size ∧ at_ = .int .i64 k ∧ all = .string (X.extract 0 k) ∧ i = .int .i64 j ∧ Cur wr w.heap.size X k ∧ Below w.heap.size w wr) (fun _ _ i _ => 40 - (intOf i).toNat)
  case atStart => exact ⟨0, 0, by omega, by omega, by omega, rfl, by simp; rfl, rfl, Blk.new _ _ _, (Below.refl _ _).alloc (Nat.le_refl _) _⟩
  case round =>
    obtain ⟨j, k, hj, hj4, hk, rfl, rfl, rfl, hcur, hbw⟩ := hrel
    by_cases hlt : j < n ∧ j < 40
    · obtain ⟨h1, h2⟩ := hlt
      obtain ⟨a, kd, N, S, rfl, hab, e0, e1, e2, hS, hN1, hN2⟩ := HD.out j h1
      have hz : w.heap.size < wr.heap.size := hcur.lt
      have hab' : (a.add (j * 3)).block < w.heap.size := by rw [add_block]; exact hab
      have e0' : wr.cell? (a.add (j * 3)) = some (.int .i64 kd) := (hbw.cell hab').trans e0
      have e2' : wr.cell? ⟨(a.add (j * 3)).block, (a.add (j * 3)).off + 2, none⟩ = some (.string S) := (hbw.cell (p := ⟨(a.add (j * 3)).block, (a.add (j * 3)).off + 2, none⟩) hab').trans e2
      have HC := Lib.hid hcur
      have HB := Lib.hid hbw
      have hT := cutB_size S 10
      clear hcur e0 e1 e2 hbw
      have hq := and3 kd
      have hT9 : (cutB S 10).size ≤ 9223372036854775807 := by omega
      go_upto_block 2 with (go_at_call 7; refine (cut_any S 10 _ hS).mono ?_; rintro e w1 ⟨rfl, rfl⟩)
      generalize bits BinOp.and IntKind.i64 kd 3 = q at *
      generalize cutB S 10 = T at *
      clear e0' e2' hab' hab HD
      go_cut [7, 10, 11] from 16 to 110 (fun s7 s10 _ wx => ∃ k' : Nat, s10 = .int .i64 k' ∧ k' ≤ X.size ∧ s7 = .string (X.extract 0 k') ∧ Cur wx w.heap.size X k' ∧ Below w.heap.size w wx)
      case first =>
        rcases hq with rfl | rfl | rfl | rfl
        · skip
          as_aux_lemma =>
            cases hp : prefB (X.extract k X.size) T
            · have HP : Hid (∀ W, Calls Try.prog 19 #[.string (X.extract k X.size), .string T] W fun e w' => e = .returned (.bool false) ∧ W = w') := fun W => hp ▸ prefix_any (X.extract k X.size) T W (by simp; omega) hT9
              have HK := Lib.hid (skip_no w.heap.size k X T _ HC.out hk hs9 hT9 hp)
              clear hp
              go_wp2_with (first
                | (go_at_call 19; refine (HP.out _).mono ?_; rintro e w6 ⟨rfl, rfl⟩)
                | (go_at_call 20; refine HK.out.mono ?_; rintro e w7 ⟨rfl, m7, rfl⟩))
              go_meet
              exact ⟨k, rfl, hk, by simp, HC.out, Below.drewN' HB.out _⟩
            · have hle := prefB_le hp
              have hle2 : k + T.size ≤ X.size := by simp at hle; omega
              have HP : Hid (∀ W, Calls Try.prog 19 #[.string (X.extract k X.size), .string T] W fun e w' => e = .returned (.bool true) ∧ W = w') := fun W => hp ▸ prefix_any (X.extract k X.size) T W (by simp; omega) hT9
              have HK := Lib.hid (skip_yes w.heap.size k X T _ HC.out hk hs9 hT9 hp hle2)
              have HA := Lib.hid (extract_app X k (k + T.size) (by omega) hle2)
              clear hp hle
              go_wp2_with (first
                | (go_at_call 19; refine (HP.out _).mono ?_; rintro e w6 ⟨rfl, rfl⟩)
                | (go_at_call 20; refine HK.out.mono ?_; rintro e w7 ⟨rfl, m7, hw7⟩; have HW7 := Lib.hid hw7; clear hw7))
              go_meet
              exact ⟨k + T.size, by simp, hle2, by rw [← HA.out], by rw [HW7.out]; exact Cur.set (Blk.drewN HC.out m7) _, by rw [HW7.out]; exact (Below.drewN' HB.out m7).setCell (by simp) _⟩
        · skip
          as_aux_lemma =>
            go_wp2_with fail
            go_loop [10] (fun nn => ∃ m : Nat, k ≤ m ∧ m ≤ X.size ∧ nn = .int .i64 m ∧ scan lowerB X m = scan lowerB X k) (fun nn => X.size - (intOf nn).toNat)
            case atStart => exact ⟨k, by omega, hk, rfl, rfl⟩
            case round =>
              obtain ⟨m, hkm, hmX, rfl, hsc⟩ := hrel
              have HS := Lib.hid hsc
              clear hsc
              by_cases hml : m < X.size
              · skip
                cases hb : lowerB X[m]
                · have HF : Hid (scan lowerB X m = m) := scan_stop hml hb
                  have HL : Hid (∀ W, Calls Try.prog 21 #[.int .u8 (X[m].toNat : Int)] W fun e w' => e = .returned (.bool false) ∧ W = w') := fun W => hb ▸ lower_any X[m] W
                  clear hb
                  have HE : Hid (m = scan lowerB X k) := HF.out.symm.trans HS.out
                  go_wp2_with (first
                    | (go_at_call 21; refine (HL.out _).mono ?_; rintro e w6 ⟨rfl, rfl⟩)
                    | (go_at_call 22; refine (while_lower w.heap.size k X _ HC.out hk hs9).mono ?_; rintro e w7 ⟨rfl, hm7, hc7⟩))
                  go_meet
                  exact ⟨m, rfl, by omega, by rw [← HE.out, Nat.max_eq_right hkm], by rw [HE.out]; exact hc7, HB.out.trans (hm7.below (B' := w.heap.size) (by omega) (by simp))⟩
                · have HF : Hid (scan lowerB X (m + 1) = scan lowerB X m) := scan_step hml hb
                  have HL : Hid (∀ W, Calls Try.prog 21 #[.int .u8 (X[m].toNat : Int)] W fun e w' => e = .returned (.bool true) ∧ W = w') := fun W => hb ▸ lower_any X[m] W
                  clear hb
                  go_wp2_with (go_at_call 21; refine (HL.out _).mono ?_; rintro e w6 ⟨rfl, rfl⟩)
                  go_round
                  case rel => exact ⟨m + 1, by omega, by omega, by go_num, HF.out.trans HS.out⟩
                  case measure => simp [intOf]; omega
              · obtain rfl : m = X.size := by omega
                have HE : Hid (X.size = scan lowerB X k) := (scan_end rfl).symm.trans HS.out
                go_wp2_with (go_at_call 22; refine (while_lower w.heap.size k X _ HC.out hk hs9).mono ?_; rintro e w7 ⟨rfl, hm7, hc7⟩)
                go_meet
                exact ⟨X.size, rfl, by omega, by rw [← HE.out, Nat.max_eq_right hkm], by rw [HE.out]; exact hc7, HB.out.trans (hm7.below (B' := w.heap.size) (by omega) (by simp))⟩
        · skip
          as_aux_lemma =>
            go_wp2_with fail
            go_loop [10] (fun nn => ∃ m : Nat, k ≤ m ∧ m ≤ X.size ∧ nn = .int .i64 m ∧ scan (fun b => !hasB T b) X m = scan (fun b => !hasB T b) X k) (fun nn => X.size - (intOf nn).toNat)
            case atStart => exact ⟨k, by omega, hk, rfl, rfl⟩
            case round =>
              obtain ⟨m, hkm, hmX, rfl, hsc⟩ := hrel
              have HS := Lib.hid hsc
              clear hsc
              by_cases hml : m < X.size
              · skip
                cases hb : (fun b => !hasB T b) X[m]
                · have HF : Hid (scan (fun b => !hasB T b) X m = m) := scan_stop hml hb
                  have HL : Hid (∀ W, Calls Try.prog 23 #[.string T, .int .u8 (X[m].toNat : Int)] W fun e w' => e = .returned (.bool true) ∧ W = w') := fun W => by have := has_any T X[m] W hT9; rwa [show hasB T X[m] = true by simpa using hb] at this
                  clear hb
                  have HE : Hid (m = scan (fun b => !hasB T b) X k) := HF.out.symm.trans HS.out
                  go_wp2_with (first
                    | (go_at_call 23; refine (HL.out _).mono ?_; rintro e w6 ⟨rfl, rfl⟩)
                    | (go_at_call 24; refine (until_any w.heap.size k X T _ HC.out hk hs9 hT9).mono ?_; rintro e w7 ⟨rfl, hm7, hc7⟩))
                  go_meet
                  exact ⟨m, rfl, by omega, by rw [← HE.out, Nat.max_eq_right hkm], by rw [HE.out]; exact hc7, HB.out.trans (hm7.below (B' := w.heap.size) (by omega) (by simp))⟩
                · have HF : Hid (scan (fun b => !hasB T b) X (m + 1) = scan (fun b => !hasB T b) X m) := scan_step hml hb
                  have HL : Hid (∀ W, Calls Try.prog 23 #[.string T, .int .u8 (X[m].toNat : Int)] W fun e w' => e = .returned (.bool false) ∧ W = w') := fun W => by have := has_any T X[m] W hT9; rwa [show hasB T X[m] = false by simpa using hb] at this
                  clear hb
                  go_wp2_with (go_at_call 23; refine (HL.out _).mono ?_; rintro e w6 ⟨rfl, rfl⟩)
                  go_round
                  case rel => exact ⟨m + 1, by omega, by omega, by go_num, HF.out.trans HS.out⟩
                  case measure => simp [intOf]; omega
              · obtain rfl : m = X.size := by omega
                have HE : Hid (X.size = scan (fun b => !hasB T b) X k) := (scan_end rfl).symm.trans HS.out
                go_wp2_with (go_at_call 24; refine (until_any w.heap.size k X T _ HC.out hk hs9 hT9).mono ?_; rintro e w7 ⟨rfl, hm7, hc7⟩)
                go_meet
                exact ⟨X.size, rfl, by omega, by rw [← HE.out, Nat.max_eq_right hkm], by rw [HE.out]; exact hc7, HB.out.trans (hm7.below (B' := w.heap.size) (by omega) (by simp))⟩
        · skip
          as_aux_lemma =>
            go_wp2_with fail
            go_loop [10] (fun nn => ∃ m : Nat, k ≤ m ∧ m ≤ X.size ∧ nn = .int .i64 m ∧ scan (fun b => !hasB T b) X m = scan (fun b => !hasB T b) X k) (fun nn => X.size - (intOf nn).toNat)
            case atStart => exact ⟨k, by omega, hk, rfl, rfl⟩
            case round =>
              obtain ⟨m, hkm, hmX, rfl, hsc⟩ := hrel
              have HS := Lib.hid hsc
              clear hsc
              by_cases hml : m < X.size
              · skip
                cases hb : (fun b => !hasB T b) X[m]
                · have HF : Hid (scan (fun b => !hasB T b) X m = m) := scan_stop hml hb
                  have HL : Hid (∀ W, Calls Try.prog 23 #[.string T, .int .u8 (X[m].toNat : Int)] W fun e w' => e = .returned (.bool true) ∧ W = w') := fun W => by have := has_any T X[m] W hT9; rwa [show hasB T X[m] = true by simpa using hb] at this
                  clear hb
                  have HE : Hid (m = scan (fun b => !hasB T b) X k) := HF.out.symm.trans HS.out
                  go_wp2_with (first
                    | (go_at_call 23; refine (HL.out _).mono ?_; rintro e w6 ⟨rfl, rfl⟩)
                    | (go_at_call 24; refine (until_any w.heap.size k X T _ HC.out hk hs9 hT9).mono ?_; rintro e w7 ⟨rfl, hm7, hc7⟩))
                  go_meet
                  exact ⟨m, rfl, by omega, by rw [← HE.out, Nat.max_eq_right hkm], by rw [HE.out]; exact hc7, HB.out.trans (hm7.below (B' := w.heap.size) (by omega) (by simp))⟩
                · have HF : Hid (scan (fun b => !hasB T b) X (m + 1) = scan (fun b => !hasB T b) X m) := scan_step hml hb
                  have HL : Hid (∀ W, Calls Try.prog 23 #[.string T, .int .u8 (X[m].toNat : Int)] W fun e w' => e = .returned (.bool false) ∧ W = w') := fun W => by have := has_any T X[m] W hT9; rwa [show hasB T X[m] = false by simpa using hb] at this
                  clear hb
                  go_wp2_with (go_at_call 23; refine (HL.out _).mono ?_; rintro e w6 ⟨rfl, rfl⟩)
                  go_round
                  case rel => exact ⟨m + 1, by omega, by omega, by go_num, HF.out.trans HS.out⟩
                  case measure => simp [intOf]; omega
              · obtain rfl : m = X.size := by omega
                have HE : Hid (X.size = scan (fun b => !hasB T b) X k) := (scan_end rfl).symm.trans HS.out
                go_wp2_with (go_at_call 24; refine (until_any w.heap.size k X T _ HC.out hk hs9 hT9).mono ?_; rintro e w7 ⟨rfl, hm7, hc7⟩)
                go_meet
                exact ⟨X.size, rfl, by omega, by rw [← HE.out, Nat.max_eq_right hkm], by rw [HE.out]; exact hc7, HB.out.trans (hm7.below (B' := w.heap.size) (by omega) (by simp))⟩
      case rest =>
        obtain ⟨k', rfl, hk', rfl, hc', hb'⟩ := hcut
        have HC2 := Lib.hid hc'
        have HB2 := Lib.hid hb'
        clear hc' hb'
        go_wp2_with (go_at_call 14; refine (at_any w.heap.size k' X _ HC2.out).mono ?_; rintro e w8 ⟨rfl, rfl⟩)
        go_roundw
        case rel => exact ⟨j + 1, k', by omega, by omega, hk', rfl, rfl, by go_num, HC2.out, HB2.out⟩
        case measure => simp [intOf]; omega
    · have HC := Lib.hid hcur
      have HB := Lib.hid hbw
      have hz : w.heap.size < wr.heap.size := hcur.lt
      clear hcur hbw HD
      have hx : (j < n ∧ ¬ j < 40) ∨ ¬ j < n := by omega
      clear hlt
      have HA : Hid (X.extract 0 (max k X.size) = X) := by
        rw [Nat.max_eq_right hk]
        apply ByteArray.ext
        simp
      have HA2 : Hid (X.extract 0 X.size = X) := by
        apply ByteArray.ext
        simp
      rcases hx with ⟨h1, h2⟩ | h1
      all_goals
       as_aux_lemma =>
        go_wp2_with (go_at_call 17; refine (rest_any w.heap.size k X _ HC.out hk hs9).mono ?_; rintro e w7 ⟨rfl, hw7⟩; have HW7 := Lib.hid hw7; clear hw7)
        have hc7 : Cur w7 w.heap.size X X.size := by rw [HW7.out]; exact Cur.set HC.out _
        have hb7 : Below w.heap.size w w7 := by rw [HW7.out]; exact (HB.out).setCell (by simp) _
        have HC7 := Lib.hid hc7
        have HB7 := Lib.hid hb7
        have hz7 : w.heap.size < w7.heap.size := hc7.lt
        clear hc7 hb7
        go_wp2_with (first
          | (go_at_call 22; refine (while_nil w.heap.size X.size X w7 HC7.out).mono ?_; rintro e w8 ⟨rfl, hb8⟩)
          | (go_at_call 18; refine (lives_any _).mono ?_; rintro e w9 ⟨rfl, hb9⟩))
        go_ret
        have hz8 := hb8.size
        exact ⟨rfl, (HB7.out.trans (hb8.mono (by omega))).trans (hb9.mono (by omega))⟩
end Go.Proofs.Ytndinfhgoebcoaa
