/-
  What First tells of a list of functions of which each one's outcome is known, and each changes nothing older. Conditions: those hypotheses.
-/
import Derived.Test.YtnifdponeccdgaaDeeds
import Derived.Lib.Hide
import Derived.BigQuiet
import Derived.Deep.QuietTactic
namespace Go.Proofs.Ytnifdponeccdgaa
open Go.RowKit

set_option maxHeartbeats 400000 in
theorem first_none (w : World) :
    Calls Try.prog 19 #[.slice none 0 0] w fun e w' => e = .returned (.tuple #[.int .i64 0, .int .i64 0]) ∧ Below w.heap.size w w' := by
  go_enter Try.func19, Try.ntmps19
  go_wp2
  refine wp_loop_rounds 1 ?_
  rw [rounds_succ]
  go_wp2
  go_ret2
  exact ⟨rfl, Below.refl _ _⟩

set_option maxRecDepth 100000 in
set_option maxHeartbeats 1000000 in
theorem first_any (b n cap : Nat) (vs : Nat → Value) (ov oa oc : Nat → Int) (of : Nat → Bool) (r : Nat) (code : Int) (w : World)
    (hn : n ≤ 1000) (hr : r ≤ n) (hcell : ∀ i, i < n → w.cell? ⟨b, i, none⟩ = some (vs i))
    (h27 : ∀ i, i < n → ∀ w, Calls Try.prog 27 #[vs i] w fun e w' => e = tell (ov i) (oa i) (oc i) (of i) ∧ Below w.heap.size w w')
    (hpre : ∀ j, j < r → of j = false ∧ ov j = 0)
    (hat : r < n → (of r = true ∧ code = oc r) ∨ (of r = false ∧ (ov r == 0) = false ∧ code = ov r)) (hend : r = n → code = 0) (hb : b < w.heap.size) :
    Calls Try.prog 19 #[.slice (some ⟨b, 0, none⟩) n cap] w fun e w' => e = .returned (.tuple #[.int .i64 r, .int .i64 code]) ∧ Below w.heap.size w w' := by
  have HC : Hid _ := Lib.hid hcell
  have H27 : Hid _ := Lib.hid h27
  have HP : Hid _ := Lib.hid hpre
  have HA : Hid _ := Lib.hid hat
  have HE : Hid _ := Lib.hid hend
  clear hcell h27 hpre hat hend
  go_enter Try.func19, Try.ntmps19
  go_wp2
  go_loopw [11] (fun i wr => ∃ k : Nat, k ≤ r ∧ i = .int .i64 k ∧ Below w.heap.size w wr) (fun i _ => n - (intOf i).toNat)
  case atStart => exact ⟨0, Nat.zero_le _, rfl, Below.refl _ _⟩
  case round =>
    obtain ⟨k, hk, rfl, hbr⟩ := hrel
    by_cases hkr : k < r
    · have hc : wr.cell? ⟨b, k, none⟩ = some (vs k) := (hbr.cell (p := ⟨b, k, none⟩) hb).trans (HC.out k (by omega))
      obtain ⟨hf, hv⟩ := HP.out k hkr
      have h27 := H27.out k (by omega)
      rw [hf, hv] at h27
      clear hf hv
      have hkn : k < n := by omega
      go_wp2_with (go_at_call 27; refine (h27 _).mono ?_; rintro e w1 ⟨rfl, hb1⟩)
      have hz1 := hb1.size
      have hz := hbr.size
      refine ⟨⟨k + 1, by omega, by go_num, ((hbr.trans (hb1.mono (by omega))).alloc (by omega) _)⟩, by simp [intOf]; omega⟩
    · obtain rfl : k = r := by omega
      clear hkr hk HP
      by_cases hkn : k < n
      · have hc : wr.cell? ⟨b, k, none⟩ = some (vs k) := (hbr.cell (p := ⟨b, k, none⟩) hb).trans (HC.out k (by omega))
        have h27 := H27.out k (by omega)
        rcases HA.out hkn with ⟨hf, hcode⟩ | ⟨hf, hv, hcode⟩
        · rw [hf] at h27
          subst hcode
          clear hf HA HE H27 HC
          go_wp2_with (go_at_call 27; refine (h27 _).mono ?_; rintro e w1 ⟨rfl, hb1⟩)
          have hz1 := hb1.size
          have hz := hbr.size
          have hbx : Below w.heap.size w (w1.alloc (.cells #[.int .i64 (oa k), .int .i64 (oc k)] 26)) := (hbr.trans (hb1.mono (by omega))).alloc (by omega) _
          go_quiet (fail)
          go_wp2
          go_ret2
          exact ⟨rfl, ⟨hbx.os, hbx.tape, hbx.output, hbx.size, hbx.block⟩⟩
        · rw [hf] at h27
          subst hcode
          have hv2 : (ov k != 0) = true := by simp [bne, hv]
          clear hf HA HE H27 HC
          go_wp2_with (go_at_call 27; refine (h27 _).mono ?_; rintro e w1 ⟨rfl, hb1⟩)
          have hz1 := hb1.size
          have hz := hbr.size
          go_ret2
          exact ⟨rfl, (hbr.trans (hb1.mono (by omega))).alloc (by omega) _⟩
      · obtain rfl : k = n := by omega
        have hcode := HE.out rfl
        subst hcode
        clear HA HE H27 HC
        go_wp2
        go_ret2
        exact ⟨rfl, hbr⟩

end Go.Proofs.Ytnifdponeccdgaa
