/-
  Whether a number is in a table: slices.Index and slices.Contains. No condition.
-/
import Derived.Test.YtmjkolkmpnadpaaPa
import Derived.Test.YtmjkolkmpnadpaaMv
import Derived.BigQuiet
import Derived.Deep.QuietTactic
import Derived.OwnWalk
import Derived.LoopTactic
import Derived.WalkKit
import Derived.Lib.Hide
namespace Go.Proofs.Ytmjkolkmpnadpaa
open Go.RowKit

/-- The place of the first of some numbers that is this one; how many there are, if none is. -/
def plcN (l : List Nat) (x : Int) : Nat := l.findIdx (fun n : Nat => decide ((n : Int) = x))
theorem plcN_any (l : List Nat) (x : Int) : decide (plcN l x < l.length) = l.any (fun n : Nat => decide ((n : Int) = x)) := by
  unfold plcN
  rw [Bool.eq_iff_iff, decide_eq_true_eq, List.findIdx_lt_length]
  exact List.any_eq_true.symm
/-- A slice of a table's numbers. -/
def TabIn (w : World) (g : Nat) (l : List Nat) : Prop := ∀ i (h : i < l.length), w.cell? ⟨g, i, none⟩ = some (.int .i64 (l[i] : Nat))

set_option maxHeartbeats 1000000 in
theorem index_any (g c : Nat) (l : List Nat) (x : Int) (w : World) (h : TabIn w g l) (hl : l.length ≤ 9223372036854775807) :
    Calls Try.prog 32 #[.slice (some ⟨g, 0, none⟩) l.length c, .int .i64 x] w fun e w' => e = .returned (.int .i64 (if plcN l x < l.length then ((plcN l x : Nat) : Int) else -1)) ∧ w = w' := by
  have HT := Lib.hid h
  clear h
  obtain ⟨d, hd⟩ : ∃ d : Int, d = if plcN l x < l.length then ((plcN l x : Nat) : Int) else -1 := ⟨_, rfl⟩
  rw [← hd]
  have HD := Lib.hid hd
  clear hd
  go_enter Try.func32, Try.ntmps32
  go_wp2
  go_loop [8] (fun i => ∃ k : Nat, k ≤ l.length ∧ i = .int .i64 k ∧ Hid (∀ j, j < k → ∀ hj : j < l.length, (l[j] : Int) ≠ x)) (fun i => l.length - (intOf i).toNat)
  case atStart => exact ⟨0, Nat.zero_le _, rfl, Lib.hid fun j hj => absurd hj (by omega)⟩
  case round =>
    obtain ⟨k, hk, rfl, hn⟩ := hrel
    by_cases hlt : k < l.length
    · have hc := HT.out k hlt
      by_cases he : ((l[k] : Nat) : Int) = x
      · have hp : plcN l x = k := by
          unfold plcN
          rw [List.findIdx_eq hlt]
          exact ⟨decide_eq_true he, fun j hj => decide_eq_false (hn.out j hj (by omega))⟩
        have hk2 : Hid (d = (k : Int)) := Lib.hid (by rw [HD.out, hp, if_pos hlt])
        clear hp hn HD
        generalize l[k] = y at *
        go_wp2
        go_ret
        exact ⟨by rw [hk2.out]; first | done | rfl, rfl⟩
      · have hn2 : Hid (∀ j, j < k + 1 → ∀ hj : j < l.length, (l[j] : Int) ≠ x) := Lib.hid fun j hj hjl => by
          by_cases e : j = k
          · subst e; exact he
          · exact hn.out j (by omega) hjl
        generalize l[k] = y at *
        go_wp2
        go_round
        case rel => exact ⟨k + 1, by omega, by go_num, hn2⟩
        case measure => simp [intOf]; omega
    · obtain rfl : k = l.length := by omega
      have hp : ¬ plcN l x < l.length := by
        unfold plcN
        rw [List.findIdx_lt_length]
        rintro ⟨y, hy, e⟩
        obtain ⟨j, hj, rfl⟩ := List.mem_iff_getElem.1 hy
        exact hn.out j hj hj (of_decide_eq_true e)
      have hk2 : Hid (d = -1) := Lib.hid (by rw [HD.out, if_neg hp])
      clear hp hn HD
      go_wp2
      go_ret
      exact ⟨by rw [hk2.out]; first | done | rfl, rfl⟩

theorem contains_tab (g c : Nat) (l : List Nat) (x : Int) (w : World) (h : TabIn w g l) (hl : l.length ≤ 9223372036854775807) :
    Calls Try.prog 27 #[.slice (some ⟨g, 0, none⟩) l.length c, .int .i64 x] w fun e w' => e = .returned (.bool (l.any (fun n : Nat => decide ((n : Int) = x)))) ∧ w = w' := by
  have HI := Lib.hid (index_any g c l x w h hl)
  rw [← plcN_any]
  by_cases hp : plcN l x < l.length
  · rw [if_pos hp] at HI
    rw [decide_eq_true hp]
    generalize plcN l x = p at *
    go_enter Try.func27, Try.ntmps27
    go_wp2_with (go_at_call 32; (with_reducible refine HI.out.mono ?_); rintro e w1 ⟨rfl, rfl⟩)
    go_ret
    exact ⟨by simp, rfl⟩
  · rw [if_neg hp] at HI
    rw [decide_eq_false hp]
    go_enter Try.func27, Try.ntmps27
    go_wp2_with (go_at_call 32; (with_reducible refine HI.out.mono ?_); rintro e w1 ⟨rfl, rfl⟩)
    go_ret
    exact ⟨by simp, rfl⟩
theorem contains_any (g c n : Nat) (l : List Nat) (x : Int) (w : World) (h : TabIn w g l) (hn : l.length = n) (hl : n ≤ 9223372036854775807) :
    Calls Try.prog 27 #[.slice (some ⟨g, 0, none⟩) n c, .int .i64 x] w fun e w' => e = .returned (.bool (l.any (fun n : Nat => decide ((n : Int) = x)))) ∧ w = w' := by
  subst hn
  exact contains_tab g c l x w h hl

end Go.Proofs.Ytmjkolkmpnadpaa
