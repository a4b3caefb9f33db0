/-
  The tables of package mp3, and whether a number is in one. No condition.
-/
import Derived.Test.YtmjkolkmpnadpaaPa
import Derived.Test.YtmjkolkmpnadpaaMv
import Derived.Test.YtmjkolkmpnadpaaIg
import Derived.BigQuiet
import Derived.Deep.QuietTactic
import Derived.OwnWalk
import Derived.LoopTactic
import Derived.WalkKit
import Derived.Lib.Hide
namespace Go.Proofs.Ytmjkolkmpnadpaa
open Go.RowKit

/-- A frame's value. -/
abbrev frmV (f : Frm) : Value := .agg #[.int .i64 f.ver, .int .i64 f.lay, .int .i64 f.rate, .int .i64 f.freq, .bool f.pad]
theorem four_ways {v : Int} (h : 0 ≤ v ∧ v < 4) : v = 0 ∨ v = 1 ∨ v = 2 ∨ v = 3 := by omega
theorem even_any (v : Int) (w : World) (h : 0 ≤ v ∧ v < 4) :
    Calls Try.prog 31 #[.int .i64 v] w fun e w' => e = .returned (.bool (!oddB v)) ∧ w = w' := by
  rcases four_ways h with rfl | rfl | rfl | rfl
  all_goals
    as_aux_lemma =>
    go_enter Try.func31, Try.ntmps31
    go_wp2
    go_ret
    exact ⟨rfl, rfl⟩
theorem length_parts (v l r q : Int) (p : Bool) (w : World) (h : 0 ≤ v ∧ v < 4) :
    Calls Try.prog 28 #[frmV ⟨v, l, r, q, p⟩] w fun e w' => e = .returned (.int .i64 (lenN v : Nat)) ∧ Below w.heap.size w w' := by
  have HE := Lib.hid (fun W => even_any v W h)
  unfold lenN
  generalize oddB v = o at *
  cases o
  all_goals
    as_aux_lemma =>
    go_enter Try.func28, Try.ntmps28
    go_wp2_with (go_at_call 31; (with_reducible refine (HE.out _).mono ?_); rintro e w1 ⟨rfl, rfl⟩)
    go_ret
    exact ⟨rfl, (Below.refl _ _).alloc (Nat.le_refl _) _⟩
theorem length_any (f : Frm) (w : World) (h : 0 ≤ f.ver ∧ f.ver < 4) :
    Calls Try.prog 28 #[frmV f] w fun e w' => e = .returned (.int .i64 (lenN f.ver : Nat)) ∧ Below w.heap.size w w' := length_parts _ _ _ _ _ w h

/-- A table's value. -/
def tabL (l : List Nat) : Array Value := (l.map (fun n => Value.int .i64 (n : Nat))).toArray
set_option maxHeartbeats 4000000 in
theorem rates_even (v : Int) (w : World) (h : 0 ≤ v ∧ v < 4) (ho : oddB v = false) :
    Calls Try.prog 23 #[.int .i64 v] w fun e w' => e = .returned (.agg (tabL (ratL false))) ∧ Below w.heap.size w w' := by
  have HE := Lib.hid (fun W => even_any v W h)
  rw [ho] at HE
  go_enter Try.func23, Try.ntmps23
  go_wp2_with (go_at_call 31; (with_reducible refine (HE.out _).mono ?_); rintro e w1 ⟨rfl, rfl⟩)
  exact bodyPost_ret (v := .agg (tabL (ratL false))) (by simp [results, Try.results23, go_sem, tabL, ratL]) rfl ⟨rfl, (Below.refl w.heap.size w).alloc (Nat.le_refl _) _⟩
set_option maxHeartbeats 4000000 in
theorem rates_odd (v : Int) (w : World) (h : 0 ≤ v ∧ v < 4) (ho : oddB v = true) :
    Calls Try.prog 23 #[.int .i64 v] w fun e w' => e = .returned (.agg (tabL (ratL true))) ∧ Below w.heap.size w w' := by
  have HE := Lib.hid (fun W => even_any v W h)
  rw [ho] at HE
  go_enter Try.func23, Try.ntmps23
  go_wp2_with (go_at_call 31; (with_reducible refine (HE.out _).mono ?_); rintro e w1 ⟨rfl, rfl⟩)
  exact bodyPost_ret (v := .agg (tabL (ratL true))) (by simp [results, Try.results23, go_sem, tabL, ratL]) rfl ⟨rfl, (Below.refl w.heap.size w).alloc (Nat.le_refl _) _⟩
theorem rates_any (v : Int) (w : World) (h : 0 ≤ v ∧ v < 4) :
    Calls Try.prog 23 #[.int .i64 v] w fun e w' => e = .returned (.agg (tabL (ratL (oddB v)))) ∧ Below w.heap.size w w' := by
  cases ho : oddB v
  · exact rates_even v w h ho
  · exact rates_odd v w h ho
theorem freqs_any (w : World) :
    Calls Try.prog 24 #[] w fun e w' => e = .returned (.agg (tabL freL)) ∧ Below w.heap.size w w' := by
  go_enter Try.func24, Try.ntmps24
  go_wp2
  exact bodyPost_ret (v := .agg (tabL freL)) (by simp [results, Try.results24, go_sem, tabL, freL]) rfl ⟨rfl, (Below.refl w.heap.size w).alloc (Nat.le_refl _) _⟩

end Go.Proofs.Ytmjkolkmpnadpaa
