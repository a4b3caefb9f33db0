/-
  What Few and lives of layer 6's statements answer. Condition: texts are as long as a length can be.
  The law MaskFirst returns true for any text and patterns. Conditions: texts are as long as a length can be; what the slice's reading gives.
  What package mp4's Is and Brands answer. Condition: the text takes at most 2^40 bytes.
-/
import Derived.Test.YtkdjjlfpaciohaaGreatDoorZ13
import Derived.Test.YtkdjjlfpaciohaaGreatDoorZ6
import Derived.Test.YtkdjjlfpaciohaaGreatDoorZ11
import Derived.StillTailTactics
import Derived.Laws.OwnMore
import Derived.Laws.AppendOwn
import Derived.Test.YtkdjjlfpaciohaaGreatDoorZ22
import Derived.Lib.Builder
namespace Go.Proofs.YtkdjjlfpaciohaaGreatDoor
open Go.RowKit

theorem PatsIn.one (w : World) (p : Pat) : PatsIn (w.alloc (.cells #[.string p.b, .string p.m, .string p.k, .string p.t] 54)) w.heap.size (fun _ => p) 1 := by
  have h := Blk.new w 54 #[.string p.b, .string p.m, .string p.k, .string p.t]
  refine ⟨by simp, fun i hi => ?_⟩
  obtain rfl : i = 0 := by omega
  exact ⟨h.cell 0, h.cell 1, h.cell 2, h.cell 3⟩

end Go.Proofs.YtkdjjlfpaciohaaGreatDoor
namespace Go.Proofs.YtkdjjlfpaciohaaGreatDoor
open Go.RowKit

theorem own_below {w w' : World} {base : Nat} {e : TypeId} {size n : Nat} {v : Value} {xs : List Value} (h : w.ownsRow base e size v n xs) (hb : Below w.heap.size w w') : w'.ownsRow base e size v n xs := by
  refine ⟨h.1, ?_⟩
  rcases h.2 with h2 | ⟨g, cap, cur, e1, e2, e3, e4⟩
  · exact .inl h2
  · exact .inr ⟨g, cap, cur, e1, e2, (hb.block g (h.lt g (by rw [e1]; rfl)).2).trans e3, e4⟩

/-- The cells of the first k of some patterns. -/
def patL (ps : Nat → Pat) : Nat → List Value
  | 0 => []
  | k + 1 => patL ps k ++ [.string (ps k).b, .string (ps k).m, .string (ps k).k, .string (ps k).t]
theorem patL_len (ps : Nat → Pat) : ∀ k, (patL ps k).length = k * 4
  | 0 => rfl
  | k + 1 => by rw [patL, List.length_append, patL_len ps k]; simp; omega
theorem patL_at (ps : Nat → Pat) : ∀ (k i : Nat), i < k → (patL ps k)[i * 4]? = some (.string (ps i).b) ∧ (patL ps k)[i * 4 + 1]? = some (.string (ps i).m) ∧ (patL ps k)[i * 4 + 2]? = some (.string (ps i).k) ∧ (patL ps k)[i * 4 + 3]? = some (.string (ps i).t)
  | 0, i, h => absurd h (by omega)
  | k + 1, i, h => by
    have hl := patL_len ps k
    rw [patL]
    by_cases e : i = k
    · subst e
      refine ⟨?_, ?_, ?_, ?_⟩ <;> (rw [List.getElem?_append_right (by omega), hl]; simp [Nat.add_sub_cancel_left])
    · have := patL_at ps k i (by omega)
      refine ⟨?_, ?_, ?_, ?_⟩ <;> rw [List.getElem?_append_left (by omega)]
      · exact this.1
      · exact this.2.1
      · exact this.2.2.1
      · exact this.2.2.2
theorem PatsIn.own {w : World} {base g k cap : Nat} {ps : Nat → Pat} (h : w.ownsRow base 54 4 (.slice (some ⟨g, 0, none⟩) k cap) k (patL ps k)) : PatsIn w g ps k :=
  ⟨(h.lt g rfl).2, fun i hi => by
    have := patL_at ps k i hi
    exact ⟨(h.cellAt _ (by omega)).trans this.1, (h.cellAt _ (by omega)).trans this.2.1, (h.cellAt _ (by omega)).trans this.2.2.1, (h.cellAt _ (by omega)).trans this.2.2.2⟩⟩
end Go.Proofs.YtkdjjlfpaciohaaGreatDoor
namespace Go.Proofs.YtkdjjlfpaciohaaGreatDoor
open Go.RowKit

theorem mp4B_pre {x : ByteArray} (h : 3 ≤ x.size) : prefB x mp4S = mp4B x := by
  unfold prefB mp4B
  rw [show decide (mp4S.size ≤ x.size) = true from decide_eq_true h]
  rfl

set_option maxHeartbeats 400000 in
theorem is1_any (b : Nat) (d : Bool) (x : ByteArray) (w : World) (hb : Blk w b 4 #[.bool d]) (h3 : 3 ≤ x.size) (hs : x.size ≤ 9223372036854775807) :
    Calls Tryz.prog 87 #[.string x, .pointer (some ⟨b, 0, none⟩)] w fun e w' => e = .returned (.bool (!mp4B x)) ∧ Mv w.heap.size [b] w w' ∧ Blk w' b 4 #[.bool (mp4B x)] := by
  have c0 : w.cell? ⟨b, 0, none⟩ = some (.bool d) := hb.cell 0
  have z0 := hb.frozen 0
  have HP : Hid (∀ W, Calls Tryz.prog 80 #[.string x, .string mp4S] W fun e w' => e = .returned (.bool (mp4B x)) ∧ W = w') := Lib.hid fun W => by
    have := hasPrefix_any x mp4S W hs (by show 3 ≤ _; omega)
    rwa [mp4B_pre h3] at this
  have HB := Lib.hid hb
  clear hb
  generalize mp4B x = v at *
  go_enter Tryz.func87, Tryz.ntmps87
  go_wp2_with (go_at_call 80; (with_reducible refine (HP.out _).mono ?_); rintro e w1 ⟨rfl, rfl⟩)
  go_ret
  exact ⟨rfl, (Mv.refl _ _ _).setCell (.inl (by simp)) _, HB.out.set_ 0 _⟩

theorem is1_enter (a b : Value) (w : World) : (callFunc 87 #[a, b]).run Tryz.prog w = .ok (.enter 87 #[a, b]) w := by simp [go_sem]

set_option maxHeartbeats 400000 in
theorem mp4Is_any (s : ByteArray) (w : World) (hs : s.size ≤ 1099511627776) :
    Calls Tryz.prog 62 #[.string s] w fun e w' => e = .returned (.bool (filmB s)) ∧ Below w.heap.size w w' := by
  have hmf := make_func
  have HB0 := Lib.hid (Blk.new w 4 #[.bool false])
  have HA0 : Hid (Below w.heap.size w (w.alloc (.cells #[.bool false] 4))) := Lib.hid ((Below.refl _ _).alloc (Nat.le_refl _) _)
  have hw0 : (w.alloc (.cells #[.bool false] 4)).heap.size = w.heap.size + 1 := by simp
  have HE := Lib.hid (eachBrand_any 87 ⟨w.heap.size, 0, none⟩ s (w.alloc (.cells #[.bool false] 4)) (by omega)
    (fun k W => Below w.heap.size w W ∧ w.heap.size < W.heap.size ∧ filmA s k = false ∧ Blk W w.heap.size 4 #[.bool false])
    (fun k W => Below w.heap.size w W ∧ filmA s k = true ∧ Blk W w.heap.size 4 #[.bool true])
    (fun k W W' ⟨h1, h2, h3, h4⟩ hb => ⟨h1.trans (hb.mono h1.size), Nat.lt_of_lt_of_le h2 hb.size, h3, h4.below hb h2⟩)
    (fun x W => is1_enter _ _ W)
    (fun k W hk ⟨h1, h2, h3, h4⟩ => (is1_any w.heap.size false (namT s k) W h4 (by rw [namT_size hk]; omega) (by rw [namT_size hk]; omega)).mono fun e W' ⟨he, hm, hb⟩ => by
      have hbw : Below w.heap.size w W' := h1.trans (hm.below h1.size (by simp))
      have hst : filmA s (k + 1) = mp4B (namT s k) := by rw [filmA, h3, Bool.false_or]
      rw [← hst] at he hb
      cases hc : filmA s (k + 1)
      · rw [hc] at he hb
        exact .inl ⟨he, hbw, Nat.lt_of_lt_of_le h2 hm.size, rfl, hb⟩
      · rw [hc] at he hb
        exact .inr ⟨he, hbw, rfl, hb⟩)
    ⟨HA0.out, by simp, rfl, HB0.out⟩)
  go_enter Tryz.func62, Tryz.ntmps62
  go_wp2_with fail
  refine HE.out.mono ?_
  rintro e w1 ⟨rfl, h⟩
  rcases h with ⟨h1, h2, h3, h4⟩ | ⟨k, hk, h1, h3, h4⟩
  · have c0 : w1.cell? ⟨w.heap.size, 0, none⟩ = some (.bool false) := h4.cell 0
    go_wp2
    go_ret
    exact ⟨by unfold filmB; rw [h3]; rfl, h1⟩
  · have c0 : w1.cell? ⟨w.heap.size, 0, none⟩ = some (.bool true) := h4.cell 0
    go_wp2
    go_ret
    exact ⟨by unfold filmB; rw [filmA_on hk h3]; rfl, h1⟩

end Go.Proofs.YtkdjjlfpaciohaaGreatDoor
