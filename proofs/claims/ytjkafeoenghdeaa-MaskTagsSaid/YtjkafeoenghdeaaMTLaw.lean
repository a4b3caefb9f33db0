/-
  The law MaskTags returns true for any text, two texts and number. Condition: texts are as long as a length can be.
-/
import Derived.Test.YtjkafeoenghdeaaMk8
import Derived.Test.YtjkafeoenghdeaaMk6
import Derived.Test.YtjkafeoenghdeaaCls
import Derived.Laws.StructEq
import Derived.Deep.DeepCutAuto
namespace Go.Proofs.Ytjkafeoenghdeaa
open Go.RowKit

/-- The worlds in which a pattern lies in block g, and nothing that was there has turned. -/
def TagAt (w : World) (g : Nat) (b m k t : ByteArray) (W : World) : Prop := Below w.heap.size w W ∧ Blk W g 23 #[.string b, .string m, .string k, .string t]
section
variable {w W W' : World} {g : Nat} {b m k t : ByteArray}
theorem TagAt.drew (h : TagAt w g b m k t W) : TagAt w g b m k t W.drew := ⟨h.1.drew, h.2⟩
theorem TagAt.step (h : TagAt w g b m k t W) (hb : Below W.heap.size W W') : TagAt w g b m k t W' := ⟨h.1.trans (hb.mono h.1.size), h.2.below hb h.2.lt⟩
theorem TagAt.next {x : Wld (TagAt w g b m k t)} (hb : Below x.val.heap.size x.val W') : TagAt w g b m k t W' := x.ok.step hb
theorem TagAt.same {x : Wld (TagAt w g b m k t)} (hb : x.val = W') : TagAt w g b m k t W' := hb ▸ x.ok
end

theorem neq_pat (b m k t : ByteArray) (w : World) : (binOp .neq 23 (.agg #[.string b, .string m, .string k, .string t]) (.agg #[.string b, .string m, .string k, .string t])).run Try.prog w = .ok (.bool false) w := by
  have hs : Try.prog.stoodInHeld 23 = false := by kernel_rfl
  rw [run_neq_struct, run_equalIn_agg _ _ _ _ _ (by unfold Program.fieldsOf; rw [Try.underlying23]) hs]
  simp [go_sem, Try.underlying23, Try.underlying9]
theorem guard_pat (x y : Operand) (b m k t b' m' k' t' : ByteArray) (w : World) : (eqGuard .neq 23 x y (.agg #[.string b, .string m, .string k, .string t]) (.agg #[.string b', .string m', .string k', .string t'])).run Try.prog w = .ok () w :=
  run_eqGuard_agg w _ _ x y _ _ (by kernel_rfl)

theorem end_in (T : ByteArray) (j : Nat) (h : j < T.size) : endB T (j : Int) = (((T[j].toNat : Int) == 32) || ((T[j].toNat : Int) == 62)) := by
  unfold endB
  rw [dE, dE]
  have e : (j : Int).toNat = j := by omega
  rw [e, getElem!_pos T j h]
  simp [h]

set_option maxHeartbeats 2000000 in
set_option maxRecDepth 100000 in
theorem tags_walk (s t0 t1 S K T b m k : ByteArray) (n : Int) (z : Nat) (w : World) (_hT : T.size ≤ 60) (_hS : S.size ≤ 40)
    (HK : Hid (∀ W, Calls Try.prog 6 #[.string t0, .int .i64 20] W fun e w' => e = .returned (.string K) ∧ W = w'))
    (HT : Hid (∀ W, Calls Try.prog 6 #[.string t1, .int .i64 60] W fun e w' => e = .returned (.string T) ∧ W = w'))
    (HS : Hid (∀ W, Calls Try.prog 6 #[.string s, .int .i64 40] W fun e w' => e = .returned (.string S) ∧ W = w'))
    (HG : Hid (∀ W, Calls Try.prog 20 #[.string S, .string K] W fun e w' => e = .returned (patV b m k K) ∧ Below W.heap.size W w'))
    (HR : Hid (∀ W, Calls Try.prog 21 #[.string S, .string K] W fun e w' => e = .returned (patV b m k K) ∧ Below W.heap.size W w'))
    (HE : Hid (∀ W, Calls Try.prog 22 #[.string T, .int .i64 n] W fun e w' => e = .returned (.bool (endB T n)) ∧ W = w'))
    (HB : Hid (∀ W, Calls Try.prog 13 #[.string S, patV b m k K] W fun e w' => e = .returned (.int .i64 (z : Nat)) ∧ Below W.heap.size W w'))
    (HM : Hid (0 < S.size → z = 0 → ∀ W, Calls Try.prog 8 #[.string S, patV b m k K] W fun e w' => e = .returned (.bool true) ∧ Below W.heap.size W w'))
    (HW : Hid (∀ W, Calls Try.prog 23 #[.string S] W fun e w' => e = .returned (.string (lowS S)) ∧ Below W.heap.size W w'))
    (HN : Hid (0 < S.size → z = 0 → ∀ W, Calls Try.prog 8 #[.string (lowS S ++ T), patV b m k K] W fun e w' => e = .returned (.bool true) ∧ Below W.heap.size W w'))
    (HL : Hid (∀ W, Calls Try.prog 15 #[] W fun e w' => e = .returned (.bool true) ∧ Below W.heap.size W w')) :
    Calls Try.prog 5 #[.string s, .agg #[.string t0, .string t1], .int .i64 n] w fun e w' => e = .returned (.bool true) ∧ Below w.heap.size w w' := by
  have hnp := neq_pat b m k K
  obtain ⟨w0, hw0⟩ : ∃ w0, w0 = w.alloc (.cells #[.string t0, .string t1] 39) := ⟨_, rfl⟩
  have HB0 := Lib.hid (show Below w.heap.size w w0 from by rw [hw0]; exact (Below.refl w.heap.size w).alloc (Nat.le_refl _) _)
  have HP0 := Lib.hid (show Blk w0 w.heap.size 39 #[.string t0, .string t1] from by rw [hw0]; exact Blk.new _ _ _)
  have c0 := HP0.out.cell 0
  have c1 := HP0.out.cell 1
  go_enter Try.func5, Try.ntmps5
  go_wp2_with fail
  rw [← hw0]
  clear hw0
  go_quiet ((first
    | (go_at_call 6; with_reducible exact Calls.quiet_of_same ((HK.out _).mono fun _ _ h => ⟨h.1, h.2.symm⟩))
    | (go_at_call 6; with_reducible exact Calls.quiet_of_same ((HT.out _).mono fun _ _ h => ⟨h.1, h.2.symm⟩))))
  clear HK HT c0 c1 HP0
  go_wp2_with (first
    | (go_at_call 6; (with_reducible refine (HS.out _).mono ?_); rintro e w1 ⟨rfl, rfl⟩)
    | (go_at_call 20; (with_reducible refine (HG.out _).mono ?_); rintro e w1 ⟨rfl, hb1⟩; have HB1 := Lib.hid ((Below.drewN' HB0.out _).trans (hb1.mono HB0.out.size)); clear hb1))
  have HX1 := Lib.hid (show TagAt w w1.heap.size b m k K (w1.alloc (.cells #[.string b, .string m, .string k, .string K] 23)) from ⟨HB1.out.alloc HB1.out.size _, Blk.new _ _ _⟩)
  generalize w1.alloc (.cells #[.string b, .string m, .string k, .string K] 23) = w2 at *
  generalize w1.heap.size = g at *
  clear HB1 HB0 HS HG
  go_cut [51] from 21 to 50 (fun s51 wx => s51 = .bool false ∧ TagAt w g b m k K wx)
  case first =>
    have inst : Nonempty (Wld (TagAt w g b m k K)) := ⟨⟨_, HX1.out⟩⟩
    have f0 : ∀ x : Wld (TagAt w g b m k K), x.val.cell? ⟨g, 0, none⟩ = some (.string b) := fun x => x.ok.2.cell 0
    have f1 : ∀ x : Wld (TagAt w g b m k K), x.val.cell? ⟨g, 1, none⟩ = some (.string m) := fun x => x.ok.2.cell 1
    have f2 : ∀ x : Wld (TagAt w g b m k K), x.val.cell? ⟨g, 2, none⟩ = some (.string k) := fun x => x.ok.2.cell 2
    have f3 : ∀ x : Wld (TagAt w g b m k K), x.val.cell? ⟨g, 3, none⟩ = some (.string K) := fun x => x.ok.2.cell 3
    clear HB HM HW HN HL
    by_cases h0 : 0 ≤ n
    · by_cases h1 : n < (T.size : Int)
      · obtain ⟨j, rfl⟩ : ∃ j : Nat, n = (j : Int) := ⟨n.toNat, by omega⟩
        have hj : j < T.size := by omega
        rw [end_in T j hj] at HE
        have d0 : decide (0 ≤ (j : Int)) = true := by simp
        have d1 : decide ((j : Int) < (T.size : Int)) = true := by simpa using hj
        clear h0 h1
        cases d2 : ((T[j].toNat : Int) == 32) <;> cases d3 : ((T[j].toNat : Int) == 62)
        all_goals
          rw [d2, d3] at HE
          refine wp_region_class (TagAt w g b m k K) (by kernel_rfl) (by kernel_rfl) HX1.out.drew ?_
          repeat (go_big_quiet_step (first
            | (go_at_call 21; exact Calls.cls (HR.out _) fun _ h => TagAt.next h)
            | (go_at_call 22; exact Calls.cls (HE.out _) fun _ h => TagAt.same h)))
          refine wpQuiet_nil ?_
          intro w3 hX3
          go_wp2_with fail
          go_meet
          exact ⟨rfl, hX3⟩
      · have d0 : decide (0 ≤ n) = true := by simpa using h0
        have d1 : decide (n < (T.size : Int)) = false := by simp; omega
        rw [show endB T n = false from by unfold endB; rw [d1]; simp] at HE
        clear h0 h1
        · skip
          refine wp_region_class (TagAt w g b m k K) (by kernel_rfl) (by kernel_rfl) HX1.out.drew ?_
          repeat (go_big_quiet_step (first
            | (go_at_call 21; exact Calls.cls (HR.out _) fun _ h => TagAt.next h)
            | (go_at_call 22; exact Calls.cls (HE.out _) fun _ h => TagAt.same h)))
          refine wpQuiet_nil ?_
          intro w3 hX3
          go_wp2_with fail
          go_meet
          exact ⟨rfl, hX3⟩
    · have d0 : decide (0 ≤ n) = false := by simp; omega
      rw [show endB T n = false from by unfold endB; rw [d0]; rfl] at HE
      clear h0
      · skip
        · skip
          refine wp_region_class (TagAt w g b m k K) (by kernel_rfl) (by kernel_rfl) HX1.out.drew ?_
          repeat (go_big_quiet_step (first
            | (go_at_call 21; exact Calls.cls (HR.out _) fun _ h => TagAt.next h)
            | (go_at_call 22; exact Calls.cls (HE.out _) fun _ h => TagAt.same h)))
          refine wpQuiet_nil ?_
          intro w3 hX3
          go_wp2_with fail
          go_meet
          exact ⟨rfl, hX3⟩
  case rest =>
    obtain ⟨rfl, hX2⟩ := hcut
    have HX2 := Lib.hid hX2
    have c0 := hX2.2.cell 0
    have c1 := hX2.2.cell 1
    have c2 := hX2.2.cell 2
    have c3 := hX2.2.cell 3
    clear hX2 HX1 HR HE
    by_cases hs : S.size = 0
    · have e0 : S.toList = [] := none_size.2 hs
      clear hs
      go_wp2_with (go_at_call 15; (with_reducible refine (HL.out _).mono ?_); rintro e w9 ⟨rfl, hb9⟩; have HB9 := Lib.hid hb9; clear hb9)
      go_ret
      exact ⟨rfl, HX2.out.1.trans (HB9.out.mono HX2.out.1.size)⟩
    · have hs0 : 0 < S.size := by omega
      have e0 : S.toList.isEmpty = false := by
        rw [List.isEmpty_eq_false_iff]
        intro h
        exact hs (none_size.1 h)
      by_cases hz : z = 0
      · subst hz
        have HM' := Lib.hid (HM.out hs0 rfl)
        have HN' := Lib.hid (HN.out hs0 rfl)
        clear HM HN hs hs0
        go_wp2_with (go_at_call 13; (with_reducible refine (HB.out _).mono ?_); rintro e w5 ⟨rfl, hb5⟩; have HX5 := Lib.hid (HX2.out.step hb5); clear hb5 c0 c1 c2 c3 HX2)
        have hl : (lowS S).size ≤ 40 := by rw [lowS_size]; exact _hS
        have inst : Nonempty (Wld (TagAt w g b m k K)) := ⟨⟨_, HX5.out⟩⟩
        have f0 : ∀ x : Wld (TagAt w g b m k K), x.val.cell? ⟨g, 0, none⟩ = some (.string b) := fun x => x.ok.2.cell 0
        have f1 : ∀ x : Wld (TagAt w g b m k K), x.val.cell? ⟨g, 1, none⟩ = some (.string m) := fun x => x.ok.2.cell 1
        have f2 : ∀ x : Wld (TagAt w g b m k K), x.val.cell? ⟨g, 2, none⟩ = some (.string k) := fun x => x.ok.2.cell 2
        have f3 : ∀ x : Wld (TagAt w g b m k K), x.val.cell? ⟨g, 3, none⟩ = some (.string K) := fun x => x.ok.2.cell 3
        generalize lowS S = L at *
        refine wp_region_class (TagAt w g b m k K) (by kernel_rfl) (by kernel_rfl) HX5.out.drew ?_
        repeat (go_big_quiet_step (first
          | (go_at_call 8; with_reducible exact Calls.cls (HM'.out _) fun _ h => TagAt.next h)
          | (go_at_call 8; with_reducible exact Calls.cls (HN'.out _) fun _ h => TagAt.next h)
          | (go_at_call 23; exact Calls.cls (HW.out _) fun _ h => TagAt.next h)
          | (go_at_call 15; exact Calls.cls (HL.out _) fun _ h => TagAt.next h)))
        refine wpQuiet_nil ?_
        intro w6 hX6
        have HX6 := Lib.hid hX6
        clear hX6 f0 f1 f2 f3 inst
        go_wp2_with fail
        go_ret
        exact ⟨rfl, HX6.out.1⟩
      · have d0 : decide (0 < (z : Int)) = true := by simp; omega
        have d1 : 0 < z := by omega
        clear hs hz HM HN hs0
        go_wp2_with (first
          | (go_at_call 13; (with_reducible refine (HB.out _).mono ?_); rintro e w5 ⟨rfl, hb5⟩; have HX5 := Lib.hid (HX2.out.step hb5); clear hb5 c0 c1 c2 c3 HX2)
          | (go_at_call 15; (with_reducible refine (HL.out _).mono ?_); rintro e w9 ⟨rfl, hb9⟩; have HB9 := Lib.hid hb9; clear hb9))
        go_ret
        exact ⟨rfl, HX5.out.1.trans (HB9.out.mono HX5.out.1.size)⟩

end Go.Proofs.Ytjkafeoenghdeaa
