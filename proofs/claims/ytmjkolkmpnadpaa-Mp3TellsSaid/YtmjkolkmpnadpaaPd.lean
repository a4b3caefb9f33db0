/-
  Whether a frame is good, and how many bytes it has: what package mp3 answers. No condition.
-/
import Derived.Test.YtmjkolkmpnadpaaPb
import Derived.Test.YtmjkolkmpnadpaaPc
import Derived.Deep.WholeRow
import Derived.Deep.RegionWith
namespace Go.Proofs.Ytmjkolkmpnadpaa
open Go.RowKit

theorem tabL_size (l : List Nat) : (tabL l).size = l.length := by simp [tabL]
theorem tabL_one (l : List Nat) : (tabL l).all (·.oneCell') = true := by
  rw [Array.all_eq_true_iff_forall_mem]
  intro x hx
  simp only [tabL, List.mem_toArray, List.mem_map] at hx
  obtain ⟨n, _, rfl⟩ := hx
  rfl
theorem tabL_at (l : List Nat) (i : Nat) (h : i < l.length) : (tabL l)[i]? = some (.int .i64 (l[i] : Nat)) := by
  simp only [tabL, List.getElem?_toArray, List.getElem?_map, List.getElem?_eq_getElem h]
  rfl

theorem TabIn.of_blk {w : World} {g : Nat} {t : TypeId} {l : List Nat} (h : Blk w g t (tabL l)) : TabIn w g l := fun i hi => (h.cell i).trans (tabL_at l i hi)
theorem store_blk {w : World} {g : Nat} {t : TypeId} {c c' : Array Value} (h : Blk w g t c) (hs : c.size = c'.size) (h1 : c'.all (·.oneCell') = true) :
    (storeCells ⟨g, 0, none⟩ c'.toList).run Try.prog w = .ok () (w.setRow g c') := by
  have := run_storeCells_from (P := Try.prog) g t c'.toList 0 c w h (by simp [hs]) (fun v hv => Array.all_eq_true_iff_forall_mem.1 h1 v (by simpa using hv))
  simpa using this
theorem setRow_alloc {w : World} {g : Nat} (c' : Array Value) (o : Obj) (h : g < w.heap.size) : (w.alloc o).setRow g c' = (w.setRow g c').alloc o := by
  simp only [World.setRow, World.alloc]
  congr 1
  apply Array.ext_getElem?
  intro i
  rw [Array.getElem?_modify, Array.getElem?_push, Array.getElem?_push, Array.getElem?_modify, Array.size_modify]
  by_cases e : g = i
  · subst e
    rw [if_pos rfl, if_neg (by omega), if_neg (by omega), if_pos rfl]
  · rw [if_neg e, if_neg e]
theorem store_under (w : World) (t : TypeId) (c c' : Array Value) (o : Obj) (hs : c.size = c'.size) (h1 : c'.all (·.oneCell') = true) :
    (storeCells ⟨w.heap.size, 0, none⟩ c'.toList).run Try.prog ((w.alloc (.cells c t)).alloc o) = .ok () ((w.alloc (.cells c' t)).alloc o) := by
  rw [store_blk ((Blk.new w t c).alloc o) hs h1, setRow_alloc _ _ (Blk.new w t c).lt, World.setRow_alloc_new]
theorem store_last (w : World) (t : TypeId) (c c' : Array Value) (hs : c.size = c'.size) (h1 : c'.all (·.oneCell') = true) :
    (storeCells ⟨w.heap.size, 0, none⟩ c'.toList).run Try.prog (w.alloc (.cells c t)) = .ok () (w.alloc (.cells c' t)) := by
  rw [store_blk (Blk.new w t c) hs h1, World.setRow_alloc_new]

theorem store_over (w : World) (t : TypeId) (c c' : Array Value) (o : Obj) (hs : c.size = c'.size) (h1 : c'.all (·.oneCell') = true) :
    (storeCells ⟨w.heap.size + 1, 0, none⟩ c'.toList).run Try.prog ((w.alloc o).alloc (.cells c t)) = .ok () ((w.alloc o).alloc (.cells c' t)) := by
  have e : w.heap.size + 1 = (w.alloc o).heap.size := by simp
  rw [e]
  exact store_last (w.alloc o) t c c' hs h1

theorem gdB_parts {v l r q : Int} {p : Bool} (h : 0 ≤ v ∧ v < 4) (hl : l = 3) : gdB ⟨v, l, r, q, p⟩ = ((ratL (oddB v)).any (fun r' => decide ((r' : Int) = r)) && freL.any (fun r' => decide ((r' : Int) = q))) := by
  unfold gdB
  simp only [decide_eq_true h.1, decide_eq_true h.2, decide_eq_true hl, Bool.true_and]
theorem gdB_out {v l r q : Int} {p : Bool} (h : ¬(0 ≤ v ∧ v < 4 ∧ l = 3)) : gdB ⟨v, l, r, q, p⟩ = false := by
  cases e : gdB ⟨v, l, r, q, p⟩
  · rfl
  · obtain ⟨a, b, c, _⟩ := gdB_all e
    exact absurd ⟨a, b, c⟩ h

set_option maxHeartbeats 1000000 in
theorem good_parts (v l r q : Int) (p : Bool) (w : World) :
    Calls Try.prog 10 #[frmV ⟨v, l, r, q, p⟩] w fun e w' => e = .returned (.bool (gdB ⟨v, l, r, q, p⟩)) ∧ Below w.heap.size w w' := by
  obtain ⟨d, hd⟩ : ∃ d : Bool, d = gdB ⟨v, l, r, q, p⟩ := ⟨_, rfl⟩
  rw [← hd]
  have HD := Lib.hid hd
  clear hd
  by_cases hok : 0 ≤ v ∧ v < 4 ∧ l = 3
  · obtain ⟨h0, h4, rfl⟩ := hok
    have HD2 := Lib.hid (HD.out.trans (gdB_parts ⟨h0, h4⟩ rfl))
    clear HD
    have HR := Lib.hid (fun W => rates_any v W ⟨h0, h4⟩)
    have HF := Lib.hid freqs_any
    have hT := tabL_size (ratL (oddB v))
    rw [ratL_len] at hT
    have hU : (tabL freL).size = 3 := tabL_size freL
    have HT1 := Lib.hid (tabL_one (ratL (oddB v)))
    have HU1 := Lib.hid (tabL_one freL)
    have HBT := Lib.hid (fun W g t (h : Blk W g t (tabL (ratL (oddB v)))) => contains_any g 15 15 _ r W (TabIn.of_blk h) (ratL_len _) (by decide))
    have HBU := Lib.hid (fun W g t (h : Blk W g t (tabL freL)) => contains_any g 3 3 _ q W (TabIn.of_blk h) rfl (by decide))
    generalize (ratL (oddB v)).any (fun r' => decide ((r' : Int) = r)) = a at *
    generalize freL.any (fun r' => decide ((r' : Int) = q)) = b at *
    generalize tabL (ratL (oddB v)) = T at *
    generalize tabL freL = U at *
    cases a
    all_goals
      go_enter Try.func10, Try.ntmps10
      go_wp2_with (first
        | (go_at_call 23; (with_reducible refine (HR.out _).mono ?_); rintro e w1 ⟨rfl, hb⟩; have HB1 := Lib.hid (((Below.refl w.heap.size w).alloc (Nat.le_refl _) _).trans (hb.mono (by simp))); have HS1 := Lib.hid hb.size; have HC1 := Lib.hid ((Blk.new w _ _).below hb (by simp)); clear hb)
        | (go_at_call 24; (with_reducible refine (HF.out _).mono ?_); rintro e w2 ⟨rfl, hb⟩; have HB2 := Lib.hid hb; clear hb))
      rw [store_under w2 _ _ T _ (by rw [hT]; rfl) HT1.out]
      simp only [Result.andThen]
      rw [Oper.upon_skip]
      go_wp2
      rw [store_over w2 _ _ U _ (by rw [hU]; rfl) HU1.out]
      simp only [Result.andThen]
      rw [Oper.upon_skip]
      have HB3 := Lib.hid (HB1.out.trans (HB2.out.mono HB1.out.size))
      have hl2 := Nat.lt_of_lt_of_le HC1.out.lt HB2.out.size
      have HC2 := Lib.hid (HC1.out.below HB2.out HC1.out.lt)
      have e2 := (HC2.out.cell 2).trans rfl
      have e3 := (HC2.out.cell 3).trans rfl
      have HQ1 := Lib.hid (fun n => (HBT.out (((w2.alloc (.cells T 44)).alloc (.cells U 46)).drewN n) w2.heap.size _ (((Blk.new w2 44 T).alloc (.cells U 46)).drewN n)).mono fun _ _ h => And.intro h.1 h.2.symm)
      have HQ2 := Lib.hid (fun n => (HBU.out (((w2.alloc (.cells T 44)).alloc (.cells U 46)).drewN n) (w2.heap.size + 1) _ (by
        have := (Blk.new (w2.alloc (.cells T 44)) 46 U).drewN n
        rwa [show (w2.alloc (.cells T 44)).heap.size = w2.heap.size + 1 from by simp] at this)).mono fun _ _ h => And.intro h.1 h.2.symm)
      go_wp2
      go_quiet (first
        | (go_at_call 27; with_reducible exact Calls.quiet_of_same (HQ1.out _))
        | (go_at_call 27; with_reducible exact Calls.quiet_of_same (HQ2.out _)))
      go_wp2
      go_ret
      refine ⟨by rw [HD2.out]; first | done | rfl, ?_⟩
      have hb5 := HB3.out.trans (Below.mono (((Below.refl w2.heap.size w2).alloc (Nat.le_refl _) (.cells T 44)).alloc (by simp) (.cells U 46)) HB3.out.size)
      exact Below.drewN' hb5 _
  · rw [gdB_out hok] at HD
    have hcase : v < 0 ∨ (¬ v < 0 ∧ 4 ≤ v) ∨ (¬ v < 0 ∧ ¬ 4 ≤ v ∧ l ≠ 3) := by omega
    clear hok
    rcases hcase with h0 | ⟨h0, h4⟩ | ⟨h0, h4, h3⟩
    all_goals
      go_enter Try.func10, Try.ntmps10
      go_wp2
      go_ret
      exact ⟨by rw [HD.out]; first | done | rfl, (Below.refl _ _).alloc (Nat.le_refl _) _⟩

theorem good_any (f : Frm) (w : World) :
    Calls Try.prog 10 #[frmV f] w fun e w' => e = .returned (.bool (gdB f)) ∧ Below w.heap.size w w' := good_parts _ _ _ _ _ w

end Go.Proofs.Ytmjkolkmpnadpaa
