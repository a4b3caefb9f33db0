/-
  The tables of package mp3, and whether a number is in one. No condition.
  Whether a number is in a table: slices.Index and slices.Contains. No condition.
  Whether a frame is good, and how many bytes it has: what package mp3 answers. No condition.
-/
import Derived.Test.YtjaockmbnjflaaaGreatDoorZ23
import Derived.Test.YtjaockmbnjflaaaGreatDoorZ3
import Derived.Test.YtjaockmbnjflaaaGreatDoorZ14
import Derived.BigQuiet
import Derived.Deep.QuietTactic
import Derived.OwnWalk
import Derived.LoopTactic
import Derived.WalkKit
import Derived.Lib.Hide
import Derived.Deep.WholeRow
import Derived.Deep.RegionWith
namespace Go.Proofs.YtjaockmbnjflaaaGreatDoor
open Go.RowKit

/-- A frame's value. -/
abbrev frmV (f : Frm) : Value := .agg #[.int .i64 f.ver, .int .i64 f.lay, .int .i64 f.rate, .int .i64 f.freq, .bool f.pad]
theorem four_ways {v : Int} (h : 0 ≤ v ∧ v < 4) : v = 0 ∨ v = 1 ∨ v = 2 ∨ v = 3 := by omega
set_option maxRecDepth 100000 in
theorem even_any (v : Int) (w : World) (h : 0 ≤ v ∧ v < 4) :
    Calls Tryz.prog 119 #[.int .i64 v] w fun e w' => e = .returned (.bool (!oddB v)) ∧ w = w' := by
  rcases four_ways h with rfl | rfl | rfl | rfl
  all_goals
    as_aux_lemma =>
    go_enter Tryz.func119, Tryz.ntmps119
    go_wp2
    go_ret
    exact ⟨rfl, rfl⟩
set_option maxRecDepth 100000 in
theorem length_parts (v l r q : Int) (p : Bool) (w : World) (h : 0 ≤ v ∧ v < 4) :
    Calls Tryz.prog 118 #[frmV ⟨v, l, r, q, p⟩] w fun e w' => e = .returned (.int .i64 (lenN v : Nat)) ∧ Below w.heap.size w w' := by
  have HE := Lib.hid (fun W => even_any v W h)
  unfold lenN
  generalize oddB v = o at *
  cases o
  all_goals
    as_aux_lemma =>
    go_enter Tryz.func118, Tryz.ntmps118
    go_wp2_with (go_at_call 119; (with_reducible refine (HE.out _).mono ?_); rintro e w1 ⟨rfl, rfl⟩)
    go_ret
    exact ⟨rfl, (Below.refl _ _).alloc (Nat.le_refl _) _⟩
/-- A table's value. -/
def tabL (l : List Nat) : Array Value := (l.map (fun n => Value.int .i64 (n : Nat))).toArray
set_option maxRecDepth 100000 in
set_option maxHeartbeats 4000000 in
theorem rates_even (v : Int) (w : World) (h : 0 ≤ v ∧ v < 4) (ho : oddB v = false) :
    Calls Tryz.prog 93 #[.int .i64 v] w fun e w' => e = .returned (.agg (tabL (ratL false))) ∧ Below w.heap.size w w' := by
  have HE := Lib.hid (fun W => even_any v W h)
  rw [ho] at HE
  go_enter Tryz.func93, Tryz.ntmps93
  go_wp2_with (go_at_call 119; (with_reducible refine (HE.out _).mono ?_); rintro e w1 ⟨rfl, rfl⟩)
  exact bodyPost_ret (v := .agg (tabL (ratL false))) (by simp [results, Tryz.results93, go_sem, tabL, ratL]) rfl ⟨rfl, (Below.refl w.heap.size w).alloc (Nat.le_refl _) _⟩
set_option maxRecDepth 100000 in
set_option maxHeartbeats 4000000 in
theorem rates_odd (v : Int) (w : World) (h : 0 ≤ v ∧ v < 4) (ho : oddB v = true) :
    Calls Tryz.prog 93 #[.int .i64 v] w fun e w' => e = .returned (.agg (tabL (ratL true))) ∧ Below w.heap.size w w' := by
  have HE := Lib.hid (fun W => even_any v W h)
  rw [ho] at HE
  go_enter Tryz.func93, Tryz.ntmps93
  go_wp2_with (go_at_call 119; (with_reducible refine (HE.out _).mono ?_); rintro e w1 ⟨rfl, rfl⟩)
  exact bodyPost_ret (v := .agg (tabL (ratL true))) (by simp [results, Tryz.results93, go_sem, tabL, ratL]) rfl ⟨rfl, (Below.refl w.heap.size w).alloc (Nat.le_refl _) _⟩
theorem rates_any (v : Int) (w : World) (h : 0 ≤ v ∧ v < 4) :
    Calls Tryz.prog 93 #[.int .i64 v] w fun e w' => e = .returned (.agg (tabL (ratL (oddB v)))) ∧ Below w.heap.size w w' := by
  cases ho : oddB v
  · exact rates_even v w h ho
  · exact rates_odd v w h ho
set_option maxRecDepth 100000 in
theorem freqs_any (w : World) :
    Calls Tryz.prog 94 #[] w fun e w' => e = .returned (.agg (tabL freL)) ∧ Below w.heap.size w w' := by
  go_enter Tryz.func94, Tryz.ntmps94
  go_wp2
  exact bodyPost_ret (v := .agg (tabL freL)) (by simp [results, Tryz.results94, go_sem, tabL, freL]) rfl ⟨rfl, (Below.refl w.heap.size w).alloc (Nat.le_refl _) _⟩

end Go.Proofs.YtjaockmbnjflaaaGreatDoor
namespace Go.Proofs.YtjaockmbnjflaaaGreatDoor
open Go.RowKit

/-- The place of the first of some numbers that is this one; how many there are, if none is. -/
def plcN (l : List Nat) (x : Int) : Nat := l.findIdx (fun n : Nat => decide ((n : Int) = x))
theorem plcN_any (l : List Nat) (x : Int) : decide (plcN l x < l.length) = l.any (fun n : Nat => decide ((n : Int) = x)) := by
  unfold plcN
  rw [Bool.eq_iff_iff, decide_eq_true_eq, List.findIdx_lt_length]
  exact List.any_eq_true.symm
/-- A slice of a table's numbers. -/
def TabIn (w : World) (g : Nat) (l : List Nat) : Prop := ∀ i (h : i < l.length), w.cell? ⟨g, i, none⟩ = some (.int .i64 (l[i] : Nat))

set_option maxHeartbeats 1000000 in
theorem index_any (g c : Nat) (l : List Nat) (x : Int) (w : World) (h : TabIn w g l) (hl : l.length ≤ 9223372036854775807) :
    Calls Tryz.prog 145 #[.slice (some ⟨g, 0, none⟩) l.length c, .int .i64 x] w fun e w' => e = .returned (.int .i64 (if plcN l x < l.length then ((plcN l x : Nat) : Int) else -1)) ∧ w = w' := by
  have HT := Lib.hid h
  clear h
  obtain ⟨d, hd⟩ : ∃ d : Int, d = if plcN l x < l.length then ((plcN l x : Nat) : Int) else -1 := ⟨_, rfl⟩
  rw [← hd]
  have HD := Lib.hid hd
  clear hd
  go_enter Tryz.func145, Tryz.ntmps145
  go_wp2
  go_loop [8] (fun i => ∃ k : Nat, k ≤ l.length ∧ i = .int .i64 k ∧ Hid (∀ j, j < k → ∀ hj : j < l.length, (l[j] : Int) ≠ x)) (fun i => l.length - (intOf i).toNat)
  case atStart => exact ⟨0, Nat.zero_le _, rfl, Lib.hid fun j hj => absurd hj (by omega)⟩
  case round =>
    obtain ⟨k, hk, rfl, hn⟩ := hrel
    by_cases hlt : k < l.length
    · have hc := HT.out k hlt
      by_cases he : ((l[k] : Nat) : Int) = x
      · have hp : plcN l x = k := by
          unfold plcN
          rw [List.findIdx_eq hlt]
          exact ⟨decide_eq_true he, fun j hj => decide_eq_false (hn.out j hj (by omega))⟩
        have hk2 : Hid (d = (k : Int)) := Lib.hid (by rw [HD.out, hp, if_pos hlt])
        clear hp hn HD
        generalize l[k] = y at *
        go_wp2
        go_ret
        exact ⟨by rw [hk2.out]; first | done | rfl, rfl⟩
      · have hn2 : Hid (∀ j, j < k + 1 → ∀ hj : j < l.length, (l[j] : Int) ≠ x) := Lib.hid fun j hj hjl => by
          by_cases e : j = k
          · subst e; exact he
          · exact hn.out j (by omega) hjl
        generalize l[k] = y at *
        go_wp2
        go_round
        case rel => exact ⟨k + 1, by omega, by go_num, hn2⟩
        case measure => simp [intOf]; omega
    · obtain rfl : k = l.length := by omega
      have hp : ¬ plcN l x < l.length := by
        unfold plcN
        rw [List.findIdx_lt_length]
        rintro ⟨y, hy, e⟩
        obtain ⟨j, hj, rfl⟩ := List.mem_iff_getElem.1 hy
        exact hn.out j hj hj (of_decide_eq_true e)
      have hk2 : Hid (d = -1) := Lib.hid (by rw [HD.out, if_neg hp])
      clear hp hn HD
      go_wp2
      go_ret
      exact ⟨by rw [hk2.out]; first | done | rfl, rfl⟩

theorem contains_tab (g c : Nat) (l : List Nat) (x : Int) (w : World) (h : TabIn w g l) (hl : l.length ≤ 9223372036854775807) :
    Calls Tryz.prog 136 #[.slice (some ⟨g, 0, none⟩) l.length c, .int .i64 x] w fun e w' => e = .returned (.bool (l.any (fun n : Nat => decide ((n : Int) = x)))) ∧ w = w' := by
  have HI := Lib.hid (index_any g c l x w h hl)
  rw [← plcN_any]
  by_cases hp : plcN l x < l.length
  · rw [if_pos hp] at HI
    rw [decide_eq_true hp]
    generalize plcN l x = p at *
    go_enter Tryz.func136, Tryz.ntmps136
    go_wp2_with (go_at_call 145; (with_reducible refine HI.out.mono ?_); rintro e w1 ⟨rfl, rfl⟩)
    go_ret
    exact ⟨by simp, rfl⟩
  · rw [if_neg hp] at HI
    rw [decide_eq_false hp]
    go_enter Tryz.func136, Tryz.ntmps136
    go_wp2_with (go_at_call 145; (with_reducible refine HI.out.mono ?_); rintro e w1 ⟨rfl, rfl⟩)
    go_ret
    exact ⟨by simp, rfl⟩
theorem tabHas_any (g c n : Nat) (l : List Nat) (x : Int) (w : World) (h : TabIn w g l) (hn : l.length = n) (hl : n ≤ 9223372036854775807) :
    Calls Tryz.prog 136 #[.slice (some ⟨g, 0, none⟩) n c, .int .i64 x] w fun e w' => e = .returned (.bool (l.any (fun n : Nat => decide ((n : Int) = x)))) ∧ w = w' := by
  subst hn
  exact contains_tab g c l x w h hl

end Go.Proofs.YtjaockmbnjflaaaGreatDoor
namespace Go.Proofs.YtjaockmbnjflaaaGreatDoor
open Go.RowKit

theorem tabL_size (l : List Nat) : (tabL l).size = l.length := by simp [tabL]
theorem tabL_one (l : List Nat) : (tabL l).all (·.oneCell') = true := by
  rw [Array.all_eq_true_iff_forall_mem]
  intro x hx
  simp only [tabL, List.mem_toArray, List.mem_map] at hx
  obtain ⟨n, _, rfl⟩ := hx
  rfl
theorem tabL_at (l : List Nat) (i : Nat) (h : i < l.length) : (tabL l)[i]? = some (.int .i64 (l[i] : Nat)) := by
  simp only [tabL, List.getElem?_toArray, List.getElem?_map, List.getElem?_eq_getElem h]
  rfl

theorem TabIn.of_blk {w : World} {g : Nat} {t : TypeId} {l : List Nat} (h : Blk w g t (tabL l)) : TabIn w g l := fun i hi => (h.cell i).trans (tabL_at l i hi)
theorem store_blk {w : World} {g : Nat} {t : TypeId} {c c' : Array Value} (h : Blk w g t c) (hs : c.size = c'.size) (h1 : c'.all (·.oneCell') = true) :
    (storeCells ⟨g, 0, none⟩ c'.toList).run Tryz.prog w = .ok () (w.setRow g c') := by
  have := run_storeCells_from (P := Tryz.prog) g t c'.toList 0 c w h (by simp [hs]) (fun v hv => Array.all_eq_true_iff_forall_mem.1 h1 v (by simpa using hv))
  simpa using this
theorem setRow_alloc {w : World} {g : Nat} (c' : Array Value) (o : Obj) (h : g < w.heap.size) : (w.alloc o).setRow g c' = (w.setRow g c').alloc o := by
  simp only [World.setRow, World.alloc]
  congr 1
  apply Array.ext_getElem?
  intro i
  rw [Array.getElem?_modify, Array.getElem?_push, Array.getElem?_push, Array.getElem?_modify, Array.size_modify]
  by_cases e : g = i
  · subst e
    rw [if_pos rfl, if_neg (by omega), if_neg (by omega), if_pos rfl]
  · rw [if_neg e, if_neg e]
theorem store_under (w : World) (t : TypeId) (c c' : Array Value) (o : Obj) (hs : c.size = c'.size) (h1 : c'.all (·.oneCell') = true) :
    (storeCells ⟨w.heap.size, 0, none⟩ c'.toList).run Tryz.prog ((w.alloc (.cells c t)).alloc o) = .ok () ((w.alloc (.cells c' t)).alloc o) := by
  rw [store_blk ((Blk.new w t c).alloc o) hs h1, setRow_alloc _ _ (Blk.new w t c).lt, World.setRow_alloc_new]
theorem store_last (w : World) (t : TypeId) (c c' : Array Value) (hs : c.size = c'.size) (h1 : c'.all (·.oneCell') = true) :
    (storeCells ⟨w.heap.size, 0, none⟩ c'.toList).run Tryz.prog (w.alloc (.cells c t)) = .ok () (w.alloc (.cells c' t)) := by
  rw [store_blk (Blk.new w t c) hs h1, World.setRow_alloc_new]

theorem store_over (w : World) (t : TypeId) (c c' : Array Value) (o : Obj) (hs : c.size = c'.size) (h1 : c'.all (·.oneCell') = true) :
    (storeCells ⟨w.heap.size + 1, 0, none⟩ c'.toList).run Tryz.prog ((w.alloc o).alloc (.cells c t)) = .ok () ((w.alloc o).alloc (.cells c' t)) := by
  have e : w.heap.size + 1 = (w.alloc o).heap.size := by simp
  rw [e]
  exact store_last (w.alloc o) t c c' hs h1

theorem gdB_parts {v l r q : Int} {p : Bool} (h : 0 ≤ v ∧ v < 4) (hl : l = 3) : gdB ⟨v, l, r, q, p⟩ = ((ratL (oddB v)).any (fun r' => decide ((r' : Int) = r)) && freL.any (fun r' => decide ((r' : Int) = q))) := by
  unfold gdB
  simp only [decide_eq_true h.1, decide_eq_true h.2, decide_eq_true hl, Bool.true_and]
theorem gdB_out {v l r q : Int} {p : Bool} (h : ¬(0 ≤ v ∧ v < 4 ∧ l = 3)) : gdB ⟨v, l, r, q, p⟩ = false := by
  cases e : gdB ⟨v, l, r, q, p⟩
  · rfl
  · obtain ⟨a, b, c, _⟩ := gdB_all e
    exact absurd ⟨a, b, c⟩ h

set_option maxHeartbeats 1000000 in
theorem good_parts (v l r q : Int) (p : Bool) (w : World) :
    Calls Tryz.prog 117 #[frmV ⟨v, l, r, q, p⟩] w fun e w' => e = .returned (.bool (gdB ⟨v, l, r, q, p⟩)) ∧ Below w.heap.size w w' := by
  obtain ⟨d, hd⟩ : ∃ d : Bool, d = gdB ⟨v, l, r, q, p⟩ := ⟨_, rfl⟩
  rw [← hd]
  have HD := Lib.hid hd
  clear hd
  by_cases hok : 0 ≤ v ∧ v < 4 ∧ l = 3
  · obtain ⟨h0, h4, rfl⟩ := hok
    have HD2 := Lib.hid (HD.out.trans (gdB_parts ⟨h0, h4⟩ rfl))
    clear HD
    have HR := Lib.hid (fun W => rates_any v W ⟨h0, h4⟩)
    have HF := Lib.hid freqs_any
    have hT := tabL_size (ratL (oddB v))
    rw [ratL_len] at hT
    have hU : (tabL freL).size = 3 := tabL_size freL
    have HT1 := Lib.hid (tabL_one (ratL (oddB v)))
    have HU1 := Lib.hid (tabL_one freL)
    have HBT := Lib.hid (fun W g t (h : Blk W g t (tabL (ratL (oddB v)))) => tabHas_any g 15 15 _ r W (TabIn.of_blk h) (ratL_len _) (by decide))
    have HBU := Lib.hid (fun W g t (h : Blk W g t (tabL freL)) => tabHas_any g 3 3 _ q W (TabIn.of_blk h) rfl (by decide))
    generalize (ratL (oddB v)).any (fun r' => decide ((r' : Int) = r)) = a at *
    generalize freL.any (fun r' => decide ((r' : Int) = q)) = b at *
    generalize tabL (ratL (oddB v)) = T at *
    generalize tabL freL = U at *
    cases a
    all_goals
      go_enter Tryz.func117, Tryz.ntmps117
      go_wp2_with (first
        | (go_at_call 93; (with_reducible refine (HR.out _).mono ?_); rintro e w1 ⟨rfl, hb⟩; have HB1 := Lib.hid (((Below.refl w.heap.size w).alloc (Nat.le_refl _) _).trans (hb.mono (by simp))); have HS1 := Lib.hid hb.size; have HC1 := Lib.hid ((Blk.new w _ _).below hb (by simp)); clear hb)
        | (go_at_call 94; (with_reducible refine (HF.out _).mono ?_); rintro e w2 ⟨rfl, hb⟩; have HB2 := Lib.hid hb; clear hb))
      rw [store_under w2 _ _ T _ (by rw [hT]; rfl) HT1.out]
      simp only [Result.andThen]
      rw [Oper.upon_skip]
      go_wp2
      rw [store_over w2 _ _ U _ (by rw [hU]; rfl) HU1.out]
      simp only [Result.andThen]
      rw [Oper.upon_skip]
      have HB3 := Lib.hid (HB1.out.trans (HB2.out.mono HB1.out.size))
      have hl2 := Nat.lt_of_lt_of_le HC1.out.lt HB2.out.size
      have HC2 := Lib.hid (HC1.out.below HB2.out HC1.out.lt)
      have e2 := (HC2.out.cell 2).trans rfl
      have e3 := (HC2.out.cell 3).trans rfl
      have HQ1 := Lib.hid (fun n => (HBT.out (((w2.alloc (.cells T 70)).alloc (.cells U 72)).drewN n) w2.heap.size _ (((Blk.new w2 70 T).alloc (.cells U 72)).drewN n)).mono fun _ _ h => And.intro h.1 h.2.symm)
      have HQ2 := Lib.hid (fun n => (HBU.out (((w2.alloc (.cells T 70)).alloc (.cells U 72)).drewN n) (w2.heap.size + 1) _ (by
        have := (Blk.new (w2.alloc (.cells T 70)) 72 U).drewN n
        rwa [show (w2.alloc (.cells T 70)).heap.size = w2.heap.size + 1 from by simp] at this)).mono fun _ _ h => And.intro h.1 h.2.symm)
      go_wp2
      go_quiet (first
        | (go_at_call 136; with_reducible exact Calls.quiet_of_same (HQ1.out _))
        | (go_at_call 136; with_reducible exact Calls.quiet_of_same (HQ2.out _)))
      go_wp2
      go_ret
      refine ⟨by rw [HD2.out]; first | done | rfl, ?_⟩
      have hb5 := HB3.out.trans (Below.mono (((Below.refl w2.heap.size w2).alloc (Nat.le_refl _) (.cells T 70)).alloc (by simp) (.cells U 72)) HB3.out.size)
      exact Below.drewN' hb5 _
  · rw [gdB_out hok] at HD
    have hcase : v < 0 ∨ (¬ v < 0 ∧ 4 ≤ v) ∨ (¬ v < 0 ∧ ¬ 4 ≤ v ∧ l ≠ 3) := by omega
    clear hok
    rcases hcase with h0 | ⟨h0, h4⟩ | ⟨h0, h4, h3⟩
    all_goals
      go_enter Tryz.func117, Tryz.ntmps117
      go_wp2
      go_ret
      exact ⟨by rw [HD.out]; first | done | rfl, (Below.refl _ _).alloc (Nat.le_refl _) _⟩

theorem fgood_any (f : Frm) (w : World) :
    Calls Tryz.prog 117 #[frmV f] w fun e w' => e = .returned (.bool (gdB f)) ∧ Below w.heap.size w w' := good_parts _ _ _ _ _ w

end Go.Proofs.YtjaockmbnjflaaaGreatDoor
