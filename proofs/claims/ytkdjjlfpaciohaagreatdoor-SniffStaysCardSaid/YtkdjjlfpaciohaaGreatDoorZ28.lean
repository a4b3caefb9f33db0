/-
  Whether a number is in a table: slices.Index and slices.Contains. No condition.
  Whether a frame is good, and how many bytes it has: what package mp3 answers. No condition.
  How many bytes a frame has: what package mp3 answers. No condition.
-/
import Derived.Test.YtkdjjlfpaciohaaGreatDoorZ27
import Derived.Test.YtkdjjlfpaciohaaGreatDoorZ2
import Derived.BigQuiet
import Derived.Deep.QuietTactic
import Derived.OwnWalk
import Derived.LoopTactic
import Derived.WalkKit
import Derived.Lib.Hide
import Derived.Deep.WholeRow
import Derived.Deep.RegionWith
import Derived.Test.YtkdjjlfpaciohaaGreatDoorZ14
import Derived.Test.YtkdjjlfpaciohaaGreatDoorZ18
namespace Go.Proofs.YtkdjjlfpaciohaaGreatDoor
open Go.RowKit

/-- The place of the first of some numbers that is this one; how many there are, if none is. -/
def plcN (l : List Nat) (x : Int) : Nat := l.findIdx (fun n : Nat => decide ((n : Int) = x))
theorem plcN_any (l : List Nat) (x : Int) : decide (plcN l x < l.length) = l.any (fun n : Nat => decide ((n : Int) = x)) := by
  unfold plcN
  rw [Bool.eq_iff_iff, decide_eq_true_eq, List.findIdx_lt_length]
  exact List.any_eq_true.symm
/-- A slice of a table's numbers. -/
def TabIn (w : World) (g : Nat) (l : List Nat) : Prop := ∀ i (h : i < l.length), w.cell? ⟨g, i, none⟩ = some (.int .i64 (l[i] : Nat))

set_option maxHeartbeats 1000000 in
theorem index_any (g c : Nat) (l : List Nat) (x : Int) (w : World) (h : TabIn w g l) (hl : l.length ≤ 9223372036854775807) :
    Calls Tryz.prog 171 #[.slice (some ⟨g, 0, none⟩) l.length c, .int .i64 x] w fun e w' => e = .returned (.int .i64 (if plcN l x < l.length then ((plcN l x : Nat) : Int) else -1)) ∧ w = w' := by
  have HT := Lib.hid h
  clear h
  obtain ⟨d, hd⟩ : ∃ d : Int, d = if plcN l x < l.length then ((plcN l x : Nat) : Int) else -1 := ⟨_, rfl⟩
  rw [← hd]
  have HD := Lib.hid hd
  clear hd
  go_enter Tryz.func171, Tryz.ntmps171
  go_wp2
  go_loop [8] (fun i => ∃ k : Nat, k ≤ l.length ∧ i = .int .i64 k ∧ Hid (∀ j, j < k → ∀ hj : j < l.length, (l[j] : Int) ≠ x)) (fun i => l.length - (intOf i).toNat)
  case atStart => exact ⟨0, Nat.zero_le _, rfl, Lib.hid fun j hj => absurd hj (by omega)⟩
  case round =>
    obtain ⟨k, hk, rfl, hn⟩ := hrel
    by_cases hlt : k < l.length
    · have hc := HT.out k hlt
      by_cases he : ((l[k] : Nat) : Int) = x
      · have hp : plcN l x = k := by
          unfold plcN
          rw [List.findIdx_eq hlt]
          exact ⟨decide_eq_true he, fun j hj => decide_eq_false (hn.out j hj (by omega))⟩
        have hk2 : Hid (d = (k : Int)) := Lib.hid (by rw [HD.out, hp, if_pos hlt])
        clear hp hn HD
        generalize l[k] = y at *
        go_wp2
        go_ret
        exact ⟨by rw [hk2.out]; first | done | rfl, rfl⟩
      · have hn2 : Hid (∀ j, j < k + 1 → ∀ hj : j < l.length, (l[j] : Int) ≠ x) := Lib.hid fun j hj hjl => by
          by_cases e : j = k
          · subst e; exact he
          · exact hn.out j (by omega) hjl
        generalize l[k] = y at *
        go_wp2
        go_round
        case rel => exact ⟨k + 1, by omega, by go_num, hn2⟩
        case measure => simp [intOf]; omega
    · obtain rfl : k = l.length := by omega
      have hp : ¬ plcN l x < l.length := by
        unfold plcN
        rw [List.findIdx_lt_length]
        rintro ⟨y, hy, e⟩
        obtain ⟨j, hj, rfl⟩ := List.mem_iff_getElem.1 hy
        exact hn.out j hj hj (of_decide_eq_true e)
      have hk2 : Hid (d = -1) := Lib.hid (by rw [HD.out, if_neg hp])
      clear hp hn HD
      go_wp2
      go_ret
      exact ⟨by rw [hk2.out]; first | done | rfl, rfl⟩

theorem contains_tab (g c : Nat) (l : List Nat) (x : Int) (w : World) (h : TabIn w g l) (hl : l.length ≤ 9223372036854775807) :
    Calls Tryz.prog 160 #[.slice (some ⟨g, 0, none⟩) l.length c, .int .i64 x] w fun e w' => e = .returned (.bool (l.any (fun n : Nat => decide ((n : Int) = x)))) ∧ w = w' := by
  have HI := Lib.hid (index_any g c l x w h hl)
  rw [← plcN_any]
  by_cases hp : plcN l x < l.length
  · rw [if_pos hp] at HI
    rw [decide_eq_true hp]
    generalize plcN l x = p at *
    go_enter Tryz.func160, Tryz.ntmps160
    go_wp2_with (go_at_call 171; (with_reducible refine HI.out.mono ?_); rintro e w1 ⟨rfl, rfl⟩)
    go_ret
    exact ⟨by simp, rfl⟩
  · rw [if_neg hp] at HI
    rw [decide_eq_false hp]
    go_enter Tryz.func160, Tryz.ntmps160
    go_wp2_with (go_at_call 171; (with_reducible refine HI.out.mono ?_); rintro e w1 ⟨rfl, rfl⟩)
    go_ret
    exact ⟨by simp, rfl⟩
theorem tabHas_any (g c n : Nat) (l : List Nat) (x : Int) (w : World) (h : TabIn w g l) (hn : l.length = n) (hl : n ≤ 9223372036854775807) :
    Calls Tryz.prog 160 #[.slice (some ⟨g, 0, none⟩) n c, .int .i64 x] w fun e w' => e = .returned (.bool (l.any (fun n : Nat => decide ((n : Int) = x)))) ∧ w = w' := by
  subst hn
  exact contains_tab g c l x w h hl

end Go.Proofs.YtkdjjlfpaciohaaGreatDoor
namespace Go.Proofs.YtkdjjlfpaciohaaGreatDoor
open Go.RowKit

theorem tabL_size (l : List Nat) : (tabL l).size = l.length := by simp [tabL]
theorem tabL_one (l : List Nat) : (tabL l).all (·.oneCell') = true := by
  rw [Array.all_eq_true_iff_forall_mem]
  intro x hx
  simp only [tabL, List.mem_toArray, List.mem_map] at hx
  obtain ⟨n, _, rfl⟩ := hx
  rfl
theorem tabL_at (l : List Nat) (i : Nat) (h : i < l.length) : (tabL l)[i]? = some (.int .i64 (l[i] : Nat)) := by
  simp only [tabL, List.getElem?_toArray, List.getElem?_map, List.getElem?_eq_getElem h]
  rfl

theorem TabIn.of_blk {w : World} {g : Nat} {t : TypeId} {l : List Nat} (h : Blk w g t (tabL l)) : TabIn w g l := fun i hi => (h.cell i).trans (tabL_at l i hi)
theorem store_blk {w : World} {g : Nat} {t : TypeId} {c c' : Array Value} (h : Blk w g t c) (hs : c.size = c'.size) (h1 : c'.all (·.oneCell') = true) :
    (storeCells ⟨g, 0, none⟩ c'.toList).run Tryz.prog w = .ok () (w.setRow g c') := by
  have := run_storeCells_from (P := Tryz.prog) g t c'.toList 0 c w h (by simp [hs]) (fun v hv => Array.all_eq_true_iff_forall_mem.1 h1 v (by simpa using hv))
  simpa using this
theorem setRow_alloc {w : World} {g : Nat} (c' : Array Value) (o : Obj) (h : g < w.heap.size) : (w.alloc o).setRow g c' = (w.setRow g c').alloc o := by
  simp only [World.setRow, World.alloc]
  congr 1
  apply Array.ext_getElem?
  intro i
  rw [Array.getElem?_modify, Array.getElem?_push, Array.getElem?_push, Array.getElem?_modify, Array.size_modify]
  by_cases e : g = i
  · subst e
    rw [if_pos rfl, if_neg (by omega), if_neg (by omega), if_pos rfl]
  · rw [if_neg e, if_neg e]
theorem store_under (w : World) (t : TypeId) (c c' : Array Value) (o : Obj) (hs : c.size = c'.size) (h1 : c'.all (·.oneCell') = true) :
    (storeCells ⟨w.heap.size, 0, none⟩ c'.toList).run Tryz.prog ((w.alloc (.cells c t)).alloc o) = .ok () ((w.alloc (.cells c' t)).alloc o) := by
  rw [store_blk ((Blk.new w t c).alloc o) hs h1, setRow_alloc _ _ (Blk.new w t c).lt, World.setRow_alloc_new]
theorem store_last (w : World) (t : TypeId) (c c' : Array Value) (hs : c.size = c'.size) (h1 : c'.all (·.oneCell') = true) :
    (storeCells ⟨w.heap.size, 0, none⟩ c'.toList).run Tryz.prog (w.alloc (.cells c t)) = .ok () (w.alloc (.cells c' t)) := by
  rw [store_blk (Blk.new w t c) hs h1, World.setRow_alloc_new]

theorem store_over (w : World) (t : TypeId) (c c' : Array Value) (o : Obj) (hs : c.size = c'.size) (h1 : c'.all (·.oneCell') = true) :
    (storeCells ⟨w.heap.size + 1, 0, none⟩ c'.toList).run Tryz.prog ((w.alloc o).alloc (.cells c t)) = .ok () ((w.alloc o).alloc (.cells c' t)) := by
  have e : w.heap.size + 1 = (w.alloc o).heap.size := by simp
  rw [e]
  exact store_last (w.alloc o) t c c' hs h1

theorem gdB_parts {v l r q : Int} {p : Bool} (h : 0 ≤ v ∧ v < 4) (hl : l = 3) : gdB ⟨v, l, r, q, p⟩ = ((ratL (oddB v)).any (fun r' => decide ((r' : Int) = r)) && freL.any (fun r' => decide ((r' : Int) = q))) := by
  unfold gdB
  simp only [decide_eq_true h.1, decide_eq_true h.2, decide_eq_true hl, Bool.true_and]
theorem gdB_out {v l r q : Int} {p : Bool} (h : ¬(0 ≤ v ∧ v < 4 ∧ l = 3)) : gdB ⟨v, l, r, q, p⟩ = false := by
  cases e : gdB ⟨v, l, r, q, p⟩
  · rfl
  · obtain ⟨a, b, c, _⟩ := gdB_all e
    exact absurd ⟨a, b, c⟩ h

set_option maxHeartbeats 1000000 in
theorem good_parts (v l r q : Int) (p : Bool) (w : World) :
    Calls Tryz.prog 140 #[frmV ⟨v, l, r, q, p⟩] w fun e w' => e = .returned (.bool (gdB ⟨v, l, r, q, p⟩)) ∧ Below w.heap.size w w' := by
  obtain ⟨d, hd⟩ : ∃ d : Bool, d = gdB ⟨v, l, r, q, p⟩ := ⟨_, rfl⟩
  rw [← hd]
  have HD := Lib.hid hd
  clear hd
  by_cases hok : 0 ≤ v ∧ v < 4 ∧ l = 3
  · obtain ⟨h0, h4, rfl⟩ := hok
    have HD2 := Lib.hid (HD.out.trans (gdB_parts ⟨h0, h4⟩ rfl))
    clear HD
    have HR := Lib.hid (fun W => rates_any v W ⟨h0, h4⟩)
    have HF := Lib.hid freqs_any
    have hT := tabL_size (ratL (oddB v))
    rw [ratL_len] at hT
    have hU : (tabL freL).size = 3 := tabL_size freL
    have HT1 := Lib.hid (tabL_one (ratL (oddB v)))
    have HU1 := Lib.hid (tabL_one freL)
    have HBT := Lib.hid (fun W g t (h : Blk W g t (tabL (ratL (oddB v)))) => tabHas_any g 15 15 _ r W (TabIn.of_blk h) (ratL_len _) (by decide))
    have HBU := Lib.hid (fun W g t (h : Blk W g t (tabL freL)) => tabHas_any g 3 3 _ q W (TabIn.of_blk h) rfl (by decide))
    generalize (ratL (oddB v)).any (fun r' => decide ((r' : Int) = r)) = a at *
    generalize freL.any (fun r' => decide ((r' : Int) = q)) = b at *
    generalize tabL (ratL (oddB v)) = T at *
    generalize tabL freL = U at *
    cases a
    all_goals
      go_enter Tryz.func140, Tryz.ntmps140
      go_wp2_with (first
        | (go_at_call 120; (with_reducible refine (HR.out _).mono ?_); rintro e w1 ⟨rfl, hb⟩; have HB1 := Lib.hid (((Below.refl w.heap.size w).alloc (Nat.le_refl _) _).trans (hb.mono (by simp))); have HS1 := Lib.hid hb.size; have HC1 := Lib.hid ((Blk.new w _ _).below hb (by simp)); clear hb)
        | (go_at_call 121; (with_reducible refine (HF.out _).mono ?_); rintro e w2 ⟨rfl, hb⟩; have HB2 := Lib.hid hb; clear hb))
      rw [store_under w2 _ _ T _ (by rw [hT]; rfl) HT1.out]
      simp only [Result.andThen]
      rw [Oper.upon_skip]
      go_wp2
      rw [store_over w2 _ _ U _ (by rw [hU]; rfl) HU1.out]
      simp only [Result.andThen]
      rw [Oper.upon_skip]
      have HB3 := Lib.hid (HB1.out.trans (HB2.out.mono HB1.out.size))
      have hl2 := Nat.lt_of_lt_of_le HC1.out.lt HB2.out.size
      have HC2 := Lib.hid (HC1.out.below HB2.out HC1.out.lt)
      have e2 := (HC2.out.cell 2).trans rfl
      have e3 := (HC2.out.cell 3).trans rfl
      have HQ1 := Lib.hid (fun n => (HBT.out (((w2.alloc (.cells T 84)).alloc (.cells U 86)).drewN n) w2.heap.size _ (((Blk.new w2 84 T).alloc (.cells U 86)).drewN n)).mono fun _ _ h => And.intro h.1 h.2.symm)
      have HQ2 := Lib.hid (fun n => (HBU.out (((w2.alloc (.cells T 84)).alloc (.cells U 86)).drewN n) (w2.heap.size + 1) _ (by
        have := (Blk.new (w2.alloc (.cells T 84)) 86 U).drewN n
        rwa [show (w2.alloc (.cells T 84)).heap.size = w2.heap.size + 1 from by simp] at this)).mono fun _ _ h => And.intro h.1 h.2.symm)
      go_wp2
      go_quiet (first
        | (go_at_call 160; with_reducible exact Calls.quiet_of_same (HQ1.out _))
        | (go_at_call 160; with_reducible exact Calls.quiet_of_same (HQ2.out _)))
      go_wp2
      go_ret
      refine ⟨by rw [HD2.out]; first | done | rfl, ?_⟩
      have hb5 := HB3.out.trans (Below.mono (((Below.refl w2.heap.size w2).alloc (Nat.le_refl _) (.cells T 84)).alloc (by simp) (.cells U 86)) HB3.out.size)
      exact Below.drewN' hb5 _
  · rw [gdB_out hok] at HD
    have hcase : v < 0 ∨ (¬ v < 0 ∧ 4 ≤ v) ∨ (¬ v < 0 ∧ ¬ 4 ≤ v ∧ l ≠ 3) := by omega
    clear hok
    rcases hcase with h0 | ⟨h0, h4⟩ | ⟨h0, h4, h3⟩
    all_goals
      go_enter Tryz.func140, Tryz.ntmps140
      go_wp2
      go_ret
      exact ⟨by rw [HD.out]; first | done | rfl, (Below.refl _ _).alloc (Nat.le_refl _) _⟩

theorem fgood_any (f : Frm) (w : World) :
    Calls Tryz.prog 140 #[frmV f] w fun e w' => e = .returned (.bool (gdB f)) ∧ Below w.heap.size w w' := good_parts _ _ _ _ _ w

end Go.Proofs.YtkdjjlfpaciohaaGreatDoor
namespace Go.Proofs.YtkdjjlfpaciohaaGreatDoor
open Go.RowKit

/-- A frame's cells. -/
abbrev frmC5 (f : Frm) : Array Value := #[.int .i64 f.ver, .int .i64 f.lay, .int .i64 f.rate, .int .i64 f.freq, .bool f.pad]
/-- A world that came of w, in which a frame lies in block g. -/
def FrmAt (w : World) (g : Nat) (f : Frm) (W : World) : Prop := Below w.heap.size w W ∧ Blk W g 66 (frmC5 f)
theorem FrmAt.drew {w W : World} {g : Nat} {f : Frm} (h : FrmAt w g f W) : FrmAt w g f W.drew := ⟨h.1.drew, h.2⟩
theorem FrmAt.step {w W W' : World} {g : Nat} {f : Frm} (h : FrmAt w g f W) (hb : Below W.heap.size W W') : FrmAt w g f W' := ⟨h.1.trans (hb.mono h.1.size), h.2.below hb h.2.lt⟩
theorem FrmAt.next {w : World} {g : Nat} {f : Frm} {x : Wld (FrmAt w g f)} {W' : World} (hb : Below x.val.heap.size x.val W') : FrmAt w g f W' := x.ok.step hb
theorem FrmAt.same {w : World} {g : Nat} {f : Frm} {x : Wld (FrmAt w g f)} {W' : World} (hb : x.val = W') : FrmAt w g f W' := hb ▸ x.ok
theorem FrmAt.new (w : World) (f : Frm) : FrmAt w w.heap.size f (w.alloc (.cells (frmC5 f) 66)) := ⟨(Below.refl w.heap.size w).alloc (Nat.le_refl _) _, Blk.new _ _ _⟩

theorem szF_parts {v l r q : Int} {p : Bool} (h : gdB ⟨v, l, r, q, p⟩ = true) : 0 ≤ r ∧ r ≤ 320000 ∧ 32000 ≤ q ∧ q ≤ 48000 ∧ 0 ≤ v ∧ v < 4 := by
  obtain ⟨a, b, _, c, d, e, f⟩ := gdB_all h
  exact ⟨c, d, e, f, a, b⟩

set_option maxHeartbeats 2000000 in
theorem size_parts (v l r q : Int) (p : Bool) (w : World) :
    Calls Tryz.prog 119 #[frmV ⟨v, l, r, q, p⟩] w fun e w' => e = .returned (.int .i64 (szF ⟨v, l, r, q, p⟩ : Nat)) ∧ Below w.heap.size w w' := by
  obtain ⟨d, hd⟩ : ∃ d : Nat, d = szF ⟨v, l, r, q, p⟩ := ⟨_, rfl⟩
  rw [← hd]
  have HD := Lib.hid hd
  clear hd
  have HG := Lib.hid (fgood_any ⟨v, l, r, q, p⟩)
  have HX := Lib.hid (FrmAt.new w ⟨v, l, r, q, p⟩)
  cases hg : gdB ⟨v, l, r, q, p⟩
  · rw [hg] at HG
    rw [szF_no hg] at HD
    clear hg
    go_enter Tryz.func119, Tryz.ntmps119
    go_wp2_with (go_at_call 140; (with_reducible refine (HG.out _).mono ?_); rintro e w1 ⟨rfl, hb⟩; have HX1 := Lib.hid (HX.out.step hb); clear hb)
    go_ret
    exact ⟨by rw [HD.out]; first | done | rfl, HX1.out.1⟩
  · obtain ⟨hr0, hr1, hq0, hq1, hv0, hv4⟩ := szF_parts hg
    have HL := Lib.hid (fun W => length_parts v l r q p W ⟨hv0, hv4⟩)
    rw [hg] at HG
    have HD2 := Lib.hid (HD.out.trans (szF_yes hg))
    clear hg HD
    obtain ⟨rn, rfl⟩ : ∃ n : Nat, r = n := ⟨r.toNat, by omega⟩
    obtain ⟨qn, rfl⟩ : ∃ n : Nat, q = n := ⟨q.toNat, by omega⟩
    have hlen : lenN v = 1152 ∨ lenN v = 576 := by unfold lenN; split <;> simp
    have hb1 : rn * (lenN v / 8) ≤ 46080000 := Nat.le_trans (Nat.mul_le_mul (by omega : rn ≤ 320000) (lenN_le v)) (by decide)
    simp only [Int.toNat_natCast] at HD2
    obtain ⟨m, hm, hm2⟩ : ∃ m : Nat, lenN v = 8 * m ∧ (m = 144 ∨ m = 72) := by
      rcases hlen with h | h
      · exact ⟨144, h, .inl rfl⟩
      · exact ⟨72, h, .inr rfl⟩
    rw [hm] at HL HD2 hb1
    rw [show 8 * m / 8 = m from by omega] at HD2 hb1
    clear hm hlen
    obtain ⟨k, hk⟩ : ∃ k, k = rn * m / qn := ⟨_, rfl⟩
    have hk1 : k ≤ 46080000 := by rw [hk]; exact Nat.le_trans (Nat.div_le_self _ _) hb1
    rw [← hk] at HD2
    have g1 : (rn : Int) * m ≤ 46080000 := by rw [← Int.natCast_mul]; omega
    have g0 : 0 ≤ (rn : Int) * m := by rw [← Int.natCast_mul]; omega
    have gd : ((rn : Int) * m).tdiv qn = k := by rw [← Int.natCast_mul, hk]; exact Int.ofNat_tdiv _ _
    have hm3 : m ≤ 144 := by omega
    clear hk hb1 hm2
    have f0 : ∀ x : Wld (FrmAt w w.heap.size ⟨v, l, rn, qn, p⟩), x.val.cell? ⟨w.heap.size, 0, none⟩ = some (.int .i64 v) := fun x => x.ok.2.cell 0
    have f1 : ∀ x : Wld (FrmAt w w.heap.size ⟨v, l, rn, qn, p⟩), x.val.cell? ⟨w.heap.size, 1, none⟩ = some (.int .i64 l) := fun x => x.ok.2.cell 1
    have f2 : ∀ x : Wld (FrmAt w w.heap.size ⟨v, l, rn, qn, p⟩), x.val.cell? ⟨w.heap.size, 2, none⟩ = some (.int .i64 rn) := fun x => x.ok.2.cell 2
    have f3 : ∀ x : Wld (FrmAt w w.heap.size ⟨v, l, rn, qn, p⟩), x.val.cell? ⟨w.heap.size, 3, none⟩ = some (.int .i64 qn) := fun x => x.ok.2.cell 3
    have f4 : ∀ x : Wld (FrmAt w w.heap.size ⟨v, l, rn, qn, p⟩), x.val.cell? ⟨w.heap.size, 4, none⟩ = some (.bool p) := fun x => x.ok.2.cell 4
    have inst : Nonempty (Wld (FrmAt w w.heap.size ⟨v, l, rn, qn, p⟩)) := ⟨⟨_, HX.out⟩⟩
    go_enter Tryz.func119, Tryz.ntmps119
    go_wp2_with (go_at_call 140; (with_reducible refine (HG.out _).mono ?_); rintro e w1 ⟨rfl, hb⟩; have HX1 := Lib.hid (HX.out.step hb); clear hb)
    refine wp_region_class (FrmAt w w.heap.size ⟨v, l, rn, qn, p⟩) (by kernel_rfl) (by kernel_rfl) HX1.out.drew ?_
    repeat (go_big_quiet_step ((go_at_call 141; exact Calls.cls (HL.out _) fun _ h => FrmAt.next h)))
    refine wpQuiet_nil ?_
    intro w2 h2
    have HX2 := Lib.hid h2
    clear h2 f0 f1 f2 f3 f4 inst
    have e4 := HX2.out.2.cell 4
    cases p
    · have HD3 : Hid (d = k) := Lib.hid HD2.out
      go_wp2
      go_ret
      exact ⟨by rw [HD3.out]; first | done | rfl, HX2.out.1⟩
    · have HD3 : Hid (d = k + 1) := Lib.hid HD2.out
      go_wp2
      go_ret
      exact ⟨by rw [HD3.out]; first | done | rfl, HX2.out.1⟩
theorem size_any (f : Frm) (w : World) :
    Calls Tryz.prog 119 #[frmV f] w fun e w' => e = .returned (.int .i64 (szF f : Nat)) ∧ Below w.heap.size w w' := size_parts _ _ _ _ _ w

end Go.Proofs.YtkdjjlfpaciohaaGreatDoor
