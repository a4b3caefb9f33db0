/-
  What Step of package combine answers. Condition: texts are as long as a mebibyte, and parameters as many.
  What Extract and Charset of package combine answer. Condition: seven hundred values of a thousand bytes.
  Plain facts on what is said of a body, and on what it then is. No condition.
-/
import Derived.Test.YtighgoefmccagaaGreatZ18
import Derived.Test.YtighgoefmccagaaGreatZ20
import Derived.Deep.RegionHeld3
import Derived.Test.YtighgoefmccagaaGreatZ5
import Derived.Test.YtighgoefmccagaaGreatZ1
import Derived.Test.YtighgoefmccagaaGreatZ2
import Derived.Test.YtighgoefmccagaaGreatZ3
import Derived.Test.YtighgoefmccagaaGreatZ7
import Derived.BigQuiet
import Derived.Deep.QuietTactic
import Derived.OwnWalk
import Derived.LoopTactic
import Derived.Laws.BitsAllLaws
import Derived.OneCell
import Derived.Lib.Hide
import Derived.Lib.MinMax
namespace Go.Proofs.YtighgoefmccagaaGreat
open Go.RowKit

/-- What a call of Step gives. -/
def StepGives (r : Mty × ByteArray) (w : World) (e : Ending) (w' : World) : Prop := ∃ A' c', e = .returned (.tuple #[mimV r.1.t r.1.u A' r.1.ps.length c', .string r.2]) ∧ OwnPs w' w.heap.size A' c' r.1.ps ∧ Below w.heap.size w w'

theorem stepT_far {t u set : ByteArray} {n : Mty} (h : eqS (essS n.t n.u) (essS t u) = false) : stepT t u set n = (n, parV n.ps chrS) := by
  unfold stepT
  rw [if_neg (by rw [h]; decide)]
theorem stepT_not {t u set : ByteArray} {n : Mty} (h : eqS (essS n.t n.u) (essS t u) = true) (hm : moreB set n = false) : stepT t u set n = (n, set) := by
  unfold stepT
  rw [if_pos h, hm]
  rfl
theorem stepT_more {t u set : ByteArray} {n : Mty} (h : eqS (essS n.t n.u) (essS t u) = true) (hm : moreB set n = true) : stepT t u set n = (⟨n.t, n.u, n.ps ++ [⟨chrS, set⟩]⟩, set) := by
  unfold stepT
  rw [if_pos h, hm]
  rfl
theorem moreB_with {set : ByteArray} {n : Mty} (h : seenB n.ps chrS = false) (hs : (set.toList == []) = false) : moreB set n = withOk n.t n.u n.ps ⟨chrS, set⟩ := by
  unfold moreB
  rw [good_snoc, h, hs]
  cases withOk n.t n.u n.ps ⟨chrS, set⟩ <;> rfl
theorem moreB_seen {set : ByteArray} {n : Mty} (h : seenB n.ps chrS = true) : moreB set n = false := by
  unfold moreB
  rw [h]
  rfl
theorem moreB_none {set : ByteArray} {n : Mty} (hs : (set.toList == []) = true) : moreB set n = false := by
  unfold moreB
  rw [hs]
  cases seenB n.ps chrS <;> rfl

/-- The three boxes of a call of Step. -/
structure StB (w : World) (tm um : ByteArray) (A0 : Option Addr) (n0 c0 : Nat) (tn un : ByteArray) (A : Option Addr) (n c : Nat) (W : World) : Prop where
  b : Below w.heap.size w W
  m : Blk W w.heap.size 26 #[.string tm, .string um, .slice A0 n0 c0]
  x : Blk W (w.heap.size + 1) 26 #[.string tn, .string un, .slice A n c]
  r : Blk W (w.heap.size + 1 + 1) 26 #[.string ⟨#[]⟩, .string ⟨#[]⟩, .slice none 0 0]
theorem StB.step {w W W' : World} {tm um : ByteArray} {A0 : Option Addr} {n0 c0 : Nat} {tn un : ByteArray} {A : Option Addr} {n c : Nat} (h : StB w tm um A0 n0 c0 tn un A n c W) (hb : Below W.heap.size W W') : StB w tm um A0 n0 c0 tn un A n c W' :=
  ⟨below_on h.b hb, h.m.below hb h.m.lt, h.x.below hb h.x.lt, h.r.below hb h.r.lt⟩
theorem StB.first (w : World) (tm um : ByteArray) (A0 : Option Addr) (n0 c0 : Nat) (tn un : ByteArray) (A : Option Addr) (n c : Nat) :
    StB w tm um A0 n0 c0 tn un A n c (((w.alloc (.cells #[.string tm, .string um, .slice A0 n0 c0] 26)).alloc (.cells #[.string tn, .string un, .slice A n c] 26)).alloc (.cells #[.string ⟨#[]⟩, .string ⟨#[]⟩, .slice none 0 0] 26)) := by
  have h1 := Blk.new (w.alloc (.cells #[.string tm, .string um, .slice A0 n0 c0] 26)) 26 #[.string tn, .string un, .slice A n c]
  have h2 := Blk.new ((w.alloc (.cells #[.string tm, .string um, .slice A0 n0 c0] 26)).alloc (.cells #[.string tn, .string un, .slice A n c] 26)) 26 #[.string ⟨#[]⟩, .string ⟨#[]⟩, .slice none 0 0]
  refine ⟨(((Below.refl w.heap.size w).alloc (Nat.le_refl _) _).alloc (by simp) _).alloc (by simp; omega) _, ((Blk.new _ _ _).alloc _).alloc _, ?_, ?_⟩
  · exact (show Blk _ (w.heap.size + 1) _ _ from by simpa using h1).alloc _
  · simpa using h2
theorem StB.cells {w W : World} {tm um : ByteArray} {A0 : Option Addr} {n0 c0 : Nat} {tn un : ByteArray} {A : Option Addr} {n c : Nat} (h : StB w tm um A0 n0 c0 tn un A n c W) :
    W.cell? ⟨w.heap.size, 0, none⟩ = some (.string tm) ∧ W.cell? ⟨w.heap.size, 1, none⟩ = some (.string um) ∧ W.cell? ⟨w.heap.size, 2, none⟩ = some (.slice A0 n0 c0) ∧
    W.cell? ⟨w.heap.size + 1, 0, none⟩ = some (.string tn) ∧ W.cell? ⟨w.heap.size + 1, 1, none⟩ = some (.string un) ∧ W.cell? ⟨w.heap.size + 1, 2, none⟩ = some (.slice A n c) :=
  ⟨h.m.cell 0, h.m.cell 1, h.m.cell 2, h.x.cell 0, h.x.cell 1, h.x.cell 2⟩

set_option maxHeartbeats 4000000 in
set_option maxRecDepth 100000 in
theorem step_far (tm um : ByteArray) (A0 : Option Addr) (n0 c0 : Nat) (set : ByteArray) (nx : Mty) (A : Option Addr) (c : Nat) (w : World) (h : PsIn w A nx.ps) (hs : nx.small) (htm : tm.size ≤ 1048576) (hum : um.size ≤ 1048576)
    (hd : eqS (essS nx.t nx.u) (essS tm um) = false) :
    Calls Tryz.prog 29 #[mimV tm um A0 n0 c0, .string set, mimV nx.t nx.u A nx.ps.length c] w (StepGives (stepT tm um set nx) w) := by
  rw [stepT_far hd]
  obtain ⟨tn, un, ps⟩ := nx
  obtain ⟨h1, h2, h3, h4⟩ := hs
  simp only at h h1 h2 h3 h4 hd ⊢
  have HP := Lib.hid h
  obtain ⟨w0, hw0⟩ : ∃ w0, w0 = (((w.alloc (.cells #[.string tm, .string um, .slice A0 n0 c0] 26)).alloc (.cells #[.string tn, .string un, .slice A ps.length c] 26)).alloc (.cells #[.string ⟨#[]⟩, .string ⟨#[]⟩, .slice none 0 0] 26)) := ⟨_, rfl⟩
  have HS0 := Lib.hid (show StB w tm um A0 n0 c0 tn un A ps.length c w0 from by rw [hw0]; exact StB.first _ _ _ _ _ _ _ _ _ _ _)
  have HPM := Lib.hid (fun W (hW : PsIn W A ps) => param_any tn un A ps c chrS W hW (by omega))
  have HEN := Lib.hid (fun W => show Calls Tryz.prog 42 #[mimV tn un A ps.length c] W fun e w' => e = .returned (.string (essS tn un)) ∧ Below W.heap.size W w' from essence_any tn un A ps.length c W h1 h2)
  have HEM := Lib.hid (fun W => show Calls Tryz.prog 42 #[mimV tm um A0 n0 c0] W fun e w' => e = .returned (.string (essS tm um)) ∧ Below W.heap.size W w' from essence_any tm um A0 n0 c0 W htm hum)
  have HCO := Lib.hid (fun W (hW : PsIn W A ps) => copied_any tn un A c ps W hW (by omega))
  generalize essS tn un = en at hd HEN
  generalize essS tm um = em at hd HEM
  have hd' : (en.toList == em.toList) = false := hd
  generalize parV ps chrS = pv at HPM ⊢
  generalize seenB ps chrS = sv at HPM
  clear h hd
  obtain ⟨c0', c1', c2', d0, d1, d2⟩ := HS0.out.cells
  rw [hw0] at c0' c1' c2' d0 d1 d2
  go_enter Tryz.func29, Tryz.ntmps29
  go_wp2_with fail
  rw [← hw0]
  clear hw0 c0' c1' c2' d0 d1 d2
  refine (HPM.out _ (HP.out.below HS0.out.b)).mono ?_
  rintro e w1 ⟨rfl, b1⟩
  have HS1 := Lib.hid (HS0.out.step b1)
  clear b1 HS0
  obtain ⟨c0', c1', c2', d0, d1, d2⟩ := HS1.out.cells
  have HB := Lib.hid (Below.refl w1.heap.size w1)
  go_wp2_with fail
  go_region_held3 (fun w' => w'.cell? ⟨w.heap.size, 0, none⟩ = some (.string tm) ∧ w'.cell? ⟨w.heap.size, 1, none⟩ = some (.string um) ∧ w'.cell? ⟨w.heap.size, 2, none⟩ = some (.slice A0 n0 c0) ∧
      w'.cell? ⟨w.heap.size + 1, 0, none⟩ = some (.string tn) ∧ w'.cell? ⟨w.heap.size + 1, 1, none⟩ = some (.string un) ∧ w'.cell? ⟨w.heap.size + 1, 2, none⟩ = some (.slice A ps.length c))
    (first | go_keep | exact (HS1.out.step HB.out).cells)
    (first
      | (go_at_call 42; (with_reducible refine (HEN.out _).mono ?_); rintro e w3 ⟨rfl, b3⟩; have HB := Lib.hid (below_on (w := _) (by first | exact HB.out | exact HB.out.drew) b3); clear b3)
      | (go_at_call 42; (with_reducible refine (HEM.out _).mono ?_); rintro e w3 ⟨rfl, b3⟩; have HB := Lib.hid (below_on HB.out b3); clear b3))
  have HS3 := Lib.hid (HS1.out.step HB.out)
  clear HB HS1 c0' c1' c2' d0 d1 d2
  obtain ⟨_, _, _, d0, d1, d2⟩ := HS3.out.cells
  go_wp2_with fail
  refine (HCO.out _ (HP.out.below HS3.out.b)).mono ?_
  rintro e w4 ⟨A4, c4, rfl, hp4, b4⟩
  have HS4 := Lib.hid (HS3.out.step b4)
  have HP4 := Lib.hid (own_base hp4 HS3.out.b.size)
  clear hp4 b4 HS3 d0 d1 d2
  have r0 := HS4.out.r.cell 0
  have r1 := HS4.out.r.cell 1
  have r2 := HS4.out.r.cell 2
  have z0 := HS4.out.r.frozen 0
  have z1 := HS4.out.r.frozen 1
  have z2 := HS4.out.r.frozen 2
  go_wp2
  refine bodyPost_ret (v := .tuple #[mimV tn un A4 ps.length c4, .string pv]) (by simp [results, Tryz.results29, go_sem, r0, r1, r2]; done) rfl ?_
  exact ⟨A4, c4, rfl, OwnPs.set3 HP4.out HS4.out.r _ _ _, ((HS4.out.b.setCell (by show w.heap.size ≤ w.heap.size + 1 + 1; omega) _).setCell (by show w.heap.size ≤ w.heap.size + 1 + 1; omega) _).setCell (by show w.heap.size ≤ w.heap.size + 1 + 1; omega) _⟩

set_option maxHeartbeats 4000000 in
set_option maxRecDepth 100000 in
theorem step_seen (tm um : ByteArray) (A0 : Option Addr) (n0 c0 : Nat) (set : ByteArray) (nx : Mty) (A : Option Addr) (c : Nat) (w : World) (h : PsIn w A nx.ps) (hs : nx.small) (htm : tm.size ≤ 1048576) (hum : um.size ≤ 1048576)
    (_hset : set.size ≤ 1048576) (hd : eqS (essS nx.t nx.u) (essS tm um) = true) (hv : seenB nx.ps chrS = true) :
    Calls Tryz.prog 29 #[mimV tm um A0 n0 c0, .string set, mimV nx.t nx.u A nx.ps.length c] w (StepGives (stepT tm um set nx) w) := by
  rw [stepT_not hd (moreB_seen hv)]
  obtain ⟨tn, un, ps⟩ := nx
  obtain ⟨h1, h2, h3, h4⟩ := hs
  simp only at h h1 h2 h3 h4 hd hv ⊢
  have HP := Lib.hid h
  obtain ⟨w0, hw0⟩ : ∃ w0, w0 = (((w.alloc (.cells #[.string tm, .string um, .slice A0 n0 c0] 26)).alloc (.cells #[.string tn, .string un, .slice A ps.length c] 26)).alloc (.cells #[.string ⟨#[]⟩, .string ⟨#[]⟩, .slice none 0 0] 26)) := ⟨_, rfl⟩
  have HS0 := Lib.hid (show StB w tm um A0 n0 c0 tn un A ps.length c w0 from by rw [hw0]; exact StB.first _ _ _ _ _ _ _ _ _ _ _)
  have HPM := Lib.hid (fun W (hW : PsIn W A ps) => param_any tn un A ps c chrS W hW (by omega))
  have HEN := Lib.hid (fun W => show Calls Tryz.prog 42 #[mimV tn un A ps.length c] W fun e w' => e = .returned (.string (essS tn un)) ∧ Below W.heap.size W w' from essence_any tn un A ps.length c W h1 h2)
  have HEM := Lib.hid (fun W => show Calls Tryz.prog 42 #[mimV tm um A0 n0 c0] W fun e w' => e = .returned (.string (essS tm um)) ∧ Below W.heap.size W w' from essence_any tm um A0 n0 c0 W htm hum)
  have HCO := Lib.hid (fun W (hW : PsIn W A ps) => copied_any tn un A c ps W hW (by omega))
  generalize essS tn un = en at hd HEN
  generalize essS tm um = em at hd HEM
  have hd' : (en.toList == em.toList) = true := hd
  rw [hv] at HPM
  generalize parV ps chrS = pv at HPM
  clear hv
  clear h hd
  obtain ⟨c0', c1', c2', d0, d1, d2⟩ := HS0.out.cells
  rw [hw0] at c0' c1' c2' d0 d1 d2
  go_enter Tryz.func29, Tryz.ntmps29
  go_wp2_with fail
  rw [← hw0]
  clear hw0 c0' c1' c2' d0 d1 d2
  refine (HPM.out _ (HP.out.below HS0.out.b)).mono ?_
  rintro e w1 ⟨rfl, b1⟩
  have HS1 := Lib.hid (HS0.out.step b1)
  clear b1 HS0
  obtain ⟨c0', c1', c2', d0, d1, d2⟩ := HS1.out.cells
  have HB := Lib.hid (Below.refl w1.heap.size w1)
  go_wp2_with fail
  go_region_held3 (fun w' => w'.cell? ⟨w.heap.size, 0, none⟩ = some (.string tm) ∧ w'.cell? ⟨w.heap.size, 1, none⟩ = some (.string um) ∧ w'.cell? ⟨w.heap.size, 2, none⟩ = some (.slice A0 n0 c0) ∧
      w'.cell? ⟨w.heap.size + 1, 0, none⟩ = some (.string tn) ∧ w'.cell? ⟨w.heap.size + 1, 1, none⟩ = some (.string un) ∧ w'.cell? ⟨w.heap.size + 1, 2, none⟩ = some (.slice A ps.length c))
    (first | go_keep | exact (HS1.out.step HB.out).cells)
    (first
      | (go_at_call 42; (with_reducible refine (HEN.out _).mono ?_); rintro e w3 ⟨rfl, b3⟩; have HB := Lib.hid (below_on (w := _) (by first | exact HB.out | exact HB.out.drew) b3); clear b3)
      | (go_at_call 42; (with_reducible refine (HEM.out _).mono ?_); rintro e w3 ⟨rfl, b3⟩; have HB := Lib.hid (below_on HB.out b3); clear b3))
  have HS3 := Lib.hid (HS1.out.step HB.out)
  clear HB HS1 c0' c1' c2' d0 d1 d2
  obtain ⟨_, _, _, d0, d1, d2⟩ := HS3.out.cells
  go_wp2_with fail
  refine (HCO.out _ (HP.out.below HS3.out.b)).mono ?_
  rintro e w4 ⟨A4, c4, rfl, hp4, b4⟩
  have HS4 := Lib.hid (HS3.out.step b4)
  have HP4 := Lib.hid (own_base hp4 HS3.out.b.size)
  clear hp4 b4 HS3 d0 d1 d2
  have r0 := HS4.out.r.cell 0
  have r1 := HS4.out.r.cell 1
  have r2 := HS4.out.r.cell 2
  have z0 := HS4.out.r.frozen 0
  have z1 := HS4.out.r.frozen 1
  have z2 := HS4.out.r.frozen 2
  go_wp2
  refine bodyPost_ret (v := .tuple #[mimV tn un A4 ps.length c4, .string set]) (by simp [results, Tryz.results29, go_sem, r0, r1, r2]; done) rfl ?_
  exact ⟨A4, c4, rfl, OwnPs.set3 HP4.out HS4.out.r _ _ _, ((HS4.out.b.setCell (by show w.heap.size ≤ w.heap.size + 1 + 1; omega) _).setCell (by show w.heap.size ≤ w.heap.size + 1 + 1; omega) _).setCell (by show w.heap.size ≤ w.heap.size + 1 + 1; omega) _⟩

set_option maxHeartbeats 4000000 in
set_option maxRecDepth 100000 in
theorem step_none (tm um : ByteArray) (A0 : Option Addr) (n0 c0 : Nat) (set : ByteArray) (nx : Mty) (A : Option Addr) (c : Nat) (w : World) (h : PsIn w A nx.ps) (hs : nx.small) (htm : tm.size ≤ 1048576) (hum : um.size ≤ 1048576)
    (_hset : set.size ≤ 1048576) (hd : eqS (essS nx.t nx.u) (essS tm um) = true) (hv : seenB nx.ps chrS = false) (he : (set.toList == []) = true) :
    Calls Tryz.prog 29 #[mimV tm um A0 n0 c0, .string set, mimV nx.t nx.u A nx.ps.length c] w (StepGives (stepT tm um set nx) w) := by
  rw [stepT_not hd (moreB_none he)]
  obtain ⟨tn, un, ps⟩ := nx
  obtain ⟨h1, h2, h3, h4⟩ := hs
  simp only at h h1 h2 h3 h4 hd hv ⊢
  have HP := Lib.hid h
  obtain ⟨w0, hw0⟩ : ∃ w0, w0 = (((w.alloc (.cells #[.string tm, .string um, .slice A0 n0 c0] 26)).alloc (.cells #[.string tn, .string un, .slice A ps.length c] 26)).alloc (.cells #[.string ⟨#[]⟩, .string ⟨#[]⟩, .slice none 0 0] 26)) := ⟨_, rfl⟩
  have HS0 := Lib.hid (show StB w tm um A0 n0 c0 tn un A ps.length c w0 from by rw [hw0]; exact StB.first _ _ _ _ _ _ _ _ _ _ _)
  have HPM := Lib.hid (fun W (hW : PsIn W A ps) => param_any tn un A ps c chrS W hW (by omega))
  have HEN := Lib.hid (fun W => show Calls Tryz.prog 42 #[mimV tn un A ps.length c] W fun e w' => e = .returned (.string (essS tn un)) ∧ Below W.heap.size W w' from essence_any tn un A ps.length c W h1 h2)
  have HEM := Lib.hid (fun W => show Calls Tryz.prog 42 #[mimV tm um A0 n0 c0] W fun e w' => e = .returned (.string (essS tm um)) ∧ Below W.heap.size W w' from essence_any tm um A0 n0 c0 W htm hum)
  have HCO := Lib.hid (fun W (hW : PsIn W A ps) => copied_any tn un A c ps W hW (by omega))
  generalize essS tn un = en at hd HEN
  generalize essS tm um = em at hd HEM
  have hd' : (en.toList == em.toList) = true := hd
  rw [hv] at HPM
  generalize parV ps chrS = pv at HPM
  clear hv
  clear h hd
  obtain ⟨c0', c1', c2', d0, d1, d2⟩ := HS0.out.cells
  rw [hw0] at c0' c1' c2' d0 d1 d2
  go_enter Tryz.func29, Tryz.ntmps29
  go_wp2_with fail
  rw [← hw0]
  clear hw0 c0' c1' c2' d0 d1 d2
  refine (HPM.out _ (HP.out.below HS0.out.b)).mono ?_
  rintro e w1 ⟨rfl, b1⟩
  have HS1 := Lib.hid (HS0.out.step b1)
  clear b1 HS0
  obtain ⟨c0', c1', c2', d0, d1, d2⟩ := HS1.out.cells
  have HB := Lib.hid (Below.refl w1.heap.size w1)
  go_wp2_with fail
  go_region_held3 (fun w' => w'.cell? ⟨w.heap.size, 0, none⟩ = some (.string tm) ∧ w'.cell? ⟨w.heap.size, 1, none⟩ = some (.string um) ∧ w'.cell? ⟨w.heap.size, 2, none⟩ = some (.slice A0 n0 c0) ∧
      w'.cell? ⟨w.heap.size + 1, 0, none⟩ = some (.string tn) ∧ w'.cell? ⟨w.heap.size + 1, 1, none⟩ = some (.string un) ∧ w'.cell? ⟨w.heap.size + 1, 2, none⟩ = some (.slice A ps.length c))
    (first | go_keep | exact (HS1.out.step HB.out).cells)
    (first
      | (go_at_call 42; (with_reducible refine (HEN.out _).mono ?_); rintro e w3 ⟨rfl, b3⟩; have HB := Lib.hid (below_on (w := _) (by first | exact HB.out | exact HB.out.drew) b3); clear b3)
      | (go_at_call 42; (with_reducible refine (HEM.out _).mono ?_); rintro e w3 ⟨rfl, b3⟩; have HB := Lib.hid (below_on HB.out b3); clear b3))
  have HS3 := Lib.hid (HS1.out.step HB.out)
  clear HB HS1 c0' c1' c2' d0 d1 d2
  obtain ⟨_, _, _, d0, d1, d2⟩ := HS3.out.cells
  go_wp2_with fail
  refine (HCO.out _ (HP.out.below HS3.out.b)).mono ?_
  rintro e w4 ⟨A4, c4, rfl, hp4, b4⟩
  have HS4 := Lib.hid (HS3.out.step b4)
  have HP4 := Lib.hid (own_base hp4 HS3.out.b.size)
  clear hp4 b4 HS3 d0 d1 d2
  have r0 := HS4.out.r.cell 0
  have r1 := HS4.out.r.cell 1
  have r2 := HS4.out.r.cell 2
  have z0 := HS4.out.r.frozen 0
  have z1 := HS4.out.r.frozen 1
  have z2 := HS4.out.r.frozen 2
  go_wp2
  refine bodyPost_ret (v := .tuple #[mimV tn un A4 ps.length c4, .string set]) (by simp [results, Tryz.results29, go_sem, r0, r1, r2]; done) rfl ?_
  exact ⟨A4, c4, rfl, OwnPs.set3 HP4.out HS4.out.r _ _ _, ((HS4.out.b.setCell (by show w.heap.size ≤ w.heap.size + 1 + 1; omega) _).setCell (by show w.heap.size ≤ w.heap.size + 1 + 1; omega) _).setCell (by show w.heap.size ≤ w.heap.size + 1 + 1; omega) _⟩

set_option maxHeartbeats 4000000 in
set_option maxRecDepth 100000 in
theorem step_bad (tm um : ByteArray) (A0 : Option Addr) (n0 c0 : Nat) (set : ByteArray) (nx : Mty) (A : Option Addr) (c : Nat) (w : World) (h : PsIn w A nx.ps) (hs : nx.small) (htm : tm.size ≤ 1048576) (hum : um.size ≤ 1048576)
    (hset : set.size ≤ 1048576) (hd : eqS (essS nx.t nx.u) (essS tm um) = true) (hv : seenB nx.ps chrS = false) (he : (set.toList == []) = false) (hwo : withOk nx.t nx.u nx.ps ⟨chrS, set⟩ = false) :
    Calls Tryz.prog 29 #[mimV tm um A0 n0 c0, .string set, mimV nx.t nx.u A nx.ps.length c] w (StepGives (stepT tm um set nx) w) := by
  rw [stepT_not hd ((moreB_with hv he).trans hwo)]
  obtain ⟨tn, un, ps⟩ := nx
  obtain ⟨h1, h2, h3, h4⟩ := hs
  simp only at h h1 h2 h3 h4 hd hv hwo ⊢
  have HP := Lib.hid h
  obtain ⟨w0, hw0⟩ : ∃ w0, w0 = (((w.alloc (.cells #[.string tm, .string um, .slice A0 n0 c0] 26)).alloc (.cells #[.string tn, .string un, .slice A ps.length c] 26)).alloc (.cells #[.string ⟨#[]⟩, .string ⟨#[]⟩, .slice none 0 0] 26)) := ⟨_, rfl⟩
  have HS0 := Lib.hid (show StB w tm um A0 n0 c0 tn un A ps.length c w0 from by rw [hw0]; exact StB.first _ _ _ _ _ _ _ _ _ _ _)
  have HPM := Lib.hid (fun W (hW : PsIn W A ps) => param_any tn un A ps c chrS W hW (by omega))
  have HEN := Lib.hid (fun W => show Calls Tryz.prog 42 #[mimV tn un A ps.length c] W fun e w' => e = .returned (.string (essS tn un)) ∧ Below W.heap.size W w' from essence_any tn un A ps.length c W h1 h2)
  have HEM := Lib.hid (fun W => show Calls Tryz.prog 42 #[mimV tm um A0 n0 c0] W fun e w' => e = .returned (.string (essS tm um)) ∧ Below W.heap.size W w' from essence_any tm um A0 n0 c0 W htm hum)
  have HCO := Lib.hid (fun W (hW : PsIn W A ps) => copied_any tn un A c ps W hW (by omega))
  generalize essS tn un = en at hd HEN
  generalize essS tm um = em at hd HEM
  have hd' : (en.toList == em.toList) = true := hd
  have HWI := Lib.hid (fun W (hW : PsIn W A ps) => with_own tn un A ps c ⟨chrS, set⟩ W ⟨hW, h3, h1, h2, by omega⟩ (by show 7 ≤ _; omega) hset)
  simp only at HWI
  rw [hv] at HPM
  generalize parV ps chrS = pv at HPM
  clear hv
  clear h hd
  obtain ⟨c0', c1', c2', d0, d1, d2⟩ := HS0.out.cells
  rw [hw0] at c0' c1' c2' d0 d1 d2
  go_enter Tryz.func29, Tryz.ntmps29
  go_wp2_with fail
  rw [← hw0]
  clear hw0 c0' c1' c2' d0 d1 d2
  refine (HPM.out _ (HP.out.below HS0.out.b)).mono ?_
  rintro e w1 ⟨rfl, b1⟩
  have HS1 := Lib.hid (HS0.out.step b1)
  clear b1 HS0
  obtain ⟨c0', c1', c2', d0, d1, d2⟩ := HS1.out.cells
  have HB := Lib.hid (Below.refl w1.heap.size w1)
  go_wp2_with fail
  go_region_held3 (fun w' => w'.cell? ⟨w.heap.size, 0, none⟩ = some (.string tm) ∧ w'.cell? ⟨w.heap.size, 1, none⟩ = some (.string um) ∧ w'.cell? ⟨w.heap.size, 2, none⟩ = some (.slice A0 n0 c0) ∧
      w'.cell? ⟨w.heap.size + 1, 0, none⟩ = some (.string tn) ∧ w'.cell? ⟨w.heap.size + 1, 1, none⟩ = some (.string un) ∧ w'.cell? ⟨w.heap.size + 1, 2, none⟩ = some (.slice A ps.length c))
    (first | go_keep | exact (HS1.out.step HB.out).cells)
    (first
      | (go_at_call 42; (with_reducible refine (HEN.out _).mono ?_); rintro e w3 ⟨rfl, b3⟩; have HB := Lib.hid (below_on (w := _) (by first | exact HB.out | exact HB.out.drew) b3); clear b3)
      | (go_at_call 42; (with_reducible refine (HEM.out _).mono ?_); rintro e w3 ⟨rfl, b3⟩; have HB := Lib.hid (below_on HB.out b3); clear b3))
  have HS3 := Lib.hid (HS1.out.step HB.out)
  clear HB HS1 c0' c1' c2' d0 d1 d2
  obtain ⟨_, _, _, d0, d1, d2⟩ := HS3.out.cells
  go_wp2_with fail
  refine (HWI.out _ (HP.out.below HS3.out.b)).mono ?_
  rintro e w4 ⟨hw1, _, _, b4⟩
  obtain rfl := hw1 hwo
  clear hw1
  have b5 : Below w4.heap.size w4 (w4.alloc (.cells #[.string ⟨#[]⟩, .string ⟨#[]⟩, .slice none 0 0] 26)) := (Below.refl _ _).alloc (Nat.le_refl _) _
  have HS5 := Lib.hid ((HS3.out.step b4).step b5)
  clear b4 b5 HS3 d0 d1 d2
  obtain ⟨w5, hw5⟩ : ∃ w5, w5 = w4.alloc (.cells #[.string ⟨#[]⟩, .string ⟨#[]⟩, .slice none 0 0] 26) := ⟨_, rfl⟩
  rw [← hw5] at HS5
  obtain ⟨_, _, _, d0, d1, d2⟩ := HS5.out.cells
  rw [hw5] at d0 d1 d2
  go_wp2_with fail
  rw [← hw5]
  clear hw5
  refine (HCO.out _ (HP.out.below HS5.out.b)).mono ?_
  rintro e w6 ⟨A4, c4, rfl, hp4, b6⟩
  have HS4 := Lib.hid (HS5.out.step b6)
  have HP4 := Lib.hid (own_base hp4 HS5.out.b.size)
  clear hp4 b6 HS5 d0 d1 d2
  have r0 := HS4.out.r.cell 0
  have r1 := HS4.out.r.cell 1
  have r2 := HS4.out.r.cell 2
  have z0 := HS4.out.r.frozen 0
  have z1 := HS4.out.r.frozen 1
  have z2 := HS4.out.r.frozen 2
  go_wp2
  refine bodyPost_ret (v := .tuple #[mimV tn un A4 ps.length c4, .string set]) (by simp [results, Tryz.results29, go_sem, r0, r1, r2]; done) rfl ?_
  exact ⟨A4, c4, rfl, OwnPs.set3 HP4.out HS4.out.r _ _ _, ((HS4.out.b.setCell (by show w.heap.size ≤ w.heap.size + 1 + 1; omega) _).setCell (by show w.heap.size ≤ w.heap.size + 1 + 1; omega) _).setCell (by show w.heap.size ≤ w.heap.size + 1 + 1; omega) _⟩

set_option maxHeartbeats 4000000 in
set_option maxRecDepth 100000 in
theorem step_good (tm um : ByteArray) (A0 : Option Addr) (n0 c0 : Nat) (set : ByteArray) (nx : Mty) (A : Option Addr) (c : Nat) (w : World) (h : PsIn w A nx.ps) (hs : nx.small) (htm : tm.size ≤ 1048576) (hum : um.size ≤ 1048576)
    (hset : set.size ≤ 1048576) (hd : eqS (essS nx.t nx.u) (essS tm um) = true) (hv : seenB nx.ps chrS = false) (he : (set.toList == []) = false) (hwo : withOk nx.t nx.u nx.ps ⟨chrS, set⟩ = true) :
    Calls Tryz.prog 29 #[mimV tm um A0 n0 c0, .string set, mimV nx.t nx.u A nx.ps.length c] w (StepGives (stepT tm um set nx) w) := by
  rw [stepT_more hd ((moreB_with hv he).trans hwo)]
  obtain ⟨tn, un, ps⟩ := nx
  obtain ⟨h1, h2, h3, h4⟩ := hs
  simp only at h h1 h2 h3 h4 hd hv hwo ⊢
  have HP := Lib.hid h
  obtain ⟨w0, hw0⟩ : ∃ w0, w0 = (((w.alloc (.cells #[.string tm, .string um, .slice A0 n0 c0] 26)).alloc (.cells #[.string tn, .string un, .slice A ps.length c] 26)).alloc (.cells #[.string ⟨#[]⟩, .string ⟨#[]⟩, .slice none 0 0] 26)) := ⟨_, rfl⟩
  have HS0 := Lib.hid (show StB w tm um A0 n0 c0 tn un A ps.length c w0 from by rw [hw0]; exact StB.first _ _ _ _ _ _ _ _ _ _ _)
  have HPM := Lib.hid (fun W (hW : PsIn W A ps) => param_any tn un A ps c chrS W hW (by omega))
  have HEN := Lib.hid (fun W => show Calls Tryz.prog 42 #[mimV tn un A ps.length c] W fun e w' => e = .returned (.string (essS tn un)) ∧ Below W.heap.size W w' from essence_any tn un A ps.length c W h1 h2)
  have HEM := Lib.hid (fun W => show Calls Tryz.prog 42 #[mimV tm um A0 n0 c0] W fun e w' => e = .returned (.string (essS tm um)) ∧ Below W.heap.size W w' from essence_any tm um A0 n0 c0 W htm hum)
  have HCO := Lib.hid (fun W (hW : PsIn W A ps) => copied_any tn un A c ps W hW (by omega))
  generalize essS tn un = en at hd HEN
  generalize essS tm um = em at hd HEM
  have hd' : (en.toList == em.toList) = true := hd
  have HWI := Lib.hid (fun W (hW : PsIn W A ps) => with_own tn un A ps c ⟨chrS, set⟩ W ⟨hW, h3, h1, h2, by omega⟩ (by show 7 ≤ _; omega) hset)
  simp only at HWI
  rw [hv] at HPM
  generalize parV ps chrS = pv at HPM
  clear h hd
  obtain ⟨c0', c1', c2', d0, d1, d2⟩ := HS0.out.cells
  rw [hw0] at c0' c1' c2' d0 d1 d2
  go_enter Tryz.func29, Tryz.ntmps29
  go_wp2_with fail
  rw [← hw0]
  clear hw0 c0' c1' c2' d0 d1 d2
  refine (HPM.out _ (HP.out.below HS0.out.b)).mono ?_
  rintro e w1 ⟨rfl, b1⟩
  have HS1 := Lib.hid (HS0.out.step b1)
  clear b1 HS0
  obtain ⟨c0', c1', c2', d0, d1, d2⟩ := HS1.out.cells
  have HB := Lib.hid (Below.refl w1.heap.size w1)
  go_wp2_with fail
  go_region_held3 (fun w' => w'.cell? ⟨w.heap.size, 0, none⟩ = some (.string tm) ∧ w'.cell? ⟨w.heap.size, 1, none⟩ = some (.string um) ∧ w'.cell? ⟨w.heap.size, 2, none⟩ = some (.slice A0 n0 c0) ∧
      w'.cell? ⟨w.heap.size + 1, 0, none⟩ = some (.string tn) ∧ w'.cell? ⟨w.heap.size + 1, 1, none⟩ = some (.string un) ∧ w'.cell? ⟨w.heap.size + 1, 2, none⟩ = some (.slice A ps.length c))
    (first | go_keep | exact (HS1.out.step HB.out).cells)
    (first
      | (go_at_call 42; (with_reducible refine (HEN.out _).mono ?_); rintro e w3 ⟨rfl, b3⟩; have HB := Lib.hid (below_on (w := _) (by first | exact HB.out | exact HB.out.drew) b3); clear b3)
      | (go_at_call 42; (with_reducible refine (HEM.out _).mono ?_); rintro e w3 ⟨rfl, b3⟩; have HB := Lib.hid (below_on HB.out b3); clear b3))
  have HS3 := Lib.hid (HS1.out.step HB.out)
  clear HB HS1 c0' c1' c2' d0 d1 d2
  obtain ⟨_, _, _, d0, d1, d2⟩ := HS3.out.cells
  go_wp2_with fail
  refine (HWI.out _ (HP.out.below HS3.out.b)).mono ?_
  rintro e w4 ⟨_, _, hw3, b4⟩
  obtain ⟨A4, c4, rfl, hp4⟩ := hw3 hwo hv
  have HLN := Lib.hid (show ∃ n, n = (ps ++ [(⟨chrS, set⟩ : Prm)]).length from ⟨_, rfl⟩)
  obtain ⟨n, hn⟩ := HLN.out
  rw [← hn]
  have HN := Lib.hid hn
  have b5 : Below w4.heap.size w4 (w4.alloc (.cells #[.string tn, .string un, .slice A4 n c4] 26)) := (Below.refl _ _).alloc (Nat.le_refl _) _
  have HS4 := Lib.hid ((HS3.out.step b4).step b5)
  have HP4 := Lib.hid (own_base (own_mv hp4 (Mv.of_below b5 []) (by simp)) HS3.out.b.size)
  have HX4 := Lib.hid (Blk.new w4 26 #[.string tn, .string un, .slice A4 n c4])
  clear hw3 b4 b5 HS3 d0 d1 d2 HLN hn hp4
  obtain ⟨w5, hw5⟩ : ∃ w5, w5 = w4.alloc (.cells #[.string tn, .string un, .slice A4 n c4] 26) := ⟨_, rfl⟩
  rw [← hw5] at HS4 HP4 HX4
  have r0 := HS4.out.r.cell 0
  have r1 := HS4.out.r.cell 1
  have r2 := HS4.out.r.cell 2
  have z0 := HS4.out.r.frozen 0
  have z1 := HS4.out.r.frozen 1
  have z2 := HS4.out.r.frozen 2
  have x0 := HX4.out.cell 0
  have x1 := HX4.out.cell 1
  have x2 := HX4.out.cell 2
  go_upto_region 7 with fail
  rw [← hw5]
  clear hw5
  go_wp2
  refine bodyPost_ret (v := .tuple #[mimV tn un A4 n c4, .string set]) (by simp [results, Tryz.results29, go_sem, r0, r1, r2]; done) rfl ?_
  exact ⟨A4, c4, by rw [HN.out], OwnPs.set3 HP4.out HS4.out.r _ _ _, ((HS4.out.b.setCell (by show w.heap.size ≤ w.heap.size + 1 + 1; omega) _).setCell (by show w.heap.size ≤ w.heap.size + 1 + 1; omega) _).setCell (by show w.heap.size ≤ w.heap.size + 1 + 1; omega) _⟩

theorem step_any (tm um : ByteArray) (A0 : Option Addr) (n0 c0 : Nat) (set : ByteArray) (nx : Mty) (A : Option Addr) (c : Nat) (w : World) (h : PsIn w A nx.ps) (hs : nx.small) (htm : tm.size ≤ 1048576) (hum : um.size ≤ 1048576) (hset : set.size ≤ 1048576) :
    Calls Tryz.prog 29 #[mimV tm um A0 n0 c0, .string set, mimV nx.t nx.u A nx.ps.length c] w (StepGives (stepT tm um set nx) w) := by
  cases hd : eqS (essS nx.t nx.u) (essS tm um)
  · exact step_far tm um A0 n0 c0 set nx A c w h hs htm hum hd
  · cases hv : seenB nx.ps chrS
    · cases he : (set.toList == [])
      · cases hwo : withOk nx.t nx.u nx.ps ⟨chrS, set⟩
        · exact step_bad tm um A0 n0 c0 set nx A c w h hs htm hum hset hd hv he hwo
        · exact step_good tm um A0 n0 c0 set nx A c w h hs htm hum hset hd hv he hwo
      · exact step_none tm um A0 n0 c0 set nx A c w h hs htm hum hset hd hv he
    · exact step_seen tm um A0 n0 c0 set nx A c w h hs htm hum hset hd hv

end Go.Proofs.YtighgoefmccagaaGreat
namespace Go.Proofs.YtighgoefmccagaaGreat
open Go.RowKit

/-- These types lie behind A. -/
def TyIn (w : World) (A : Option Addr) (R : List Trw) : Prop := ∀ i (h : i < R.length), ∃ g, A = some ⟨g, 0, none⟩ ∧ g < w.heap.size ∧ w.cell? ⟨g, i * 3, none⟩ = some (.string R[i].m.t) ∧ w.cell? ⟨g, i * 3 + 1, none⟩ = some (.string R[i].m.u) ∧ w.cell? ⟨g, i * 3 + 2, none⟩ = some (.slice R[i].A R[i].m.ps.length R[i].c)
theorem TyIn.below {w w' : World} {A : Option Addr} {R : List Trw} (h : TyIn w A R) (hb : Below w.heap.size w w') : TyIn w' A R := fun i hi => by
  obtain ⟨g, e, hl, c0, c1, c2⟩ := h i hi
  exact ⟨g, e, Nat.lt_of_lt_of_le hl hb.size, (hb.cell (p := ⟨g, i * 3, none⟩) hl).trans c0, (hb.cell (p := ⟨g, i * 3 + 1, none⟩) hl).trans c1, (hb.cell (p := ⟨g, i * 3 + 2, none⟩) hl).trans c2⟩
theorem TyIn.of_own {w : World} {base : Nat} {v : Value} {R : List Trw} (h : w.ownsRow base 26 3 v R.length (trwL R)) : ∃ A c, v = .slice A R.length c ∧ TyIn w A R := by
  rcases h.2 with ⟨hv, hn⟩ | ⟨g, cap, cur, hv, hb, hg, hc, _⟩
  · exact ⟨none, 0, by rw [hv, hn], fun i hi => absurd hi (by omega)⟩
  · refine ⟨_, cap, hv, fun i hi => ?_⟩
    subst hv
    have := trwL_at R i hi
    exact ⟨g, rfl, (Array.getElem?_eq_some_iff.1 hg).1, (h.cellAt _ (by omega)).trans this.1, (h.cellAt _ (by omega)).trans this.2.1, (h.cellAt _ (by omega)).trans this.2.2⟩

/-- What is small enough. -/
def Mty.ok (m : Mty) : Prop := m.t.size ≤ 1048576 ∧ m.u.size ≤ 1048576 ∧ AllIn 1048576 m.ps ∧ m.ps.length ≤ 1048576
theorem stepT_ok {t u set : ByteArray} {n : Mty} (h : n.small) (hs : set.size ≤ 1048576) : (stepT t u set n).1.ok ∧ (stepT t u set n).2.size ≤ 1048576 := by
  have h1 := stepT_len t u set n
  refine ⟨⟨by rw [stepT_t]; exact h.1, by rw [stepT_u]; exact h.2.1, stepT_all h.2.2.1 hs (by omega), ?_⟩, stepT_set h.2.2.1 hs⟩
  have := h.2.2.2
  omega
theorem extT_oks (l : List Mty) (h : ∀ m ∈ l, m.small) : ∀ k, (extT (l.take k)).1.ok ∧ (extT (l.take k)).2.size ≤ 1048576
  | 0 => ⟨⟨Nat.zero_le _, Nat.zero_le _, fun (p : Prm) (hp : p ∈ []) => absurd hp (by simp), Nat.zero_le _⟩, Nat.zero_le _⟩
  | k + 1 => by
    have ih := extT_oks l h k
    rcases Nat.lt_or_ge k l.length with hk | hk
    · rw [extT_step hk]
      exact stepT_ok (h _ (List.getElem_mem hk)) ih.2
    · rw [List.take_of_length_le (by omega)]
      rw [List.take_of_length_le hk] at ih
      exact ih
theorem extT_ok (l : List Mty) (h : ∀ m ∈ l, m.small) : (extT l).1.ok ∧ (extT l).2.size ≤ 1048576 := by
  have := extT_oks l h l.length
  rwa [List.take_length] at this

/-- What a call of Extract gives. -/
def ExtGives (m : Mty) (code : Int) (base : Nat) (w : World) (e : Ending) (w' : World) : Prop := ∃ A c, e = .returned (.tuple #[mimV m.t m.u A m.ps.length c, .int .i64 code]) ∧ OwnPs w' base A c m.ps ∧ m.ok ∧ Below w.heap.size w w'
def codeOf (Z : List Mty) : Int := if Z.length = 0 then 4 else 0
theorem rows_small {w : World} {base : Nat} {R : List Trw} (h : Rows3 w base R) : ∀ m ∈ R.map Trw.m, m.small := fun m hm => by
  obtain ⟨r, hr, rfl⟩ := List.mem_map.1 hm
  exact (h r hr).2

theorem tys_len {xs : List ByteArray} (hn : xs.length ≤ 700) (hx : ∀ y ∈ xs, y.size ≤ 1000) : (allT (valsL xs)).length ≤ 701401 := by
  have hj := joinS_size hx
  have hnb : xs.length * (1000 + 2) ≤ 700 * 1002 := Nat.mul_le_mul hn (Nat.le_refl _)
  exact Nat.le_trans (allT_len _) (valsL_sizes (n := 701400) (by omega)).2

set_option maxHeartbeats 4000000 in
set_option maxRecDepth 100000 in
theorem extract_any (A : Option Addr) (c : Nat) (xs : List ByteArray) (w : World) (h : TxIn w A xs) (hn : xs.length ≤ 700) (hx : ∀ y ∈ xs, y.size ≤ 1000) (hc : xs.length ≤ c) :
    Calls Tryz.prog 19 #[.slice A xs.length c] w (ExtGives (extT (allT (valsL xs))).1 (codeOf (allT (valsL xs))) w.heap.size w) := by
  obtain ⟨w0, hw0⟩ : ∃ w0, w0 = w.alloc (.cells #[.string ⟨#[]⟩, .string ⟨#[]⟩, .slice none 0 0] 26) := ⟨_, rfl⟩
  have HB0 := Lib.hid (show Below w.heap.size w w0 from by rw [hw0]; exact (Below.refl _ _).alloc (Nat.le_refl _) _)
  have HR0 := Lib.hid (show Blk w0 w.heap.size 26 #[.string ⟨#[]⟩, .string ⟨#[]⟩, .slice none 0 0] from by rw [hw0]; exact Blk.new _ _ _)
  have HA := Lib.hid (all_any A c xs w0 (h.below HB0.out) hn hx hc)
  have hzl := tys_len hn hx
  obtain ⟨Z, hZ⟩ : ∃ Z, Z = allT (valsL xs) := ⟨_, rfl⟩
  rw [← hZ] at HA hzl ⊢
  obtain ⟨E, hE⟩ : ∃ E, E = (extT Z).1 := ⟨_, rfl⟩
  obtain ⟨code, hco⟩ : ∃ code, code = codeOf Z := ⟨_, rfl⟩
  rw [← hE, ← hco]
  have HE := Lib.hid hE
  have HCO := Lib.hid hco
  clear hE hco
  obtain ⟨ft, fu, fp⟩ := E
  clear h hx hZ
  go_enter Tryz.func19, Tryz.ntmps19
  go_wp2_with fail
  rw [← hw0]
  clear hw0
  refine HA.out.mono ?_
  rintro e w1 ⟨v, R, rfl, hmap, ho, hr, b1⟩
  obtain ⟨B, d, rfl, hti⟩ := TyIn.of_own ho
  have HTI := Lib.hid hti
  have HRS := Lib.hid (hr.base HB0.out.size)
  have HR1 := Lib.hid (HR0.out.below b1 HR0.out.lt)
  have HB1 := Lib.hid (below_on HB0.out b1)
  have HMP := Lib.hid hmap
  have hl1 : w.heap.size < w1.heap.size := HR1.out.lt
  have HLN := Lib.hid (show R.length = Z.length from by rw [← hmap, List.length_map])
  have hrl : R.length ≤ 701401 := by have := HLN.out; omega
  have HSM := Lib.hid (show ∀ m ∈ Z, m.small from by rw [← hmap]; exact rows_small hr)
  have HEX := Lib.hid (extT_ok Z HSM.out)
  clear hti hr b1 ho hmap HA HR0 HB0
  by_cases h0 : R.length = 0
  · have d0 : ((R.length : Int) == 0) = true := beq_iff_eq.2 (by omega)
    have hz0 : Z = [] := List.eq_nil_of_length_eq_zero (by have := HLN.out; omega)
    subst hz0
    have hE0 : ft = ⟨#[]⟩ ∧ fu = ⟨#[]⟩ ∧ fp = [] ∧ code = 4 := by
      have h1 := HE.out
      have h2 := HCO.out
      injection h1 with h3 h4 h5
      exact ⟨h3, h4, h5, h2⟩
    obtain ⟨rfl, rfl, rfl, rfl⟩ := hE0
    have r0 := HR1.out.cell 0
    have r1 := HR1.out.cell 1
    have r2 := HR1.out.cell 2
    have z0 := HR1.out.frozen 0
    have z1 := HR1.out.frozen 1
    have z2 := HR1.out.frozen 2
    go_wp2
    refine bodyPost_ret (v := .tuple #[mimV ⟨#[]⟩ ⟨#[]⟩ none 0 0, .int .i64 4]) (by simp [results, Tryz.results19, go_sem, r0, r1, r2]; done) rfl ?_
    exact ⟨none, 0, rfl, World.ownsRow_nil _ _ _ _, by rw [HE.out]; exact HEX.out.1, ((HB1.out.setCell (by exact Nat.le_refl _) _).setCell (by exact Nat.le_refl _) _).setCell (by exact Nat.le_refl _) _⟩
  · have d0 : ((R.length : Int) == 0) = false := beq_eq_false_iff_ne.2 (by omega)
    have HM1 := Lib.hid (Blk.new w1 26 #[.string ⟨#[]⟩, .string ⟨#[]⟩, .slice none 0 0])
    have HBA := Lib.hid (show Below w1.heap.size w1 (w1.alloc (.cells #[.string ⟨#[]⟩, .string ⟨#[]⟩, .slice none 0 0] 26)) from (Below.refl _ _).alloc (Nat.le_refl _) _)
    go_wp2
    go_loopw [6, 17] (fun s i wr => ∃ (k : Nat) (A' : Option Addr) (c' : Nat), k ≤ R.length ∧ i = .int .i64 k ∧ s = .string (extT (Z.take k)).2 ∧ Blk wr w1.heap.size 26 #[.string (extT (Z.take k)).1.t, .string (extT (Z.take k)).1.u, .slice A' (extT (Z.take k)).1.ps.length c'] ∧ OwnPs wr w.heap.size A' c' (extT (Z.take k)).1.ps ∧ Below w1.heap.size w1 wr) (fun _ i _ => R.length - (intOf i).toNat)
    case atStart => exact ⟨0, none, 0, Nat.zero_le _, rfl, rfl, HM1.out, World.ownsRow_nil _ _ _ _, HBA.out⟩
    case round =>
      obtain ⟨k, A', c', hk, rfl, rfl, hbm, hps, hw⟩ := hrel
      have HBM := Lib.hid hbm
      have HPS := Lib.hid hps
      have HW := Lib.hid hw
      clear hbm hps hw HM1 HBA
      by_cases hlt : k < R.length
      · obtain ⟨g, rfl, hg, e0, e1, e2⟩ := HTI.out k hlt
        have c0 := (HW.out.cell (p := ⟨g, k * 3, none⟩) hg).trans e0
        have c1 := (HW.out.cell (p := ⟨g, k * 3 + 1, none⟩) hg).trans e1
        have c2 := (HW.out.cell (p := ⟨g, k * 3 + 2, none⟩) hg).trans e2
        clear e0 e1 e2
        have HXT := Lib.hid (show extT (Z.take (k + 1)) = stepT (extT (Z.take k)).1.t (extT (Z.take k)).1.u (extT (Z.take k)).2 R[k].m from by
          rw [extT_step (by have := HLN.out; omega)]
          congr 1
          have := HMP.out
          subst this
          simp)
        obtain ⟨hro, hrs⟩ := HRS.out R[k] (List.getElem_mem hlt)
        have HRO := Lib.hid (PsIn.below (OwnPs.ps hro) (HW.out.mono (Nat.le_refl _)))
        have HOK := extT_ok (Z.take k) (fun m hm => HSM.out m (List.mem_of_mem_take hm))
        have hst := stepT_ok (t := (extT (Z.take k)).1.t) (u := (extT (Z.take k)).1.u) hrs HOK.2
        generalize R[k] = r at *
        generalize extT (Z.take k) = E at *
        obtain ⟨⟨mt, mu, mp⟩, st⟩ := E
        obtain ⟨⟨nt, nu, np⟩, rA, rc⟩ := r
        obtain ⟨hm1, hm2, _, _⟩ := HOK.1
        have hm3 := HOK.2
        simp only at hm1 hm2 hm3 c0 c1 c2 ⊢
        have HHM1 := Lib.hid hm1
        have HHM2 := Lib.hid hm2
        have HHM3 := Lib.hid hm3
        have HRSM := Lib.hid hrs
        clear HOK hst hro hm1 hm2 hm3 hrs
        have b0 := HBM.out.cell 0
        have b1 := HBM.out.cell 1
        have b2 := HBM.out.cell 2
        have hmb := HBM.out.lt
        have hgl : g < wr.heap.size := Nat.lt_of_lt_of_le hg HW.out.size
        obtain ⟨w2, hw2⟩ : ∃ w2, w2 = wr.alloc (.cells #[.string nt, .string nu, .slice rA np.length rc] 26) := ⟨_, rfl⟩
        have b2' : Below wr.heap.size wr w2 := by rw [hw2]; exact (Below.refl _ _).alloc (Nat.le_refl _) _
        have HST := Lib.hid (step_any mt mu A' mp.length c' st ⟨nt, nu, np⟩ rA rc w2 (HRO.out.below b2') HRSM.out HHM1.out HHM2.out HHM3.out)
        have HBM2 := Lib.hid (HBM.out.below b2' hmb)
        have HW2 := Lib.hid (below_on HW.out b2')
        go_wp2_with fail
        rw [← hw2]
        clear hw2 b0 b1 b2 c0 c1 c2 HRO HBM hmb HW HPS b2'
        refine HST.out.mono ?_
        generalize hsT : stepT mt mu st ⟨nt, nu, np⟩ = q at HXT ⊢
        obtain ⟨⟨qt, qu, qp⟩, qs⟩ := q
        rintro e w3 ⟨A3, c3, rfl, ho3, b3⟩
        simp only at ho3
        have HBM3 := Lib.hid (HBM2.out.below b3 HBM2.out.lt)
        have HW3 := Lib.hid (below_on HW2.out b3)
        have hws : w.heap.size ≤ w2.heap.size := by have := HW2.out.size; omega
        have HO3 := Lib.hid (own_base ho3 hws)
        clear ho3 b3 HBM2 HW2 HST hsT
        have b0 := HBM3.out.cell 0
        have b1 := HBM3.out.cell 1
        have b2 := HBM3.out.cell 2
        have z0 := HBM3.out.frozen 0
        have z1 := HBM3.out.frozen 1
        have z2 := HBM3.out.frozen 2
        have HF1 := Lib.hid (((HBM3.out.set_ 0 (.string qt)).set_ 1 (.string qu)).set_ 2 (.slice A3 qp.length c3))
        have HF2 := Lib.hid (OwnPs.set3 HO3.out HBM3.out (.string qt) (.string qu) (.slice A3 qp.length c3))
        have HF3 := Lib.hid (((HW3.out.setCell (p := ⟨w1.heap.size, 0, none⟩) (Nat.le_refl _) (.string qt)).setCell (p := ⟨w1.heap.size, 1, none⟩) (Nat.le_refl _) (.string qu)).setCell (p := ⟨w1.heap.size, 2, none⟩) (Nat.le_refl _) (.slice A3 qp.length c3))
        clear HBM3 HW3 HO3
        go_wp2
        go_roundw
        case rel => exact ⟨k + 1, A3, c3, by omega, by go_num, by rw [HXT.out], by rw [HXT.out]; exact HF1.out, by rw [HXT.out]; exact HF2.out, HF3.out⟩
        case measure => simp [intOf]; omega
      · obtain rfl : k = R.length := by omega
        have htk : Z.take R.length = Z := List.take_of_length_le (by have := HLN.out; omega)
        rw [htk] at HBM HPS
        have HR2 := Lib.hid (HR1.out.below HW.out hl1)
        have HB2 := Lib.hid (below_on HB1.out HW.out)
        have hE1 : ft = (extT Z).1.t ∧ fu = (extT Z).1.u ∧ fp = (extT Z).1.ps ∧ code = 0 := by
          have h1 := HE.out
          refine ⟨congrArg Mty.t h1, congrArg Mty.u h1, congrArg Mty.ps h1, ?_⟩
          rw [HCO.out]
          exact if_neg (by have := HLN.out; omega)
        obtain ⟨hE2, hE3, hE4, hE5⟩ := hE1
        rw [← hE2, ← hE3, ← hE4] at HBM
        rw [← hE4] at HPS
        have HK1 := Lib.hid (show (⟨ft, fu, fp⟩ : Mty).ok from by rw [HE.out]; exact HEX.out.1)
        have HC0 := Lib.hid hE5
        clear HR1 HB1 HW htk HTI HRS HEX hE2 hE3 hE4 hE5 HE HCO
        have b0 := HBM.out.cell 0
        have b1 := HBM.out.cell 1
        have b2 := HBM.out.cell 2
        have r0 := HR2.out.cell 0
        have r1 := HR2.out.cell 1
        have r2 := HR2.out.cell 2
        have z0 := HR2.out.frozen 0
        have z1 := HR2.out.frozen 1
        have z2 := HR2.out.frozen 2
        go_wp2
        refine bodyPost_ret (v := .tuple #[mimV ft fu A' fp.length c', .int .i64 0]) (by simp [results, Tryz.results19, go_sem, r0, r1, r2]; done) rfl ?_
        exact ⟨A', c', by rw [HC0.out], OwnPs.set3 HPS.out HR2.out _ _ _, HK1.out, ((HB2.out.setCell (by exact Nat.le_refl _) _).setCell (by exact Nat.le_refl _) _).setCell (by exact Nat.le_refl _) _⟩

end Go.Proofs.YtighgoefmccagaaGreat
namespace Go.Proofs.YtighgoefmccagaaGreat

abbrev bugL0 : List UInt8 := [116, 101, 120, 116, 47, 112, 108, 97, 105, 110]
abbrev bugL1 : List UInt8 := [116, 101, 120, 116, 47, 112, 108, 97, 105, 110, 59, 32, 99, 104, 97, 114, 115, 101, 116, 61, 73, 83, 79, 45, 56, 56, 53, 57, 45, 49]
abbrev bugL2 : List UInt8 := [116, 101, 120, 116, 47, 112, 108, 97, 105, 110, 59, 32, 99, 104, 97, 114, 115, 101, 116, 61, 105, 115, 111, 45, 56, 56, 53, 57, 45, 49]
abbrev bugL3 : List UInt8 := [116, 101, 120, 116, 47, 112, 108, 97, 105, 110, 59, 32, 99, 104, 97, 114, 115, 101, 116, 61, 85, 84, 70, 45, 56]
/-- Whether a server may err of a type's text. -/
def bugB (s : ByteArray) : Bool := (s.toList == bugL0) || ((s.toList == bugL1) || ((s.toList == bugL2) || (s.toList == bugL3)))
end Go.Proofs.YtighgoefmccagaaGreat
