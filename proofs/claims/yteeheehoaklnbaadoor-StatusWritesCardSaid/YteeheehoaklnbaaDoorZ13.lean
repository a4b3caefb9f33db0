/-
  Text of both sides of layer 25. Condition: for package status' one the library's table of powers of ten is laid.
  What While does to a cursor where it is asked of status.isBlank. Conditions as in Cursor.
  What package status' check, mark, number and line do. Conditions: the place lies in the text, which is no longer than a length can be.
-/
import Derived.Test.YteeheehoaklnbaaDoorZ12
import Derived.Test.YteeheehoaklnbaaDoorZ8
import Derived.Test.YteeheehoaklnbaaDoorZ6
import Derived.Test.YteeheehoaklnbaaDoorZ3
import Derived.OneCell
import Derived.Test.YteeheehoaklnbaaDoorZ9
import Derived.Test.YteeheehoaklnbaaDoorZ11
namespace Go.Proofs.YteeheehoaklnbaaDoor
open Go.RowKit

theorem stat_keep {w : World} {g : Nat} {x y z u : Value} (h : Blk w g 23 #[x, y, z, u]) : w.cell? ⟨g, 0, none⟩ = some x ∧ w.cell? ⟨g, 1, none⟩ = some y ∧ w.cell? ⟨g, 2, none⟩ = some z ∧ w.cell? ⟨g, 3, none⟩ = some u := ⟨h.cell 0, h.cell 1, h.cell 2, h.cell 3⟩
abbrev basS (xa xb xc : ByteArray) : ByteArray := ((((htpS ++ xa) ++ ⟨#[46]⟩) ++ xb) ++ ⟨#[32]⟩) ++ xc
theorem tex_none {a b c : Int} {r : ByteArray} (h : r.size = 0) : texG a b c r = basS (worS a) (worS b) (worS c) := by
  unfold texG
  rw [resS_none h]
  apply ByteArray.ext
  simp
theorem tex_some {a b c : Int} {r : ByteArray} (h : r.size ≠ 0) : texG a b c r = basS (worS a) (worS b) (worS c) ++ (⟨#[32]⟩ ++ r) := by
  unfold texG resS
  rw [if_neg h]

set_option maxRecDepth 100000 in
set_option maxHeartbeats 4000000 in
theorem text25_parts (a b c : Int) (r xa xb xc R : ByteArray) (g : Bool) (w : World) (la : xa.size ≤ 20) (lb : xb.size ≤ 20) (lc : xc.size ≤ 20) (lr : r.size ≤ 1048576)
    (HG : Hid (∀ W, Calls Tryd.prog 6 #[stV a b c r] W fun e w' => e = .returned (.bool g) ∧ Below W.heap.size W w'))
    (HTA : Hid (g = true → ∀ W, Below w.heap.size w W → Calls Tryd.prog 11 #[.int .i64 a] W fun e w' => e = .returned (.string xa) ∧ Below W.heap.size W w'))
    (HTB : Hid (g = true → ∀ W, Below w.heap.size w W → Calls Tryd.prog 11 #[.int .i64 b] W fun e w' => e = .returned (.string xb) ∧ Below W.heap.size W w'))
    (HTC : Hid (g = true → ∀ W, Below w.heap.size w W → Calls Tryd.prog 11 #[.int .i64 c] W fun e w' => e = .returned (.string xc) ∧ Below W.heap.size W w'))
    (HR0 : Hid (g = false → R = ⟨#[]⟩)) (HR1 : Hid (g = true → r.size = 0 → R = basS xa xb xc)) (HR2 : Hid (g = true → r.size ≠ 0 → R = basS xa xb xc ++ (⟨#[32]⟩ ++ r))) :
    Calls Tryd.prog 5 #[stV a b c r] w fun e w' => e = .returned (.string R) ∧ Below w.heap.size w w' := by
  have HB := Lib.hid ((Below.refl w.heap.size w).alloc (Nat.le_refl _) (stC a b c r))
  have HK := Lib.hid (Blk.new w 23 #[.int .i64 a, .int .i64 b, .int .i64 c, .string r])
  cases g
  · have HV := Lib.hid (HR0.out rfl)
    clear HR0 HR1 HR2
    go_enter Tryd.func5, Tryd.ntmps5
    go_wp2_with (go_at_call 6; (with_reducible refine (HG.out _).mono ?_); rintro e w1 ⟨rfl, b1⟩; replace HB := Lib.hid (below_on HB.out b1); clear b1)
    go_ret
    exact ⟨by rw [HV.out]; rfl, HB.out⟩
  replace HTA := Lib.hid (HTA.out rfl)
  replace HTB := Lib.hid (HTB.out rfl)
  replace HTC := Lib.hid (HTC.out rfl)
  have s1 : ¬9223372036854775807 < 5 + xa.size := by omega
  have s2 : ¬9223372036854775807 < 5 + xa.size + 1 := by omega
  have s3 : ¬9223372036854775807 < 5 + xa.size + 1 + xb.size := by omega
  have s4 : ¬9223372036854775807 < 5 + xa.size + 1 + xb.size + 1 := by omega
  have s5 : ¬9223372036854775807 < 5 + xa.size + 1 + xb.size + 1 + xc.size := by omega
  have s6 : ¬9223372036854775807 < 1 + r.size := by omega
  have s7 : ¬9223372036854775807 < 5 + xa.size + 1 + xb.size + 1 + xc.size + (1 + r.size) := by omega
  have he := size_bool r
  by_cases h0 : r.size = 0
  · rw [decide_eq_true h0] at he
    have HV := Lib.hid (HR1.out rfl h0)
    clear HR0 HR1 HR2 h0 lr s6 s7
    go_enter Tryd.func5, Tryd.ntmps5
    go_wp2_with (go_at_call 6; (with_reducible refine (HG.out _).mono ?_); rintro e w1 ⟨rfl, b1⟩; replace HK := Lib.hid (HK.out.below b1 HK.out.lt); replace HB := Lib.hid (below_on HB.out b1); obtain ⟨c0, c1, c2, c3⟩ := stat_keep HK.out; clear b1)
    go_region_held2 (fun w' => w'.cell? ⟨w.heap.size, 0, none⟩ = some (.int .i64 a) ∧ w'.cell? ⟨w.heap.size, 1, none⟩ = some (.int .i64 b) ∧ w'.cell? ⟨w.heap.size, 2, none⟩ = some (.int .i64 c) ∧ w'.cell? ⟨w.heap.size, 3, none⟩ = some (.string r))
      (first | with_reducible exact stat_keep HK.out | with_reducible exact stat_keep HK.out.drew | go_keep)
      (first
        | (go_at_call 11; first | (with_reducible refine (HTA.out _ (by first | exact HB.out | exact HB.out.drew)).mono ?_) | (with_reducible refine (HTB.out _ (by first | exact HB.out | exact HB.out.drew)).mono ?_) | (with_reducible refine (HTC.out _ (by first | exact HB.out | exact HB.out.drew)).mono ?_)
           rintro e w2 ⟨rfl, b2⟩
           have HK := Lib.hid (show Blk w2 w.heap.size _ _ from by first | exact HK.out.below b2 HK.out.lt | exact HK.out.drew.below b2 HK.out.lt)
           have HB := Lib.hid (show Below w.heap.size w w2 from by first | exact below_on HB.out b2 | exact below_on HB.out.drew b2)
           clear b2))
    all_goals
      obtain ⟨c0, c1, c2, c3⟩ := stat_keep HK.out
      go_wp2
      go_ret
      exact ⟨by rw [HV.out]; rfl, HB.out⟩
  · rw [decide_eq_false h0] at he
    have HV := Lib.hid (HR2.out rfl h0)
    clear HR0 HR1 HR2 h0
    go_enter Tryd.func5, Tryd.ntmps5
    go_wp2_with (go_at_call 6; (with_reducible refine (HG.out _).mono ?_); rintro e w1 ⟨rfl, b1⟩; replace HK := Lib.hid (HK.out.below b1 HK.out.lt); replace HB := Lib.hid (below_on HB.out b1); obtain ⟨c0, c1, c2, c3⟩ := stat_keep HK.out; clear b1)
    go_region_held2 (fun w' => w'.cell? ⟨w.heap.size, 0, none⟩ = some (.int .i64 a) ∧ w'.cell? ⟨w.heap.size, 1, none⟩ = some (.int .i64 b) ∧ w'.cell? ⟨w.heap.size, 2, none⟩ = some (.int .i64 c) ∧ w'.cell? ⟨w.heap.size, 3, none⟩ = some (.string r))
      (first | with_reducible exact stat_keep HK.out | with_reducible exact stat_keep HK.out.drew | go_keep)
      (first
        | (go_at_call 11; first | (with_reducible refine (HTA.out _ (by first | exact HB.out | exact HB.out.drew)).mono ?_) | (with_reducible refine (HTB.out _ (by first | exact HB.out | exact HB.out.drew)).mono ?_) | (with_reducible refine (HTC.out _ (by first | exact HB.out | exact HB.out.drew)).mono ?_)
           rintro e w2 ⟨rfl, b2⟩
           have HK := Lib.hid (show Blk w2 w.heap.size _ _ from by first | exact HK.out.below b2 HK.out.lt | exact HK.out.drew.below b2 HK.out.lt)
           have HB := Lib.hid (show Below w.heap.size w w2 from by first | exact below_on HB.out b2 | exact below_on HB.out.drew b2)
           clear b2))
    all_goals
      obtain ⟨c0, c1, c2, c3⟩ := stat_keep HK.out
      go_wp2
      go_ret
      exact ⟨by rw [HV.out]; rfl, HB.out⟩

theorem text25_any (a b c : Int) (r : ByteArray) (w : World) (lr : r.size ≤ 1048576) (ht : PowTab w) :
    Calls Tryd.prog 5 #[stV a b c r] w fun e w' => e = .returned (.string (cond (stgQ a b c r) (texG a b c r) ⟨#[]⟩)) ∧ Below w.heap.size w w' := by
  cases hg : stgQ a b c r
  · have HG := fun W => sgood_any a b c r W (by omega)
    rw [hg] at HG
    exact text25_parts a b c r ⟨#[]⟩ ⟨#[]⟩ ⟨#[]⟩ _ false w (by decide) (by decide) (by decide) lr (Lib.hid HG) (Lib.hid fun h => by cases h) (Lib.hid fun h => by cases h) (Lib.hid fun h => by cases h) (Lib.hid fun _ => rfl) (Lib.hid fun h => by cases h) (Lib.hid fun h => by cases h)
  · have HG := fun W => sgood_any a b c r W (by omega)
    rw [hg] at HG
    unfold stgQ at hg
    simp only [Bool.and_eq_true, bne_iff_ne] at hg
    have ga := verB_range.1 hg.1.1.1
    have gb := verB_range.1 hg.1.1.2
    have gc := (clsZ_pos c).1 hg.1.2
    exact text25_parts a b c r (worS a) (worS b) (worS c) _ true w (worS_le (by omega)) (worS_le (by omega)) (worS_le (by omega)) lr (Lib.hid HG) (Lib.hid fun _ W hW => dtext24_any a W (by omega) (by omega) (ht.stays hW)) (Lib.hid fun _ W hW => dtext24_any b W (by omega) (by omega) (ht.stays hW)) (Lib.hid fun _ W hW => dtext24_any c W (by omega) (by omega) (ht.stays hW))
      (Lib.hid fun h => by cases h) (Lib.hid fun _ h => tex_none h) (Lib.hid fun _ h => tex_some h)

theorem rtext05_any (n : Int) (w : World) (h0 : 0 ≤ n) (h1 : n ≤ 9223372036854775807) : Calls Tryd.prog 24 #[.int .i64 n] w fun e w' => e = .returned (.string (worS n)) ∧ w = w' := by
  have := refText_pos n.toNat w (by omega)
  rw [show ((n.toNat : Nat) : Int) = n from by omega] at this
  rw [worS_pos (by omega)]
  exact this

set_option maxRecDepth 100000 in
set_option maxHeartbeats 4000000 in
theorem rtext25_parts (a b c : Int) (r xa xb xc R : ByteArray) (w : World) (la : xa.size ≤ 20) (lb : xb.size ≤ 20) (lc : xc.size ≤ 20) (lr : r.size ≤ 1048576)
    (HTA : Hid (∀ W, Calls Tryd.prog 24 #[.int .i64 a] W fun e w' => e = .returned (.string xa) ∧ W = w'))
    (HTB : Hid (∀ W, Calls Tryd.prog 24 #[.int .i64 b] W fun e w' => e = .returned (.string xb) ∧ W = w'))
    (HTC : Hid (∀ W, Calls Tryd.prog 24 #[.int .i64 c] W fun e w' => e = .returned (.string xc) ∧ W = w'))
    (HR1 : Hid (r.size = 0 → R = basS xa xb xc)) (HR2 : Hid (r.size ≠ 0 → R = (basS xa xb xc ++ ⟨#[32]⟩) ++ r)) :
    Calls Tryd.prog 10 #[stV a b c r] w fun e w' => e = .returned (.string R) ∧ Below w.heap.size w w' := by
  have HB := Lib.hid ((Below.refl w.heap.size w).alloc (Nat.le_refl _) (stC a b c r))
  have HK := Lib.hid (Blk.new w 23 #[.int .i64 a, .int .i64 b, .int .i64 c, .string r])
  have s1 : ¬9223372036854775807 < 5 + xa.size := by omega
  have s2 : ¬9223372036854775807 < 5 + xa.size + 1 := by omega
  have s3 : ¬9223372036854775807 < 5 + xa.size + 1 + xb.size := by omega
  have s4 : ¬9223372036854775807 < 5 + xa.size + 1 + xb.size + 1 := by omega
  have s5 : ¬9223372036854775807 < 5 + xa.size + 1 + xb.size + 1 + xc.size := by omega
  have s6 : ¬9223372036854775807 < 5 + xa.size + 1 + xb.size + 1 + xc.size + 1 := by omega
  have s7 : ¬9223372036854775807 < 5 + xa.size + 1 + xb.size + 1 + xc.size + 1 + r.size := by omega
  have he := size_bool r
  by_cases h0 : r.size = 0
  · rw [decide_eq_true h0] at he
    have HV := Lib.hid (HR1.out h0)
    clear HR1 HR2 h0 lr s6 s7
    go_enter Tryd.func10, Tryd.ntmps10
    go_wp2_with fail
    go_region_held2 (fun w' => w'.cell? ⟨w.heap.size, 0, none⟩ = some (.int .i64 a) ∧ w'.cell? ⟨w.heap.size, 1, none⟩ = some (.int .i64 b) ∧ w'.cell? ⟨w.heap.size, 2, none⟩ = some (.int .i64 c) ∧ w'.cell? ⟨w.heap.size, 3, none⟩ = some (.string r))
      (first | with_reducible exact stat_keep HK.out | with_reducible exact stat_keep HK.out.drew | go_keep)
      (first
        | (go_at_call 24; first | (with_reducible refine (HTA.out _).mono ?_) | (with_reducible refine (HTB.out _).mono ?_) | (with_reducible refine (HTC.out _).mono ?_)
           rintro e w2 ⟨rfl, rfl⟩))
    all_goals
      obtain ⟨c0, c1, c2, c3⟩ := stat_keep HK.out
      go_wp2
      go_ret
      exact ⟨by rw [HV.out]; rfl, HB.out.drew⟩
  · rw [decide_eq_false h0] at he
    have HV := Lib.hid (HR2.out h0)
    clear HR1 HR2 h0
    go_enter Tryd.func10, Tryd.ntmps10
    go_wp2_with fail
    go_region_held2 (fun w' => w'.cell? ⟨w.heap.size, 0, none⟩ = some (.int .i64 a) ∧ w'.cell? ⟨w.heap.size, 1, none⟩ = some (.int .i64 b) ∧ w'.cell? ⟨w.heap.size, 2, none⟩ = some (.int .i64 c) ∧ w'.cell? ⟨w.heap.size, 3, none⟩ = some (.string r))
      (first | with_reducible exact stat_keep HK.out | with_reducible exact stat_keep HK.out.drew | go_keep)
      (first
        | (go_at_call 24; first | (with_reducible refine (HTA.out _).mono ?_) | (with_reducible refine (HTB.out _).mono ?_) | (with_reducible refine (HTC.out _).mono ?_)
           rintro e w2 ⟨rfl, rfl⟩))
    all_goals
      obtain ⟨c0, c1, c2, c3⟩ := stat_keep HK.out
      go_wp2
      go_ret
      exact ⟨by rw [HV.out]; rfl, HB.out.drew⟩

theorem rtext25_any (a b c : Int) (r : ByteArray) (w : World) (lr : r.size ≤ 1048576) (hg : stgQ a b c r = true) :
    Calls Tryd.prog 10 #[stV a b c r] w fun e w' => e = .returned (.string (texG a b c r)) ∧ Below w.heap.size w w' := by
  unfold stgQ at hg
  simp only [Bool.and_eq_true, bne_iff_ne] at hg
  have ga := verB_range.1 hg.1.1.1
  have gb := verB_range.1 hg.1.1.2
  have gc := (clsZ_pos c).1 hg.1.2
  exact rtext25_parts a b c r (worS a) (worS b) (worS c) _ w (worS_le (by omega)) (worS_le (by omega)) (worS_le (by omega)) lr (Lib.hid fun W => rtext05_any a W (by omega) (by omega)) (Lib.hid fun W => rtext05_any b W (by omega) (by omega)) (Lib.hid fun W => rtext05_any c W (by omega) (by omega))
    (Lib.hid fun h => tex_none h) (Lib.hid fun h => by rw [tex_some h]; exact (ByteArray.append_assoc).symm)

end Go.Proofs.YteeheehoaklnbaaDoor
namespace Go.Proofs.YteeheehoaklnbaaDoor
open Go.RowKit

abbrev fn_isBlank : Value := .func (.func 36) #[] #[]

set_option maxHeartbeats 1000000 in
theorem while1_isBlank (tb pb fb cb k j : Nat) (s : ByteArray) (w : World) (h : Cur w cb s k) (ht : w.heap[tb]? = some (.cells #[.int .i64 j] 3 (0, 0))) (hp : w.cell? ⟨pb, 0, none⟩ = some (cptr cb)) (hf : w.cell? ⟨fb, 0, none⟩ = some fn_isBlank)
    (hj : j ≤ s.size) (hs : s.size ≤ 9223372036854775807) (n1 : tb ≠ pb) (n2 : tb ≠ fb) (n3 : tb ≠ cb) :
    Calls Tryd.prog 52 #[.pointer (some ⟨tb, 0, none⟩), .pointer (some ⟨pb, 0, none⟩), .pointer (some ⟨fb, 0, none⟩)] w fun e w' => e = .returned (.tuple #[]) ∧ Mv w.heap.size [tb] w w' ∧ w'.heap[tb]? = some (.cells #[.int .i64 (scan blaB s j : Nat)] 3 (0, 0)) := by
  go_enter Tryd.func52, Tryd.ntmps52
  go_wp2
  have hc0 := h.c0
  have lt : tb < w.heap.size := lt_of_block ht
  have lp : pb < w.heap.size := World.block_lt_of_cell? w _ hp
  have lf : fb < w.heap.size := World.block_lt_of_cell? w _ hf
  have lc : cb < w.heap.size := h.lt
  go_loopw [3] (fun _ wr => ∃ i : Nat, j ≤ i ∧ i ≤ s.size ∧ scan blaB s i = scan blaB s j ∧ wr.heap[tb]? = some (.cells #[.int .i64 i] 3 (0, 0)) ∧ Mv w.heap.size [tb] w wr) (fun _ wr => s.size - cellNat wr tb)
  case atStart => exact ⟨j, by omega, hj, rfl, ht, Mv.refl _ _ _⟩
  case round =>
    obtain ⟨i, hi, hi2, hsc, hti, hm⟩ := hrel
    have d0 : wr.cell? ⟨tb, 0, none⟩ = some (.int .i64 i) := by simp [World.cell?, hti]
    have dz : wr.frozen? ⟨tb, 0, none⟩ = false := by simp [World.frozen?, hti]
    have d1 : wr.cell? ⟨pb, 0, none⟩ = some (cptr cb) := (hm.cell (p := ⟨pb, 0, none⟩) lp (by simpa using n1.symm)).trans hp
    have d2 : wr.cell? ⟨fb, 0, none⟩ = some fn_isBlank := (hm.cell (p := ⟨fb, 0, none⟩) lf (by simpa using n2.symm)).trans hf
    have d3 : wr.cell? ⟨cb, 0, none⟩ = some (.string s) := (hm.cell (p := ⟨cb, 0, none⟩) lc (by simpa using n3.symm)).trans hc0
    have HS := Lib.hid hsc
    have HT := Lib.hid hti
    have HM := Lib.hid hm
    clear hsc hti hm h ht hp hf hc0
    by_cases hlt : i < s.size
    · have e1 : decide (i < s.size) = true := by simpa using hlt
      have HL := fun W => isBlank_any s[i] W
      cases hb : blaB s[i]
      · have HF : Hid (scan blaB s i = i) := scan_stop hlt hb
        rw [hb] at HL
        have HL2 := Lib.hid HL
        clear HL hb
        go_wp2
        go_quiet ((go_at_call 36; exact Calls.quiet_of_same ((HL2.out _).mono fun _ _ h => ⟨h.1, h.2.symm⟩)))
        go_wp2
        go_end0
        refine ⟨rfl, HM.out.drewN _, ?_⟩
        rw [← HS.out, HF.out]
        exact HT.out
      · have HF : Hid (scan blaB s (i + 1) = scan blaB s i) := scan_step hlt hb
        rw [hb] at HL
        have HL2 := Lib.hid HL
        clear HL hb
        go_wp2
        go_quiet ((go_at_call 36; exact Calls.quiet_of_same ((HL2.out _).mono fun _ _ h => ⟨h.1, h.2.symm⟩)))
        go_wp2
        go_roundw
        case rel => exact ⟨i + 1, by omega, by omega, HF.out.trans HS.out, one_setCell HT.out, (HM.out.drewN _).setCell (.inl (by simp)) _⟩
        case measure => rw [cellNat_of HT.out]; refine Nat.lt_of_le_of_lt (Nat.le_of_eq (congrArg (s.size - ·) (cellNat_of (n := i + 1) (one_setCell HT.out)))) ?_; show s.size - (i + 1) < s.size - i; omega
    · obtain rfl : i = s.size := by omega
      have HF : Hid (scan blaB s s.size = s.size) := scan_end rfl
      go_wp2
      go_quiet (fail)
      go_wp2
      go_end0
      refine ⟨rfl, HM.out.drewN _, ?_⟩
      rw [← HS.out, HF.out]
      exact HT.out

theorem enter_while1_isBlank (a b c : Value) (w : World) : (callFunc 52 (#[] ++ #[a, b, c])).run Tryd.prog w = .ok (.enter 52 (#[] ++ #[a, b, c])) w := by simp [go_sem]

theorem catch_while1_isBlank (tb pb fb cb k : Nat) (s : ByteArray) (w : World) (h : Cur w cb s k) (ht : w.heap[tb]? = some (.cells #[.int .i64 k] 3 (0, 0))) (hp : w.cell? ⟨pb, 0, none⟩ = some (cptr cb)) (hf : w.cell? ⟨fb, 0, none⟩ = some fn_isBlank)
    (hk : k ≤ s.size) (hs : s.size ≤ 9223372036854775807) (n1 : tb ≠ pb) (n2 : tb ≠ fb) (n3 : tb ≠ cb) :
    Calls Tryd.prog 43 #[.func (.func 52) #[] #[.pointer (some ⟨tb, 0, none⟩), .pointer (some ⟨pb, 0, none⟩), .pointer (some ⟨fb, 0, none⟩)]] w fun e w' =>
      e = .returned (.tuple #[flt 0 0, .bool false]) ∧ Mv w.heap.size [tb] w w' ∧ w'.heap[tb]? = some (.cells #[.int .i64 (scan blaB s k : Nat)] 3 (0, 0)) := by
  have lt : tb < w.heap.size := lt_of_block ht
  refine catch_mv_returns 52 #[] #[.pointer (some ⟨tb, 0, none⟩), .pointer (some ⟨pb, 0, none⟩), .pointer (some ⟨fb, 0, none⟩)] w [tb] (fun W => W.heap[tb]? = some (.cells #[.int .i64 (scan blaB s k : Nat)] 3 (0, 0)))
    (one_lt' lt) (fun W1 W2 hb h1 => (hb.block tb lt).trans h1) (enter_while1_isBlank _ _ _) fun W hW => ?_
  refine (while1_isBlank tb pb fb cb k k s W (h.below hW h.lt) ((hW.block tb lt).trans ht) ((hW.cell (p := ⟨pb, 0, none⟩) (World.block_lt_of_cell? w _ hp)).trans hp) ((hW.cell (p := ⟨fb, 0, none⟩) (World.block_lt_of_cell? w _ hf)).trans hf) hk hs n1 n2 n3).mono ?_
  rintro e w' ⟨rfl, h1, h2⟩
  exact ⟨⟨_, rfl⟩, h1, h2⟩

set_option maxHeartbeats 1000000 in
theorem while_isBlank (cb k : Nat) (s : ByteArray) (w : World) (h : Cur w cb s k) (hk : k ≤ s.size) (hs : s.size ≤ 9223372036854775807) :
    Calls Tryd.prog 35 #[cptr cb, fn_isBlank] w fun e w' => e = .returned (.string (s.extract k (scan blaB s k))) ∧ Mv w.heap.size [cb] w w' ∧ Cur w' cb s (scan blaB s k) := by
  have hq := eq_fn_nil
  have hmf := make_func
  have c1 := h.c1
  have lc := h.lt
  have lc1 : cb < w.heap.size + 1 := by omega
  have lc2 : cb < w.heap.size + 1 + 1 := by omega
  have HC := Lib.hid h
  clear h
  go_enter Tryd.func35, Tryd.ntmps35
  go_wp2
  go_region
  have hW : Below w.heap.size w ((((w.alloc (.cells #[cptr cb] 41)).alloc (.cells #[fn_isBlank] 35)).alloc (.cells #[.int .i64 k] 3)).drew) :=
    ((((Below.refl _ _).alloc (Nat.le_refl _) _).alloc (by simp) _).alloc (by simp; omega) _).drew
  have hc3 := HC.out.below hW lc
  have ht3 : ((((w.alloc (.cells #[cptr cb] 41)).alloc (.cells #[fn_isBlank] 35)).alloc (.cells #[.int .i64 k] 3)).drew).heap[w.heap.size + 1 + 1]? = some (.cells #[.int .i64 k] 3 (0, 0)) := by
    have := Blk.new ((w.alloc (.cells #[cptr cb] 41)).alloc (.cells #[fn_isBlank] 35)) 3 #[.int .i64 k]
    have h0 : (((w.alloc (.cells #[cptr cb] 41)).alloc (.cells #[fn_isBlank] 35)).alloc (.cells #[.int .i64 k] 3)).heap[w.heap.size + 1 + 1]? = some (.cells #[.int .i64 k] 3 (0, 0)) := by simpa [Blk] using this
    exact h0
  go_wp2_with fail
  refine (catch_while1_isBlank (w.heap.size + 1 + 1) w.heap.size (w.heap.size + 1) cb k s _ hc3 ht3 (by simp [go_sem]) (by simp [go_sem]) hk hs (by omega) (by omega) (by omega)).mono ?_
  rintro e w1 ⟨rfl, hm, ht1⟩
  have hz := hm.size
  simp at hz
  have e0 : w1.cell? ⟨w.heap.size, 0, none⟩ = some (cptr cb) := by rw [hm.cell (by simp; omega) (by simp; omega)]; simp [go_sem]
  have e1 : w1.cell? ⟨w.heap.size + 1 + 1, 0, none⟩ = some (.int .i64 (scan blaB s k : Nat)) := cell_of_one ht1
  have hc4 : Cur w1 cb s k := hc3.mv hm (by simp; omega) (by simp; omega)
  have d1 := hc4.c1
  have z1 := hc4.frozen 1
  have hc5 : Cur (w1.setCell ⟨cb, 1, none⟩ (.int .i64 k)) cb s k := hc4.set k
  have HP := Lib.hid (passTo_any cb k (scan blaB s k) s _ hc5 (scan_ge _ _ _) (scan_le _ _ _ hk) hs)
  have HM := Lib.hid (hW.trans (hm.below (B' := w.heap.size) (by simp; omega) (by simp; omega)))
  have HC4 := Lib.hid hc4
  have ncb : (⟨w.heap.size, 0, none⟩ : Addr) ≠ ⟨cb, 1, none⟩ := by simp
  have ncb2 : (⟨w.heap.size + 1 + 1, 0, none⟩ : Addr) ≠ ⟨cb, 1, none⟩ := by simp
  clear hW hc3 ht3 hm ht1 hc4 hc5 hq hmf
  go_wp2_with (go_at_call 53; refine HP.out.mono ?_; rintro e w2 ⟨rfl, hw2⟩; have HW2 := Lib.hid hw2; clear hw2)
  go_ret
  have hset : Cur ((w1.setCell ⟨cb, 1, none⟩ (.int .i64 k)).setCell ⟨cb, 1, none⟩ (.int .i64 (scan blaB s k : Nat))) cb s (scan blaB s k) := (HC4.out.set k).set _
  refine ⟨rfl, ?_, ?_⟩
  · rw [HW2.out]
    exact ((Mv.of_below HM.out _).setCell (.inl (by simp)) _).setCell (.inl (by simp)) _
  · rw [HW2.out]
    exact hset

end Go.Proofs.YteeheehoaklnbaaDoor
namespace Go.Proofs.YteeheehoaklnbaaDoor
open Go.RowKit

abbrev unitV25 : Ending := .returned (.tuple #[])

set_option maxHeartbeats 400000 in
theorem scheck_any (cb k : Nat) (s : ByteArray) (b : Bool) (w : World) (h : Cur w cb s k) :
    Calls Tryd.prog 34 #[cptr cb, .bool b] w fun e w' => ((b = true ∧ e = unitV25) ∨ (b = false ∧ e = pnc k 2)) ∧ w = w' := by
  have HC := Lib.hid h
  clear h
  cases b
  · go_enter Tryd.func34, Tryd.ntmps34
    go_wp2_with (first
      | (go_at_call 51; refine (at_any cb k s _ HC.out).mono ?_; rintro e w1 ⟨rfl, rfl⟩)
      | (go_at_call 50; (with_reducible refine (check_not _ _ _).mono ?_); rintro e w1 ⟨rfl, rfl⟩))
    exact ⟨rfl, .inr ⟨by trivial, rfl⟩, rfl⟩
  · go_enter Tryd.func34, Tryd.ntmps34
    go_wp2_with (first
      | (go_at_call 51; refine (at_any cb k s _ HC.out).mono ?_; rintro e w1 ⟨rfl, rfl⟩)
      | (go_at_call 50; (with_reducible refine (check_ok _ _ _).mono ?_); rintro e w1 ⟨rfl, rfl⟩))
    go_end0
    exact ⟨.inl ⟨by trivial, rfl⟩, rfl⟩

set_option maxHeartbeats 1000000 in
theorem smark_any (cb k : Nat) (s t : ByteArray) (w : World) (h : Cur w cb s k) (hk : k ≤ s.size) (hs : s.size ≤ 9223372036854775807) (ht : t.size ≤ 9223372036854775807) :
    Calls Tryd.prog 32 #[cptr cb, .string t] w fun e w' => ((prefB (s.extract k s.size) t = true ∧ e = unitV25 ∧ Cur w' cb s (k + t.size)) ∨ (prefB (s.extract k s.size) t = false ∧ e = pnc k 2)) ∧ Mv w.heap.size [cb] w w' := by
  cases hp : prefB (s.extract k s.size) t
  · have HS := Lib.hid (skip_no cb k s t w h hk hs ht hp)
    have HC := Lib.hid h
    clear h hp
    go_enter Tryd.func32, Tryd.ntmps32
    go_wp2_with fail
    refine HS.out.mono ?_
    rintro e w1 ⟨rfl, n, rfl⟩
    go_wp2_with fail
    refine (scheck_any cb k s false _ (HC.out.drewN n)).mono ?_
    rintro e w2 ⟨⟨h2, rfl⟩ | ⟨h2, rfl⟩, rfl⟩
    · cases h2
    · exact ⟨rfl, .inr ⟨by trivial, rfl⟩, (Mv.refl _ _ _).drewN n⟩
  · have hle : k + t.size ≤ s.size := by
      unfold prefB at hp
      simp only [Bool.and_eq_true, decide_eq_true_eq] at hp
      have := hp.1
      simp at this
      omega
    have HS := Lib.hid (skip_yes cb k s t w h hk hs ht hp hle)
    have HC := Lib.hid h
    clear h hp
    go_enter Tryd.func32, Tryd.ntmps32
    go_wp2_with fail
    refine HS.out.mono ?_
    rintro e w1 ⟨rfl, i1⟩
    obtain ⟨m1, c1⟩ := Mv.put HC.out i1
    have HM := Lib.hid m1
    have HC1 := Lib.hid c1
    clear m1 c1 i1
    go_wp2_with fail
    refine (scheck_any cb (k + t.size) s true _ HC1.out).mono ?_
    rintro e w2 ⟨⟨h2, rfl⟩ | ⟨h2, rfl⟩, rfl⟩
    · go_wp2
      go_end0
      exact ⟨.inl ⟨by trivial, rfl, HC1.out⟩, HM.out⟩
    · cases h2

set_option maxHeartbeats 1000000 in
theorem snumber_any (cb k n : Nat) (s : ByteArray) (w : World) (h : Cur w cb s k) (hk : k ≤ s.size) (hs : s.size ≤ 9223372036854775807) (h1 : 1 ≤ n) (hn : n ≤ 3) :
    Calls Tryd.prog 33 #[cptr cb, .int .i64 (n : Nat)] w fun e w' => ((scan digB s k = k + n ∧ e = .returned (.int .i64 (numK (s.extract k (k + n)) n : Nat)) ∧ Cur w' cb s (k + n)) ∨ (scan digB s k ≠ k + n ∧ e = pnc (scan digB s k) 2)) ∧ Mv w.heap.size [cb] w w' := by
  have HW := Lib.hid (while_digit cb k s w h hk hs)
  have g1 := scan_ge digB s k
  have g2 := scan_le digB s k hk
  have hz : (s.extract k (scan digB s k)).size = scan digB s k - k := by simp; omega
  have HK := Lib.hid (fun b W (hW : Cur W cb s (scan digB s k)) => scheck_any cb (scan digB s k) s b W hW)
  have hd : ∀ j (hj : j < (s.extract k (scan digB s k)).size), digB (s.extract k (scan digB s k))[j] = true := fun j hj => by
    rw [ext_at g2 (by omega)]
    exact scan_within (p := digB) (s := s) (i := k) (k := k + j) (by omega) (by omega) (by omega)
  have HP := Lib.hid (fun W => parse_any (s.extract k (scan digB s k)) W (by omega))
  clear h
  by_cases hq : scan digB s k = k + n
  · have ha := allB_yes hd
    have hl := numK_lt hd n (by omega)
    have hsm : numK (s.extract k (scan digB s k)) n ≤ 9007199254740991 := by
      have : (10 : Nat) ^ n ≤ 10 ^ 3 := Nat.pow_le_pow_right (by omega) hn
      have e : (10 : Nat) ^ 3 = 1000 := rfl
      omega
    have hzn : (s.extract k (scan digB s k)).size = n := by omega
    have hv := parV_ok (s := s.extract k (scan digB s k)) (by omega) ha (by rw [hzn]; exact hsm)
    rw [hv] at HP
    rw [hzn] at HP
    have HQ := Lib.hid hq
    rw [hq] at HW HK HP hzn
    clear hd ha hl hv hz g1 g2 hsm hq
    generalize s.extract k (k + n) = x at *
    generalize numK x n = v at *
    have hb : ((x.size : Int) == (n : Int)) = true := by rw [beq_iff_eq, hzn]
    clear hzn
    go_enter Tryd.func33, Tryd.ntmps33
    go_wp2_with fail
    refine HW.out.mono ?_
    rintro e w1 ⟨rfl, m1, c1⟩
    have HM := Lib.hid m1
    have HC := Lib.hid c1
    clear m1 c1
    go_wp2_with fail
    refine (HK.out _ _ HC.out).mono ?_
    rintro e w2 ⟨⟨h2, rfl⟩ | ⟨h2, rfl⟩, rfl⟩
    rotate_left
    · cases h2
    clear h2
    go_wp2_with fail
    refine (HP.out _).mono ?_
    rintro e w3 ⟨rfl, b3⟩
    have HM3 := Lib.hid (HM.out.chain (Mv.of_below b3 [cb]) (Nat.le_refl _))
    have HC3 := Lib.hid (HC.out.below b3 HC.out.lt)
    clear b3
    go_wp2_with (go_at_call 48; (with_reducible refine (must_ok _ _).mono ?_); rintro e w4 ⟨rfl, rfl⟩)
    go_ret
    exact ⟨.inl ⟨HQ.out, rfl, HC3.out⟩, HM3.out⟩
  · have HQ := Lib.hid hq
    have hb : (((s.extract k (scan digB s k)).size : Int) == (n : Int)) = false := by rw [beq_eq_false_iff_ne]; omega
    clear hd hz g1 g2 hq HP
    generalize s.extract k (scan digB s k) = x at *
    generalize scan digB s k = d at *
    go_enter Tryd.func33, Tryd.ntmps33
    go_wp2_with fail
    refine HW.out.mono ?_
    rintro e w1 ⟨rfl, m1, c1⟩
    have HM := Lib.hid m1
    have HC := Lib.hid c1
    clear m1 c1
    go_wp2_with fail
    refine (HK.out _ _ HC.out).mono ?_
    rintro e w2 ⟨⟨h2, rfl⟩ | ⟨h2, rfl⟩, rfl⟩
    · cases h2
    · exact ⟨rfl, .inr ⟨HQ.out, rfl⟩, HM.out⟩

end Go.Proofs.YteeheehoaklnbaaDoor
