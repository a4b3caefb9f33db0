/-
  What package status' Line answers. Condition: the text is no longer than a length can be.
  What Strict and Prefix of layer 5 answer, and the document's Parse and Run. Condition: the text is as long as a length can be.
  What the document's Line of layer 25 answers. Condition: the text is no longer than a length can be.
-/
import Derived.Test.YteeheehoaklnbaaZ11
import Derived.Test.YteeheehoaklnbaaZ10
import Derived.Test.YteeheehoaklnbaaZ8
import Derived.Deep.Cut
namespace Go.Proofs.Yteeheehoaklnbaa
open Go.RowKit

theorem mark_pref {t : ByteArray} {k : Nat} (c : UInt8) (hk : k ≤ t.size) : prefB (t.extract k t.size) ⟨#[c]⟩ = atB t k c := pref_one c hk

theorem scan_far {p : UInt8 → Bool} {t : ByteArray} {i : Nat} (h : scan p t i ≠ i) : scan p t i ≤ t.size := by
  by_cases hi : i ≤ t.size
  · exact scan_le p t i hi
  · exfalso
    apply h
    unfold scan
    rw [List.drop_of_length_le (by simp; omega)]
    rfl

theorem line25_any (cb : Nat) (t : ByteArray) (w : World) (hC : Cur w cb t 0) (hs : t.size ≤ 9223372036854775807) :
    Calls Try.prog 22 #[cptr cb] w (Res25 (linO t) w cb) := by
  have hp0 : t.extract 0 t.size = t := extract_all t
  have h5 : prefB t htpS = true → 5 ≤ t.size := fun h => by
    unfold prefB at h
    simp only [Bool.and_eq_true, decide_eq_true_eq] at h
    exact h.1
  have h6 : scan digB t 5 = 6 → 6 ≤ t.size := fun h => by
    have := scan_far (p := digB) (t := t) (i := 5) (by omega)
    omega
  have h8 : scan digB t 7 = 8 → laC t ≤ t.size ∧ 8 ≤ laC t ∧ 8 ≤ t.size := fun h => by
    have := scan_far (p := digB) (t := t) (i := 7) (by omega)
    exact ⟨scan_le _ _ _ (by omega), scan_ge _ _ _, by omega⟩
  have hD : laD t = laC t + 3 → laC t + 3 ≤ t.size := fun h => by
    have : laD t ≤ t.size := scan_far (p := digB) (t := t) (i := laC t) (by show laD t ≠ _; omega)
    omega
  refine line_walk cb (laC t) (laD t) (scan tabB t (laC t + 3 + 1)) (scan digB t 5) (scan digB t 7) (prefB t htpS) (atB t 6 46) (atB t (laC t + 3) 32) (decide (laC t + 3 = t.size)) (stgQ (lnA t) (lnB t) (lnC t) ⟨#[]⟩)
    (stgQ (lnA t) (lnB t) (lnC t) (t.extract (scan tabB t (laC t + 3 + 1)) t.size)) (lnA t) (lnB t) (lnC t) (t.extract 8 (laC t)) (t.extract (laC t + 3 + 1) (scan tabB t (laC t + 3 + 1))) (t.extract (scan tabB t (laC t + 3 + 1)) t.size) (linO t) t w hC
    (Lib.hid fun W hW => ?_) (Lib.hid fun z1 W hW => ?_) (Lib.hid fun z1 q W hW => ?_) (Lib.hid fun z W hW => ?_) (Lib.hid fun q W hW => ?_) (Lib.hid fun q => ?_) (Lib.hid fun q W hW => ?_) (Lib.hid fun q W hW => ?_) (Lib.hid fun _ => rfl) (Lib.hid fun q W hW => ?_)
    (Lib.hid fun z W hW => ?_) (Lib.hid fun z W hW => ?_) (Lib.hid fun W => sgood_any _ _ _ _ W (by decide)) (Lib.hid fun W => sgood_any _ _ _ _ W (by simp; omega)) (Lib.hid lin_1) (Lib.hid lin_2) (Lib.hid lin_3) (Lib.hid lin_4) (Lib.hid fun a b c d e => ?_) (Lib.hid lin_6)
    (Lib.hid fun a b c d e f g h => ?_) (Lib.hid fun a b c d e f g => ?_) (Lib.hid fun a b c d e f g h => ?_)
  · have := smark_any cb 0 t htpS W hW (Nat.zero_le _) hs (by decide)
    rw [hp0] at this
    exact this
  · exact snumber_any cb 5 1 t W hW (h5 z1) hs (by omega) (by omega)
  · have := smark_any cb 6 t ⟨#[46]⟩ W hW (h6 q) hs (by show 1 ≤ _; omega)
    rw [mark_pref 46 (h6 q)] at this
    exact this
  · exact snumber_any cb 7 1 t W hW (by have := atB_in z; omega) hs (by omega) (by omega)
  · exact while_isBlank cb 8 t W hW (h8 q).2.2 hs
  · obtain ⟨q1, q2, q3⟩ := h8 q
    have hb := size_bool (t.extract 8 (laC t))
    rw [show (t.extract 8 (laC t)).size = laC t - 8 from by simp; omega] at hb
    rw [hb, decide_eq_decide]; omega
  · exact snumber_any cb (laC t) 3 t W hW (h8 q).1 hs (by omega) (by omega)
  · exact end_any cb _ t W hW (hD q) hs
  · have := smark_any cb (laC t + 3) t ⟨#[32]⟩ W hW (hD q) hs (by show 1 ≤ _; omega)
    rw [mark_pref 32 (hD q)] at this
    exact this
  · exact while_tab cb _ t W hW (by have := atB_in z; omega) hs
  · refine (rest_any cb _ t W hW (scan_le _ _ _ (by have := atB_in z; omega)) hs).mono ?_
    rintro r w' ⟨h1, rfl⟩
    exact ⟨h1, (Mv.refl _ _ _).setCell (.inl (by simp)) _, hW.set t.size⟩
  · rw [e]; exact lin_5 a b c d e
  · rw [← f]; exact lin_7 a b c d e f (by omega) (by rw [f]; exact h)
  · rw [lin_8 a b c d e f (.inl (by omega))]
    have hR : lnR t = ⟨#[]⟩ := by
      have h1 : laE t = t.size := by unfold laE; rw [f, g]; exact scan_end rfl
      unfold lnR
      rw [h1]
      apply ByteArray.ext
      simp
    rw [hR, g]
  · have hE : laE t = scan tabB t (laC t + 3 + 1) := by
      have g1 := atB_in h
      rw [atB_at g1, beq_iff_eq] at h
      unfold laE
      rw [f]
      exact (scan_step g1 (by rw [h]; rfl)).symm
    have hR : lnR t = t.extract (scan tabB t (laC t + 3 + 1)) t.size := by unfold lnR; rw [hE]
    rw [lin_8 a b c d e f (.inr (by rw [f]; exact h)), hR]

/-- What Line answers. -/
def lineV (o : Except Nat (Int × Int × Int × ByteArray)) : Ending := match o with
  | .ok (a, b, c, r) => .returned (.tuple #[stV a b c r, .int .i64 0])
  | .error _ => .returned (.tuple #[stV 0 0 0 ⟨#[]⟩, .int .i64 2])
theorem lineV_no {o : Except Nat (Int × Int × Int × ByteArray)} (h : ∀ v, o ≠ .ok v) : lineV o = .returned (.tuple #[stV 0 0 0 ⟨#[]⟩, .int .i64 2]) := by
  cases o with
  | ok v => exact absurd rfl (h v)
  | error p => rfl
theorem lineV_ok {o : Except Nat (Int × Int × Int × ByteArray)} {a b c : Int} {r : ByteArray} (h : o = .ok (a, b, c, r)) : lineV o = .returned (.tuple #[stV a b c r, .int .i64 0]) := by rw [h]; rfl
theorem lineV_some (o : Except Nat (Int × Int × Int × ByteArray)) : ∃ a b c r x, lineV o = .returned (.tuple #[stV a b c r, .int .i64 x]) := by
  cases o with
  | ok v => exact ⟨_, _, _, _, _, rfl⟩
  | error p => exact ⟨_, _, _, _, _, rfl⟩

set_option maxRecDepth 100000 in
set_option maxHeartbeats 4000000 in
theorem linec_any (ps : Addr) (s : ByteArray) (w : World) (hp : w.cell? ps = some (.string s)) (hs : s.size ≤ 9223372036854775807) :
    Calls Try.prog 21 #[.pointer (some ps)] w fun r w' => LinEnd (linO (cutP tabB s)) r ∧ Below w.heap.size w w' := by
  have lp := World.block_lt_of_cell? w _ hp
  obtain ⟨w0, hw0⟩ : ∃ w0, w0 = w.alloc (.cells zerA 28) := ⟨_, rfl⟩
  have HB := Lib.hid (show Below w.heap.size w w0 from by rw [hw0]; exact (Below.refl _ _).alloc (Nat.le_refl _) _)
  have HZ := Lib.hid (show Blk w0 w.heap.size 28 zerA from by rw [hw0]; exact Blk.new w _ _)
  have c1 : (w.alloc (.cells #[.int .i64 0, .int .i64 0, .int .i64 0, .string ⟨#[]⟩] 28)).cell? ps = some (.string s) := (((Below.refl w.heap.size w).alloc (Nat.le_refl _) _).cell lp).trans hp
  have HE := Lib.hid (fun W => ends_any s W hs)
  have hz : (cutP tabB s).size ≤ 9223372036854775807 := by have := cutP_size tabB s; have := backN_le tabB s s.size; omega
  have HA := Lib.hid (fun cb W (hW : Cur W cb (cutP tabB s) 0) => line25_any cb (cutP tabB s) W hW hz)
  generalize cutP tabB s = t at *
  clear hp lp hz
  go_enter Try.func21, Try.ntmps21
  go_wp2_with (go_at_call 24; (with_reducible refine (HE.out _).mono ?_); rintro e w1 ⟨rfl, rfl⟩)
  rw [← hw0]
  clear hw0
  refine (new_any _ _).mono ?_
  rintro r w1 ⟨rfl, hw1⟩
  have HB1 := Lib.hid (show Below w.heap.size w w1 from by rw [hw1]; exact HB.out.alloc HB.out.size _)
  have HC1 := Lib.hid (show Cur w1 w0.heap.size t 0 from by rw [hw1]; exact Blk.new w0 _ _)
  have HZ1 := Lib.hid (show Blk w1 w.heap.size 28 zerA from by rw [hw1]; exact HZ.out.alloc _)
  clear hw1 c1
  go_wp2_with fail
  refine (HA.out _ _ HC1.out).mono ?_
  rintro r w2 ⟨hq, m1⟩
  have HB2 := Lib.hid (HB1.out.trans (m1.below (B' := w.heap.size) HB1.out.size (by simp; exact HB.out.size)))
  have HZ2 := Lib.hid (HZ1.out.mv m1 HZ1.out.lt (by have := HZ.out.lt; simp; omega))
  rcases Or.symm hq with ⟨p, ho, rfl⟩ | ⟨a, b, c, x, ho, rfl⟩
  · exact ⟨rfl, Or.inr ⟨p, ho, rfl⟩, HB2.out⟩
  have z0 := HZ2.out.cell 0
  have z1 := HZ2.out.cell 1
  have z2 := HZ2.out.cell 2
  have z3 := HZ2.out.cell 3
  have f0 := HZ2.out.frozen 0
  have f1 := HZ2.out.frozen 1
  have f2 := HZ2.out.frozen 2
  have f3 := HZ2.out.frozen 3
  clear m1
  go_wp2
  have hk := (((HZ2.out.set_ 0 (.int .i64 a)).set_ 1 (.int .i64 b)).set_ 2 (.int .i64 c)).set_ 3 (.string x)
  have j0 : _ = some (.int .i64 a : Value) := hk.cell 0
  have j1 : _ = some (.int .i64 b : Value) := hk.cell 1
  have j2 : _ = some (.int .i64 c : Value) := hk.cell 2
  have j3 : _ = some (.string x : Value) := hk.cell 3
  refine bodyPost_ret (v := stV a b c x) (by simp [results, Try.results21, go_sem, j0, j1, j2, j3]) rfl ⟨Or.inl ⟨a, b, c, x, ho, rfl⟩, ?_⟩
  exact (((HB2.out.setCell (by exact Nat.le_refl _) _).setCell (by exact Nat.le_refl _) _).setCell (by exact Nat.le_refl _) _).setCell (by exact Nat.le_refl _) _

theorem enter_linec (a : Value) (w : World) : (callFunc 21 (#[] ++ #[a])).run Try.prog w = .ok (.enter 21 (#[] ++ #[a])) w := by simp [go_sem]

theorem lineval_any (ps : Addr) (s : ByteArray) (w : World) (hp : w.cell? ps = some (.string s)) (hs : s.size ≤ 9223372036854775807) :
    ∃ x y z r a c, lineV (linO (cutP tabB s)) = .returned (.tuple #[stV x y z r, .int .i64 c]) ∧ Calls Try.prog 20 #[.func (.func 21) #[] #[.pointer (some ps)]] w fun e w' => e = .returned (.tuple #[stV x y z r, flt a c]) ∧ Below w.heap.size w w' := by
  have lp := World.block_lt_of_cell? w _ hp
  have H := fun W (hW : Below w.heap.size w W) => linec_any ps s W ((hW.cell lp).trans hp) hs
  cases ho : linO (cutP tabB s) with
  | ok v =>
    obtain ⟨x, y, z, r⟩ := v
    refine ⟨x, y, z, r, 0, 0, rfl, (valuebStatus_returns 21 #[] #[.pointer (some ps)] x y z r w [] (fun _ => True) (by simp) (fun _ _ _ _ => trivial) (enter_linec _) fun W hW => (H W hW).mono fun e w' ⟨h, b⟩ => ?_).mono fun e w' ⟨h1, h2, _⟩ => ⟨h1, h2.below (Nat.le_refl _) (by simp)⟩⟩
    rw [ho] at h
    rcases h with ⟨x', y', z', r', h, rfl⟩ | ⟨p, h, rfl⟩
    · cases h
      exact ⟨rfl, Mv.of_below b _, trivial⟩
    · cases h
  | error v =>
    refine ⟨0, 0, 0, ⟨#[]⟩, v, 2, rfl, (valuebStatus_throws 21 #[] #[.pointer (some ps)] v 2 w [] (fun _ => True) (by simp) (fun _ _ _ _ => trivial) (enter_linec _) fun W hW => (H W hW).mono fun e w' ⟨h, b⟩ => ?_).mono fun e w' ⟨h1, h2, _⟩ => ⟨h1, h2.below (Nat.le_refl _) (by simp)⟩⟩
    rw [ho] at h
    rcases h with ⟨x', y', z', r', h, rfl⟩ | ⟨p, h, rfl⟩
    · cases h
    · cases h
      exact ⟨rfl, Mv.of_below b _, trivial⟩

set_option maxRecDepth 100000 in
set_option maxHeartbeats 4000000 in
theorem sline_any (s : ByteArray) (w : World) (hs : s.size ≤ 9223372036854775807) :
    Calls Try.prog 17 #[.string s] w fun r w' => r = lineV (linO (cutP tabB s)) ∧ Below w.heap.size w w' := by
  obtain ⟨w0, hw0⟩ : ∃ w0, w0 = (w.alloc (.cells #[.string s] 9)).alloc (.cells zerA 28) := ⟨_, rfl⟩
  have HB := Lib.hid (show Below w.heap.size w w0 from by rw [hw0]; exact ((Below.refl _ _).alloc (Nat.le_refl _) _).alloc (by simp) _)
  have c0 : w0.cell? ⟨w.heap.size, 0, none⟩ = some (.string s) := by rw [hw0]; exact ((Blk.new w 9 #[.string s]).alloc _).cell 0
  have HZ := Lib.hid (show Blk w0 (w.heap.size + 1) 28 zerA from by
    have := Blk.new (w.alloc (.cells #[.string s] 9)) 28 zerA
    rw [hw0]
    simpa using this)
  have hmf := make_func
  obtain ⟨x, y, z, r, a, c, ho, hv⟩ := lineval_any ⟨w.heap.size, 0, none⟩ s w0 c0 hs
  have HV := Lib.hid hv
  have HO := Lib.hid ho
  rw [HO.out]
  clear hv ho c0 HO
  go_enter Try.func17, Try.ntmps17
  go_wp2_with fail
  rw [← hw0]
  clear hw0
  refine HV.out.mono ?_
  rintro e w1 ⟨rfl, b1⟩
  have HB1 := Lib.hid (HB.out.trans (b1.mono HB.out.size))
  have HZ1 := Lib.hid (HZ.out.below b1 HZ.out.lt)
  clear b1 HV HZ HB
  obtain ⟨w2, hw2⟩ : ∃ w2, w2 = (w1.alloc (stC x y z r)).alloc (flc a c) := ⟨_, rfl⟩
  have HB2 := Lib.hid (show Below w.heap.size w w2 from by rw [hw2]; exact (HB1.out.alloc HB1.out.size _).alloc (by simp; have := HB1.out.size; omega) _)
  have HZ2 := Lib.hid (show Blk w2 (w.heap.size + 1) 28 zerA from by rw [hw2]; exact (HZ1.out.alloc _).alloc _)
  have HV2 := Lib.hid (show Blk w2 w1.heap.size 28 #[.int .i64 x, .int .i64 y, .int .i64 z, .string r] from by rw [hw2]; exact (Blk.new w1 _ _).alloc _)
  have HF2 := Lib.hid (show Blk w2 (w1.heap.size + 1) 37 #[.int .i64 a, .int .i64 c] from by
    have := Blk.new (w1.alloc (stC x y z r)) 37 #[.int .i64 a, .int .i64 c]
    rw [hw2]
    simpa using this)
  have hlt := HZ1.out.lt
  have dd : ((((w2.setCell ⟨w.heap.size + 1, 0, none⟩ (.int .i64 x)).setCell ⟨w.heap.size + 1, 1, none⟩ (.int .i64 y)).setCell ⟨w.heap.size + 1, 2, none⟩ (.int .i64 z)).setCell ⟨w.heap.size + 1, 3, none⟩ (.string r)).cell? ⟨w1.heap.size + 1, 1, none⟩ = some (.int .i64 c) := ((((HF2.out.far (by simp; omega) _).far (by simp; omega) _).far (by simp; omega) _).far (by simp; omega) _).cell 1
  clear HB1 HZ1 hlt
  go_wp2_with fail
  rw [← hw2]
  clear hw2
  have e0 : w2.cell? ⟨w.heap.size + 1, 0, none⟩ = some (.int .i64 0) := HZ2.out.cell 0
  have e1 : w2.cell? ⟨w.heap.size + 1, 1, none⟩ = some (.int .i64 0) := HZ2.out.cell 1
  have e2 : w2.cell? ⟨w.heap.size + 1, 2, none⟩ = some (.int .i64 0) := HZ2.out.cell 2
  have e3 : w2.cell? ⟨w.heap.size + 1, 3, none⟩ = some (.string ⟨#[]⟩) := HZ2.out.cell 3
  have f0 := HZ2.out.frozen 0
  have f1 := HZ2.out.frozen 1
  have f2 := HZ2.out.frozen 2
  have f3 := HZ2.out.frozen 3
  have d0 : w2.cell? ⟨w1.heap.size, 0, none⟩ = some (.int .i64 x) := HV2.out.cell 0
  have d1 : w2.cell? ⟨w1.heap.size, 1, none⟩ = some (.int .i64 y) := HV2.out.cell 1
  have d2 : w2.cell? ⟨w1.heap.size, 2, none⟩ = some (.int .i64 z) := HV2.out.cell 2
  have d3 : w2.cell? ⟨w1.heap.size, 3, none⟩ = some (.string r) := HV2.out.cell 3
  have d4 : w2.cell? ⟨w1.heap.size + 1, 0, none⟩ = some (.int .i64 a) := HF2.out.cell 0
  have d5 : w2.cell? ⟨w1.heap.size + 1, 1, none⟩ = some (.int .i64 c) := HF2.out.cell 1
  have hn : w1.heap.size + 1 < w2.heap.size := HF2.out.lt
  clear HF2 HV2
  generalize w1.heap.size = m1 at *
  go_region
  all_goals go_wp2
  have hk := (((HZ2.out.set_ 0 (.int .i64 x)).set_ 1 (.int .i64 y)).set_ 2 (.int .i64 z)).set_ 3 (.string r)
  have j0 : _ = some (.int .i64 x : Value) := hk.cell 0
  have j1 : _ = some (.int .i64 y : Value) := hk.cell 1
  have j2 : _ = some (.int .i64 z : Value) := hk.cell 2
  have j3 : _ = some (.string r : Value) := hk.cell 3
  refine bodyPost_ret (v := .tuple #[stV x y z r, .int .i64 c]) (by simp [results, Try.results17, go_sem, j0, j1, j2, j3]) rfl ⟨rfl, ?_⟩
  exact Below.drewN' ((((HB2.out.setCell (by simp) _).setCell (by simp) _).setCell (by simp) _).setCell (by simp) _) 1

end Go.Proofs.Yteeheehoaklnbaa
namespace Go.Proofs.Yteeheehoaklnbaa
open Go.RowKit

set_option maxHeartbeats 1000000 in
theorem refRun_any (s : ByteArray) (w : World) (hs : s.size ≤ 9223372036854775807) :
    Calls Try.prog 28 #[.string s] w fun e w' => e = .returned (.int .i64 (runD s : Nat)) ∧ w = w' := by
  go_enter Try.func28, Try.ntmps28
  go_wp2
  go_loop [3] (fun i => ∃ k : Nat, k ≤ s.size ∧ i = .int .i64 k ∧ scan digB s k = runD s) (fun i => s.size - (intOf i).toNat)
  case atStart => exact ⟨0, by omega, rfl, rfl⟩
  case round =>
    obtain ⟨k, hk, rfl, hb⟩ := hrel
    have HB := Lib.hid hb
    clear hb
    by_cases hlt : k < s.size
    · have HL := Lib.hid (fun W => refDigit_any s[k] W)
      cases hb : digB s[k]
      · have HT := Lib.hid (show runD s = k from by rw [← HB.out, scan_stop hlt hb])
        have HL2 : Hid (∀ W, Calls Try.prog 27 #[.int .u8 (s[k].toNat : Int)] W fun e w' => e = .returned (.bool false) ∧ W = w') := fun W => by have := HL.out W; rwa [hb] at this
        clear HL hb
        go_wp2_with (go_at_call 27; refine (HL2.out _).mono ?_; rintro e w' ⟨rfl, rfl⟩)
        go_ret
        exact ⟨by rw [HT.out]; rfl, rfl⟩
      · have HE : Hid (scan digB s (k + 1) = scan digB s k) := scan_step hlt hb
        have HL2 : Hid (∀ W, Calls Try.prog 27 #[.int .u8 (s[k].toNat : Int)] W fun e w' => e = .returned (.bool true) ∧ W = w') := fun W => by have := HL.out W; rwa [hb] at this
        clear HL hb
        go_wp2_with (go_at_call 27; refine (HL2.out _).mono ?_; rintro e w' ⟨rfl, rfl⟩)
        go_round
        case rel => exact ⟨k + 1, by omega, by go_num, HE.out.trans HB.out⟩
        case measure => simp [intOf]; omega
    · obtain rfl : k = s.size := by omega
      have HT := Lib.hid (show runD s = s.size from by rw [← HB.out, scan_end rfl])
      go_wp2
      go_ret
      exact ⟨by rw [HT.out]; rfl, rfl⟩

end Go.Proofs.Yteeheehoaklnbaa
namespace Go.Proofs.Yteeheehoaklnbaa
open Go.RowKit

abbrev badE : Ending := .returned (.tuple #[stV 0 0 0 ⟨#[]⟩, .int .i64 2])

/-- Two variables of a walk's own: what it hands back, and what is none. -/
structure Lnd (B : Nat) (w : World) : Prop where
  res : Blk w B 28 zerA
  non : Blk w (B + 1) 28 zerA
theorem Lnd.new (w : World) : Lnd w.heap.size ((w.alloc (.cells zerA 28)).alloc (.cells zerA 28)) :=
  ⟨(Blk.new w _ _).alloc _, by have := Blk.new (w.alloc (.cells zerA 28)) 28 zerA; simpa using this⟩
theorem Lnd.below {B : Nat} {w w' : World} (h : Lnd B w) (hb : Below w.heap.size w w') : Lnd B w' := ⟨h.res.below hb h.res.lt, h.non.below hb h.non.lt⟩
theorem Lnd.lt {B : Nat} {w : World} (h : Lnd B w) : B + 1 < w.heap.size := h.non.lt
theorem Lnd.cells {B : Nat} {w : World} (h : Lnd B w) : w.cell? ⟨B, 0, none⟩ = some (.int .i64 0) ∧ w.cell? ⟨B, 1, none⟩ = some (.int .i64 0) ∧ w.cell? ⟨B, 2, none⟩ = some (.int .i64 0) ∧ w.cell? ⟨B, 3, none⟩ = some (.string ⟨#[]⟩) :=
  ⟨h.res.cell 0, h.res.cell 1, h.res.cell 2, h.res.cell 3⟩
theorem Lnd.nones {B : Nat} {w : World} (h : Lnd B w) : w.cell? ⟨B + 1, 0, none⟩ = some (.int .i64 0) ∧ w.cell? ⟨B + 1, 1, none⟩ = some (.int .i64 0) ∧ w.cell? ⟨B + 1, 2, none⟩ = some (.int .i64 0) ∧ w.cell? ⟨B + 1, 3, none⟩ = some (.string ⟨#[]⟩) :=
  ⟨h.non.cell 0, h.non.cell 1, h.non.cell 2, h.non.cell 3⟩
theorem Lnd.thaw {B : Nat} {w : World} (h : Lnd B w) : w.frozen? ⟨B, 0, none⟩ = false ∧ w.frozen? ⟨B, 1, none⟩ = false ∧ w.frozen? ⟨B, 2, none⟩ = false ∧ w.frozen? ⟨B, 3, none⟩ = false :=
  ⟨h.res.frozen 0, h.res.frozen 1, h.res.frozen 2, h.res.frozen 3⟩
theorem Lnd.puts {B : Nat} {w : World} (h : Lnd B w) (x y z u : Value) : ((((w.setCell ⟨B, 0, none⟩ x).setCell ⟨B, 1, none⟩ y).setCell ⟨B, 2, none⟩ z).setCell ⟨B, 3, none⟩ u).cell? ⟨B, 0, none⟩ = some x ∧ ((((w.setCell ⟨B, 0, none⟩ x).setCell ⟨B, 1, none⟩ y).setCell ⟨B, 2, none⟩ z).setCell ⟨B, 3, none⟩ u).cell? ⟨B, 1, none⟩ = some y ∧ ((((w.setCell ⟨B, 0, none⟩ x).setCell ⟨B, 1, none⟩ y).setCell ⟨B, 2, none⟩ z).setCell ⟨B, 3, none⟩ u).cell? ⟨B, 2, none⟩ = some z ∧ ((((w.setCell ⟨B, 0, none⟩ x).setCell ⟨B, 1, none⟩ y).setCell ⟨B, 2, none⟩ z).setCell ⟨B, 3, none⟩ u).cell? ⟨B, 3, none⟩ = some u :=
  ⟨((((h.res.set_ 0 x).set_ 1 y).set_ 2 z).set_ 3 u).cell 0, ((((h.res.set_ 0 x).set_ 1 y).set_ 2 z).set_ 3 u).cell 1, ((((h.res.set_ 0 x).set_ 1 y).set_ 2 z).set_ 3 u).cell 2, ((((h.res.set_ 0 x).set_ 1 y).set_ 2 z).set_ 3 u).cell 3⟩

theorem int_beq (c d : UInt8) : ((c.toNat : Int) == (d.toNat : Int)) = (c == d) := by
  rw [Bool.eq_iff_iff, beq_iff_eq, beq_iff_eq]
  exact ⟨fun e => UInt8.toNat_inj.1 (by omega), fun e => by rw [e]⟩

set_option maxRecDepth 100000 in
set_option maxHeartbeats 4000000 in
theorem rline_head (s t : ByteArray) (zP b5 b6 b7 b8 : Bool) (c5 c6 c7 c8 : UInt8) (A : Ending) (w : World)
    (HE : Hid (∀ W, Calls Try.prog 25 #[.string s] W fun e w' => e = .returned (.string t) ∧ W = w'))
    (HP : Hid (∀ W, Calls Try.prog 26 #[.string t, .string htpS] W fun e w' => e = .returned (.bool zP) ∧ W = w'))
    (HD5 : Hid (∀ W, Calls Try.prog 27 #[.int .u8 (c5.toNat : Int)] W fun e w' => e = .returned (.bool b5) ∧ W = w'))
    (HD7 : Hid (∀ W, Calls Try.prog 27 #[.int .u8 (c7.toNat : Int)] W fun e w' => e = .returned (.bool b7) ∧ W = w'))
    (hA : A = badE) (hz : t.size ≤ 9223372036854775807)
    (g5 : ∀ h : 12 ≤ t.size, t[5] = c5) (g6 : ∀ h : 12 ≤ t.size, t[6] = c6) (g7 : ∀ h : 12 ≤ t.size, t[7] = c7) (g8 : ∀ h : 12 ≤ t.size, t[8] = c8)
    (h6 : ((c6.toNat : Int) != 46) = !b6) (h8 : ((c8.toNat : Int) != 32) = !b8)
    (hno : zP = false ∨ t.size < 12 ∨ b5 = false ∨ b6 = false ∨ b7 = false ∨ b8 = false) :
    Calls Try.prog 18 #[.string s] w fun r w' => r = A ∧ Below w.heap.size w w' := by
  obtain ⟨w0, hw0⟩ : ∃ w0, w0 = (w.alloc (.cells zerA 28)).alloc (.cells zerA 28) := ⟨_, rfl⟩
  have HB := Lib.hid (show Below w.heap.size w w0 from by rw [hw0]; exact ((Below.refl _ _).alloc (Nat.le_refl _) _).alloc (by simp) _)
  have HK := Lib.hid (show Lnd w.heap.size w0 from by rw [hw0]; exact Lnd.new w)
  obtain ⟨e0, e1, e2, e3⟩ := HK.out.cells
  obtain ⟨n0, n1, n2, n3⟩ := HK.out.nones
  obtain ⟨f0, f1, f2, f3⟩ := HK.out.thaw
  cases zP
  · clear hno g5 g6 g7 g8 h6 h8
    have hv := Lib.hid hA
    rw [hv.out]
    clear hv hA
    go_enter Try.func18, Try.ntmps18
    go_wp2_with fail
    rw [← hw0]
    clear hw0
    go_wp2_with (first
          | (go_at_call 25; (with_reducible refine (HE.out _).mono ?_); rintro r w9 ⟨rfl, rfl⟩)
          | (go_at_call 26; (with_reducible refine (HP.out _).mono ?_); rintro r w9 ⟨rfl, rfl⟩)
          | (go_at_call 27; first | (with_reducible refine (HD5.out _).mono ?_) | (with_reducible refine (HD7.out _).mono ?_)
             rintro r w9 ⟨rfl, rfl⟩))
    obtain ⟨j0, j1, j2, j3⟩ := HK.out.puts (.int .i64 0) (.int .i64 0) (.int .i64 0) (.string ⟨#[]⟩)
    exact bodyPost_ret (v := .tuple #[stV 0 0 0 ⟨#[]⟩, .int .i64 2]) (by simp [results, Try.results18, go_sem, j0, j1, j2, j3]) rfl ⟨rfl, (((HB.out.setCell (by exact Nat.le_refl _) _).setCell (by exact Nat.le_refl _) _).setCell (by exact Nat.le_refl _) _).setCell (by exact Nat.le_refl _) _⟩
  by_cases hs : t.size < 12
  · clear hno g5 g6 g7 g8 h6 h8
    have hs2 : (t.size : Int) < 12 := by omega
    have hv := Lib.hid hA
    rw [hv.out]
    clear hv hA
    go_enter Try.func18, Try.ntmps18
    go_wp2_with fail
    rw [← hw0]
    clear hw0
    go_wp2_with (first
          | (go_at_call 25; (with_reducible refine (HE.out _).mono ?_); rintro r w9 ⟨rfl, rfl⟩)
          | (go_at_call 26; (with_reducible refine (HP.out _).mono ?_); rintro r w9 ⟨rfl, rfl⟩)
          | (go_at_call 27; first | (with_reducible refine (HD5.out _).mono ?_) | (with_reducible refine (HD7.out _).mono ?_)
             rintro r w9 ⟨rfl, rfl⟩))
    obtain ⟨j0, j1, j2, j3⟩ := HK.out.puts (.int .i64 0) (.int .i64 0) (.int .i64 0) (.string ⟨#[]⟩)
    exact bodyPost_ret (v := .tuple #[stV 0 0 0 ⟨#[]⟩, .int .i64 2]) (by simp [results, Try.results18, go_sem, j0, j1, j2, j3]) rfl ⟨rfl, (((HB.out.setCell (by exact Nat.le_refl _) _).setCell (by exact Nat.le_refl _) _).setCell (by exact Nat.le_refl _) _).setCell (by exact Nat.le_refl _) _⟩
  have k5 := g5 (by omega)
  have k6 := g6 (by omega)
  have k7 := g7 (by omega)
  have k8 := g8 (by omega)
  have hs2 : ¬ (t.size : Int) < 12 := by omega
  clear g5 g6 g7 g8
  cases b5
  · clear hno
    have hv := Lib.hid hA
    rw [hv.out]
    clear hv hA
    go_enter Try.func18, Try.ntmps18
    go_wp2_with fail
    rw [← hw0]
    clear hw0
    go_wp2_with (first
          | (go_at_call 25; (with_reducible refine (HE.out _).mono ?_); rintro r w9 ⟨rfl, rfl⟩)
          | (go_at_call 26; (with_reducible refine (HP.out _).mono ?_); rintro r w9 ⟨rfl, rfl⟩)
          | (go_at_call 27; first | (with_reducible refine (HD5.out _).mono ?_) | (with_reducible refine (HD7.out _).mono ?_)
             rintro r w9 ⟨rfl, rfl⟩))
    obtain ⟨j0, j1, j2, j3⟩ := HK.out.puts (.int .i64 0) (.int .i64 0) (.int .i64 0) (.string ⟨#[]⟩)
    exact bodyPost_ret (v := .tuple #[stV 0 0 0 ⟨#[]⟩, .int .i64 2]) (by simp [results, Try.results18, go_sem, j0, j1, j2, j3]) rfl ⟨rfl, (((HB.out.setCell (by exact Nat.le_refl _) _).setCell (by exact Nat.le_refl _) _).setCell (by exact Nat.le_refl _) _).setCell (by exact Nat.le_refl _) _⟩
  cases b6
  · clear hno
    replace h6 : ((c6.toNat : Int) != 46) = true := h6
    have hv := Lib.hid hA
    rw [hv.out]
    clear hv hA
    go_enter Try.func18, Try.ntmps18
    go_wp2_with fail
    rw [← hw0]
    clear hw0
    go_wp2_with (first
          | (go_at_call 25; (with_reducible refine (HE.out _).mono ?_); rintro r w9 ⟨rfl, rfl⟩)
          | (go_at_call 26; (with_reducible refine (HP.out _).mono ?_); rintro r w9 ⟨rfl, rfl⟩)
          | (go_at_call 27; first | (with_reducible refine (HD5.out _).mono ?_) | (with_reducible refine (HD7.out _).mono ?_)
             rintro r w9 ⟨rfl, rfl⟩))
    obtain ⟨j0, j1, j2, j3⟩ := HK.out.puts (.int .i64 0) (.int .i64 0) (.int .i64 0) (.string ⟨#[]⟩)
    exact bodyPost_ret (v := .tuple #[stV 0 0 0 ⟨#[]⟩, .int .i64 2]) (by simp [results, Try.results18, go_sem, j0, j1, j2, j3]) rfl ⟨rfl, (((HB.out.setCell (by exact Nat.le_refl _) _).setCell (by exact Nat.le_refl _) _).setCell (by exact Nat.le_refl _) _).setCell (by exact Nat.le_refl _) _⟩
  replace h6 : ((c6.toNat : Int) != 46) = false := h6
  cases b7
  · clear hno
    have hv := Lib.hid hA
    rw [hv.out]
    clear hv hA
    go_enter Try.func18, Try.ntmps18
    go_wp2_with fail
    rw [← hw0]
    clear hw0
    go_wp2_with (first
          | (go_at_call 25; (with_reducible refine (HE.out _).mono ?_); rintro r w9 ⟨rfl, rfl⟩)
          | (go_at_call 26; (with_reducible refine (HP.out _).mono ?_); rintro r w9 ⟨rfl, rfl⟩)
          | (go_at_call 27; first | (with_reducible refine (HD5.out _).mono ?_) | (with_reducible refine (HD7.out _).mono ?_)
             rintro r w9 ⟨rfl, rfl⟩))
    obtain ⟨j0, j1, j2, j3⟩ := HK.out.puts (.int .i64 0) (.int .i64 0) (.int .i64 0) (.string ⟨#[]⟩)
    exact bodyPost_ret (v := .tuple #[stV 0 0 0 ⟨#[]⟩, .int .i64 2]) (by simp [results, Try.results18, go_sem, j0, j1, j2, j3]) rfl ⟨rfl, (((HB.out.setCell (by exact Nat.le_refl _) _).setCell (by exact Nat.le_refl _) _).setCell (by exact Nat.le_refl _) _).setCell (by exact Nat.le_refl _) _⟩
  cases b8
  · clear hno
    replace h8 : ((c8.toNat : Int) != 32) = true := h8
    have hv := Lib.hid hA
    rw [hv.out]
    clear hv hA
    go_enter Try.func18, Try.ntmps18
    go_wp2_with fail
    rw [← hw0]
    clear hw0
    go_wp2_with (first
          | (go_at_call 25; (with_reducible refine (HE.out _).mono ?_); rintro r w9 ⟨rfl, rfl⟩)
          | (go_at_call 26; (with_reducible refine (HP.out _).mono ?_); rintro r w9 ⟨rfl, rfl⟩)
          | (go_at_call 27; first | (with_reducible refine (HD5.out _).mono ?_) | (with_reducible refine (HD7.out _).mono ?_)
             rintro r w9 ⟨rfl, rfl⟩))
    obtain ⟨j0, j1, j2, j3⟩ := HK.out.puts (.int .i64 0) (.int .i64 0) (.int .i64 0) (.string ⟨#[]⟩)
    exact bodyPost_ret (v := .tuple #[stV 0 0 0 ⟨#[]⟩, .int .i64 2]) (by simp [results, Try.results18, go_sem, j0, j1, j2, j3]) rfl ⟨rfl, (((HB.out.setCell (by exact Nat.le_refl _) _).setCell (by exact Nat.le_refl _) _).setCell (by exact Nat.le_refl _) _).setCell (by exact Nat.le_refl _) _⟩
  simp at hno
  omega

end Go.Proofs.Yteeheehoaklnbaa
