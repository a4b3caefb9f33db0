/-
  That package ranges is read (lives). No condition.
  What package ranges' Parse answers. Condition: the text is no longer than a length can be.
  The law RangesWrites. Condition: the library's table of powers of ten is laid.
-/
import Derived.Test.YtaolclpjlkdkjaaDoorZ12
import Derived.Test.YtaolclpjlkdkjaaDoorZ11
import Derived.Test.YtaolclpjlkdkjaaDoorZ8
import Derived.Deep.Cut
namespace Go.Proofs.YtaolclpjlkdkjaaDoor
open Go.RowKit

abbrev livS : ByteArray := ⟨#[98, 121, 116, 101, 115, 32, 48, 45, 52, 47, 49, 48]⟩
theorem liv_cont : contO livS = .ok (0, 4, 10) := by kernel_rfl
theorem liv_len : lenQ 0 4 10 = 5 := by kernel_rfl

set_option maxHeartbeats 1000000 in
theorem lives24_any (w : World) : Calls Tryd.prog 10 #[] w fun e w' => e = .returned (.bool true) ∧ Below w.heap.size w w' := by
  have HC := Lib.hid (content24_any livS w (by decide))
  rw [contV_ok liv_cont] at HC
  have HL := Lib.hid (fun W => len_any 0 4 10 W)
  rw [liv_len] at HL
  go_enter Tryd.func10, Tryd.ntmps10
  go_wp2_with fail
  refine HC.out.mono ?_
  rintro e w1 ⟨rfl, b1⟩
  have HB1 := Lib.hid (show Below w.heap.size w (w1.alloc (partC 0 4 10)) from b1.alloc b1.size _)
  clear b1 HC
  go_wp2_with fail
  refine (HL.out _).mono ?_
  rintro e w2 ⟨rfl, b2⟩
  have HB2 := Lib.hid (below_on HB1.out b2)
  clear b2
  go_wp2
  go_ret
  exact ⟨rfl, HB2.out⟩

end Go.Proofs.YtaolclpjlkdkjaaDoor
namespace Go.Proofs.YtaolclpjlkdkjaaDoor
open Go.RowKit

abbrev fnAsked : Value := .func (.func 19) #[] #[]

set_option maxRecDepth 100000 in
set_option maxHeartbeats 4000000 in
theorem askc_any (pf ps : Addr) (s : ByteArray) (w : World) (hf : w.cell? pf = some fnAsked) (hp : w.cell? ps = some (.string s)) (hs : s.size ≤ 9223372036854775807) :
    Calls Tryd.prog 27 #[.pointer (some pf), .pointer (some ps)] w fun r w' => RngEnd (askO s) r ∧ Below w.heap.size w w' := by
  have lf := World.block_lt_of_cell? w _ hf
  have lp := World.block_lt_of_cell? w _ hp
  obtain ⟨w0, hw0⟩ : ∃ w0, w0 = w.alloc (rngC 0 0) := ⟨_, rfl⟩
  have HB := Lib.hid (show Below w.heap.size w w0 from by rw [hw0]; exact (Below.refl _ _).alloc (Nat.le_refl _) _)
  have HZ := Lib.hid (show Blk w0 w.heap.size 23 #[.int .i64 0, .int .i64 0] from by rw [hw0]; exact Blk.new w _ _)
  have HF := Lib.hid (fun W (hW : Below w.heap.size w W) => (hW.cell lf).trans hf)
  have HP := Lib.hid (fun W (hW : Below w.heap.size w W) => (hW.cell lp).trans hp)
  have HS := Lib.hid (fun W (hW : Below w.heap.size w W) => And.intro (HF.out W hW) (HP.out W hW))
  have c0 := HF.out _ HB.out
  have c1 := HP.out _ HB.out
  have HA := Lib.hid (fun cb W (hW : Cur W cb s 0) => asked_any cb s W hW hs)
  clear hf hp lf lp
  go_enter Tryd.func27, Tryd.ntmps27
  go_wp2_with fail
  rw [← hw0]
  clear hw0
  go_region_held2 (fun w' => w'.cell? pf = some fnAsked ∧ w'.cell? ps = some (.string s))
    (first | with_reducible exact HS.out _ HB.out | with_reducible exact HS.out _ HB.out.drew | with_reducible exact HS.out _ HB1.out | with_reducible exact HS.out _ HB2.out | with_reducible exact HS.out _ ((HB2.out.setCell (by exact Nat.le_refl _) _).setCell (by exact Nat.le_refl _) _) | go_keep)
    (first
      | (go_at_call 28; (with_reducible refine (new_any _ _).mono ?_); rintro r w1 ⟨rfl, hw1⟩
         have HB1 := Lib.hid (show Below w.heap.size w w1 from by rw [hw1]; exact HB.out.drew.alloc (by simpa using HB.out.size) _)
         have HC1 := Lib.hid (show Cur w1 w0.heap.size s 0 from by rw [hw1]; exact Blk.new w0.drew _ _)
         have HZ1 := Lib.hid (show Blk w1 w.heap.size 23 #[.int .i64 0, .int .i64 0] from by rw [hw1]; exact HZ.out.drew.alloc _)
         clear hw1)
      | (go_at_call 19; (refine (HA.out _ _ HC1.out).mono ?_); rintro r w2 ⟨hq, m1⟩; rcases Or.symm hq with ⟨a, c, ho, rfl⟩ | ⟨x, y, ho, rfl⟩
         focus (exact ⟨rfl, Or.inr ⟨a, c, ho, rfl⟩, HB1.out.trans (m1.below (by have := HB1.out.size; omega) (by simp; exact HB.out.size))⟩)
         have HB2 := Lib.hid (HB1.out.trans (m1.below (B' := w.heap.size) (by have := HB1.out.size; omega) (by simp; exact HB.out.size)))
         have HZ2 := Lib.hid (HZ1.out.mv m1 HZ1.out.lt (by have := HZ.out.lt; simp; omega))
         have z0 := HZ2.out.cell 0
         have z1 := HZ2.out.cell 1
         have f0 := HZ2.out.frozen 0
         have f1 := HZ2.out.frozen 1
         clear m1))
  all_goals
    go_wp2
    have hk := (HZ2.out.set_ 0 (.int .i64 x)).set_ 1 (.int .i64 y)
    have j0 : _ = some (.int .i64 x : Value) := hk.cell 0
    have j1 : _ = some (.int .i64 y : Value) := hk.cell 1
    refine bodyPost_ret (v := rngV x y) (by simp [results, Tryd.results27, go_sem, j0, j1]) rfl ⟨Or.inl ⟨x, y, ho, rfl⟩, (HB2.out.setCell (by exact Nat.le_refl _) _).setCell (by exact Nat.le_refl _) _⟩

theorem enter_askc (a b : Value) (w : World) : (callFunc 27 (#[] ++ #[a, b])).run Tryd.prog w = .ok (.enter 27 (#[] ++ #[a, b])) w := by simp [go_sem]

theorem askval_any (pf ps : Addr) (s : ByteArray) (w : World) (hf : w.cell? pf = some fnAsked) (hp : w.cell? ps = some (.string s)) (hs : s.size ≤ 9223372036854775807) :
    ∃ x y a c, askV (askO s) = .returned (.tuple #[rngV x y, .int .i64 c]) ∧ Calls Tryd.prog 26 #[.func (.func 27) #[] #[.pointer (some pf), .pointer (some ps)]] w fun r w' => r = .returned (.tuple #[rngV x y, flt a c]) ∧ Below w.heap.size w w' := by
  have lf := World.block_lt_of_cell? w _ hf
  have lp := World.block_lt_of_cell? w _ hp
  have H := fun W (hW : Below w.heap.size w W) => askc_any pf ps s W ((hW.cell lf).trans hf) ((hW.cell lp).trans hp) hs
  cases ho : askO s with
  | ok v =>
    obtain ⟨x, y⟩ := v
    refine ⟨x, y, 0, 0, rfl, (valuebRange_returns 27 #[] #[.pointer (some pf), .pointer (some ps)] x y w [] (fun _ => True) (by simp) (fun _ _ _ _ => trivial) (enter_askc _ _) fun W hW => (H W hW).mono fun r w' ⟨h, b⟩ => ?_).mono fun r w' ⟨h1, h2, _⟩ => ⟨h1, h2.below (Nat.le_refl _) (by simp)⟩⟩
    rw [ho] at h
    rcases h with ⟨x', y', h, rfl⟩ | ⟨a, c, h, rfl⟩
    · cases h
      exact ⟨rfl, Mv.of_below b _, trivial⟩
    · cases h
  | error v =>
    obtain ⟨a, c⟩ := v
    refine ⟨0, 0, a, c, rfl, (valuebRange_throws 27 #[] #[.pointer (some pf), .pointer (some ps)] a c w [] (fun _ => True) (by simp) (fun _ _ _ _ => trivial) (enter_askc _ _) fun W hW => (H W hW).mono fun r w' ⟨h, b⟩ => ?_).mono fun r w' ⟨h1, h2, _⟩ => ⟨h1, h2.below (Nat.le_refl _) (by simp)⟩⟩
    rw [ho] at h
    rcases h with ⟨x', y', h, rfl⟩ | ⟨a', c', h, rfl⟩
    · cases h
    · cases h
      exact ⟨rfl, Mv.of_below b _, trivial⟩

set_option maxRecDepth 100000 in
set_option maxHeartbeats 4000000 in
theorem askread_any (s : ByteArray) (w : World) (hs : s.size ≤ 9223372036854775807) :
    Calls Tryd.prog 18 #[.string s, fnAsked] w fun r w' => r = askV (askO s) ∧ Below w.heap.size w w' := by
  obtain ⟨w0, hw0⟩ : ∃ w0, w0 = ((w.alloc (.cells #[.string s] 9)).alloc (.cells #[fnAsked] 43)).alloc (rngC 0 0) := ⟨_, rfl⟩
  have HB := Lib.hid (show Below w.heap.size w w0 from by rw [hw0]; exact (((Below.refl _ _).alloc (Nat.le_refl _) _).alloc (by simp) _).alloc (by simp; omega) _)
  have c0 : w0.cell? ⟨w.heap.size, 0, none⟩ = some (.string s) := by rw [hw0]; exact (((Blk.new w 9 #[.string s]).alloc _).alloc _).cell 0
  have c1 : w0.cell? ⟨w.heap.size + 1, 0, none⟩ = some fnAsked := by
    have := ((Blk.new (w.alloc (.cells #[.string s] 9)) 43 #[fnAsked]).alloc (rngC 0 0)).cell 0
    rw [hw0]
    simpa using this
  have HZ := Lib.hid (show Blk w0 (w.heap.size + 1 + 1) 23 #[.int .i64 0, .int .i64 0] from by
    have := Blk.new ((w.alloc (.cells #[.string s] 9)).alloc (.cells #[fnAsked] 43)) 23 #[.int .i64 0, .int .i64 0]
    rw [hw0]
    simpa using this)
  have hmf := make_func
  obtain ⟨x, y, a, c, ho, hv⟩ := askval_any ⟨w.heap.size + 1, 0, none⟩ ⟨w.heap.size, 0, none⟩ s w0 c1 c0 hs
  have HV := Lib.hid hv
  have HO := Lib.hid ho
  rw [HO.out]
  clear hv ho c0 c1 HO
  go_enter Tryd.func18, Tryd.ntmps18
  go_wp2_with fail
  rw [← hw0]
  clear hw0
  refine HV.out.mono ?_
  rintro r w1 ⟨rfl, b1⟩
  have HB1 := Lib.hid (HB.out.trans (b1.mono HB.out.size))
  have HZ1 := Lib.hid (HZ.out.below b1 HZ.out.lt)
  clear b1 HV HZ HB
  obtain ⟨w2, hw2⟩ : ∃ w2, w2 = (w1.alloc (rngC x y)).alloc (flc a c) := ⟨_, rfl⟩
  have HB2 := Lib.hid (show Below w.heap.size w w2 from by rw [hw2]; exact (HB1.out.alloc HB1.out.size _).alloc (by simp; have := HB1.out.size; omega) _)
  have HZ2 := Lib.hid (show Blk w2 (w.heap.size + 1 + 1) 23 #[.int .i64 0, .int .i64 0] from by rw [hw2]; exact (HZ1.out.alloc _).alloc _)
  have HV2 := Lib.hid (show Blk w2 w1.heap.size 23 #[.int .i64 x, .int .i64 y] from by rw [hw2]; exact (Blk.new w1 _ _).alloc _)
  have HF2 := Lib.hid (show Blk w2 (w1.heap.size + 1) 53 #[.int .i64 a, .int .i64 c] from by
    have := Blk.new (w1.alloc (rngC x y)) 53 #[.int .i64 a, .int .i64 c]
    rw [hw2]
    simpa using this)
  have hlt := HZ1.out.lt
  have dd : ((w2.setCell ⟨w.heap.size + 1 + 1, 0, none⟩ (.int .i64 x)).setCell ⟨w.heap.size + 1 + 1, 1, none⟩ (.int .i64 y)).cell? ⟨w1.heap.size + 1, 1, none⟩ = some (.int .i64 c) := ((HF2.out.far (by simp; omega) _).far (by simp; omega) _).cell 1
  clear HB1 HZ1 hlt
  go_wp2_with fail
  rw [← hw2]
  clear hw2
  have e0 : w2.cell? ⟨w.heap.size + 1 + 1, 0, none⟩ = some (.int .i64 0) := HZ2.out.cell 0
  have e1 : w2.cell? ⟨w.heap.size + 1 + 1, 1, none⟩ = some (.int .i64 0) := HZ2.out.cell 1
  have f0 := HZ2.out.frozen 0
  have f1 := HZ2.out.frozen 1
  have d0 : w2.cell? ⟨w1.heap.size, 0, none⟩ = some (.int .i64 x) := HV2.out.cell 0
  have d1 : w2.cell? ⟨w1.heap.size, 1, none⟩ = some (.int .i64 y) := HV2.out.cell 1
  have d2 : w2.cell? ⟨w1.heap.size + 1, 0, none⟩ = some (.int .i64 a) := HF2.out.cell 0
  have d3 : w2.cell? ⟨w1.heap.size + 1, 1, none⟩ = some (.int .i64 c) := HF2.out.cell 1
  have hn : w1.heap.size + 1 < w2.heap.size := HF2.out.lt
  clear HF2 HV2
  generalize w1.heap.size = m1 at *
  go_region
  all_goals go_wp2
  have hk := (HZ2.out.set_ 0 (.int .i64 x)).set_ 1 (.int .i64 y)
  have j0 : _ = some (.int .i64 x : Value) := hk.cell 0
  have j1 : _ = some (.int .i64 y : Value) := hk.cell 1
  refine bodyPost_ret (v := .tuple #[rngV x y, .int .i64 c]) (by simp [results, Tryd.results18, go_sem, j0, j1]) rfl ⟨rfl, ?_⟩
  exact Below.drewN' ((HB2.out.setCell (by simp; omega) _).setCell (by simp; omega) _) 1

set_option maxHeartbeats 1000000 in
theorem parse24_any (s : ByteArray) (w : World) (hs : s.size ≤ 9223372036854775807) :
    Calls Tryd.prog 6 #[.string s] w fun r w' => r = askV (askO s) ∧ Below w.heap.size w w' := by
  obtain ⟨w0, hw0⟩ : ∃ w0, w0 = w.alloc (rngC 0 0) := ⟨_, rfl⟩
  have HB := Lib.hid (show Below w.heap.size w w0 from by rw [hw0]; exact (Below.refl _ _).alloc (Nat.le_refl _) _)
  have HZ := Lib.hid (show Blk w0 w.heap.size 23 #[.int .i64 0, .int .i64 0] from by rw [hw0]; exact Blk.new w _ _)
  have HA := Lib.hid (askread_any s w0 hs)
  obtain ⟨x, y, c, hv⟩ : ∃ x y c, askV (askO s) = .returned (.tuple #[rngV x y, .int .i64 c]) := by
    cases askO s with
    | ok v => exact ⟨_, _, _, rfl⟩
    | error v => exact ⟨_, _, _, rfl⟩
  rw [hv] at HA ⊢
  clear hv
  go_enter Tryd.func6, Tryd.ntmps6
  go_wp2_with fail
  rw [← hw0]
  clear hw0
  refine HA.out.mono ?_
  rintro r w1 ⟨rfl, b1⟩
  have HB1 := Lib.hid (HB.out.trans (b1.mono HB.out.size))
  have HZ1 := Lib.hid (HZ.out.below b1 HZ.out.lt)
  have z0 := HZ1.out.cell 0
  have z1 := HZ1.out.cell 1
  have f0 := HZ1.out.frozen 0
  have f1 := HZ1.out.frozen 1
  clear b1 HA HZ HB
  go_wp2
  have hk := (HZ1.out.set_ 0 (.int .i64 x)).set_ 1 (.int .i64 y)
  have j0 : _ = some (.int .i64 x : Value) := hk.cell 0
  have j1 : _ = some (.int .i64 y : Value) := hk.cell 1
  exact bodyPost_ret (v := .tuple #[rngV x y, .int .i64 c]) (by simp [results, Tryd.results6, go_sem, j0, j1]) rfl ⟨rfl, (HB1.out.setCell (by exact Nat.le_refl _) _).setCell (by exact Nat.le_refl _) _⟩

end Go.Proofs.YtaolclpjlkdkjaaDoor
namespace Go.Proofs.YtaolclpjlkdkjaaDoor
open Go.RowKit

theorem txV_some (a b : Int) : ∃ s e, txV a b = .tuple #[.string s, .int .i64 e] ∧ s.size ≤ 100 ∧ (e = 0 → askO s = .ok (a, b)) := by
  unfold txV
  cases h1 : (!(a == -1 && b == -1) && inB a && inB b)
  · exact ⟨⟨#[]⟩, 2, rfl, by decide, fun h => by cases h⟩
  · cases h2 : (b == -1 || decide (a ≤ b))
    · exact ⟨⟨#[]⟩, 9, rfl, by decide, fun h => by cases h⟩
    · simp only [Bool.and_eq_true, Bool.not_eq_true', Bool.and_eq_false_iff, beq_eq_false_iff_ne] at h1
      simp only [Bool.or_eq_true, beq_iff_eq, decide_eq_true_eq] at h2
      obtain ⟨⟨hn, ha⟩, hb⟩ := h1
      have ia := inB_yes ha
      have ib := inB_yes hb
      have la := worS_le (n := a) (by omega)
      have lb := worS_le (n := b) (by omega)
      refine ⟨txG a b, 0, rfl, ?_, fun _ => ask_of ?_ ia.1 ia.2 ib.1 ib.2 (fun h => ?_) h2⟩
      · show (((⟨#[98, 121, 116, 101, 115, 61]⟩ ++ worS a) ++ ⟨#[45]⟩) ++ worS b : ByteArray).size ≤ 100
        simp only [ByteArray.size_append]
        have e1 : (⟨#[98, 121, 116, 101, 115, 61]⟩ : ByteArray).size = 6 := rfl
        have e2 : (⟨#[45]⟩ : ByteArray).size = 1 := rfl
        omega
      · simp only [txG, app_list, worS_list]
        simp
      · rcases hn with h3 | h3
        · exact h3 h.1
        · exact h3 h.2
theorem askV_of (o : Except (Nat × Int) (Int × Int)) : ∃ p q g, askV o = .returned (.tuple #[rngV p q, .int .i64 g]) ∧ ∀ x y, o = .ok (x, y) → p = x ∧ q = y ∧ g = 0 := by
  cases o with
  | ok v => exact ⟨_, _, _, rfl, fun x y h => by cases h; exact ⟨rfl, rfl, rfl⟩⟩
  | error v => exact ⟨_, _, _, rfl, fun x y h => by cases h⟩
theorem wriQ_cont {a b c : Int} (h : goodQ a b c = true) : contO (wriQ a b c) = .ok (a, b, c) := by
  obtain ⟨⟨a1, a2⟩, ⟨b1, b2⟩, c1, c2⟩ := goodQ_in h
  by_cases ha : a = -1
  · obtain ⟨hb, hc⟩ := goodQ_none h ha
    subst ha hb
    have hl : (wriQ (-1) (-1) c).data.toList = uniL ++ 32 :: 42 :: 47 :: worL c := by
      have e2 : (c == -1) = false := by rw [beq_eq_false_iff_ne]; exact hc
      unfold wriQ insS
      rw [e2]
      simp only [app_list, worS_list, cond_false]
      rfl
    exact cont_star hl (by omega) c2
  · have hl : (wriQ a b c).data.toList = uniL ++ 32 :: (worL a ++ 45 :: (worL b ++ 47 :: (if c = -1 then [42] else worL c))) := by
      have e1 : (a == -1) = false := by rw [beq_eq_false_iff_ne]; exact ha
      unfold wriQ insS
      rw [e1]
      by_cases hc : c = -1
      · rw [if_pos hc, beq_iff_eq.2 hc]
        simp only [app_list, worS_list, cond_false, cond_true]
        simp
      · rw [if_neg hc, beq_eq_false_iff_ne.2 hc]
        simp only [app_list, worS_list, cond_false]
        simp
    exact cont_bytes hl h ha
theorem wriQ_size {a b c : Int} (h : goodQ a b c = true) : (wriQ a b c).size ≤ 100 := by
  obtain ⟨⟨a1, a2⟩, ⟨b1, b2⟩, c1, c2⟩ := goodQ_in h
  have la := worS_le (n := a) (by omega)
  have lb := worS_le (n := b) (by omega)
  have lc := insS_le (n := c) (by omega)
  unfold wriQ
  have e1 : (⟨#[98, 121, 116, 101, 115, 32]⟩ : ByteArray).size = 6 := rfl
  have e2 : (⟨#[45]⟩ : ByteArray).size = 1 := rfl
  have e3 : (⟨#[47]⟩ : ByteArray).size = 1 := rfl
  have e4 : (⟨#[42]⟩ : ByteArray).size = 1 := rfl
  cases a == -1
  · simp only [cond_false, ByteArray.size_append]
    omega
  · simp only [cond_true, ByteArray.size_append]
    omega

set_option maxRecDepth 100000 in
set_option maxHeartbeats 8000000 in
theorem writes_walk (x y a b c e p q g e2 : Int) (s u v : ByteArray) (good : Bool) (w : World)
    (HT : Hid (∀ W, Below w.heap.size w W → Calls Tryd.prog 4 #[rngV x y] W fun r w' => r = .returned (.tuple #[.string s, .int .i64 e]) ∧ Below W.heap.size W w'))
    (HRT : Hid (∀ W, Calls Tryd.prog 5 #[rngV x y] W fun r w' => r = .returned (.tuple #[.string s, .int .i64 e]) ∧ Below W.heap.size W w'))
    (HP : Hid (∀ W, Calls Tryd.prog 6 #[.string s] W fun r w' => r = .returned (.tuple #[rngV p q, .int .i64 g]) ∧ Below W.heap.size W w'))
    (HE : Hid (e = 0 → p = x ∧ q = y ∧ g = 0))
    (HW : Hid (∀ W, Below w.heap.size w W → Calls Tryd.prog 7 #[partV a b c] W fun r w' => r = .returned (.tuple #[.string u, .int .i64 e2]) ∧ Below W.heap.size W w'))
    (HG : Hid (∀ W, Calls Tryd.prog 8 #[partV a b c] W fun r w' => r = .returned (.bool good) ∧ Below W.heap.size W w'))
    (HRG : Hid (∀ W, Calls Tryd.prog 9 #[partV a b c] W fun r w' => r = .returned (.bool good) ∧ Below W.heap.size W w'))
    (HN : Hid (good = false → u = ⟨#[]⟩ ∧ e2 = 2))
    (HY : Hid (good = true → u = v ∧ e2 = 0))
    (HRW : Hid (good = true → ∀ W, Calls Tryd.prog 12 #[partV a b c] W fun r w' => r = .returned (.string v) ∧ Below W.heap.size W w'))
    (HC : Hid (good = true → ∀ W, Calls Tryd.prog 11 #[.string v] W fun r w' => r = .returned (.tuple #[partV a b c, .int .i64 0]) ∧ Below W.heap.size W w')) :
    Calls Tryd.prog 3 #[rngV x y, partV a b c] w fun r w' => r = .returned (.bool true) ∧ Below w.heap.size w w' := by
  have HLV := Lib.hid lives24_any
  obtain ⟨w0, hw0⟩ : ∃ w0, w0 = (w.alloc (rngC x y)).alloc (partC a b c) := ⟨_, rfl⟩
  have HB := Lib.hid (show Below w.heap.size w w0 from by rw [hw0]; exact ((Below.refl w.heap.size w).alloc (Nat.le_refl _) (rngC x y)).alloc (by simp) (partC a b c))
  have H2 := Lib.hid (show TwoB w.heap.size x y a b c w0 from by rw [hw0]; exact TwoB.new w x y a b c)
  obtain ⟨c0, c1, c2, c3, c4⟩ := H2.out.keep
  by_cases h0 : e = 0
  · obtain ⟨h7, h8, h9⟩ := HE.out h0
    replace h7 := h7.symm
    replace h8 := h8.symm
    subst h7 h8 h9 h0
    clear HE
    cases good
    · obtain ⟨rfl, rfl⟩ := HN.out rfl
      clear HN HY HRW HC
      go_enter Tryd.func3, Tryd.ntmps3
      go_wp2_with fail
      rw [← hw0]
      clear hw0
      refine (HT.out _ HB.out).mono ?_
      rintro r w1 ⟨rfl, b1⟩
      replace HB := Lib.hid (below_on HB.out b1)
      replace H2 := Lib.hid (H2.out.below b1)
      clear b1 c0 c1 c2 c3 c4
      obtain ⟨c0, c1, c2, c3, c4⟩ := H2.out.keep
      go_wp2_with fail
      refine (HRT.out _).mono ?_
      rintro r w2 ⟨rfl, b1⟩
      replace HB := Lib.hid (below_on HB.out b1)
      replace H2 := Lib.hid (H2.out.below b1)
      clear b1 c0 c1 c2 c3 c4
      obtain ⟨c0, c1, c2, c3, c4⟩ := H2.out.keep
      go_wp2_with fail
      refine (HP.out _).mono ?_
      rintro r w3 ⟨rfl, b1⟩
      obtain ⟨w4, hw4⟩ : ∃ w4, w4 = w3.alloc (rngC x y) := ⟨_, rfl⟩
      replace b1 : Below w2.heap.size w2 w4 := by rw [hw4]; exact b1.alloc b1.size _
      have HX := Lib.hid (show Blk w4 w3.heap.size 23 #[.int .i64 x, .int .i64 y] from by rw [hw4]; exact Blk.new w3 _ _)
      replace HB := Lib.hid (below_on HB.out b1)
      replace H2 := Lib.hid (H2.out.below b1)
      clear b1 c0 c1 c2 c3 c4
      obtain ⟨c0, c1, c2, c3, c4⟩ := H2.out.keep
      go_upto_region 6 with fail
      rw [← hw4]
      clear hw4
      have x0 := HX.out.cell 0
      have x1 := HX.out.cell 1
      go_wp2_with fail
      refine (HW.out _ HB.out).mono ?_
      rintro r w5 ⟨rfl, b1⟩
      replace HB := Lib.hid (below_on HB.out b1)
      replace H2 := Lib.hid (H2.out.below b1)
      clear b1 c0 c1 c2 c3 c4
      obtain ⟨c0, c1, c2, c3, c4⟩ := H2.out.keep
      clear x0 x1 HX
      go_wp2_with fail
      go_region_held2 (fun w' => w'.cell? ⟨w.heap.size, 0, none⟩ = some (.int .i64 x) ∧ w'.cell? ⟨w.heap.size, 1, none⟩ = some (.int .i64 y) ∧ w'.cell? ⟨w.heap.size + 1, 0, none⟩ = some (.int .i64 a) ∧ w'.cell? ⟨w.heap.size + 1, 1, none⟩ = some (.int .i64 b) ∧ w'.cell? ⟨w.heap.size + 1, 2, none⟩ = some (.int .i64 c))
        (first | with_reducible exact H2.out.keep | with_reducible exact H2.out.drew.keep | go_keep)
        (first
          | (go_at_call 8; (with_reducible refine (HG.out _).mono ?_); rintro r w6 ⟨rfl, b1⟩
             have HB := Lib.hid (show Below w.heap.size w w6 from by first | exact below_on HB.out b1 | exact below_on HB.out.drew b1)
             have H2 := Lib.hid (show TwoB w.heap.size x y a b c w6 from by first | exact H2.out.below b1 | exact H2.out.drew.below b1)
             clear b1)
          | (go_at_call 9; (with_reducible refine (HRG.out _).mono ?_); rintro r w7 ⟨rfl, b1⟩
             have HB := Lib.hid (show Below w.heap.size w w7 from by first | exact below_on HB.out b1 | exact below_on HB.out.drew b1)
             have H2 := Lib.hid (show TwoB w.heap.size x y a b c w7 from by first | exact H2.out.below b1 | exact H2.out.drew.below b1)
             clear b1))
      all_goals
        clear c0 c1 c2 c3 c4
        obtain ⟨c0, c1, c2, c3, c4⟩ := H2.out.keep
        go_wp2_with fail
        refine (HRG.out _).mono ?_
        rintro r w8 ⟨rfl, b1⟩
        replace HB := Lib.hid (below_on HB.out b1)
        replace H2 := Lib.hid (H2.out.below b1)
        clear b1 c0 c1 c2 c3 c4
        obtain ⟨c0, c1, c2, c3, c4⟩ := H2.out.keep
        go_wp2_with fail
        refine (HLV.out _).mono ?_
        rintro r w9 ⟨rfl, b1⟩
        replace HB := Lib.hid (below_on HB.out b1)
        replace H2 := Lib.hid (H2.out.below b1)
        clear b1 c0 c1 c2 c3 c4
        obtain ⟨c0, c1, c2, c3, c4⟩ := H2.out.keep
        go_wp2
        go_ret
        exact ⟨rfl, HB.out⟩
    · obtain ⟨rfl, rfl⟩ := HY.out rfl
      replace HRW := Lib.hid (HRW.out rfl)
      replace HC := Lib.hid (HC.out rfl)
      clear HN HY
      go_enter Tryd.func3, Tryd.ntmps3
      go_wp2_with fail
      rw [← hw0]
      clear hw0
      refine (HT.out _ HB.out).mono ?_
      rintro r w1 ⟨rfl, b1⟩
      replace HB := Lib.hid (below_on HB.out b1)
      replace H2 := Lib.hid (H2.out.below b1)
      clear b1 c0 c1 c2 c3 c4
      obtain ⟨c0, c1, c2, c3, c4⟩ := H2.out.keep
      go_wp2_with fail
      refine (HRT.out _).mono ?_
      rintro r w2 ⟨rfl, b1⟩
      replace HB := Lib.hid (below_on HB.out b1)
      replace H2 := Lib.hid (H2.out.below b1)
      clear b1 c0 c1 c2 c3 c4
      obtain ⟨c0, c1, c2, c3, c4⟩ := H2.out.keep
      go_wp2_with fail
      refine (HP.out _).mono ?_
      rintro r w3 ⟨rfl, b1⟩
      obtain ⟨w4, hw4⟩ : ∃ w4, w4 = w3.alloc (rngC x y) := ⟨_, rfl⟩
      replace b1 : Below w2.heap.size w2 w4 := by rw [hw4]; exact b1.alloc b1.size _
      have HX := Lib.hid (show Blk w4 w3.heap.size 23 #[.int .i64 x, .int .i64 y] from by rw [hw4]; exact Blk.new w3 _ _)
      replace HB := Lib.hid (below_on HB.out b1)
      replace H2 := Lib.hid (H2.out.below b1)
      clear b1 c0 c1 c2 c3 c4
      obtain ⟨c0, c1, c2, c3, c4⟩ := H2.out.keep
      go_upto_region 6 with fail
      rw [← hw4]
      clear hw4
      have x0 := HX.out.cell 0
      have x1 := HX.out.cell 1
      go_wp2_with fail
      refine (HW.out _ HB.out).mono ?_
      rintro r w5 ⟨rfl, b1⟩
      replace HB := Lib.hid (below_on HB.out b1)
      replace H2 := Lib.hid (H2.out.below b1)
      clear b1 c0 c1 c2 c3 c4
      obtain ⟨c0, c1, c2, c3, c4⟩ := H2.out.keep
      clear x0 x1 HX
      go_wp2_with fail
      go_region_held2 (fun w' => w'.cell? ⟨w.heap.size, 0, none⟩ = some (.int .i64 x) ∧ w'.cell? ⟨w.heap.size, 1, none⟩ = some (.int .i64 y) ∧ w'.cell? ⟨w.heap.size + 1, 0, none⟩ = some (.int .i64 a) ∧ w'.cell? ⟨w.heap.size + 1, 1, none⟩ = some (.int .i64 b) ∧ w'.cell? ⟨w.heap.size + 1, 2, none⟩ = some (.int .i64 c))
        (first | with_reducible exact H2.out.keep | with_reducible exact H2.out.drew.keep | go_keep)
        (first
          | (go_at_call 8; (with_reducible refine (HG.out _).mono ?_); rintro r w6 ⟨rfl, b1⟩
             have HB := Lib.hid (show Below w.heap.size w w6 from by first | exact below_on HB.out b1 | exact below_on HB.out.drew b1)
             have H2 := Lib.hid (show TwoB w.heap.size x y a b c w6 from by first | exact H2.out.below b1 | exact H2.out.drew.below b1)
             clear b1)
          | (go_at_call 9; (with_reducible refine (HRG.out _).mono ?_); rintro r w7 ⟨rfl, b1⟩
             have HB := Lib.hid (show Below w.heap.size w w7 from by first | exact below_on HB.out b1 | exact below_on HB.out.drew b1)
             have H2 := Lib.hid (show TwoB w.heap.size x y a b c w7 from by first | exact H2.out.below b1 | exact H2.out.drew.below b1)
             clear b1))
      all_goals
        clear c0 c1 c2 c3 c4
        obtain ⟨c0, c1, c2, c3, c4⟩ := H2.out.keep
        go_wp2_with fail
        refine (HRG.out _).mono ?_
        rintro r w8 ⟨rfl, b1⟩
        replace HB := Lib.hid (below_on HB.out b1)
        replace H2 := Lib.hid (H2.out.below b1)
        clear b1 c0 c1 c2 c3 c4
        obtain ⟨c0, c1, c2, c3, c4⟩ := H2.out.keep
        go_wp2_with fail
        refine (HRW.out _).mono ?_
        rintro r w9 ⟨rfl, b1⟩
        replace HB := Lib.hid (below_on HB.out b1)
        replace H2 := Lib.hid (H2.out.below b1)
        clear b1 c0 c1 c2 c3 c4
        obtain ⟨c0, c1, c2, c3, c4⟩ := H2.out.keep
        go_wp2_with fail
        refine (HC.out _).mono ?_
        rintro r wa ⟨rfl, b1⟩
        obtain ⟨wb, hwb⟩ : ∃ wb, wb = wa.alloc (partC a b c) := ⟨_, rfl⟩
        replace b1 : Below w9.heap.size w9 wb := by rw [hwb]; exact b1.alloc b1.size _
        have HZ := Lib.hid (show Blk wb wa.heap.size 25 #[.int .i64 a, .int .i64 b, .int .i64 c] from by rw [hwb]; exact Blk.new wa _ _)
        replace HB := Lib.hid (below_on HB.out b1)
        replace H2 := Lib.hid (H2.out.below b1)
        clear b1 c0 c1 c2 c3 c4
        obtain ⟨c0, c1, c2, c3, c4⟩ := H2.out.keep
        go_upto_region 14 with fail
        rw [← hwb]
        clear hwb
        go_wp2_with fail
        refine (HRW.out _).mono ?_
        rintro r wc ⟨rfl, b1⟩
        replace HZ := Lib.hid (HZ.out.below b1 HZ.out.lt)
        replace HB := Lib.hid (below_on HB.out b1)
        replace H2 := Lib.hid (H2.out.below b1)
        clear b1 c0 c1 c2 c3 c4
        obtain ⟨c0, c1, c2, c3, c4⟩ := H2.out.keep
        have z0 := HZ.out.cell 0
        have z1 := HZ.out.cell 1
        have z2 := HZ.out.cell 2
        go_wp2_with fail
        refine (HLV.out _).mono ?_
        rintro r wd ⟨rfl, b1⟩
        replace HB := Lib.hid (below_on HB.out b1)
        replace H2 := Lib.hid (H2.out.below b1)
        clear b1 c0 c1 c2 c3 c4
        obtain ⟨c0, c1, c2, c3, c4⟩ := H2.out.keep
        go_wp2
        go_ret
        exact ⟨rfl, HB.out⟩
  · have d0 : (e == 0) = false := by rw [beq_eq_false_iff_ne]; exact h0
    clear HE h0
    cases good
    · obtain ⟨rfl, rfl⟩ := HN.out rfl
      clear HN HY HRW HC
      go_enter Tryd.func3, Tryd.ntmps3
      go_wp2_with fail
      rw [← hw0]
      clear hw0
      refine (HT.out _ HB.out).mono ?_
      rintro r w1 ⟨rfl, b1⟩
      replace HB := Lib.hid (below_on HB.out b1)
      replace H2 := Lib.hid (H2.out.below b1)
      clear b1 c0 c1 c2 c3 c4
      obtain ⟨c0, c1, c2, c3, c4⟩ := H2.out.keep
      go_wp2_with fail
      refine (HRT.out _).mono ?_
      rintro r w2 ⟨rfl, b1⟩
      replace HB := Lib.hid (below_on HB.out b1)
      replace H2 := Lib.hid (H2.out.below b1)
      clear b1 c0 c1 c2 c3 c4
      obtain ⟨c0, c1, c2, c3, c4⟩ := H2.out.keep
      go_wp2_with fail
      refine (HP.out _).mono ?_
      rintro r w3 ⟨rfl, b1⟩
      obtain ⟨w4, hw4⟩ : ∃ w4, w4 = w3.alloc (rngC p q) := ⟨_, rfl⟩
      replace b1 : Below w2.heap.size w2 w4 := by rw [hw4]; exact b1.alloc b1.size _
      have HX := Lib.hid (show Blk w4 w3.heap.size 23 #[.int .i64 p, .int .i64 q] from by rw [hw4]; exact Blk.new w3 _ _)
      replace HB := Lib.hid (below_on HB.out b1)
      replace H2 := Lib.hid (H2.out.below b1)
      clear b1 c0 c1 c2 c3 c4
      obtain ⟨c0, c1, c2, c3, c4⟩ := H2.out.keep
      go_upto_region 6 with fail
      rw [← hw4]
      clear hw4
      have x0 := HX.out.cell 0
      have x1 := HX.out.cell 1
      go_wp2_with fail
      refine (HW.out _ HB.out).mono ?_
      rintro r w5 ⟨rfl, b1⟩
      replace HB := Lib.hid (below_on HB.out b1)
      replace H2 := Lib.hid (H2.out.below b1)
      clear b1 c0 c1 c2 c3 c4
      obtain ⟨c0, c1, c2, c3, c4⟩ := H2.out.keep
      clear x0 x1 HX
      go_wp2_with fail
      go_region_held2 (fun w' => w'.cell? ⟨w.heap.size, 0, none⟩ = some (.int .i64 x) ∧ w'.cell? ⟨w.heap.size, 1, none⟩ = some (.int .i64 y) ∧ w'.cell? ⟨w.heap.size + 1, 0, none⟩ = some (.int .i64 a) ∧ w'.cell? ⟨w.heap.size + 1, 1, none⟩ = some (.int .i64 b) ∧ w'.cell? ⟨w.heap.size + 1, 2, none⟩ = some (.int .i64 c))
        (first | with_reducible exact H2.out.keep | with_reducible exact H2.out.drew.keep | go_keep)
        (first
          | (go_at_call 8; (with_reducible refine (HG.out _).mono ?_); rintro r w6 ⟨rfl, b1⟩
             have HB := Lib.hid (show Below w.heap.size w w6 from by first | exact below_on HB.out b1 | exact below_on HB.out.drew b1)
             have H2 := Lib.hid (show TwoB w.heap.size x y a b c w6 from by first | exact H2.out.below b1 | exact H2.out.drew.below b1)
             clear b1)
          | (go_at_call 9; (with_reducible refine (HRG.out _).mono ?_); rintro r w7 ⟨rfl, b1⟩
             have HB := Lib.hid (show Below w.heap.size w w7 from by first | exact below_on HB.out b1 | exact below_on HB.out.drew b1)
             have H2 := Lib.hid (show TwoB w.heap.size x y a b c w7 from by first | exact H2.out.below b1 | exact H2.out.drew.below b1)
             clear b1))
      all_goals
        clear c0 c1 c2 c3 c4
        obtain ⟨c0, c1, c2, c3, c4⟩ := H2.out.keep
        go_wp2_with fail
        refine (HRG.out _).mono ?_
        rintro r w8 ⟨rfl, b1⟩
        replace HB := Lib.hid (below_on HB.out b1)
        replace H2 := Lib.hid (H2.out.below b1)
        clear b1 c0 c1 c2 c3 c4
        obtain ⟨c0, c1, c2, c3, c4⟩ := H2.out.keep
        go_wp2_with fail
        refine (HLV.out _).mono ?_
        rintro r w9 ⟨rfl, b1⟩
        replace HB := Lib.hid (below_on HB.out b1)
        replace H2 := Lib.hid (H2.out.below b1)
        clear b1 c0 c1 c2 c3 c4
        obtain ⟨c0, c1, c2, c3, c4⟩ := H2.out.keep
        go_wp2
        go_ret
        exact ⟨rfl, HB.out⟩
    · obtain ⟨rfl, rfl⟩ := HY.out rfl
      replace HRW := Lib.hid (HRW.out rfl)
      replace HC := Lib.hid (HC.out rfl)
      clear HN HY
      go_enter Tryd.func3, Tryd.ntmps3
      go_wp2_with fail
      rw [← hw0]
      clear hw0
      refine (HT.out _ HB.out).mono ?_
      rintro r w1 ⟨rfl, b1⟩
      replace HB := Lib.hid (below_on HB.out b1)
      replace H2 := Lib.hid (H2.out.below b1)
      clear b1 c0 c1 c2 c3 c4
      obtain ⟨c0, c1, c2, c3, c4⟩ := H2.out.keep
      go_wp2_with fail
      refine (HRT.out _).mono ?_
      rintro r w2 ⟨rfl, b1⟩
      replace HB := Lib.hid (below_on HB.out b1)
      replace H2 := Lib.hid (H2.out.below b1)
      clear b1 c0 c1 c2 c3 c4
      obtain ⟨c0, c1, c2, c3, c4⟩ := H2.out.keep
      go_wp2_with fail
      refine (HP.out _).mono ?_
      rintro r w3 ⟨rfl, b1⟩
      obtain ⟨w4, hw4⟩ : ∃ w4, w4 = w3.alloc (rngC p q) := ⟨_, rfl⟩
      replace b1 : Below w2.heap.size w2 w4 := by rw [hw4]; exact b1.alloc b1.size _
      have HX := Lib.hid (show Blk w4 w3.heap.size 23 #[.int .i64 p, .int .i64 q] from by rw [hw4]; exact Blk.new w3 _ _)
      replace HB := Lib.hid (below_on HB.out b1)
      replace H2 := Lib.hid (H2.out.below b1)
      clear b1 c0 c1 c2 c3 c4
      obtain ⟨c0, c1, c2, c3, c4⟩ := H2.out.keep
      go_upto_region 6 with fail
      rw [← hw4]
      clear hw4
      have x0 := HX.out.cell 0
      have x1 := HX.out.cell 1
      go_wp2_with fail
      refine (HW.out _ HB.out).mono ?_
      rintro r w5 ⟨rfl, b1⟩
      replace HB := Lib.hid (below_on HB.out b1)
      replace H2 := Lib.hid (H2.out.below b1)
      clear b1 c0 c1 c2 c3 c4
      obtain ⟨c0, c1, c2, c3, c4⟩ := H2.out.keep
      clear x0 x1 HX
      go_wp2_with fail
      go_region_held2 (fun w' => w'.cell? ⟨w.heap.size, 0, none⟩ = some (.int .i64 x) ∧ w'.cell? ⟨w.heap.size, 1, none⟩ = some (.int .i64 y) ∧ w'.cell? ⟨w.heap.size + 1, 0, none⟩ = some (.int .i64 a) ∧ w'.cell? ⟨w.heap.size + 1, 1, none⟩ = some (.int .i64 b) ∧ w'.cell? ⟨w.heap.size + 1, 2, none⟩ = some (.int .i64 c))
        (first | with_reducible exact H2.out.keep | with_reducible exact H2.out.drew.keep | go_keep)
        (first
          | (go_at_call 8; (with_reducible refine (HG.out _).mono ?_); rintro r w6 ⟨rfl, b1⟩
             have HB := Lib.hid (show Below w.heap.size w w6 from by first | exact below_on HB.out b1 | exact below_on HB.out.drew b1)
             have H2 := Lib.hid (show TwoB w.heap.size x y a b c w6 from by first | exact H2.out.below b1 | exact H2.out.drew.below b1)
             clear b1)
          | (go_at_call 9; (with_reducible refine (HRG.out _).mono ?_); rintro r w7 ⟨rfl, b1⟩
             have HB := Lib.hid (show Below w.heap.size w w7 from by first | exact below_on HB.out b1 | exact below_on HB.out.drew b1)
             have H2 := Lib.hid (show TwoB w.heap.size x y a b c w7 from by first | exact H2.out.below b1 | exact H2.out.drew.below b1)
             clear b1))
      all_goals
        clear c0 c1 c2 c3 c4
        obtain ⟨c0, c1, c2, c3, c4⟩ := H2.out.keep
        go_wp2_with fail
        refine (HRG.out _).mono ?_
        rintro r w8 ⟨rfl, b1⟩
        replace HB := Lib.hid (below_on HB.out b1)
        replace H2 := Lib.hid (H2.out.below b1)
        clear b1 c0 c1 c2 c3 c4
        obtain ⟨c0, c1, c2, c3, c4⟩ := H2.out.keep
        go_wp2_with fail
        refine (HRW.out _).mono ?_
        rintro r w9 ⟨rfl, b1⟩
        replace HB := Lib.hid (below_on HB.out b1)
        replace H2 := Lib.hid (H2.out.below b1)
        clear b1 c0 c1 c2 c3 c4
        obtain ⟨c0, c1, c2, c3, c4⟩ := H2.out.keep
        go_wp2_with fail
        refine (HC.out _).mono ?_
        rintro r wa ⟨rfl, b1⟩
        obtain ⟨wb, hwb⟩ : ∃ wb, wb = wa.alloc (partC a b c) := ⟨_, rfl⟩
        replace b1 : Below w9.heap.size w9 wb := by rw [hwb]; exact b1.alloc b1.size _
        have HZ := Lib.hid (show Blk wb wa.heap.size 25 #[.int .i64 a, .int .i64 b, .int .i64 c] from by rw [hwb]; exact Blk.new wa _ _)
        replace HB := Lib.hid (below_on HB.out b1)
        replace H2 := Lib.hid (H2.out.below b1)
        clear b1 c0 c1 c2 c3 c4
        obtain ⟨c0, c1, c2, c3, c4⟩ := H2.out.keep
        go_upto_region 14 with fail
        rw [← hwb]
        clear hwb
        go_wp2_with fail
        refine (HRW.out _).mono ?_
        rintro r wc ⟨rfl, b1⟩
        replace HZ := Lib.hid (HZ.out.below b1 HZ.out.lt)
        replace HB := Lib.hid (below_on HB.out b1)
        replace H2 := Lib.hid (H2.out.below b1)
        clear b1 c0 c1 c2 c3 c4
        obtain ⟨c0, c1, c2, c3, c4⟩ := H2.out.keep
        have z0 := HZ.out.cell 0
        have z1 := HZ.out.cell 1
        have z2 := HZ.out.cell 2
        go_wp2_with fail
        refine (HLV.out _).mono ?_
        rintro r wd ⟨rfl, b1⟩
        replace HB := Lib.hid (below_on HB.out b1)
        replace H2 := Lib.hid (H2.out.below b1)
        clear b1 c0 c1 c2 c3 c4
        obtain ⟨c0, c1, c2, c3, c4⟩ := H2.out.keep
        go_wp2
        go_ret
        exact ⟨rfl, HB.out⟩

theorem writes_any (x y a b c : Int) (w : World) (ht : PowTab w) :
    Calls Tryd.prog 3 #[rngV x y, partV a b c] w fun r w' => r = .returned (.bool true) ∧ Below w.heap.size w w' := by
  obtain ⟨s, e, h1, h2, h3⟩ := txV_some x y
  obtain ⟨p, q, g, h4, h5⟩ := askV_of (askO s)
  have HT := fun W (hW : Below w.heap.size w W) => text24_any x y W (ht.stays hW)
  have HRT := fun W => rtext24_any x y W
  have HP := fun W => parse24_any s W (by omega)
  have HW := fun W (hW : Below w.heap.size w W) => write24_any a b c W (ht.stays hW)
  have HG := fun W => pgood_any a b c W
  have HRG := fun W => rgood24_any a b c W
  rw [h1] at HT HRT
  rw [h4] at HP
  have HE : e = 0 → p = x ∧ q = y ∧ g = 0 := fun h => h5 x y (h3 h)
  unfold wrV at HW
  cases hg : goodQ a b c
  · rw [hg] at HW HG HRG
    exact writes_walk x y a b c e p q g 2 s ⟨#[]⟩ ⟨#[]⟩ false w (Lib.hid HT) (Lib.hid HRT) (Lib.hid HP) (Lib.hid HE) (Lib.hid HW) (Lib.hid HG) (Lib.hid HRG) (Lib.hid fun _ => ⟨rfl, rfl⟩) (Lib.hid fun h => by cases h) (Lib.hid fun h => by cases h) (Lib.hid fun h => by cases h)
  · rw [hg] at HW HG HRG
    have HC := fun W => content24_any (wriQ a b c) W (by have := wriQ_size hg; omega)
    rw [contV_ok (wriQ_cont hg)] at HC
    exact writes_walk x y a b c e p q g 0 s (wriQ a b c) (wriQ a b c) true w (Lib.hid HT) (Lib.hid HRT) (Lib.hid HP) (Lib.hid HE) (Lib.hid HW) (Lib.hid HG) (Lib.hid HRG) (Lib.hid fun h => by cases h) (Lib.hid fun _ => ⟨rfl, rfl⟩) (Lib.hid fun _ W => rwrite24_any a b c W hg) (Lib.hid fun _ => HC)

end Go.Proofs.YtaolclpjlkdkjaaDoor
