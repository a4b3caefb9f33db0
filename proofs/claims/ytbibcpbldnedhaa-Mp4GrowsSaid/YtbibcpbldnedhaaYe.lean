/-
  What package mp4's takeBox does to a cursor. Conditions: the place lies in the text, which is no longer than a length can be.
-/
import Derived.Test.YtbibcpbldnedhaaYb
import Derived.Test.YtbibcpbldnedhaaCollect
import Derived.Lib.Hide
namespace Go.Proofs.Ytbibcpbldnedhaa
open Go.RowKit

theorem four_tail {s : ByteArray} {k : Nat} (h : k + 4 ≤ s.size) : fourB (s.extract k s.size) 0 = fourB s k := by
  have e : ∀ i, i < 4 → (s.extract k s.size)[i]! = s[k + i]! := fun i hi => by
    rw [getElem!_pos (s.extract k s.size) i (by simp; omega), getElem!_pos s (k + i) (by omega), ByteArray.getElem_extract]
  unfold fourB
  rw [e 0 (by omega), e (0 + 1) (by omega), e (0 + 2) (by omega), e (0 + 3) (by omega)]
  rfl
/-- Whether a whole box stands at a place. -/
def boxO (s : ByteArray) (k : Nat) : Prop := k + 8 ≤ s.size ∧ 8 ≤ fourB s k ∧ k + fourB s k ≤ s.size
theorem boxO_yes {s : ByteArray} {k : Nat} (h : boxO s k) : boxW (s.extract k s.size) = true := by
  obtain ⟨h0, h1, h2⟩ := h
  have e := four_tail (s := s) (k := k) (by omega)
  exact boxW_yes (by simp; omega) (by rw [e]; exact h1) (by rw [e]; simp; omega)
theorem boxO_no {s : ByteArray} {k : Nat} (hk : k ≤ s.size) (h : ¬boxO s k) : boxW (s.extract k s.size) = false := by
  refine boxW_no fun ⟨h0, h1, h2⟩ => h ?_
  have hz : (s.extract k s.size).size = s.size - k := by simp
  have e := four_tail (s := s) (k := k) (by omega)
  rw [e] at h1 h2
  exact ⟨by omega, h1, by omega⟩
/-- The boxes from a place on. -/
def boxF (s : ByteArray) (k : Nat) : List Bx × Nat := boxG (s.extract k s.size)
theorem boxF_none {s : ByteArray} {k : Nat} (hk : k ≤ s.size) (h : ¬boxO s k) : boxF s k = ([], 0) := boxG_stop (boxO_no hk h)
theorem boxF_more {s : ByteArray} {k : Nat} (h : boxO s k) : boxF s k = (⟨s.extract (k + 4) (k + 8), fourB s k⟩ :: (boxF s (k + fourB s k)).1, fourB s k + (boxF s (k + fourB s k)).2) := by
  have hw := boxO_yes h
  obtain ⟨h0, h1, h2⟩ := h
  have e1 : (s.extract k s.size).extract 4 8 = s.extract (k + 4) (k + 8) := by
    rw [ByteArray.extract_extract, Nat.min_eq_left h0]
  have e2 : (s.extract k s.size).extract (fourB s k) (s.extract k s.size).size = s.extract (k + fourB s k) s.size := by
    have hz : (s.extract k s.size).size = s.size - k := by simp
    rw [hz, ByteArray.extract_extract]
    congr 1
    omega
  unfold boxF
  rw [boxG_step hw, four_tail (by omega), e1, e2]
theorem boxF_all (s : ByteArray) : boxF s 0 = boxG s := by
  unfold boxF
  rw [ByteArray.extract_zero_size]


/-- A box as a value. -/
abbrev bxV (nm : ByteArray) (n : Int) : Value := .agg #[.string nm, .int .i64 n]

set_option maxHeartbeats 2000000 in
theorem takeBox_ok (cb k : Nat) (s : ByteArray) (w : World) (h : Cur w cb s k) (hs : s.size ≤ 9223372036854775807) (hb : boxO s k) :
    Calls Try.prog 29 #[cptr cb] w fun e w' => e = .returned (bxV (s.extract (k + 4) (k + 8)) (fourB s k : Nat)) ∧ Mv w.heap.size [cb] w w' ∧ Cur w' cb s (k + fourB s k) := by
  obtain ⟨h0, h1, h2⟩ := hb
  have hlc := h.lt
  have hlt := fourB_lt s k
  obtain ⟨w0, hw0⟩ : ∃ w0, w0 = w.alloc (.cells #[.string ⟨#[]⟩, .int .i64 0] 45) := ⟨_, rfl⟩
  have hz0 : w0.heap.size = w.heap.size + 1 := by rw [hw0]; simp
  have HK0 := Lib.hid (show Blk w0 w.heap.size 45 #[.string ⟨#[]⟩, .int .i64 0] from by rw [hw0]; exact Blk.new _ _ _)
  have HC0 := Lib.hid (show Cur w0 cb s k from by rw [hw0]; exact h.alloc _)
  have HM0 := Lib.hid (show Mv w.heap.size [cb] w w0 from by rw [hw0]; exact (Mv.refl _ _ _).alloc (Nat.le_refl _) _)
  have HU := Lib.hid (fun W (hW : Cur W cb s k) => u32_ok cb k s W hW (by omega) hs)
  rw [be4_four (by omega)] at HU
  have HT1 : Hid (∀ W, Cur W cb s (k + 4) → Calls Try.prog 35 #[cptr cb, .int .i64 4] W fun e w' => e = .returned (.string (s.extract (k + 4) (k + 8))) ∧ ∃ m, w' = (W.drewN m).setCell ⟨cb, 1, none⟩ (.int .i64 (k + 8 : Nat))) := Lib.hid fun W hW => take_ok cb (k + 4) 4 s W hW (by omega) hs
  have HT2 : Hid (∀ W, Cur W cb s (k + 8) → Calls Try.prog 35 #[cptr cb, .int .i64 ((fourB s k : Int) - 8)] W fun e w' => e = .returned (.string (s.extract (k + 8) (k + fourB s k))) ∧ ∃ m, w' = (W.drewN m).setCell ⟨cb, 1, none⟩ (.int .i64 (k + fourB s k : Nat))) := Lib.hid fun W hW => by
    have := take_ok cb (k + 8) (fourB s k - 8) s W hW (by omega) hs
    rw [show ((fourB s k - 8 : Nat) : Int) = (fourB s k : Int) - 8 from by omega, show k + 8 + (fourB s k - 8) = k + fourB s k from by omega] at this
    exact this
  have HA := Lib.hid (fun W (hW : Cur W cb s (k + 8)) => at_any cb (k + 8) s W hW)
  clear h
  generalize s.extract (k + 4) (k + 8) = nm at *
  generalize s.extract (k + 8) (k + fourB s k) = rest at *
  generalize fourB s k = n at *
  have hd8 : decide ((8 : Int) ≤ (n : Int)) = true := decide_eq_true (by omega)
  go_enter Try.func29, Try.ntmps29
  go_wp2_with fail
  rw [← hw0]
  clear hw0
  refine (HU.out _ HC0.out).mono ?_
  rintro e w1 ⟨rfl, m1, c1⟩
  have HM1 := Lib.hid (HM0.out.chain m1 (by omega))
  have HK1 := Lib.hid (HK0.out.mv m1 (by omega) (by simp; omega))
  have HC1 := Lib.hid c1
  clear m1 c1
  go_wp2_with fail
  refine (HT1.out _ HC1.out).mono ?_
  rintro e w2 ⟨rfl, i2⟩
  obtain ⟨m2, c2⟩ := Mv.put HC1.out i2
  have HM2 := Lib.hid (HM1.out.chain m2 (Nat.le_refl _))
  have HK2 := Lib.hid (HK1.out.mv m2 HK1.out.lt (by simp; omega))
  have HC2 := Lib.hid c2
  clear i2 m2 c2
  go_wp2_with (first
    | (go_at_call 37; refine (HA.out _ HC2.out).mono ?_; rintro e w3 ⟨rfl, rfl⟩)
    | (go_at_call 36; (with_reducible refine (check_ok _ _ _).mono ?_); rintro e w3 ⟨rfl, rfl⟩))
  refine (HT2.out _ HC2.out).mono ?_
  rintro e w4 ⟨rfl, i4⟩
  obtain ⟨m4, c4⟩ := Mv.put HC2.out i4
  have HM4 := Lib.hid (HM2.out.chain m4 (Nat.le_refl _))
  have HK4 := Lib.hid (HK2.out.mv m4 HK2.out.lt (by simp; omega))
  have HC4 := Lib.hid c4
  clear i4 m4 c4
  have c0 : w4.cell? ⟨w.heap.size, 0, none⟩ = some (.string ⟨#[]⟩) := HK4.out.cell 0
  have c1 : w4.cell? ⟨w.heap.size, 1, none⟩ = some (.int .i64 0) := HK4.out.cell 1
  have z0 := HK4.out.frozen 0
  have z1 := HK4.out.frozen 1
  go_wp2
  have hk := (HK4.out.set_ 0 (.string nm)).set_ 1 (.int .i64 (n : Nat))
  have k0 : _ = some (.string nm : Value) := hk.cell 0
  have k1 : _ = some (.int .i64 (n : Nat) : Value) := hk.cell 1
  refine bodyPost_ret (v := bxV nm (n : Nat)) (by simp [results, Try.results29, go_sem, k0, k1]) rfl ⟨rfl, (HM4.out.setCell (.inr (by simp)) _).setCell (.inr (by simp)) _, (Blk.far HC4.out (by simp; omega) _).far (by simp; omega) _⟩

set_option maxHeartbeats 2000000 in
/-- Where no whole box stands at a place, it throws, always the same. -/
theorem takeBox_no (cb k : Nat) (s : ByteArray) (hk : k ≤ s.size) (hs : s.size ≤ 9223372036854775807) (hb : ¬boxO s k) :
    ∃ a c : Int, (c == 0) = false ∧ ∀ w, Cur w cb s k → Calls Try.prog 29 #[cptr cb] w fun e w' => e = pnc a c ∧ Mv w.heap.size [cb] w w' := by
  by_cases h4 : s.size < k + 4
  · refine ⟨(k : Int), 8, rfl, fun w h => ?_⟩
    have HM0 := Lib.hid (show Mv w.heap.size [cb] w (w.alloc (.cells #[.string ⟨#[]⟩, .int .i64 0] 45)) from (Mv.refl _ _ _).alloc (Nat.le_refl _) _)
    have HU := Lib.hid (u32_far cb k s _ (h.alloc (.cells #[.string ⟨#[]⟩, .int .i64 0] 45)) hk h4 hs)
    clear h h4 hb
    go_enter Try.func29, Try.ntmps29
    go_wp2_with (go_at_call 32; refine HU.out.mono ?_; rintro e w1 ⟨rfl, hD⟩)
    exact ⟨rfl, rfl, HM0.out.chain (Mv.of_below hD.below _) (by simp)⟩
  · have hlt := fourB_lt s k
    have HU := Lib.hid (fun W (hW : Cur W cb s k) => u32_ok cb k s W hW (by omega) hs)
    rw [be4_four (by omega)] at HU
    by_cases h8 : s.size < k + 8
    · refine ⟨((k + 4 : Nat) : Int), 8, rfl, fun w h => ?_⟩
      have HM0 := Lib.hid (show Mv w.heap.size [cb] w (w.alloc (.cells #[.string ⟨#[]⟩, .int .i64 0] 45)) from (Mv.refl _ _ _).alloc (Nat.le_refl _) _)
      have HC0 := Lib.hid (h.alloc (.cells #[.string ⟨#[]⟩, .int .i64 0] 45))
      have HT := Lib.hid (fun W (hW : Cur W cb s (k + 4)) => take_far cb (k + 4) s 4 W hW (by omega) hs (by omega) (by omega))
      clear h h8 hb
      generalize fourB s k = n at *
      go_enter Try.func29, Try.ntmps29
      go_wp2_with fail
      refine (HU.out _ HC0.out).mono ?_
      rintro e w1 ⟨rfl, m1, c1⟩
      have HM1 := Lib.hid (HM0.out.chain m1 (by simp))
      have HC1 := Lib.hid c1
      clear m1 c1
      go_wp2_with (go_at_call 35; refine (HT.out _ HC1.out).mono ?_; rintro e w2 ⟨rfl, hD⟩)
      exact ⟨rfl, rfl, HM1.out.chain (Mv.of_below hD.below _) (Nat.le_refl _)⟩
    · have HT1 : Hid (∀ W, Cur W cb s (k + 4) → Calls Try.prog 35 #[cptr cb, .int .i64 4] W fun e w' => e = .returned (.string (s.extract (k + 4) (k + 8))) ∧ ∃ m, w' = (W.drewN m).setCell ⟨cb, 1, none⟩ (.int .i64 (k + 8 : Nat))) := Lib.hid fun W hW => take_ok cb (k + 4) 4 s W hW (by omega) hs
      have HA := Lib.hid (fun W (hW : Cur W cb s (k + 8)) => at_any cb (k + 8) s W hW)
      generalize s.extract (k + 4) (k + 8) = nm at *
      by_cases hn : fourB s k < 8
      · refine ⟨(k : Int) + 8, 2, rfl, fun w h => ?_⟩
        have HM0 := Lib.hid (show Mv w.heap.size [cb] w (w.alloc (.cells #[.string ⟨#[]⟩, .int .i64 0] 45)) from (Mv.refl _ _ _).alloc (Nat.le_refl _) _)
        have HC0 := Lib.hid (h.alloc (.cells #[.string ⟨#[]⟩, .int .i64 0] 45))
        have HX := Lib.hid (fun W => check_not ((k : Int) + 8) 2 W)
        clear h hb
        generalize fourB s k = n at *
        have hd8 : decide ((8 : Int) ≤ (n : Int)) = false := decide_eq_false (by omega)
        go_enter Try.func29, Try.ntmps29
        go_wp2_with fail
        refine (HU.out _ HC0.out).mono ?_
        rintro e w1 ⟨rfl, m1, c1⟩
        have HM1 := Lib.hid (HM0.out.chain m1 (by simp))
        have HC1 := Lib.hid c1
        clear m1 c1
        go_wp2_with fail
        refine (HT1.out _ HC1.out).mono ?_
        rintro e w2 ⟨rfl, i2⟩
        obtain ⟨m2, c2⟩ := Mv.put HC1.out i2
        have HM2 := Lib.hid (HM1.out.chain m2 (Nat.le_refl _))
        have HC2 := Lib.hid c2
        clear i2 m2 c2
        go_wp2_with (first
          | (go_at_call 37; refine (HA.out _ HC2.out).mono ?_; rintro e w3 ⟨rfl, rfl⟩)
          | (go_at_call 36; (with_reducible refine (HX.out _).mono ?_); rintro e w3 ⟨rfl, rfl⟩))
        exact ⟨rfl, rfl, HM2.out⟩
      · have hfar : s.size < k + fourB s k := by
          unfold boxO at hb
          omega
        refine ⟨((k + 8 : Nat) : Int), 8, rfl, fun w h => ?_⟩
        have HM0 := Lib.hid (show Mv w.heap.size [cb] w (w.alloc (.cells #[.string ⟨#[]⟩, .int .i64 0] 45)) from (Mv.refl _ _ _).alloc (Nat.le_refl _) _)
        have HC0 := Lib.hid (h.alloc (.cells #[.string ⟨#[]⟩, .int .i64 0] 45))
        have HT2 := Lib.hid (fun W (hW : Cur W cb s (k + 8)) => take_far cb (k + 8) s ((fourB s k : Int) - 8) W hW (by omega) hs (by omega) (by omega))
        clear h hb hfar
        generalize fourB s k = n at *
        have hd8 : decide ((8 : Int) ≤ (n : Int)) = true := decide_eq_true (by omega)
        go_enter Try.func29, Try.ntmps29
        go_wp2_with fail
        refine (HU.out _ HC0.out).mono ?_
        rintro e w1 ⟨rfl, m1, c1⟩
        have HM1 := Lib.hid (HM0.out.chain m1 (by simp))
        have HC1 := Lib.hid c1
        clear m1 c1
        go_wp2_with fail
        refine (HT1.out _ HC1.out).mono ?_
        rintro e w2 ⟨rfl, i2⟩
        obtain ⟨m2, c2⟩ := Mv.put HC1.out i2
        have HM2 := Lib.hid (HM1.out.chain m2 (Nat.le_refl _))
        have HC2 := Lib.hid c2
        clear i2 m2 c2
        go_wp2_with (first
          | (go_at_call 37; refine (HA.out _ HC2.out).mono ?_; rintro e w3 ⟨rfl, rfl⟩)
          | (go_at_call 36; (with_reducible refine (check_ok _ _ _).mono ?_); rintro e w3 ⟨rfl, rfl⟩)
          | (go_at_call 35; refine (HT2.out _ HC2.out).mono ?_; rintro e w4 ⟨rfl, hD⟩))
        exact ⟨rfl, rfl, HM2.out.chain (Mv.of_below hD.below _) (Nat.le_refl _)⟩

end Go.Proofs.Ytbibcpbldnedhaa
