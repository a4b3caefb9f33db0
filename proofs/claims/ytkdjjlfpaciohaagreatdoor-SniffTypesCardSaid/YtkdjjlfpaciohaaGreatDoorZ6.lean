/-
  What fits of package mask and the document's Is answer: whether a text's bytes are a pattern's. Conditions: the pattern has a mask for each byte; texts are as long as a length can be.
  What Match and Open of package mask and the document's Match answer. Condition: texts are as long as a length can be.
  What First and Type of package mask, and the document's First, answer of a slice of patterns. Conditions: texts are as long as a length can be; the slice lies in a block of its own.
-/
import Derived.Test.YtkdjjlfpaciohaaGreatDoorZ5
import Derived.Lib.MinMax
namespace Go.Proofs.YtkdjjlfpaciohaaGreatDoor
open Go.RowKit

theorem bits_andB (a b : UInt8) : bits .and .u8 (a.toNat : Int) (b.toNat : Int) = ((andB a b).toNat : Int) := by
  rw [u8_and_nat a.toNat b.toNat a.toNat_lt b.toNat_lt]
  unfold andB
  rw [UInt8.toNat_and]
theorem andB_ne {a b c : UInt8} (h : andB a b ≠ c) : (((andB a b).toNat : Int) != (c.toNat : Int)) = true := by
  rw [bne_iff_ne]
  intro e
  exact h (UInt8.toNat_inj.1 (by omega))
theorem andB_eq {a b c : UInt8} (h : andB a b = c) : (((andB a b).toNat : Int) != (c.toNat : Int)) = false := by
  rw [h]
  simp

set_option maxHeartbeats 1000000 in
set_option maxRecDepth 100000 in
theorem fits_any (r b m k t : ByteArray) (w : World) (hr : r.size ≤ 9223372036854775807) (_hb : b.size ≤ 9223372036854775807) (hm : m.size = b.size) :
    Calls Tryz.prog 131 #[.string r, patV b m k t] w fun e w' => e = .returned (.bool (fitB r b m)) ∧ Below w.heap.size w w' := by
  obtain ⟨w0, hw0⟩ : ∃ w0, w0 = w.alloc (.cells #[.string b, .string m, .string k, .string t] 54) := ⟨_, rfl⟩
  have HB0 := Lib.hid (show Below w.heap.size w w0 from by rw [hw0]; exact (Below.refl w.heap.size w).alloc (Nat.le_refl _) _)
  have HP := Lib.hid (show Blk w0 w.heap.size 54 #[.string b, .string m, .string k, .string t] from by rw [hw0]; exact Blk.new _ _ _)
  obtain ⟨l, hl⟩ : ∃ l, l = min r.size b.size := ⟨_, rfl⟩
  have HL := Lib.hid hl
  have hlr : l ≤ r.size := by omega
  have hlb : l ≤ b.size := by omega
  have hif : min (r.size : Int) (b.size : Int) = (l : Int) := by omega
  have hlm : l ≤ m.size := by omega
  have HM := Lib.hid hm
  clear hm hl
  go_enter Tryz.func131, Tryz.ntmps131
  go_wp2
  clear hif
  rw [← hw0]
  clear hw0
  go_loopw [12] (fun i wr => ∃ n : Nat, n ≤ l ∧ i = .int .i64 n ∧ FitN r b m n ∧ ∃ d, wr = w0.drewN d) (fun i _ => l - (intOf i).toNat)
  case atStart => exact ⟨0, by omega, rfl, FitN.zero _ _ _, 0, rfl⟩
  case round =>
    obtain ⟨n, hn, rfl, hno, hw⟩ := hrel
    have HN := Lib.hid hno
    have HW := Lib.hid hw
    have c0 : wr.cell? ⟨w.heap.size, 0, none⟩ = some (.string b) := by obtain ⟨d, rfl⟩ := hw; exact (HP.out.drewN d).cell 0
    have c1 : wr.cell? ⟨w.heap.size, 1, none⟩ = some (.string m) := by obtain ⟨d, rfl⟩ := hw; exact (HP.out.drewN d).cell 1
    clear hno hw
    by_cases hlt : n < l
    · have g1 : n < r.size := by omega
      have g2 : n < b.size := by omega
      have g3 : n < m.size := by omega
      have hbit := bits_andB r[n] m[n]
      by_cases he : andB r[n] m[n] = b[n]
      · have HH := Lib.hid (show (r[n]! &&& m[n]!) = b[n]! from by rw [getElem!_pos r n g1, getElem!_pos m n g3, getElem!_pos b n g2]; exact he)
        have ht := andB_eq he
        clear he
        go_wp2
        go_quiet (fail)
        go_wp2
        go_roundw
        case rel => exact ⟨n + 1, by omega, by go_num, HN.out.succ HH.out, by obtain ⟨d, hd⟩ := HW.out; rw [hd]; exact ⟨_, World.drewN_drewN _ _ _⟩⟩
        case measure => simp [intOf]; omega
      · have HH := Lib.hid (show fitB r b m = false from fitB_not g1 g2 (by rw [getElem!_pos r n g1, getElem!_pos m n g3, getElem!_pos b n g2]; exact he))
        have ht := andB_ne he
        clear he
        go_wp2
        go_quiet (fail)
        go_wp2
        go_ret
        exact ⟨by rw [HH.out]; rfl, by obtain ⟨d, hd⟩ := HW.out; rw [hd]; exact Below.drewN' (Below.drewN' HB0.out d) _⟩
    · have HH := Lib.hid (show fitB r b m = true from fitB_all HN.out (by rw [← HL.out]; omega))
      go_wp2
      go_ret
      exact ⟨by rw [HH.out]; rfl, by obtain ⟨d, hd⟩ := HW.out; rw [hd]; exact Below.drewN' HB0.out d⟩

set_option maxHeartbeats 2000000 in
set_option maxRecDepth 100000 in
theorem refIs_any (s b m k t : ByteArray) (w : World) (hs : s.size ≤ 9223372036854775807) (hb : b.size ≤ 9223372036854775807) (hk : k.size ≤ 9223372036854775807) (hm : m.size = b.size) (f g : Bool) (hf : fitB (restS s k) b m = f) (hg : decide (b.size ≤ (restS s k).size) = g) :
    Calls Tryz.prog 112 #[.string s, patV b m k t] w fun e w' => e = .returned (.tuple #[.bool f, .bool (f && g)]) ∧ Below w.heap.size w w' := by
  obtain ⟨w0, hw0⟩ : ∃ w0, w0 = w.alloc (.cells #[.string b, .string m, .string k, .string t] 54) := ⟨_, rfl⟩
  have HB0 := Lib.hid (show Below w.heap.size w w0 from by rw [hw0]; exact (Below.refl w.heap.size w).alloc (Nat.le_refl _) _)
  have HP := Lib.hid (show Blk w0 w.heap.size 54 #[.string b, .string m, .string k, .string t] from by rw [hw0]; exact Blk.new _ _ _)
  have HZ : w.heap.size < w0.heap.size := HP.out.lt
  have HC := Lib.hid (fun W => refBegins_any s b m k t W hs hk)
  obtain ⟨r, hr⟩ : ∃ r, r = restS s k := ⟨_, rfl⟩
  rw [← hr] at hf hg
  obtain ⟨n, hn⟩ : ∃ n, n = begN k s := ⟨_, rfl⟩
  have hns : n ≤ s.size := by rw [hn]; exact begN_le _ _
  have hrr : s.extract n s.size = r := by rw [hr, hn]; rfl
  have hrs : r.size ≤ 9223372036854775807 := by rw [hr, restS_size]; omega
  rw [← hn] at HC
  have HM := Lib.hid hm
  have HF := Lib.hid hf
  have HG := Lib.hid hg
  clear hm hf hg hn hr
  have c0 := HP.out.cell 0
  have c1 := HP.out.cell 1
  have c2 := HP.out.cell 2
  have c3 := HP.out.cell 3
  go_enter Tryz.func112, Tryz.ntmps112
  go_wp2_with fail
  rw [← hw0]
  clear hw0
  go_wp2_with (go_at_call 135; refine (HC.out _).mono ?_; rintro e w1 ⟨rfl, hb1⟩)
  have HB1 := Lib.hid (HB0.out.trans (hb1.mono (by omega)))
  have HP1 := Lib.hid (HP.out.below hb1 HZ)
  clear hb1 c0 c1 c2 c3 HB0 HP HZ hrr
  go_loopw [6] (fun i wr => ∃ n : Nat, n ≤ r.size ∧ n ≤ b.size ∧ i = .int .i64 n ∧ FitN r b m n ∧ ∃ d, wr = w1.drewN d) (fun i _ => b.size - (intOf i).toNat)
  case atStart => exact ⟨0, by omega, by omega, rfl, FitN.zero _ _ _, 0, rfl⟩
  case round =>
    obtain ⟨n, hn, hn2, rfl, hno, hw⟩ := hrel
    have HN := Lib.hid hno
    have HW := Lib.hid hw
    have c0 : wr.cell? ⟨w.heap.size, 0, none⟩ = some (.string b) := by obtain ⟨d, rfl⟩ := hw; exact (HP1.out.drewN d).cell 0
    have c1 : wr.cell? ⟨w.heap.size, 1, none⟩ = some (.string m) := by obtain ⟨d, rfl⟩ := hw; exact (HP1.out.drewN d).cell 1
    clear hno hw
    by_cases g2 : n < b.size
    · by_cases g1 : n < r.size
      · have g3 : n < m.size := by have := HM.out; omega
        by_cases he : andB r[n] m[n] = b[n]
        · have HH := Lib.hid (show (r[n]! &&& m[n]!) = b[n]! from by rw [getElem!_pos r n g1, getElem!_pos m n g3, getElem!_pos b n g2]; exact he)
          have ht := andB_eq he
          clear he
          go_wp2
          go_quiet ((go_at_call 136; exact Calls.quiet_of_same ((and_any r[n] m[n] _).mono fun _ _ h => ⟨h.1, h.2.symm⟩)))
          go_wp2
          go_roundw
          case rel => exact ⟨n + 1, by omega, by omega, by go_num, HN.out.succ HH.out, by obtain ⟨d, hd⟩ := HW.out; rw [hd]; exact ⟨_, World.drewN_drewN _ _ _⟩⟩
          case measure => simp [intOf]; omega
        · have HH := Lib.hid (show false = f from by rw [← HF.out]; exact (fitB_not g1 g2 (by rw [getElem!_pos r n g1, getElem!_pos m n g3, getElem!_pos b n g2]; exact he)).symm)
          have ht := andB_ne he
          clear he
          go_wp2
          go_quiet ((go_at_call 136; exact Calls.quiet_of_same ((and_any r[n] m[n] _).mono fun _ _ h => ⟨h.1, h.2.symm⟩)))
          go_wp2
          go_ret2
          exact ⟨by rw [← HH.out]; rfl, by obtain ⟨d, hd⟩ := HW.out; rw [hd]; exact Below.drewN' (Below.drewN' HB1.out d) _⟩
      · obtain rfl : n = r.size := by omega
        have HH := Lib.hid (show true = f from by rw [← HF.out]; exact (fitB_all HN.out (by omega)).symm)
        go_wp2
        go_quiet (fail)
        go_wp2
        go_ret2
        exact ⟨by rw [← HH.out, ← HG.out]; rfl, by obtain ⟨d, hd⟩ := HW.out; rw [hd]; exact Below.drewN' (Below.drewN' HB1.out d) _⟩
    · obtain rfl : n = b.size := by omega
      have HH := Lib.hid (show true = f from by rw [← HF.out]; exact (fitB_all HN.out (by omega)).symm)
      have HT := Lib.hid (show true = g from by rw [← HG.out]; simp [hn])
      go_wp2
      go_quiet (fail)
      go_wp2
      go_ret2
      exact ⟨by rw [← HH.out, ← HT.out]; rfl, by obtain ⟨d, hd⟩ := HW.out; rw [hd]; exact Below.drewN' (Below.drewN' HB1.out d) _⟩

end Go.Proofs.YtkdjjlfpaciohaaGreatDoor
namespace Go.Proofs.YtkdjjlfpaciohaaGreatDoor
open Go.RowKit

set_option maxHeartbeats 1000000 in
set_option maxRecDepth 100000 in
theorem match_any (s b m k t : ByteArray) (w : World) (hs : s.size ≤ 9223372036854775807) (hb : b.size ≤ 9223372036854775807) (hm : m.size ≤ 9223372036854775807) (hk : k.size ≤ 9223372036854775807) :
    Calls Tryz.prog 103 #[.string s, patV b m k t] w fun e w' => e = .returned (.bool (matB s b m k)) ∧ Below w.heap.size w w' := by
  obtain ⟨w0, hw0⟩ : ∃ w0, w0 = w.alloc (.cells #[.string b, .string m, .string k, .string t] 54) := ⟨_, rfl⟩
  have HB0 := Lib.hid (show Below w.heap.size w w0 from by rw [hw0]; exact (Below.refl w.heap.size w).alloc (Nat.le_refl _) _)
  have HP := Lib.hid (show Blk w0 w.heap.size 54 #[.string b, .string m, .string k, .string t] from by rw [hw0]; exact Blk.new _ _ _)
  have HZ := Lib.hid (show w.heap.size < w0.heap.size from HP.out.lt)
  have HG := Lib.hid (fun W => good_any b m k t W hb hm)
  have HV : Hid (matB s b m k = (goodP b m && (decide (b.size ≤ (restS s k).size) && fitB (restS s k) b m))) := rfl
  have c0 := HP.out.cell 0
  have c1 := HP.out.cell 1
  have c2 := HP.out.cell 2
  have c3 := HP.out.cell 3
  cases hg : goodP b m
  · rw [hg] at HG HV
    clear hg
    go_enter Tryz.func103, Tryz.ntmps103
    go_wp2_with fail
    rw [← hw0]
    clear hw0
    go_wp2_with (go_at_call 129; refine (HG.out _).mono ?_; rintro e w1 ⟨rfl, hb1⟩; have HB1 := Lib.hid hb1; clear hb1)
    go_ret
    exact ⟨by rw [HV.out]; rfl, HB0.out.trans (HB1.out.mono (Nat.le_of_lt HZ.out))⟩
  · rw [hg] at HG HV
    have hms : m.size = b.size := by unfold goodP at hg; simp only [Bool.and_eq_true, decide_eq_true_eq] at hg; omega
    have HR := Lib.hid (fun W => behind_any s b m k t W hs hk)
    obtain ⟨r, hr⟩ : ∃ r, r = restS s k := ⟨_, rfl⟩
    rw [← hr] at HR HV
    have hrs : r.size ≤ 9223372036854775807 := by rw [hr, restS_size]; omega
    have HF := Lib.hid (fun W => fits_any r b m k t W hrs hb hms)
    clear hg hms hr
    cases hd : decide (b.size ≤ r.size)
    all_goals
      rw [hd] at HV
      generalize fitB r b m = f at *
      go_enter Tryz.func103, Tryz.ntmps103
      go_wp2_with fail
      rw [← hw0]
      clear hw0
      go_wp2_with (first
        | (go_at_call 129; refine (HG.out _).mono ?_; rintro e w1 ⟨rfl, hb1⟩; have HB1 := Lib.hid (HB0.out.trans (hb1.mono (Nat.le_of_lt HZ.out))); have HP1 := Lib.hid (HP.out.below hb1 HZ.out); clear hb1 c0 c1 c2 c3 HB0 HP HZ; have c0 := HP1.out.cell 0; have c1 := HP1.out.cell 1; have c2 := HP1.out.cell 2; have c3 := HP1.out.cell 3)
        | (go_at_call 130; refine (HR.out _).mono ?_; rintro e w2 ⟨rfl, hb2⟩; have HB2 := Lib.hid (HB1.out.trans (hb2.mono HB1.out.size)); have HP2 := Lib.hid (HP1.out.below hb2 HP1.out.lt); clear hb2 c0 c1 c2 c3 HB1 HP1; have c0 := HP2.out.cell 0; have c1 := HP2.out.cell 1; have c2 := HP2.out.cell 2; have c3 := HP2.out.cell 3)
        | (go_at_call 131; refine (HF.out _).mono ?_; rintro e w3 ⟨rfl, hb3⟩; have HB3 := Lib.hid hb3; clear hb3))
      go_ret
    · exact ⟨by rw [HV.out]; rfl, HB2.out⟩
    · exact ⟨by rw [HV.out]; rfl, HB2.out.trans (HB3.out.mono HB2.out.size)⟩

set_option maxHeartbeats 1000000 in
set_option maxRecDepth 100000 in
theorem refMatch_any (s b m k t : ByteArray) (w : World) (hs : s.size ≤ 9223372036854775807) (hb : b.size ≤ 9223372036854775807) (hm : m.size ≤ 9223372036854775807) (hk : k.size ≤ 9223372036854775807) :
    Calls Tryz.prog 84 #[.string s, patV b m k t] w fun e w' => e = .returned (.bool (matB s b m k)) ∧ Below w.heap.size w w' := by
  obtain ⟨w0, hw0⟩ : ∃ w0, w0 = w.alloc (.cells #[.string b, .string m, .string k, .string t] 54) := ⟨_, rfl⟩
  have HB0 := Lib.hid (show Below w.heap.size w w0 from by rw [hw0]; exact (Below.refl w.heap.size w).alloc (Nat.le_refl _) _)
  have HP := Lib.hid (show Blk w0 w.heap.size 54 #[.string b, .string m, .string k, .string t] from by rw [hw0]; exact Blk.new _ _ _)
  have HZ := Lib.hid (show w.heap.size < w0.heap.size from HP.out.lt)
  have HG := Lib.hid (fun W => refGood_any b m k t W hb hm)
  have HV : Hid (matB s b m k = (goodP b m && (decide (b.size ≤ (restS s k).size) && fitB (restS s k) b m))) := rfl
  have c0 := HP.out.cell 0
  have c1 := HP.out.cell 1
  have c2 := HP.out.cell 2
  have c3 := HP.out.cell 3
  cases hg : goodP b m
  · rw [hg] at HG HV
    clear hg
    go_enter Tryz.func84, Tryz.ntmps84
    go_wp2_with fail
    rw [← hw0]
    clear hw0
    go_wp2_with (go_at_call 111; refine (HG.out _).mono ?_; rintro e w1 ⟨rfl, hb1⟩; have HB1 := Lib.hid hb1; clear hb1)
    go_ret
    exact ⟨by rw [HV.out]; rfl, HB0.out.trans (HB1.out.mono (Nat.le_of_lt HZ.out))⟩
  · rw [hg] at HG HV
    have hms : m.size = b.size := by unfold goodP at hg; simp only [Bool.and_eq_true, decide_eq_true_eq] at hg; omega
    cases hf : fitB (restS s k) b m <;> cases hd : decide (b.size ≤ (restS s k).size)
    all_goals
      have HI := Lib.hid (fun W => refIs_any s b m k t W hs hb hk hms _ _ hf hd)
      rw [hf, hd] at HV
      clear hf hd hms hg
      go_enter Tryz.func84, Tryz.ntmps84
      go_wp2_with fail
      rw [← hw0]
      clear hw0
      go_wp2_with (first
        | (go_at_call 111; refine (HG.out _).mono ?_; rintro e w1 ⟨rfl, hb1⟩; have HB1 := Lib.hid (HB0.out.trans (hb1.mono (Nat.le_of_lt HZ.out))); have HP1 := Lib.hid (HP.out.below hb1 HZ.out); clear hb1 c0 c1 c2 c3 HB0 HP HZ; have c0 := HP1.out.cell 0; have c1 := HP1.out.cell 1; have c2 := HP1.out.cell 2; have c3 := HP1.out.cell 3)
        | (go_at_call 112; refine (HI.out _).mono ?_; rintro e w2 ⟨rfl, hb2⟩; have HB2 := Lib.hid hb2; clear hb2))
      go_ret
      exact ⟨by rw [HV.out]; rfl, HB1.out.trans (HB2.out.mono HB1.out.size)⟩

end Go.Proofs.YtkdjjlfpaciohaaGreatDoor
namespace Go.Proofs.YtkdjjlfpaciohaaGreatDoor
open Go.RowKit

/-- A pattern's four texts. -/
structure Pat where
  b : ByteArray
  m : ByteArray
  k : ByteArray
  t : ByteArray
def Pat.ok (p : Pat) : Prop := p.b.size ≤ 9223372036854775807 ∧ p.m.size ≤ 9223372036854775807 ∧ p.k.size ≤ 9223372036854775807
def matP (s : ByteArray) (p : Pat) : Bool := matB s p.b p.m p.k
/-- n patterns that lie in block g. -/
def PatsIn (w : World) (g : Nat) (ps : Nat → Pat) (n : Nat) : Prop := g < w.heap.size ∧ ∀ i, i < n → w.cell? ⟨g, i * 4, none⟩ = some (.string (ps i).b) ∧ w.cell? ⟨g, i * 4 + 1, none⟩ = some (.string (ps i).m) ∧ w.cell? ⟨g, i * 4 + 2, none⟩ = some (.string (ps i).k) ∧ w.cell? ⟨g, i * 4 + 3, none⟩ = some (.string (ps i).t)
theorem PatsIn.below {w w' : World} {B g n : Nat} {ps : Nat → Pat} (h : PatsIn w g ps n) (hb : Below B w w') (hg : g < B) (_hs : B ≤ w.heap.size) : PatsIn w' g ps n :=
  ⟨by have := hb.size; have := h.1; omega, fun i hi => by
    have := h.2 i hi
    have e := fun o => hb.cell (p := ⟨g, o, none⟩) hg
    exact ⟨(e _).trans this.1, (e _).trans this.2.1, (e _).trans this.2.2.1, (e _).trans this.2.2.2⟩⟩
/-- r is which of n patterns is the first that matches; -1: none does. -/
def IsFirst (s : ByteArray) (ps : Nat → Pat) (n : Nat) (r : Int) : Prop := (r = -1 ∧ ∀ j, j < n → matP s (ps j) = false) ∨ (∃ k, k < n ∧ r = (k : Int) ∧ matP s (ps k) = true ∧ ∀ j, j < k → matP s (ps j) = false)
theorem IsFirst.at_ {s : ByteArray} {ps : Nat → Pat} {n k : Nat} {r : Int} (h : IsFirst s ps n r) (hk : k < n) (hm : matP s (ps k) = true) (hno : ∀ j, j < k → matP s (ps j) = false) : r = (k : Int) := by
  rcases h with ⟨_, h2⟩ | ⟨j, h1, h2, h3, h4⟩
  · rw [h2 k hk] at hm; cases hm
  · rcases Nat.lt_trichotomy j k with h5 | h5 | h5
    · rw [hno j h5] at h3; cases h3
    · rw [h2, h5]
    · rw [h4 k h5] at hm; cases hm
theorem IsFirst.no {s : ByteArray} {ps : Nat → Pat} {n : Nat} {r : Int} (h : IsFirst s ps n r) (hno : ∀ j, j < n → matP s (ps j) = false) : r = -1 := by
  rcases h with ⟨h1, _⟩ | ⟨j, h1, h2, h3, h4⟩
  · exact h1
  · rw [hno j h1] at h3; cases h3
theorem IsFirst.some (s : ByteArray) (ps : Nat → Pat) (n : Nat) : ∃ r, IsFirst s ps n r := by
  have key : ∀ m, m ≤ n → (∀ j, j < m → matP s (ps j) = false) ∨ ∃ r, IsFirst s ps n r := by
    intro m
    induction m with
    | zero => intro _; exact .inl fun j hj => absurd hj (by omega)
    | succ m ih =>
      intro hm
      rcases ih (by omega) with h | h
      · cases e : matP s (ps m)
        · refine .inl fun j hj => ?_
          by_cases hjm : j = m
          · subst hjm; exact e
          · exact h j (by omega)
        · exact .inr ⟨m, .inr ⟨m, by omega, rfl, e, h⟩⟩
      · exact .inr h
  rcases key n (Nat.le_refl _) with h | h
  · exact ⟨-1, .inl ⟨rfl, h⟩⟩
  · exact h

set_option maxHeartbeats 400000 in
theorem first1_any (sb : Nat) (s : ByteArray) (p : Pat) (w : World) (h : w.cell? ⟨sb, 0, none⟩ = some (.string s)) (hp : p.ok) (hs : s.size ≤ 9223372036854775807) :
    Calls Tryz.prog 110 #[patV p.b p.m p.k p.t, .pointer (some ⟨sb, 0, none⟩)] w fun e w' => e = .returned (.bool (matP s p)) ∧ Below w.heap.size w w' := by
  have HC := Lib.hid (fun W => match_any s p.b p.m p.k p.t W hs hp.1 hp.2.1 hp.2.2)
  have hlt : sb < w.heap.size := World.block_lt_of_cell? w _ h
  have h' : (w.alloc (.cells #[.string p.b, .string p.m, .string p.k, .string p.t] 54)).cell? ⟨sb, 0, none⟩ = some (.string s) := (World.cell?_alloc_lt w _ _ hlt).trans h
  have HB0 := Lib.hid ((Below.refl w.heap.size w).alloc (Nat.le_refl _) (.cells #[.string p.b, .string p.m, .string p.k, .string p.t] 54))
  unfold matP
  go_enter Tryz.func110, Tryz.ntmps110
  go_wp2_with (go_at_call 103; refine (HC.out _).mono ?_; rintro e w1 ⟨rfl, hb1⟩; have HB1 := Lib.hid hb1; clear hb1)
  go_ret
  exact ⟨rfl, HB0.out.trans (HB1.out.mono (by simp))⟩

set_option maxHeartbeats 1000000 in
set_option maxRecDepth 100000 in
theorem pindexFunc_any (sb g n c : Nat) (s : ByteArray) (ps : Nat → Pat) (r : Int) (w : World) (h : w.cell? ⟨sb, 0, none⟩ = some (.string s)) (hp : PatsIn w g ps n) (hok : ∀ i, i < n → (ps i).ok) (hs : s.size ≤ 9223372036854775807) (hn : n ≤ 9223372036854775807) (hr : IsFirst s ps n r) :
    Calls Tryz.prog 109 #[.slice (some ⟨g, 0, none⟩) n c, .func (.func 110) #[] #[.pointer (some ⟨sb, 0, none⟩)]] w fun e w' => e = .returned (.int .i64 r) ∧ Below w.heap.size w w' := by
  have hlt : sb < w.heap.size := World.block_lt_of_cell? w _ h
  have HH := Lib.hid h
  have HP := Lib.hid hp
  have HR := Lib.hid hr
  clear h hp hr
  go_enter Tryz.func109, Tryz.ntmps109
  go_wp2
  go_loopw [8] (fun i wr => ∃ k : Nat, k ≤ n ∧ i = .int .i64 k ∧ (∀ j, j < k → matP s (ps j) = false) ∧ Below w.heap.size w wr) (fun i _ => n - (intOf i).toNat)
  case atStart => exact ⟨0, by omega, rfl, fun j h => absurd h (by omega), Below.refl _ _⟩
  case round =>
    obtain ⟨k, hk, rfl, hno, hw⟩ := hrel
    have HN := Lib.hid hno
    have HW := Lib.hid hw
    clear hno hw
    by_cases hlt2 : k < n
    · have HC := Lib.hid (fun W (h : W.cell? ⟨sb, 0, none⟩ = some (.string s)) => first1_any sb s (ps k) W h (hok k hlt2) hs)
      have HS := Lib.hid ((HW.out.cell (p := ⟨sb, 0, none⟩) hlt).trans HH.out)
      have hcs := (HP.out.below HW.out HP.out.1 (Nat.le_refl _)).2 k hlt2
      obtain ⟨c0, c1, c2, c3⟩ := hcs
      cases hm : matP s (ps k)
      · rw [hm] at HC
        have HM := Lib.hid hm
        clear hm
        go_wp2_with (go_at_call 110; refine (HC.out _ HS.out).mono ?_; rintro e w1 ⟨rfl, hb1⟩; have HB1 := Lib.hid hb1; clear hb1)
        go_roundw
        case rel => exact ⟨k + 1, by omega, by go_num, fun j h => if e : j = k then by subst e; exact HM.out else HN.out j (by omega), HW.out.trans (HB1.out.mono HW.out.size)⟩
        case measure => simp [intOf]; omega
      · rw [hm] at HC
        have HX := Lib.hid (HR.out.at_ hlt2 hm HN.out)
        clear hm
        go_wp2_with (go_at_call 110; refine (HC.out _ HS.out).mono ?_; rintro e w1 ⟨rfl, hb1⟩; have HB1 := Lib.hid hb1; clear hb1)
        go_ret
        exact ⟨by rw [HX.out]; rfl, HW.out.trans (HB1.out.mono HW.out.size)⟩
    · obtain rfl : k = n := by omega
      have HX := Lib.hid (HR.out.no HN.out)
      go_wp2
      go_ret
      exact ⟨by rw [HX.out]; rfl, HW.out⟩

set_option maxHeartbeats 400000 in
theorem first_any (g n c : Nat) (s : ByteArray) (ps : Nat → Pat) (r : Int) (w : World) (hp : PatsIn w g ps n) (hok : ∀ i, i < n → (ps i).ok) (hs : s.size ≤ 9223372036854775807) (hn : n ≤ 9223372036854775807) (hr : IsFirst s ps n r) :
    Calls Tryz.prog 81 #[.string s, .slice (some ⟨g, 0, none⟩) n c] w fun e w' => e = .returned (.tuple #[.int .i64 (if r < 0 then 0 else r), .bool (decide (0 ≤ r))]) ∧ Below w.heap.size w w' := by
  have hmf := make_fn
  obtain ⟨w0, hw0⟩ : ∃ w0, w0 = w.alloc (.cells #[.string s] 9) := ⟨_, rfl⟩
  have HB0 := Lib.hid (show Below w.heap.size w w0 from by rw [hw0]; exact (Below.refl w.heap.size w).alloc (Nat.le_refl _) _)
  have hc0 : w0.cell? ⟨w.heap.size, 0, none⟩ = some (.string s) := by rw [hw0]; simp
  have HP := Lib.hid (hp.below HB0.out hp.1 (Nat.le_refl _))
  have HC := Lib.hid (pindexFunc_any w.heap.size g n c s ps r w0 hc0 HP.out hok hs hn hr)
  by_cases h : r < 0
  · have e1 : decide (0 ≤ r) = false := by simp; omega
    rw [if_pos h, e1]
    clear e1
    go_enter Tryz.func81, Tryz.ntmps81
    go_wp2_with fail
    rw [← hw0]
    clear hw0 hc0
    go_wp2_with (go_at_call 109; refine HC.out.mono ?_; rintro e w1 ⟨rfl, hb1⟩; have HB1 := Lib.hid hb1; clear hb1)
    go_ret2
    exact ⟨rfl, HB0.out.trans (HB1.out.mono HB0.out.size)⟩
  · have e1 : decide (0 ≤ r) = true := by simp; omega
    rw [if_neg h, e1]
    clear e1
    have hd : decide (r < 0) = false := by simpa using h
    go_enter Tryz.func81, Tryz.ntmps81
    go_wp2_with fail
    rw [← hw0]
    clear hw0 hc0
    go_wp2_with (go_at_call 109; refine HC.out.mono ?_; rintro e w1 ⟨rfl, hb1⟩; have HB1 := Lib.hid hb1; clear hb1)
    go_ret2
    exact ⟨rfl, HB0.out.trans (HB1.out.mono HB0.out.size)⟩

/-- The Type of the pattern that is told. -/
def typeOf (ps : Nat → Pat) (r : Int) : ByteArray := if r < 0 then ⟨#[]⟩ else (ps r.toNat).t

set_option maxHeartbeats 400000 in
theorem type_any (g n c : Nat) (s : ByteArray) (ps : Nat → Pat) (r : Int) (w : World) (hp : PatsIn w g ps n) (hok : ∀ i, i < n → (ps i).ok) (hs : s.size ≤ 9223372036854775807) (hn : n ≤ 9223372036854775807) (hr : IsFirst s ps n r) :
    Calls Tryz.prog 57 #[.string s, .slice (some ⟨g, 0, none⟩) n c] w fun e w' => e = .returned (.string (typeOf ps r)) ∧ Below w.heap.size w w' := by
  have HC := Lib.hid (first_any g n c s ps r w hp hok hs hn hr)
  by_cases h : r < 0
  · have HT := Lib.hid (show typeOf ps r = ⟨#[]⟩ from if_pos h)
    have e1 : decide (0 ≤ r) = false := by simp; omega
    rw [if_pos h, e1] at HC
    clear e1
    go_enter Tryz.func57, Tryz.ntmps57
    go_wp2_with (go_at_call 81; refine HC.out.mono ?_; rintro e w1 ⟨rfl, hb1⟩; have HB1 := Lib.hid hb1; clear hb1)
    go_ret
    exact ⟨by rw [HT.out]; rfl, HB1.out⟩
  · obtain ⟨k, rfl, hk⟩ : ∃ k : Nat, r = (k : Int) ∧ k < n := by
      rcases hr with ⟨h1, _⟩ | ⟨k, h1, h2, _⟩
      · omega
      · exact ⟨k, h2, h1⟩
    have HT := Lib.hid (show typeOf ps k = (ps k).t from by unfold typeOf; rw [if_neg h]; rfl)
    have e1 : decide (0 ≤ (k : Int)) = true := by simp
    rw [if_neg h, e1] at HC
    have HP := Lib.hid hp
    clear e1 h hr hp
    go_enter Tryz.func57, Tryz.ntmps57
    go_wp2_with (go_at_call 81; refine HC.out.mono ?_; rintro e w1 ⟨rfl, hb1⟩; have HB1 := Lib.hid hb1; have c3 := ((HP.out.below hb1 HP.out.1 (Nat.le_refl _)).2 k hk).2.2.2; clear hb1)
    go_ret
    exact ⟨by rw [HT.out]; rfl, HB1.out⟩

set_option maxHeartbeats 1000000 in
set_option maxRecDepth 100000 in
theorem refFirst_any (g n c : Nat) (s : ByteArray) (ps : Nat → Pat) (r : Int) (w : World) (hp : PatsIn w g ps n) (hok : ∀ i, i < n → (ps i).ok) (hs : s.size ≤ 9223372036854775807) (hn : n ≤ 9223372036854775807) (hr : IsFirst s ps n r) :
    Calls Tryz.prog 59 #[.string s, .slice (some ⟨g, 0, none⟩) n c] w fun e w' => e = .returned (.int .i64 r) ∧ Below w.heap.size w w' := by
  have HP := Lib.hid hp
  have HR := Lib.hid hr
  clear hp hr
  go_enter Tryz.func59, Tryz.ntmps59
  go_wp2
  go_loopw [5] (fun i wr => ∃ k : Nat, k ≤ n ∧ i = .int .i64 k ∧ (∀ j, j < k → matP s (ps j) = false) ∧ Below w.heap.size w wr) (fun i _ => n - (intOf i).toNat)
  case atStart => exact ⟨0, by omega, rfl, fun j h => absurd h (by omega), Below.refl _ _⟩
  case round =>
    obtain ⟨k, hk, rfl, hno, hw⟩ := hrel
    have HN := Lib.hid hno
    have HW := Lib.hid hw
    clear hno hw
    by_cases hlt2 : k < n
    · have HC := Lib.hid (fun W => show Calls Tryz.prog 84 #[.string s, patV (ps k).b (ps k).m (ps k).k (ps k).t] W fun e w' => e = .returned (.bool (matP s (ps k))) ∧ Below W.heap.size W w' from refMatch_any s (ps k).b (ps k).m (ps k).k (ps k).t W hs (hok k hlt2).1 (hok k hlt2).2.1 (hok k hlt2).2.2)
      have hcs := (HP.out.below HW.out HP.out.1 (Nat.le_refl _)).2 k hlt2
      obtain ⟨c0, c1, c2, c3⟩ := hcs
      cases hm : matP s (ps k)
      · rw [hm] at HC
        have HM := Lib.hid hm
        clear hm
        go_wp2_with (go_at_call 84; refine (HC.out _).mono ?_; rintro e w1 ⟨rfl, hb1⟩; have HB1 := Lib.hid hb1; clear hb1)
        go_roundw
        case rel => exact ⟨k + 1, by omega, by go_num, fun j h => if e : j = k then by subst e; exact HM.out else HN.out j (by omega), HW.out.trans (HB1.out.mono HW.out.size)⟩
        case measure => simp [intOf]; omega
      · rw [hm] at HC
        have HX := Lib.hid (HR.out.at_ hlt2 hm HN.out)
        clear hm
        go_wp2_with (go_at_call 84; refine (HC.out _).mono ?_; rintro e w1 ⟨rfl, hb1⟩; have HB1 := Lib.hid hb1; clear hb1)
        go_ret
        exact ⟨by rw [HX.out]; rfl, HW.out.trans (HB1.out.mono HW.out.size)⟩
    · obtain rfl : k = n := by omega
      have HX := Lib.hid (HR.out.no HN.out)
      go_wp2
      go_ret
      exact ⟨by rw [HX.out]; rfl, HW.out⟩

end Go.Proofs.YtkdjjlfpaciohaaGreatDoor
