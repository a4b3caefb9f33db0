/-
  What Good, Essence, Param and Same of package mime answer of types. Condition: texts are as long as a mebibyte, and parameters as many.
-/
import Derived.Test.YtmepnfkgfbbkiaaMe
import Derived.BigQuiet
namespace Go.Proofs.Ytmepnfkgfbbkiaa
open Go.RowKit Go.Maps

/-- A type that lies as such: its parameters behind A. -/
structure MimIn (w : World) (t u : ByteArray) (A : Option Addr) (ps : List Prm) : Prop where
  lie : PsIn w A ps
  all : AllIn 1048576 ps
  t : t.size ≤ 1048576
  u : u.size ≤ 1048576
  n : ps.length ≤ 1048576
theorem MimIn.below {w w' : World} {t u : ByteArray} {A : Option Addr} {ps : List Prm} (h : MimIn w t u A ps) (hb : Below w.heap.size w w') : MimIn w' t u A ps := ⟨h.lie.below hb, h.all, h.t, h.u, h.n⟩

set_option maxHeartbeats 1000000 in
theorem mgood_any (t u : ByteArray) (A : Option Addr) (ps : List Prm) (c : Nat) (w : World) (h : MimIn w t u A ps) :
    Calls Try.prog 18 #[mimV t u A ps.length c] w fun e w' => e = .returned (.bool (goodM t u ps)) ∧ Below w.heap.size w w' := by
  have HN1 := Lib.hid (fun W => isName_any t W (by have := h.t; omega))
  have HN2 := Lib.hid (fun W => isName_any u W (by have := h.u; omega))
  obtain ⟨w0, hw0⟩ : ∃ w0, w0 = w.alloc (.cells #[.string t, .string u, .slice A ps.length c] 24) := ⟨_, rfl⟩
  have HB0 := Lib.hid (show Below w.heap.size w w0 from by rw [hw0]; exact (Below.refl w.heap.size w).alloc (Nat.le_refl _) _)
  have HP0 := Lib.hid (show Blk w0 w.heap.size 24 #[.string t, .string u, .slice A ps.length c] from by rw [hw0]; exact Blk.new _ _ _)
  have HS := Lib.hid h
  have c0 := HP0.out.cell 0
  show Calls Try.prog 18 #[mimV t u A ps.length c] w fun e w' => e = .returned (.bool (nameB t && nameB u && goodL [] ps)) ∧ Below w.heap.size w w'
  cases h1 : nameB t
  · rw [h1] at HN1
    simp only [Bool.false_and]
    go_enter Try.func18, Try.ntmps18
    go_wp2_with fail
    rw [← hw0]
    clear hw0
    go_wp2_with (go_at_call 24; (with_reducible refine (HN1.out _).mono ?_); rintro e w1 ⟨rfl, b1⟩; have B1 := Lib.hid b1; clear b1)
    go_ret
    exact ⟨rfl, HB0.out.trans (B1.out.mono HB0.out.size)⟩
  · rw [h1] at HN1
    cases h2 : nameB u
    · rw [h2] at HN2
      simp only [Bool.and_false, Bool.false_and]
      go_enter Try.func18, Try.ntmps18
      go_wp2_with fail
      rw [← hw0]
      clear hw0
      go_wp2_with fail
      refine (HN1.out _).mono ?_
      rintro e w1 ⟨rfl, b1⟩
      have HB1 := Lib.hid (HB0.out.trans (b1.mono HB0.out.size))
      have c1 := (HP0.out.below b1 HP0.out.lt).cell 1
      clear b1 c0
      go_wp2_with fail
      refine (HN2.out _).mono ?_
      rintro e w2 ⟨rfl, b2⟩
      have HB2 := Lib.hid (HB1.out.trans (b2.mono HB1.out.size))
      clear b2 c1
      go_wp2
      go_ret
      exact ⟨rfl, HB2.out⟩
    · rw [h2] at HN2
      simp only [Bool.true_and]
      have HPS := Lib.hid h.lie
      have hmf := make_func
      have hst : ∀ (w : World) (a : Addr) (fn : Fn) (fi ca : Array Value) (m : Mode), (store a (.func fn fi ca) m).run Try.prog w = stored Try.prog w a (.func fn fi ca) m := fun w a _ _ _ m => run_store Try.prog w a _ m rfl
      obtain ⟨G, hG⟩ : ∃ G, G = goodL [] ps := ⟨_, rfl⟩
      rw [← hG]
      go_enter Try.func18, Try.ntmps18
      go_wp2_with fail
      rw [← hw0]
      clear hw0
      go_wp2_with fail
      refine (HN1.out _).mono ?_
      rintro e w1 ⟨rfl, b1⟩
      have HB1 := Lib.hid (HB0.out.trans (b1.mono HB0.out.size))
      have HP1 := Lib.hid (HP0.out.below b1 HP0.out.lt)
      have c1 := HP1.out.cell 1
      clear b1 c0
      go_wp2_with fail
      refine (HN2.out _).mono ?_
      rintro e w2 ⟨rfl, b2⟩
      have HB2 := Lib.hid (HB1.out.trans (b2.mono HB1.out.size))
      have HP2 := Lib.hid (HP1.out.below b2 HP1.out.lt)
      clear b2 c1
      go_wp2_with fail
      refine (news_any _).mono ?_
      rintro e w3 ⟨rfl, b3, a3⟩
      have HB3 := Lib.hid (HB2.out.trans (b3.mono HB2.out.size))
      have HP3 := Lib.hid (HP2.out.below b3 HP2.out.lt)
      have HA3 := Lib.hid a3
      have hs2 := HB2.out.size
      have hwl := HP2.out.lt
      clear b3 a3
      generalize w2.heap.size = mb at *
      obtain ⟨w4, hw4⟩ : ∃ w4, w4 = w3.alloc (.cells #[newsV (mb + 1)] 46) := ⟨_, rfl⟩
      have HB4 := Lib.hid (show Below w.heap.size w w4 from by rw [hw4]; exact HB3.out.alloc HB3.out.size _)
      have HP4 := Lib.hid (show Blk w4 w.heap.size 24 _ from by rw [hw4]; exact HP3.out.alloc _)
      have HF4 := Lib.hid (show Blk w4 w3.heap.size 46 #[newsV (mb + 1)] from by rw [hw4]; exact Blk.new _ _ _)
      have HA4 := Lib.hid (show Asked w4 (mb + 1) mb [] from HA3.out.mv (r := []) (by rw [hw4]; exact (Mv.refl _ _ _).alloc (Nat.le_refl _) _) HA3.out.1.lt HA3.out.2.1.lt (by simp) (by simp))
      have hmb : mb < w3.heap.size := HA3.out.2.1.lt
      have c2 := HP4.out.cell 2
      rw [hw4] at c2
      have HC := Lib.hid (contains_any w3.heap.size (mb + 1) mb c A ps w4 (h.lie.below HB4.out) h.all HF4.out HA4.out (by omega) (fun g hg hl => by
        obtain ⟨g', e1, e2, _⟩ := h.lie 0 hl
        rw [hg] at e1; cases e1
        omega) (by have := h.n; omega))
      rw [← hG] at HC
      go_wp2_with fail
      rw [← hw4]
      clear hw4
      refine HC.out.mono ?_
      rintro e w5 ⟨rfl, m5⟩
      have HB5 := Lib.hid (HB4.out.trans (m5.below HB4.out.size (by simp; omega)))
      go_wp2
      go_ret
      exact ⟨by rw [hG]; rfl, HB5.out⟩

theorem essL_eq (t u : ByteArray) : (t ++ ⟨#[47]⟩) ++ u = (⟨(essL t u).toArray⟩ : ByteArray) := by
  apply ByteArray.ext
  rw [ByteArray.data_append, ByteArray.data_append]
  simp [essL]

set_option maxHeartbeats 1000000 in
theorem essence_any (t u : ByteArray) (A : Option Addr) (n c : Nat) (w : World) (ht : t.size ≤ 1048576) (hu : u.size ≤ 1048576) :
    Calls Try.prog 11 #[mimV t u A n c] w fun e w' => e = .returned (.string ⟨(essL t u).toArray⟩) ∧ Below w.heap.size w w' := by
  obtain ⟨w0, hw0⟩ : ∃ w0, w0 = w.alloc (.cells #[.string t, .string u, .slice A n c] 24) := ⟨_, rfl⟩
  have HB0 := Lib.hid (show Below w.heap.size w w0 from by rw [hw0]; exact (Below.refl w.heap.size w).alloc (Nat.le_refl _) _)
  have HP0 := Lib.hid (show Blk w0 w.heap.size 24 #[.string t, .string u, .slice A n c] from by rw [hw0]; exact Blk.new _ _ _)
  have c0 := HP0.out.cell 0
  have c1 := HP0.out.cell 1
  rw [← essL_eq]
  go_enter Try.func11, Try.ntmps11
  go_wp2_with fail
  rw [← hw0]
  clear hw0
  go_wp2
  go_ret
  exact ⟨rfl, HB0.out⟩

/-- What Param tells. -/
def parV (ps : List Prm) (x : ByteArray) : ByteArray := if h : atN ps x < ps.length then ps[atN ps x].v else ⟨#[]⟩

set_option maxHeartbeats 1000000 in
theorem param_any (t u : ByteArray) (A : Option Addr) (ps : List Prm) (c : Nat) (x : ByteArray) (w : World) (h : PsIn w A ps) (hn : ps.length ≤ 1048576) :
    Calls Try.prog 10 #[mimV t u A ps.length c, .string x] w fun e w' => e = .returned (.tuple #[.string (parV ps x), .bool (seenB ps x)]) ∧ Below w.heap.size w w' := by
  obtain ⟨w0, hw0⟩ : ∃ w0, w0 = w.alloc (.cells #[.string t, .string u, .slice A ps.length c] 24) := ⟨_, rfl⟩
  have HB0 := Lib.hid (show Below w.heap.size w w0 from by rw [hw0]; exact (Below.refl w.heap.size w).alloc (Nat.le_refl _) _)
  have HP0 := Lib.hid (show Blk w0 w.heap.size 24 #[.string t, .string u, .slice A ps.length c] from by rw [hw0]; exact Blk.new _ _ _)
  have c2 := HP0.out.cell 2
  have HP := Lib.hid h
  have HS := Lib.hid (atN_seen ps x)
  obtain ⟨r, hr⟩ : ∃ r, r = parV ps x := ⟨_, rfl⟩
  obtain ⟨b, hb⟩ : ∃ b, b = seenB ps x := ⟨_, rfl⟩
  rw [← hr, ← hb]
  have HR := Lib.hid hr
  have HBB := Lib.hid hb
  clear h hr hb
  go_enter Try.func10, Try.ntmps10
  go_wp2_with fail
  rw [← hw0]
  clear hw0
  go_wp2
  go_loopw [11] (fun i wr => ∃ k : Nat, k ≤ ps.length ∧ i = .int .i64 k ∧ (∀ j (hj : j < ps.length), j < k → eqS ps[j].n x = false) ∧ Below w.heap.size w wr) (fun i _ => ps.length - (intOf i).toNat)
  case atStart => exact ⟨0, Nat.zero_le _, rfl, fun j _ h => absurd h (by omega), HB0.out⟩
  case round =>
    obtain ⟨k, hk, rfl, hno, hw⟩ := hrel
    have HN := Lib.hid hno
    have HW := Lib.hid hw
    clear hno hw c2
    by_cases hlt : k < ps.length
    · obtain ⟨g, rfl, hg1, hc0, hc1⟩ := HP.out k hlt
      have c0 := (HW.out.cell (p := ⟨g, k * 2, none⟩) hg1).trans hc0
      have c1 := (HW.out.cell (p := ⟨g, k * 2 + 1, none⟩) hg1).trans hc1
      clear hc0 hc1
      cases he : eqS ps[k].n x
      · have HE := Lib.hid (show ∀ j (hj : j < ps.length), j < k + 1 → eqS ps[j].n x = false from fun j hj hj2 => by
          by_cases e : j = k
          · subst e; exact he
          · exact HN.out j hj (by omega))
        have he' : (ps[k].n.toList == x.toList) = false := he
        clear he
        generalize ps[k] = q at *
        obtain ⟨qn, qv⟩ := q
        go_wp2
        go_roundw
        case rel => exact ⟨k + 1, by omega, by go_num, HE.out, HW.out.alloc HW.out.size _⟩
        case measure => simp [intOf]; omega
      · have e1 : atN ps x = k := atN_is hlt he fun j hj => HN.out j (by omega) hj
        have HR2 := Lib.hid (show r = ps[k].v from by rw [HR.out]; unfold parV; simp only [e1]; rw [dif_pos hlt])
        have HB2 := Lib.hid (show b = true from by rw [HBB.out, ← HS.out, e1]; exact decide_eq_true hlt)
        have he' : (ps[k].n.toList == x.toList) = true := he
        clear he e1
        generalize ps[k] = q at *
        obtain ⟨qn, qv⟩ := q
        go_wp2
        go_ret2
        exact ⟨by rw [HR2.out, HB2.out]; rfl, HW.out.alloc HW.out.size _⟩
    · obtain rfl : k = ps.length := by omega
      have e1 : atN ps x = ps.length := atN_no fun j hj => HN.out j hj hj
      have HR2 := Lib.hid (show r = ⟨#[]⟩ from by rw [HR.out]; unfold parV; rw [dif_neg (by omega)])
      have HB2 := Lib.hid (show b = false from by rw [HBB.out, ← HS.out]; exact decide_eq_false (by omega))
      clear e1
      go_wp2
      go_ret2
      exact ⟨by rw [HR2.out, HB2.out]; rfl, HW.out⟩

theorem neq_prm (p q : Prm) (w : World) : (binOp .neq 33 (prmV p) (prmV q)).run Try.prog w = .ok (.bool (!(eqS p.n q.n && eqS p.v q.v))) w := by
  by_cases h1 : p.n.toList = q.n.toList <;> by_cases h2 : p.v.toList = q.v.toList <;> simp [go_sem, eqS, h1, h2]

end Go.Proofs.Ytmepnfkgfbbkiaa
