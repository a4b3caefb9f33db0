/-
  What Good of package mime answers. Condition: texts are as long as a length can be.
  What Good, Essence, Param and Same of package mime answer of types. Condition: texts are as long as a mebibyte, and parameters as many.
  Plain facts on the values of one header, as layer 11 has them: the values as one text, the types among the pieces, what becomes of a type by the next one. No condition.
-/
import Derived.Test.YtighgoefmccagaaZ10
import Derived.Test.YtighgoefmccagaaZ9
import Derived.BigQuiet
namespace Go.Proofs.Ytighgoefmccagaa
open Go.RowKit Go.Maps

abbrev goodV (fb : Nat) : Value := .func (.func 99) #[] #[.pointer (some ⟨fb, 0, none⟩)]

set_option maxHeartbeats 1000000 in
theorem good1_any (fb nb mb : Nat) (p : Prm) (xs : List ByteArray) (w : World) (hf : Blk w fb 54 #[newsV nb]) (ha : Asked w nb mb xs) (_hfm : fb ≠ mb) (hn : p.n.size ≤ 1048576) (hv : p.v.size ≤ 1048576) (hl : xs.length < 9223372036854775807) :
    Calls Try.prog 99 #[prmV p, .pointer (some ⟨fb, 0, none⟩)] w fun e w' => e = .returned (.bool (!(prmB p && !(xs.any fun y => eqS y p.n)))) ∧ Mv w.heap.size [mb] w w' ∧ Asked w' nb mb (if prmB p then xs ++ [p.n] else xs) := by
  obtain ⟨n, v⟩ := p
  have HG := Lib.hid (fun W => isGood_any ⟨n, v⟩ W (by simp only at hn ⊢; omega) (by simp only at hv ⊢; omega))
  obtain ⟨w0, hw0⟩ : ∃ w0, w0 = w.alloc (.cells #[.string n, .string v] 55) := ⟨_, rfl⟩
  have m0 : Mv w.heap.size [] w w0 := by rw [hw0]; exact (Mv.refl _ _ _).alloc (Nat.le_refl _) _
  have HM0 := Lib.hid (m0.mono (r' := [mb]) (Nat.le_refl _) (by simp))
  have HP0 := Lib.hid (show Blk w0 w.heap.size 55 #[.string n, .string v] from by rw [hw0]; exact Blk.new _ _ _)
  have hfl := hf.lt
  have hnl := ha.1.lt
  have hml : mb < w.heap.size := ha.2.1.lt
  have HF0 := Lib.hid (hf.mv m0 hfl (by simp))
  have HA0 := Lib.hid (ha.mv m0 hnl hml (by simp) (by simp))
  have c0 := HP0.out.cell 0
  have c1 := HP0.out.cell 1
  clear m0 hf ha
  cases hg : prmB ⟨n, v⟩
  · rw [hg] at HG
    rw [Bool.false_and, if_neg (by simp)]
    clear hg
    go_enter Try.func99, Try.ntmps99
    go_wp2_with fail
    rw [← hw0]
    clear hw0
    go_wp2_with (go_at_call 89; (with_reducible refine (HG.out _).mono ?_); rintro e w1 ⟨rfl, b1⟩; have B1 := Lib.hid b1; clear b1)
    go_ret
    have m1 := Mv.of_below B1.out [mb]
    exact ⟨rfl, HM0.out.chain m1 (Nat.le_refl _), HA0.out.mv (Mv.of_below B1.out []) (by have := HM0.out.size; omega) (by have := HM0.out.size; omega) (by simp) (by simp)⟩
  · rw [hg] at HG
    rw [Bool.true_and, if_pos rfl]
    have HN := Lib.hid (fun W (hW : Asked W nb mb xs) => news1_any nb mb n xs W hW (by simp only at hn ⊢; omega) hl)
    clear hg
    simp only
    generalize (xs.any fun y => eqS y n) = d at *
    go_enter Try.func99, Try.ntmps99
    go_wp2_with fail
    rw [← hw0]
    clear hw0
    refine (HG.out _).mono ?_
    rintro e w1 ⟨rfl, b1⟩
    have m1 := Mv.of_below b1 [mb]
    have HM1 := Lib.hid (HM0.out.chain m1 (Nat.le_refl _))
    have HA1 := Lib.hid (HA0.out.mv (Mv.of_below b1 []) (by have := HM0.out.size; omega) (by have := HM0.out.size; omega) (by simp) (by simp))
    have HP1 := Lib.hid (HP0.out.below b1 HP0.out.lt)
    have HF1 := Lib.hid (HF0.out.below b1 HF0.out.lt)
    clear b1 m1 HM0 HA0 HP0 HF0 c0 c1
    have c0 := HP1.out.cell 0
    have d0 := HF1.out.cell 0
    go_wp2_with fail
    refine (HN.out _ HA1.out).mono ?_
    rintro e w2 ⟨rfl, m2, a2⟩
    have HM2 := Lib.hid (HM1.out.chain m2 (Nat.le_refl _))
    have HA2 := Lib.hid a2
    clear m2 a2
    go_wp2
    go_ret
    exact ⟨by rw [Bool.not_not]; rfl, HM2.out, HA2.out⟩

set_option maxHeartbeats 2000000 in
set_option maxRecDepth 100000 in
theorem indexFunc_any (fb nb mb c : Nat) (A : Option Addr) (ps : List Prm) (w : World) (hp : PsIn w A ps) (hall : AllIn 1048576 ps) (hf : Blk w fb 54 #[newsV nb]) (ha : Asked w nb mb []) (hfm : fb ≠ mb) (hpm : ∀ g, A = some ⟨g, 0, none⟩ → 0 < ps.length → g ≠ mb) (hn : ps.length < 9223372036854775807) :
    Calls Try.prog 108 #[.slice A ps.length c, goodV fb] w fun e w' => ∃ r : Int, e = .returned (.int .i64 r) ∧ decide (0 ≤ r) = !goodL [] ps ∧ Mv w.heap.size [mb] w w' := by
  have hfl := hf.lt
  have hnl := ha.1.lt
  have hnm := ha.2.2
  have hml : mb < w.heap.size := ha.2.1.lt
  have HP := Lib.hid hp
  have HF := Lib.hid hf
  have HA := Lib.hid ha
  have HL := Lib.hid hall
  have HPM := Lib.hid hpm
  obtain ⟨G, hG⟩ : ∃ G, G = goodL [] ps := ⟨_, rfl⟩
  rw [← hG]
  clear hp hf ha hall hpm
  go_enter Try.func108, Try.ntmps108
  go_wp2
  go_loopw [8] (fun i wr => ∃ (k : Nat) (xs : List ByteArray), k ≤ ps.length ∧ i = .int .i64 k ∧ goodL (ps.take k) (ps.drop k) = G ∧ xs.length ≤ k ∧ Known xs (ps.take k) ∧ Asked wr nb mb xs ∧ Mv w.heap.size [mb] w wr) (fun i _ => ps.length - (intOf i).toNat)
  case atStart => exact ⟨0, [], Nat.zero_le _, rfl, hG.symm, Nat.zero_le _, fun _ => rfl, HA.out, Mv.refl _ _ _⟩
  case round =>
    obtain ⟨k, xs, hk, rfl, hgo, hxl, hkn, hask, hmv⟩ := hrel
    have HKN := Lib.hid hkn
    have HK := Lib.hid hask
    have HM := Lib.hid hmv
    clear hkn hask hmv HA
    by_cases hlt : k < ps.length
    · obtain ⟨g, rfl, hg1, hc0, hc1⟩ := HP.out k hlt
      have hgm := HPM.out g rfl (by omega)
      have c0 := (HM.out.cell (p := ⟨g, k * 2, none⟩) hg1 (by simp; omega)).trans hc0
      have c1 := (HM.out.cell (p := ⟨g, k * 2 + 1, none⟩) hg1 (by simp; omega)).trans hc1
      have hsz := HL.out.at_ hlt
      have HF2 := Lib.hid (HF.out.mv HM.out hfl (by simp; omega))
      have HC := Lib.hid (fun W (h1 : Blk W fb 54 #[newsV nb]) (h2 : Asked W nb mb xs) => good1_any fb nb mb ps[k] xs W h1 h2 hfm hsz.1 hsz.2 (by omega))
      rw [HKN.out ps[k].n] at HC
      rw [goodL_step hlt] at hgo
      have HKS := Lib.hid (fun (h : seenB (ps.take k) ps[k].n = false) => (show Known (xs ++ [ps[k].n]) (ps.take (k + 1)) from by rw [take_succ_eq hlt]; exact HKN.out.new ps[k]))
      clear hc0 hc1
      cases hpr : prmB ps[k] && !seenB (ps.take k) ps[k].n
      · rw [hpr, Bool.false_and] at hgo
        rw [hpr] at HC
        have HGG := Lib.hid hgo
        clear hgo hpr HKN HKS HP
        generalize ps[k] = q at *
        obtain ⟨qn, qv⟩ := q
        go_wp2_with fail
        refine (HC.out _ HF2.out HK.out).mono ?_
        rintro e w1 ⟨rfl, m1, _⟩
        have HM1 := Lib.hid (HM.out.chain m1 (Nat.le_refl _))
        clear m1
        go_wp2
        go_ret
        exact ⟨_, rfl, by rw [← HGG.out]; simp, HM1.out⟩
      · rw [hpr, Bool.true_and] at hgo
        rw [hpr] at HC
        rw [Bool.and_eq_true] at hpr
        have h1 := hpr.1
        have h2 : seenB (ps.take k) ps[k].n = false := by simpa using hpr.2
        rw [h1, if_pos rfl] at HC
        have HGG := Lib.hid hgo
        have HK2 := Lib.hid (HKS.out h2)
        clear hgo hpr HKN HKS HP h1 h2
        generalize ps[k] = q at *
        obtain ⟨qn, qv⟩ := q
        go_wp2_with fail
        refine (HC.out _ HF2.out HK.out).mono ?_
        rintro e w1 ⟨rfl, m1, a1⟩
        have HM1 := Lib.hid (HM.out.chain m1 (Nat.le_refl _))
        have HA1 := Lib.hid a1
        clear m1 a1
        go_wp2
        go_roundw
        case rel => exact ⟨k + 1, xs ++ [qn], by omega, by go_num, HGG.out, by simp; omega, HK2.out, HA1.out, HM1.out⟩
        case measure => simp [intOf]; omega
    · obtain rfl : k = ps.length := by omega
      rw [goodL_all] at hgo
      have HGG := Lib.hid hgo
      clear hgo
      go_wp2
      go_ret
      exact ⟨_, rfl, by rw [← HGG.out]; rfl, HM.out⟩

set_option maxHeartbeats 1000000 in
theorem contains_any (fb nb mb c : Nat) (A : Option Addr) (ps : List Prm) (w : World) (hp : PsIn w A ps) (hall : AllIn 1048576 ps) (hf : Blk w fb 54 #[newsV nb]) (ha : Asked w nb mb []) (hfm : fb ≠ mb) (hpm : ∀ g, A = some ⟨g, 0, none⟩ → 0 < ps.length → g ≠ mb) (hn : ps.length < 9223372036854775807) :
    Calls Try.prog 98 #[.slice A ps.length c, goodV fb] w fun e w' => e = .returned (.bool (!goodL [] ps)) ∧ Mv w.heap.size [mb] w w' := by
  have HC := Lib.hid (indexFunc_any fb nb mb c A ps w hp hall hf ha hfm hpm hn)
  generalize goodL [] ps = G at *
  go_enter Try.func98, Try.ntmps98
  go_wp2_with fail
  refine HC.out.mono ?_
  rintro e w1 ⟨r, rfl, hr, m1⟩
  go_wp2
  go_ret
  exact ⟨by rw [← hr]; rfl, m1⟩

end Go.Proofs.Ytighgoefmccagaa
namespace Go.Proofs.Ytighgoefmccagaa
open Go.RowKit Go.Maps

/-- A type that lies as such: its parameters behind A. -/
structure MimIn (w : World) (t u : ByteArray) (A : Option Addr) (ps : List Prm) : Prop where
  lie : PsIn w A ps
  all : AllIn 1048576 ps
  t : t.size ≤ 1048576
  u : u.size ≤ 1048576
  n : ps.length ≤ 1048576
theorem MimIn.below {w w' : World} {t u : ByteArray} {A : Option Addr} {ps : List Prm} (h : MimIn w t u A ps) (hb : Below w.heap.size w w') : MimIn w' t u A ps := ⟨h.lie.below hb, h.all, h.t, h.u, h.n⟩

set_option maxHeartbeats 1000000 in
theorem mgood_any (t u : ByteArray) (A : Option Addr) (ps : List Prm) (c : Nat) (w : World) (h : MimIn w t u A ps) :
    Calls Try.prog 88 #[mimV t u A ps.length c] w fun e w' => e = .returned (.bool (goodM t u ps)) ∧ Below w.heap.size w w' := by
  have HN1 := Lib.hid (fun W => isName_any t W (by have := h.t; omega))
  have HN2 := Lib.hid (fun W => isName_any u W (by have := h.u; omega))
  obtain ⟨w0, hw0⟩ : ∃ w0, w0 = w.alloc (.cells #[.string t, .string u, .slice A ps.length c] 36) := ⟨_, rfl⟩
  have HB0 := Lib.hid (show Below w.heap.size w w0 from by rw [hw0]; exact (Below.refl w.heap.size w).alloc (Nat.le_refl _) _)
  have HP0 := Lib.hid (show Blk w0 w.heap.size 36 #[.string t, .string u, .slice A ps.length c] from by rw [hw0]; exact Blk.new _ _ _)
  have HS := Lib.hid h
  have c0 := HP0.out.cell 0
  show Calls Try.prog 88 #[mimV t u A ps.length c] w fun e w' => e = .returned (.bool (nameB t && nameB u && goodL [] ps)) ∧ Below w.heap.size w w'
  cases h1 : nameB t
  · rw [h1] at HN1
    simp only [Bool.false_and]
    go_enter Try.func88, Try.ntmps88
    go_wp2_with fail
    rw [← hw0]
    clear hw0
    go_wp2_with (go_at_call 97; (with_reducible refine (HN1.out _).mono ?_); rintro e w1 ⟨rfl, b1⟩; have B1 := Lib.hid b1; clear b1)
    go_ret
    exact ⟨rfl, HB0.out.trans (B1.out.mono HB0.out.size)⟩
  · rw [h1] at HN1
    cases h2 : nameB u
    · rw [h2] at HN2
      simp only [Bool.and_false, Bool.false_and]
      go_enter Try.func88, Try.ntmps88
      go_wp2_with fail
      rw [← hw0]
      clear hw0
      go_wp2_with fail
      refine (HN1.out _).mono ?_
      rintro e w1 ⟨rfl, b1⟩
      have HB1 := Lib.hid (HB0.out.trans (b1.mono HB0.out.size))
      have c1 := (HP0.out.below b1 HP0.out.lt).cell 1
      clear b1 c0
      go_wp2_with fail
      refine (HN2.out _).mono ?_
      rintro e w2 ⟨rfl, b2⟩
      have HB2 := Lib.hid (HB1.out.trans (b2.mono HB1.out.size))
      clear b2 c1
      go_wp2
      go_ret
      exact ⟨rfl, HB2.out⟩
    · rw [h2] at HN2
      simp only [Bool.true_and]
      have HPS := Lib.hid h.lie
      have hmf := make_func
      have hst : ∀ (w : World) (a : Addr) (fn : Fn) (fi ca : Array Value) (m : Mode), (store a (.func fn fi ca) m).run Try.prog w = stored Try.prog w a (.func fn fi ca) m := fun w a _ _ _ m => run_store Try.prog w a _ m rfl
      obtain ⟨G, hG⟩ : ∃ G, G = goodL [] ps := ⟨_, rfl⟩
      rw [← hG]
      go_enter Try.func88, Try.ntmps88
      go_wp2_with fail
      rw [← hw0]
      clear hw0
      go_wp2_with fail
      refine (HN1.out _).mono ?_
      rintro e w1 ⟨rfl, b1⟩
      have HB1 := Lib.hid (HB0.out.trans (b1.mono HB0.out.size))
      have HP1 := Lib.hid (HP0.out.below b1 HP0.out.lt)
      have c1 := HP1.out.cell 1
      clear b1 c0
      go_wp2_with fail
      refine (HN2.out _).mono ?_
      rintro e w2 ⟨rfl, b2⟩
      have HB2 := Lib.hid (HB1.out.trans (b2.mono HB1.out.size))
      have HP2 := Lib.hid (HP1.out.below b2 HP1.out.lt)
      clear b2 c1
      go_wp2_with fail
      refine (news_any _).mono ?_
      rintro e w3 ⟨rfl, b3, a3⟩
      have HB3 := Lib.hid (HB2.out.trans (b3.mono HB2.out.size))
      have HP3 := Lib.hid (HP2.out.below b3 HP2.out.lt)
      have HA3 := Lib.hid a3
      have hs2 := HB2.out.size
      have hwl := HP2.out.lt
      clear b3 a3
      generalize w2.heap.size = mb at *
      obtain ⟨w4, hw4⟩ : ∃ w4, w4 = w3.alloc (.cells #[newsV (mb + 1)] 54) := ⟨_, rfl⟩
      have HB4 := Lib.hid (show Below w.heap.size w w4 from by rw [hw4]; exact HB3.out.alloc HB3.out.size _)
      have HP4 := Lib.hid (show Blk w4 w.heap.size 36 _ from by rw [hw4]; exact HP3.out.alloc _)
      have HF4 := Lib.hid (show Blk w4 w3.heap.size 54 #[newsV (mb + 1)] from by rw [hw4]; exact Blk.new _ _ _)
      have HA4 := Lib.hid (show Asked w4 (mb + 1) mb [] from HA3.out.mv (r := []) (by rw [hw4]; exact (Mv.refl _ _ _).alloc (Nat.le_refl _) _) HA3.out.1.lt HA3.out.2.1.lt (by simp) (by simp))
      have hmb : mb < w3.heap.size := HA3.out.2.1.lt
      have c2 := HP4.out.cell 2
      rw [hw4] at c2
      have HC := Lib.hid (contains_any w3.heap.size (mb + 1) mb c A ps w4 (h.lie.below HB4.out) h.all HF4.out HA4.out (by omega) (fun g hg hl => by
        obtain ⟨g', e1, e2, _⟩ := h.lie 0 hl
        rw [hg] at e1; cases e1
        omega) (by have := h.n; omega))
      rw [← hG] at HC
      go_wp2_with fail
      rw [← hw4]
      clear hw4
      refine HC.out.mono ?_
      rintro e w5 ⟨rfl, m5⟩
      have HB5 := Lib.hid (HB4.out.trans (m5.below HB4.out.size (by simp; omega)))
      go_wp2
      go_ret
      exact ⟨by rw [hG]; rfl, HB5.out⟩

theorem essL_eq (t u : ByteArray) : (t ++ ⟨#[47]⟩) ++ u = (⟨(essL t u).toArray⟩ : ByteArray) := by
  apply ByteArray.ext
  rw [ByteArray.data_append, ByteArray.data_append]
  simp [essL]

set_option maxHeartbeats 1000000 in
theorem essence_any (t u : ByteArray) (A : Option Addr) (n c : Nat) (w : World) (ht : t.size ≤ 1048576) (hu : u.size ≤ 1048576) :
    Calls Try.prog 69 #[mimV t u A n c] w fun e w' => e = .returned (.string ⟨(essL t u).toArray⟩) ∧ Below w.heap.size w w' := by
  obtain ⟨w0, hw0⟩ : ∃ w0, w0 = w.alloc (.cells #[.string t, .string u, .slice A n c] 36) := ⟨_, rfl⟩
  have HB0 := Lib.hid (show Below w.heap.size w w0 from by rw [hw0]; exact (Below.refl w.heap.size w).alloc (Nat.le_refl _) _)
  have HP0 := Lib.hid (show Blk w0 w.heap.size 36 #[.string t, .string u, .slice A n c] from by rw [hw0]; exact Blk.new _ _ _)
  have c0 := HP0.out.cell 0
  have c1 := HP0.out.cell 1
  rw [← essL_eq]
  go_enter Try.func69, Try.ntmps69
  go_wp2_with fail
  rw [← hw0]
  clear hw0
  go_wp2
  go_ret
  exact ⟨rfl, HB0.out⟩

/-- What Param tells. -/
def parV (ps : List Prm) (x : ByteArray) : ByteArray := if h : atN ps x < ps.length then ps[atN ps x].v else ⟨#[]⟩

set_option maxHeartbeats 1000000 in
theorem param_any (t u : ByteArray) (A : Option Addr) (ps : List Prm) (c : Nat) (x : ByteArray) (w : World) (h : PsIn w A ps) (hn : ps.length ≤ 1048576) :
    Calls Try.prog 70 #[mimV t u A ps.length c, .string x] w fun e w' => e = .returned (.tuple #[.string (parV ps x), .bool (seenB ps x)]) ∧ Below w.heap.size w w' := by
  obtain ⟨w0, hw0⟩ : ∃ w0, w0 = w.alloc (.cells #[.string t, .string u, .slice A ps.length c] 36) := ⟨_, rfl⟩
  have HB0 := Lib.hid (show Below w.heap.size w w0 from by rw [hw0]; exact (Below.refl w.heap.size w).alloc (Nat.le_refl _) _)
  have HP0 := Lib.hid (show Blk w0 w.heap.size 36 #[.string t, .string u, .slice A ps.length c] from by rw [hw0]; exact Blk.new _ _ _)
  have c2 := HP0.out.cell 2
  have HP := Lib.hid h
  have HS := Lib.hid (atN_seen ps x)
  obtain ⟨r, hr⟩ : ∃ r, r = parV ps x := ⟨_, rfl⟩
  obtain ⟨b, hb⟩ : ∃ b, b = seenB ps x := ⟨_, rfl⟩
  rw [← hr, ← hb]
  have HR := Lib.hid hr
  have HBB := Lib.hid hb
  clear h hr hb
  go_enter Try.func70, Try.ntmps70
  go_wp2_with fail
  rw [← hw0]
  clear hw0
  go_wp2
  go_loopw [11] (fun i wr => ∃ k : Nat, k ≤ ps.length ∧ i = .int .i64 k ∧ (∀ j (hj : j < ps.length), j < k → eqS ps[j].n x = false) ∧ Below w.heap.size w wr) (fun i _ => ps.length - (intOf i).toNat)
  case atStart => exact ⟨0, Nat.zero_le _, rfl, fun j _ h => absurd h (by omega), HB0.out⟩
  case round =>
    obtain ⟨k, hk, rfl, hno, hw⟩ := hrel
    have HN := Lib.hid hno
    have HW := Lib.hid hw
    clear hno hw c2
    by_cases hlt : k < ps.length
    · obtain ⟨g, rfl, hg1, hc0, hc1⟩ := HP.out k hlt
      have c0 := (HW.out.cell (p := ⟨g, k * 2, none⟩) hg1).trans hc0
      have c1 := (HW.out.cell (p := ⟨g, k * 2 + 1, none⟩) hg1).trans hc1
      clear hc0 hc1
      cases he : eqS ps[k].n x
      · have HE := Lib.hid (show ∀ j (hj : j < ps.length), j < k + 1 → eqS ps[j].n x = false from fun j hj hj2 => by
          by_cases e : j = k
          · subst e; exact he
          · exact HN.out j hj (by omega))
        have he' : (ps[k].n.toList == x.toList) = false := he
        clear he
        generalize ps[k] = q at *
        obtain ⟨qn, qv⟩ := q
        go_wp2
        go_roundw
        case rel => exact ⟨k + 1, by omega, by go_num, HE.out, HW.out.alloc HW.out.size _⟩
        case measure => simp [intOf]; omega
      · have e1 : atN ps x = k := atN_is hlt he fun j hj => HN.out j (by omega) hj
        have HR2 := Lib.hid (show r = ps[k].v from by rw [HR.out]; unfold parV; simp only [e1]; rw [dif_pos hlt])
        have HB2 := Lib.hid (show b = true from by rw [HBB.out, ← HS.out, e1]; exact decide_eq_true hlt)
        have he' : (ps[k].n.toList == x.toList) = true := he
        clear he e1
        generalize ps[k] = q at *
        obtain ⟨qn, qv⟩ := q
        go_wp2
        go_ret2
        exact ⟨by rw [HR2.out, HB2.out]; rfl, HW.out.alloc HW.out.size _⟩
    · obtain rfl : k = ps.length := by omega
      have e1 : atN ps x = ps.length := atN_no fun j hj => HN.out j hj hj
      have HR2 := Lib.hid (show r = ⟨#[]⟩ from by rw [HR.out]; unfold parV; rw [dif_neg (by omega)])
      have HB2 := Lib.hid (show b = false from by rw [HBB.out, ← HS.out]; exact decide_eq_false (by omega))
      clear e1
      go_wp2
      go_ret2
      exact ⟨by rw [HR2.out, HB2.out]; rfl, HW.out⟩

theorem neq_prm (p q : Prm) (w : World) : (binOp .neq 55 (prmV p) (prmV q)).run Try.prog w = .ok (.bool (!(eqS p.n q.n && eqS p.v q.v))) w := by
  by_cases h1 : p.n.toList = q.n.toList <;> by_cases h2 : p.v.toList = q.v.toList <;> simp [go_sem, eqS, h1, h2]

end Go.Proofs.Ytighgoefmccagaa
namespace Go.Proofs.Ytighgoefmccagaa

/-- A type as texts. -/
structure Mty where
  t : ByteArray
  u : ByteArray
  ps : List Prm

abbrev sepS : ByteArray := ⟨#[44, 32]⟩
abbrev chrS : ByteArray := ⟨#[99, 104, 97, 114, 115, 101, 116]⟩
abbrev anyS : List UInt8 := [42, 47, 42]

/-- The values as one text. -/
def joinS : List ByteArray → ByteArray
  | [] => ⟨#[]⟩
  | x :: r => r.foldl (fun a y => (a ++ sepS) ++ y) x
theorem joinS_snoc {xs : List ByteArray} (h : xs ≠ []) (y : ByteArray) : joinS (xs ++ [y]) = (joinS xs ++ sepS) ++ y := by
  cases xs with
  | nil => exact absurd rfl h
  | cons x r => simp [joinS, List.foldl_append]
theorem joinS_step {xs : List ByteArray} {k : Nat} (h : k < xs.length) (hk : 0 < k) : joinS (xs.take (k + 1)) = (joinS (xs.take k) ++ sepS) ++ xs[k] := by
  rw [List.take_succ_eq_append_getElem h, joinS_snoc]
  intro e
  have := congrArg List.length e
  rw [List.length_take, List.length_nil] at this
  omega
theorem joinS_step0 {xs : List ByteArray} (h : 0 < xs.length) : joinS (xs.take 1) = xs[0] := by
  cases xs with
  | nil => simp at h
  | cons x r => rfl
theorem joinS_all (xs : List ByteArray) : joinS (xs.take xs.length) = joinS xs := by rw [List.take_length]
theorem joinS_le {m : Nat} : ∀ (r : List ByteArray) (x : ByteArray), (∀ y ∈ r, y.size ≤ m) → (r.foldl (fun a y => (a ++ sepS) ++ y) x).size ≤ x.size + r.length * (m + 2)
  | [], x, _ => by simp
  | y :: r, x, h => by
    have h1 := joinS_le r ((x ++ sepS) ++ y) (fun z hz => h z (List.mem_cons_of_mem _ hz))
    have h2 := h y List.mem_cons_self
    rw [List.foldl_cons]
    have h3 : ((x ++ sepS) ++ y).size = x.size + 2 + y.size := by
      rw [ByteArray.size_append, ByteArray.size_append]; rfl
    rw [h3] at h1
    have h4 : (y :: r).length * (m + 2) = r.length * (m + 2) + (m + 2) := by rw [List.length_cons, Nat.add_mul, Nat.one_mul]
    omega
theorem joinS_size {m : Nat} {xs : List ByteArray} (h : ∀ y ∈ xs, y.size ≤ m) : (joinS xs).size ≤ xs.length * (m + 2) := by
  cases xs with
  | nil => exact Nat.zero_le _
  | cons x r =>
    have h1 := joinS_le r x (fun z hz => h z (List.mem_cons_of_mem _ hz))
    have h2 := h x List.mem_cons_self
    have h4 : (x :: r).length * (m + 2) = r.length * (m + 2) + (m + 2) := by rw [List.length_cons, Nat.add_mul, Nat.one_mul]
    show (r.foldl (fun a y => (a ++ sepS) ++ y) x).size ≤ _
    omega

/-- The pieces of the values. -/
def valsL (xs : List ByteArray) : List ByteArray := if xs.length = 0 then [] else splitL (joinS xs) 0

theorem piece_size (s : ByteArray) (k : Nat) : (piece s k).size ≤ s.size := by
  have := cutP_le tabB (s.extract (pFrom s k) (pEnd s (pFrom s k)))
  have h2 : (s.extract (pFrom s k) (pEnd s (pFrom s k))).size ≤ s.size := by simp; omega
  show (cutP tabB (s.extract (pFrom s k) (pEnd s (pFrom s k)))).size ≤ s.size
  omega
theorem splitL_sizes (s : ByteArray) : ∀ (m k : Nat), k ≤ s.size → s.size - k ≤ m → (∀ p ∈ splitL s k, p.size ≤ s.size) ∧ (splitL s k).length ≤ s.size - k + 1
  | m, k, hk, hm => by
    have h1 := pTo_le hk
    have h2 := pTo_ge hk
    by_cases h : pTo s k < s.size
    · rw [splitL_more hk h]
      match m, hm with
      | 0, hm => omega
      | m + 1, hm =>
        obtain ⟨a, b⟩ := splitL_sizes s m (pTo s k + 1) (by omega) (by omega)
        refine ⟨fun p hp => ?_, ?_⟩
        · rcases List.mem_cons.1 hp with rfl | hp
          · exact piece_size s k
          · exact a p hp
        · rw [List.length_cons]; omega
    · rw [splitL_last hk (by omega)]
      refine ⟨fun p hp => ?_, by simp⟩
      simp at hp
      subst hp
      exact piece_size s k
theorem valsL_sizes {xs : List ByteArray} {n : Nat} (h : (joinS xs).size ≤ n) : (∀ p ∈ valsL xs, p.size ≤ n) ∧ (valsL xs).length ≤ n + 1 := by
  unfold valsL
  split
  · exact ⟨fun p hp => by simp at hp, by simp⟩
  · obtain ⟨a, b⟩ := splitL_sizes (joinS xs) (joinS xs).size 0 (Nat.zero_le _) (by omega)
    exact ⟨fun p hp => Nat.le_trans (a p hp) h, by omega⟩

/-- A type's two names as one text; whether they are those that say nothing. -/
def essS (t u : ByteArray) : ByteArray := ⟨(essL t u).toArray⟩
def anyT (t u : ByteArray) : Bool := (essS t u).toList == anyS
/-- The type that a piece says; the types among some pieces. -/
def typO (p : ByteArray) : Option Mty :=
  if saysB (trimP whiB p) && !anyT (lowS (tyOf (trimP whiB p))) (lowS (suOf (trimP whiB p))) then some ⟨lowS (tyOf (trimP whiB p)), lowS (suOf (trimP whiB p)), prOf (trimP whiB p)⟩ else none
def allT (l : List ByteArray) : List Mty := l.filterMap typO
theorem allT_step {l : List ByteArray} {k : Nat} (h : k < l.length) : allT (l.take (k + 1)) = allT (l.take k) ++ (typO l[k]).toList := by
  unfold allT
  rw [List.take_succ_eq_append_getElem h, List.filterMap_append]
  simp only [List.filterMap_cons, List.filterMap_nil]
  cases typO l[k] <;> rfl
theorem allT_all (l : List ByteArray) : allT (l.take l.length) = allT l := by rw [List.take_length]
theorem allT_len (l : List ByteArray) : (allT l).length ≤ l.length := List.length_filterMap_le _ _

/-- What becomes of a type, and of a charset, by the next one. -/
def moreB (set : ByteArray) (n : Mty) : Bool := !seenB n.ps chrS && (!(set.toList == []) && goodM n.t n.u (n.ps ++ [⟨chrS, set⟩]))
def stepT (t u set : ByteArray) (n : Mty) : Mty × ByteArray :=
  if eqS (essS n.t n.u) (essS t u) then (⟨n.t, n.u, if moreB set n then n.ps ++ [⟨chrS, set⟩] else n.ps⟩, set) else (n, parV n.ps chrS)
theorem stepT_t (t u set : ByteArray) (n : Mty) : (stepT t u set n).1.t = n.t := by unfold stepT; split <;> rfl
theorem stepT_u (t u set : ByteArray) (n : Mty) : (stepT t u set n).1.u = n.u := by unfold stepT; split <;> rfl
theorem parV_size {ps : List Prm} {n : Nat} (h : AllIn n ps) (x : ByteArray) : (parV ps x).size ≤ n := by
  unfold parV
  split
  · exact (h _ (List.getElem_mem _)).2
  · exact Nat.zero_le _
theorem stepT_len (t u set : ByteArray) (n : Mty) : (stepT t u set n).1.ps.length ≤ n.ps.length + 1 := by
  unfold stepT
  split
  · show (if moreB set n then n.ps ++ [⟨chrS, set⟩] else n.ps).length ≤ _
    split
    · simp
    · omega
  · exact Nat.le_succ _
theorem stepT_set {t u set : ByteArray} {n : Mty} {m : Nat} (h : AllIn m n.ps) (hs : set.size ≤ m) : (stepT t u set n).2.size ≤ m := by
  unfold stepT
  split
  · exact hs
  · exact parV_size h _
theorem stepT_all {t u set : ByteArray} {n : Mty} {m : Nat} (h : AllIn m n.ps) (hs : set.size ≤ m) (hm : 7 ≤ m) : AllIn m (stepT t u set n).1.ps := by
  unfold stepT
  split
  · show AllIn m (if moreB set n then n.ps ++ [⟨chrS, set⟩] else n.ps)
    split
    · exact h.snoc (show chrS.size ≤ m from hm) hs
    · exact h
  · exact h

/-- The type of all of some types, and the charset that is kept. -/
def extT (l : List Mty) : Mty × ByteArray := l.foldl (fun a n => stepT a.1.t a.1.u a.2 n) (⟨⟨#[]⟩, ⟨#[]⟩, []⟩, ⟨#[]⟩)
theorem extT_snoc (l : List Mty) (n : Mty) : extT (l ++ [n]) = stepT (extT l).1.t (extT l).1.u (extT l).2 n := by simp [extT, List.foldl_append]
theorem extT_step {l : List Mty} {k : Nat} (h : k < l.length) : extT (l.take (k + 1)) = stepT (extT (l.take k)).1.t (extT (l.take k)).1.u (extT (l.take k)).2 l[k] := by
  rw [List.take_succ_eq_append_getElem h, extT_snoc]
end Go.Proofs.Ytighgoefmccagaa
