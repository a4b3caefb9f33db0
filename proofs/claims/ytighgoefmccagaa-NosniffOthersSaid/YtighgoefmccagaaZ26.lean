/-
  The law NosniffOthers. No condition.
-/
import Derived.Test.YtighgoefmccagaaZ25
import Derived.Test.YtighgoefmccagaaZ24
import Derived.Test.YtighgoefmccagaaZ19
namespace Go.Proofs.Ytighgoefmccagaa
open Go.RowKit

theorem cutN_all {name : ByteArray} {l : List Prm} {m : Nat} (h : AllIn m l) : AllIn m (cutN name l) := fun p hp => by
  unfold cutN at hp
  exact h p (List.mem_filter.1 hp).1
theorem hasN_is (x s v : ByteArray) : hasN x ⟨s, v⟩ = sameB s x := rfl

set_option maxHeartbeats 2000000 in
set_option maxRecDepth 100000 in
theorem others_lives (s : ByteArray) (g0 g1 g2 : Bool) (A : Option Addr) (n c : Nat) (L : List Prm) (w : World)
    (HLV : Hid (∀ W, Calls Try.prog 11 #[] W fun e w' => e = .returned (.bool true) ∧ Below W.heap.size W w'))
    (HF1 : Hid (∀ W, Below w.heap.size w W → Calls Try.prog 5 #[.slice A n c, .int .i64 10] W fun e w' => ∃ b c', e = .returned (.slice (some b) L.length c') ∧ OwnHd w' W.heap.size (some b) c' L ∧ Below W.heap.size W w'))
    (h0 : decide ((20 : Int) < (s.size : Int)) = g0)
    (HI1 : g0 = false → Hid (∀ W, Calls Try.prog 12 #[.agg #[.string s, .string ⟨#[]⟩], .string ⟨#[99, 111, 110, 116, 101, 110, 116, 45, 116, 121, 112, 101]⟩] W fun e w' => e = .returned (.bool g1) ∧ Below W.heap.size W w'))
    (HI2 : g0 = false → Hid (∀ W, Calls Try.prog 12 #[.agg #[.string s, .string ⟨#[]⟩], .string ⟨#[120, 45, 99, 111, 110, 116, 101, 110, 116, 45, 116, 121, 112, 101, 45, 111, 112, 116, 105, 111, 110, 115]⟩] W fun e w' => e = .returned (.bool g2) ∧ Below W.heap.size W w'))
    (hor : g0 = true ∨ g1 = true ∨ g2 = true) :
    Calls Try.prog 4 #[.slice A n c, .string s] w fun e w' => e = .returned (.bool true) ∧ Below w.heap.size w w' := by
  have HB := Lib.hid (Below.refl w.heap.size w)
  cases g0
  · have HJ1 := HI1 rfl
    have HJ2 := HI2 rfl
    clear HI1 HI2
    cases g1
    · obtain rfl : g2 = true := by simpa using hor
      go_enter Try.func4, Try.ntmps4
      go_wp2_with (first
        | (go_at_call 5; (with_reducible refine (HF1.out _ HB.out).mono ?_); rintro e w1 ⟨b, d, rfl, o1, b1⟩; replace HB := Lib.hid (HB.out.trans (b1.mono HB.out.size)); clear o1 b1 HF1)
        | (go_at_call 12; (with_reducible refine (HJ1.out _).mono ?_); rintro e w1 ⟨rfl, b1⟩; replace HB := Lib.hid (HB.out.trans (b1.mono HB.out.size)); clear b1)
        | (go_at_call 12; (with_reducible refine (HJ2.out _).mono ?_); rintro e w1 ⟨rfl, b1⟩; replace HB := Lib.hid (HB.out.trans (b1.mono HB.out.size)); clear b1)
        | (go_at_call 11; (with_reducible refine (HLV.out _).mono ?_); rintro e w1 ⟨rfl, b1⟩; replace HB := Lib.hid (HB.out.trans (b1.mono HB.out.size)); clear b1))
      go_ret
      exact ⟨rfl, HB.out⟩
    · go_enter Try.func4, Try.ntmps4
      go_wp2_with (first
        | (go_at_call 5; (with_reducible refine (HF1.out _ HB.out).mono ?_); rintro e w1 ⟨b, d, rfl, o1, b1⟩; replace HB := Lib.hid (HB.out.trans (b1.mono HB.out.size)); clear o1 b1 HF1)
        | (go_at_call 12; (with_reducible refine (HJ1.out _).mono ?_); rintro e w1 ⟨rfl, b1⟩; replace HB := Lib.hid (HB.out.trans (b1.mono HB.out.size)); clear b1)
        | (go_at_call 11; (with_reducible refine (HLV.out _).mono ?_); rintro e w1 ⟨rfl, b1⟩; replace HB := Lib.hid (HB.out.trans (b1.mono HB.out.size)); clear b1))
      go_ret
      exact ⟨rfl, HB.out⟩
  · clear HI1 HI2
    go_enter Try.func4, Try.ntmps4
    go_wp2_with (first
      | (go_at_call 5; (with_reducible refine (HF1.out _ HB.out).mono ?_); rintro e w1 ⟨b, d, rfl, o1, b1⟩; replace HB := Lib.hid (HB.out.trans (b1.mono HB.out.size)); clear o1 b1 HF1)
      | (go_at_call 11; (with_reducible refine (HLV.out _).mono ?_); rintro e w1 ⟨rfl, b1⟩; replace HB := Lib.hid (HB.out.trans (b1.mono HB.out.size)); clear b1))
    go_ret
    exact ⟨rfl, HB.out⟩

set_option maxHeartbeats 4000000 in
set_option maxRecDepth 100000 in
theorem others_walk (s : ByteArray) (m : Mty) (has ns bug : Bool) (A : Option Addr) (n c : Nat) (L K : List Prm) (w : World)
    (HLV : Hid (∀ W, Calls Try.prog 11 #[] W fun e w' => e = .returned (.bool true) ∧ Below W.heap.size W w'))
    (HF1 : Hid (∀ W, Below w.heap.size w W → Calls Try.prog 5 #[.slice A n c, .int .i64 10] W fun e w' => ∃ b c', e = .returned (.slice (some b) L.length c') ∧ OwnHd w' W.heap.size (some b) c' L ∧ Below W.heap.size W w'))
    (HF2 : Hid (∀ A c W, HdIn W A L → Calls Try.prog 5 #[.slice A L.length c, .int .i64 10] W fun e w' => ∃ b c', e = .returned (.slice (some b) L.length c') ∧ OwnHd w' W.heap.size (some b) c' L ∧ Below W.heap.size W w'))
    (h0 : decide ((20 : Int) < (s.size : Int)) = false)
    (HJ1 : Hid (∀ W, Calls Try.prog 12 #[.agg #[.string s, .string ⟨#[]⟩], .string ⟨#[99, 111, 110, 116, 101, 110, 116, 45, 116, 121, 112, 101]⟩] W fun e w' => e = .returned (.bool false) ∧ Below W.heap.size W w'))
    (HJ2 : Hid (∀ W, Calls Try.prog 12 #[.agg #[.string s, .string ⟨#[]⟩], .string ⟨#[120, 45, 99, 111, 110, 116, 101, 110, 116, 45, 116, 121, 112, 101, 45, 111, 112, 116, 105, 111, 110, 115]⟩] W fun e w' => e = .returned (.bool false) ∧ Below W.heap.size W w'))
    (HSD : Hid (∀ A c W, HdIn W A L → Calls Try.prog 13 #[.slice A L.length c] W (SaiGives m has ns bug W.heap.size W)))
    (HSK : Hid (∀ A c W, HdIn W A K → Calls Try.prog 13 #[.slice A K.length c] W (SaiGives m has ns bug W.heap.size W)))
    (HCT : Hid (∀ A c W, HdIn W A L → Calls Try.prog 14 #[.string s, .slice A L.length c] W fun e w' => ∃ A' c', e = .returned (.slice A' K.length c') ∧ HdIn w' A' K ∧ Below W.heap.size W w')) :
    Calls Try.prog 4 #[.slice A n c, .string s] w fun e w' => e = .returned (.bool true) ∧ Below w.heap.size w w' := by
  have HB := Lib.hid (Below.refl w.heap.size w)
  obtain ⟨mt, mu, mp⟩ := m
  have HSA := Lib.hid (fun W P P' pc pc' (hp : PsIn W P mp) (hp' : PsIn W P' mp) (hl : mp.length ≤ 1048576) => show Calls Try.prog 15 #[mimV mt mu P mp.length pc, mimV mt mu P' mp.length pc'] W fun e w' => e = .returned (.bool true) ∧ Below W.heap.size W w' from by
    have := rsame_any mt mu mt mu P P' mp mp pc pc' W hp hp' hl hl
    rw [sameM_self] at this
    exact this)
  go_enter Try.func4, Try.ntmps4
  go_wp2_with (first
    | (go_at_call 5; (with_reducible refine (HF1.out _ HB.out).mono ?_); rintro e w1 ⟨b, d, rfl, o1, b1⟩; have HL := Lib.hid o1.hd; replace HB := Lib.hid (HB.out.trans (b1.mono HB.out.size)); clear o1 b1 HF1)
    | (go_at_call 12; (with_reducible refine (HJ1.out _).mono ?_); rintro e w1 ⟨rfl, b1⟩; replace HL := Lib.hid (HL.out.below b1); replace HB := Lib.hid (HB.out.trans (b1.mono HB.out.size)); clear b1)
    | (go_at_call 12; (with_reducible refine (HJ2.out _).mono ?_); rintro e w1 ⟨rfl, b1⟩; replace HL := Lib.hid (HL.out.below b1); replace HB := Lib.hid (HB.out.trans (b1.mono HB.out.size)); clear b1)
    | (go_at_call 5; (with_reducible refine (HF2.out _ _ _ HL.out).mono ?_); rintro e w1 ⟨b', d', rfl, o1, b1⟩; have HF := Lib.hid o1.hd; replace HL := Lib.hid (HL.out.below b1); replace HB := Lib.hid (HB.out.trans (b1.mono HB.out.size)); clear o1 b1)
    | (go_at_call 13; (with_reducible refine (HSD.out _ _ _ HF.out).mono ?_); rintro e w1 ⟨P, pc, rfl, ho, hok, b1⟩; have HP := Lib.hid ho.ps; have HOK := Lib.hid hok; replace HL := Lib.hid (HL.out.below b1); replace HB := Lib.hid (HB.out.trans (b1.mono HB.out.size)); clear ho hok b1 HF)
    | (go_at_call 14; (with_reducible refine (HCT.out _ _ _ HL.out).mono ?_); rintro e w1 ⟨A', c', rfl, hx, b1⟩; have HX := Lib.hid hx; replace HP := Lib.hid (HP.out.below b1); replace HB := Lib.hid (HB.out.trans (b1.mono HB.out.size)); clear hx b1)
    | (go_at_call 13; (with_reducible refine (HSK.out _ _ _ HX.out).mono ?_); rintro e w1 ⟨Q, qc, rfl, ho, _, b1⟩; have HQ := Lib.hid ho.ps; replace HP := Lib.hid (HP.out.below b1); replace HB := Lib.hid (HB.out.trans (b1.mono HB.out.size)); clear ho b1 HX HL))
  obtain ⟨w2, hw2⟩ : ∃ w2, w2 = (w1.alloc (.cells #[.string mt, .string mu, .slice P mp.length pc, .bool has, .bool ns, .bool bug] 38)).alloc (.cells #[.string mt, .string mu, .slice Q mp.length qc, .bool has, .bool ns, .bool bug] 38) := ⟨_, rfl⟩
  have hb2 : Below w1.heap.size w1 w2 := by rw [hw2]; exact ((Below.refl _ _).alloc (Nat.le_refl _) _).alloc (by simp) _
  have HX := Lib.hid (show Blk w2 w1.heap.size 38 #[.string mt, .string mu, .slice P mp.length pc, .bool has, .bool ns, .bool bug] from by rw [hw2]; exact (Blk.new _ _ _).alloc _)
  have HY := Lib.hid (show Blk w2 (w1.heap.size + 1) 38 #[.string mt, .string mu, .slice Q mp.length qc, .bool has, .bool ns, .bool bug] from by rw [hw2]; have := Blk.new (w1.alloc (.cells #[.string mt, .string mu, .slice P mp.length pc, .bool has, .bool ns, .bool bug] 38)) 38 #[.string mt, .string mu, .slice Q mp.length qc, .bool has, .bool ns, .bool bug]; simpa using this)
  rw [← hw2]
  clear hw2
  replace HP := Lib.hid (HP.out.below hb2)
  replace HQ := Lib.hid (HQ.out.below hb2)
  replace HB := Lib.hid (below_on HB.out hb2)
  generalize w1.heap.size = bx at *
  clear hb2
  refine (HSA.out _ _ _ _ _ HP.out HQ.out HOK.out.2.2.2).mono ?_
  rintro e w3 ⟨rfl, b3⟩
  replace HX := Lib.hid (HX.out.below b3 HX.out.lt)
  replace HY := Lib.hid (HY.out.below b3 HY.out.lt)
  replace HB := Lib.hid (below_on HB.out b3)
  clear b3 HP HQ
  have x3 := HX.out.cell 3
  have x4 := HX.out.cell 4
  have x5 := HX.out.cell 5
  have y3 := HY.out.cell 3
  have y4 := HY.out.cell 4
  have y5 := HY.out.cell 5
  go_wp2_with (first
    | (go_at_call 11; (with_reducible refine (HLV.out _).mono ?_); rintro e w1 ⟨rfl, b1⟩; replace HB := Lib.hid (HB.out.trans (b1.mono HB.out.size)); clear b1))
  go_ret
  exact ⟨rfl, HB.out⟩

set_option maxHeartbeats 2000000 in
theorem others_any (A : Option Addr) (n c : Nat) (lp : Nat → Prm) (s : ByteArray) (w : World) (h : Came w A n lp) (hn : n ≤ 9223372036854775807) :
    Calls Try.prog 4 #[.slice A n c, .string s] w fun e w' => e = .returned (.bool true) ∧ Below w.heap.size w w' := by
  have HF1 := Lib.hid (fun W (hW : Below w.heap.size w W) => few22_any A n c 10 lp W (h.below hW) hn (by omega))
  have hll := fewHs_len lp (min n 10)
  have hall := fewHs_all lp (min n 10)
  have hmin : min n 10 ≤ 10 := Nat.min_le_right _ _
  rw [← hll] at hmin
  generalize fewHs lp (min n 10) = L at *
  rw [← hll] at HF1
  clear hll h
  have h1 := small_all hall (m := 1048576) (by omega)
  have h2 := small_all hall (m := 1000) (by omega)
  have HI1 : decide ((20 : Int) < (s.size : Int)) = false → Hid (∀ W, Calls Try.prog 12 #[.agg #[.string s, .string ⟨#[]⟩], .string ⟨#[99, 111, 110, 116, 101, 110, 116, 45, 116, 121, 112, 101]⟩] W fun e w' => e = .returned (.bool (sameB s ctS)) ∧ Below W.heap.size W w') := fun hd => by
    have hs := of_decide_eq_false hd
    exact fun W => ris_any ctS s ⟨#[]⟩ W (by omega) (by decide)
  have HI2 : decide ((20 : Int) < (s.size : Int)) = false → Hid (∀ W, Calls Try.prog 12 #[.agg #[.string s, .string ⟨#[]⟩], .string ⟨#[120, 45, 99, 111, 110, 116, 101, 110, 116, 45, 116, 121, 112, 101, 45, 111, 112, 116, 105, 111, 110, 115]⟩] W fun e w' => e = .returned (.bool (sameB s xctS)) ∧ Below W.heap.size W w') := fun hd => by
    have hs := of_decide_eq_false hd
    exact fun W => ris_any xctS s ⟨#[]⟩ W (by omega) (by decide)
  by_cases hor : decide ((20 : Int) < (s.size : Int)) = true ∨ sameB s ctS = true ∨ sameB s xctS = true
  · exact others_lives s _ _ _ A n c L w (Lib.hid lives23_any) HF1 rfl HI1 HI2 hor
  · have e0 : decide ((20 : Int) < (s.size : Int)) = false := by cases h : decide ((20 : Int) < (s.size : Int)) <;> simp_all
    have e1 : sameB s ctS = false := by cases h : sameB s ctS <;> simp_all
    have e2 : sameB s xctS = false := by cases h : sameB s xctS <;> simp_all
    have HJ1 := HI1 e0
    have HJ2 := HI2 e0
    rw [e1] at HJ1
    rw [e2] at HJ2
    have hs := of_decide_eq_false e0
    have hkl := Nat.le_trans (cutN_len s L) hmin
    refine others_walk s (tyM L) (tyB L) (nosB L) (bugB (rawB L)) A n c L (cutN s L) w (Lib.hid lives23_any) HF1 ?_ e0 HJ1 HJ2 ?_ ?_ ?_
    · exact fun A c W h => few22_own A c 10 L W h hall hmin (by omega)
    · exact fun A c W h => nsaid_any A c L W h h2 (by omega)
    · intro A c W h
      have := nsaid_any A c (cutN s L) W h (cutN_all h2) (by omega)
      rw [tyM_cut e1, tyB_cut e1, nosB_cut e2, rawB_cut e1] at this
      exact this
    · exact fun A c W h => (rcut_any s A c L W h h1 (by omega) (by omega)).mono fun e w' ⟨A', c', he, ho, hb⟩ => ⟨some A', c', he, ho.hd, hb⟩

end Go.Proofs.Ytighgoefmccagaa
