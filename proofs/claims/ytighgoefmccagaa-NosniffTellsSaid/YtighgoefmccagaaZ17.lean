/-
  What the builder's grow of the library does at this translation.
  A slice of texts; what Join of the library answers, with a comma and a blank between each two; the same of package combine. Condition: a thousand texts of a thousand bytes.
  What Get and Combined of package header answer. Conditions: texts are shorter than a mebibyte, headers no more than a mebibyte; for Combined, no more than 1000 of at most 1000 bytes.
-/
import Derived.Shelf.Strings.Builder2
import Derived.Test.YtighgoefmccagaaZ2
import Derived.WalkKit
import Derived.Test.YtighgoefmccagaaZ11
import Derived.Test.YtighgoefmccagaaZ16
import Derived.BigQuiet
import Derived.Maps.AppendAt
namespace Go.Proofs.Ytighgoefmccagaa
open Go.RowKit Go.Shelf

def lays241_ren : Go.Shelf.Ren := ⟨fun | 241 => 74 | 277 => 91 | n => n, fun | 70 => 76 | 3 => 3 | 0 => 0 | 72 => 78 | 37 => 64 | 5 => 5 | n => n, fun | n => n⟩

theorem lays241 : Go.Proofs.Lays.n241 Try.prog lays241_ren := {
  mixed := by kernel_rfl
  f241 := Try.func74.trans (congrArg some (by kernel_rfl))
  f277 := Try.func91.trans (congrArg some (by kernel_rfl))
  t0 := Try.underlying0
  a0 := Try.isAgg0
  z0 := Try.sizeOf0
  v0 := Try.zeroValue0
  t3 := Try.underlying3
  a3 := Try.isAgg3
  z3 := Try.sizeOf3
  v3 := Try.zeroValue3
  t37 := Try.underlying64
  a37 := Try.isAgg64
  z37 := Try.sizeOf64
  v37 := Try.zeroValue64
  t70 := Try.underlying76
  a70 := Try.isAgg76
  z70 := Try.sizeOf76
  v70 := Try.zeroValue76
  t72 := Try.underlying78
  a72 := Try.isAgg78
  z72 := Try.sizeOf78
  v72 := Try.zeroValue78 }

theorem Builder_Extra_241 : Builder.Extra Try.prog lays241_ren := {
  sizeBuilder := by kernel_rfl
  liesBuilder := by kernel_rfl
  t5 := Try.underlying5
  a5 := Try.isAgg5
  z5 := Try.sizeOf5
  v5 := Try.zeroValue5
  infoByte := by kernel_rfl
  cellsByte := by kernel_rfl
  sizeByte := by kernel_rfl
  neB5 := by decide }

open Go.RowKit in
theorem Builder_grow_fresh (B b n : Nat) (w : World) (hB : B ≤ b) (hbk : w.heap[b]? = some (.cells #[.pointer (some ⟨b, 0, none⟩), .slice none 0 0] 78 (0, 0))) (hBw : B ≤ w.heap.size) (hn : n ≤ 281474976710656) :
    Calls Try.prog 74 #[.pointer (some ⟨b, 0, none⟩), .int .i64 n] w fun e w' => e = .returned (.tuple #[]) ∧ (Lib.BuilderAt 78 5 B b (.pointer (some ⟨b, 0, none⟩)) [] w' ∧ Below B w w') := Any.Builder_grow_fresh lays241 Builder_Extra_241 B b n w hB hbk hBw hn

theorem bgrow_any (b n : Nat) (w : World) (hbk : w.heap[b]? = some (.cells #[.pointer (some ⟨b, 0, none⟩), .slice none 0 0] 78 (0, 0))) (hn : n ≤ 281474976710656) :
    Calls Try.prog 74 #[.pointer (some ⟨b, 0, none⟩), .int .i64 n] w fun e w' => e = .returned (.tuple #[]) ∧ Bld b b [] w' ∧ Below b w w' :=
  (Builder_grow_fresh b b n w (Nat.le_refl _) hbk (Nat.le_of_lt (Array.getElem?_eq_some_iff.1 hbk).1) hn).mono fun _ _ h => ⟨h.1, Lib.IsBuilderF.of (Or.inr h.2.1), h.2.2⟩

end Go.Proofs.Ytighgoefmccagaa
namespace Go.Proofs.Ytighgoefmccagaa
open Go.RowKit

/-- These texts lie behind A. -/
def TxIn (w : World) (A : Option Addr) (xs : List ByteArray) : Prop := ∀ i (h : i < xs.length), ∃ g, A = some ⟨g, 0, none⟩ ∧ g < w.heap.size ∧ w.cell? ⟨g, i, none⟩ = some (.string xs[i])
theorem TxIn.below {w w' : World} {A : Option Addr} {xs : List ByteArray} (h : TxIn w A xs) (hb : Below w.heap.size w w') : TxIn w' A xs := fun i hi => by
  obtain ⟨g, e, hl, hc⟩ := h i hi
  exact ⟨g, e, Nat.lt_of_lt_of_le hl hb.size, (hb.cell (p := ⟨g, i, none⟩) hl).trans hc⟩
theorem TxIn.nil (w : World) (A : Option Addr) : TxIn w A [] := fun i h => absurd h (by simp)
theorem TxIn.of_own {w : World} {base : Nat} {v : Value} {xs : List ByteArray} (h : w.ownsRow base 9 1 v xs.length (strs xs)) : ∃ A c, v = .slice A xs.length c ∧ TxIn w A xs ∧ xs.length ≤ c := by
  rcases h.2 with ⟨hv, hn⟩ | ⟨g, cap, cur, hv, hb, hg, hc, _⟩
  · refine ⟨none, 0, by rw [hv, hn], fun i hi => absurd hi (by omega), by omega⟩
  · refine ⟨_, cap, hv, fun i hi => ?_, hc⟩
    subst hv
    have h1 := h.cellAt i (by omega)
    refine ⟨g, rfl, (Array.getElem?_eq_some_iff.1 hg).1, h1.trans ?_⟩
    simp [strs, hi]

theorem empty_append (y : ByteArray) : (⟨#[]⟩ : ByteArray) ++ y = y := by
  apply ByteArray.ext
  rw [ByteArray.data_append]
  simp

theorem join_none (A : Option Addr) (c : Nat) (s : ByteArray) (w : World) :
    Calls Try.prog 37 #[.slice A 0 c, .string s] w fun e w' => e = .returned (.string ⟨#[]⟩) ∧ w = w' := by
  go_enter Try.func37, Try.ntmps37
  go_wp2
  go_ret
  exact ⟨rfl, rfl⟩
theorem join_one (g c : Nat) (x s : ByteArray) (w : World) (h : w.cell? ⟨g, 0, none⟩ = some (.string x)) :
    Calls Try.prog 37 #[.slice (some ⟨g, 0, none⟩) 1 c, .string s] w fun e w' => e = .returned (.string x) ∧ w = w' := by
  go_enter Try.func37, Try.ntmps37
  go_wp2
  go_ret
  exact ⟨rfl, rfl⟩

set_option maxHeartbeats 1000000 in
set_option maxRecDepth 100000 in
theorem bGrow_any (b n : Nat) (w : World) (hbk : w.heap[b]? = some (.cells #[.pointer none, .slice none 0 0] 78 (0, 0))) (hn0 : 0 < n) (hn : n ≤ 281474976710656) :
    Calls Try.prog 53 #[.pointer (some ⟨b, 0, none⟩), .int .i64 n] w fun e w' => e = .returned (.tuple #[]) ∧ Bld b b [] w' ∧ Below b w w' := by
  obtain ⟨w1, hw1⟩ : ∃ w1, w1 = w.setCell ⟨b, 0, none⟩ (.pointer (some ⟨b, 0, none⟩)) := ⟨_, rfl⟩
  have hlt : b < w.heap.size := (Array.getElem?_eq_some_iff.1 hbk).1
  have hbk1 : w1.heap[b]? = some (.cells #[.pointer (some ⟨b, 0, none⟩), .slice none 0 0] 78 (0, 0)) := by
    rw [hw1]; simp [World.setCell, Array.getElem?_modify, hbk]
  have c1 : w1.cell? ⟨b, 1, none⟩ = some (.slice none 0 0) := by rw [Lib.cell_of_heap hbk1]; rfl
  have HB := Lib.hid (show Below b w w1 from by rw [hw1]; exact (Below.refl b w).setCell (p := ⟨b, 0, none⟩) (Nat.le_refl _) _)
  have hlt1 : b < w1.heap.size := Nat.lt_of_lt_of_le hlt HB.out.size
  have HC := Lib.hid (copyCheck_fresh b w (by rw [Lib.cell_of_heap hbk]; rfl) (by simp [World.shape?, hbk]) (Lib.frozen_of_heap hbk 0))
  have HG := Lib.hid (fun W (hW : W.heap[b]? = some (.cells #[.pointer (some ⟨b, 0, none⟩), .slice none 0 0] 78 (0, 0))) => bgrow_any b n W hW hn)
  have HK := Lib.hid hbk1
  have g1 : ¬ (n : Int) < 0 := by omega
  have g2 : (0 : Int) < (n : Int) := by omega
  clear hbk1
  go_enter Try.func53, Try.ntmps53
  go_wp2_with fail
  refine HC.out.mono ?_
  rintro e w2 ⟨rfl, rfl⟩
  rw [← hw1]
  clear hw1
  go_wp2_with fail
  go_quiet (fail)
  go_wp2_with fail
  refine (HG.out (w1.drewN _) HK.out).mono ?_
  rintro e w3 ⟨rfl, h3, b3⟩
  have H3 := Lib.hid h3
  have HB3 := Lib.hid ((Below.drewN' HB.out _).trans b3)
  clear h3 b3
  go_wp2
  go_end0
  exact ⟨rfl, H3.out, HB3.out⟩

set_option maxHeartbeats 4000000 in
set_option maxRecDepth 100000 in
theorem join_many (g c : Nat) (xs : List ByteArray) (w : World) (h : TxIn w (some ⟨g, 0, none⟩) xs) (h2 : 2 ≤ xs.length) (hn : xs.length ≤ 1000) (hx : ∀ y ∈ xs, y.size ≤ 1000) (hc : xs.length ≤ c) :
    Calls Try.prog 37 #[.slice (some ⟨g, 0, none⟩) xs.length c, .string sepS] w fun e w' => e = .returned (.string (joinS xs)) ∧ Below w.heap.size w w' := by
  obtain ⟨z, hz⟩ : ∃ z, z = joinS xs := ⟨_, rfl⟩
  have HZ := Lib.hid hz
  rw [← hz]
  clear hz
  have HH := Lib.hid h
  have HX := Lib.hid (fun i (hi : i < xs.length) => hx xs[i] (List.getElem_mem hi))
  have HJ := Lib.hid (fun k (hk : k ≤ xs.length) => show (joinS (xs.take k)).size ≤ k * 1002 from by
    have := joinS_size (xs := xs.take k) (m := 1000) (fun y hy => hx y (List.mem_of_mem_take hy))
    rw [List.length_take, Nat.min_eq_left hk] at this
    exact this)
  obtain ⟨g', hg', hgl, hc0⟩ := h 0 (by omega)
  cases hg'
  have HC0 := Lib.hid hc0
  have hne0 : ((xs.length : Int) == 0) = false := beq_eq_false_iff_ne.2 (by omega)
  have hne1 : ((xs.length : Int) == 1) = false := beq_eq_false_iff_ne.2 (by omega)
  obtain ⟨sp, hsp⟩ : ∃ sp : ByteArray, sp = sepS := ⟨_, rfl⟩
  have HSP := Lib.hid hsp
  have hss : sp.size = 2 := by rw [hsp]; rfl
  have hdv : ¬ (9223372036854775807 / ((xs.length : Int) - 1) ≤ 2) := by
    have : (3 : Int) ≤ 9223372036854775807 / ((xs.length : Int) - 1) := by
      rw [Int.le_ediv_iff_mul_le (by omega)]; omega
    omega
  rw [← hsp]
  clear h hx hc0 hsp
  go_enter Try.func37, Try.ntmps37
  go_wp2_with fail
  go_loop [5, 41] (fun n i => ∃ k m : Nat, k ≤ xs.length ∧ m ≤ 2000 + k * 1000 ∧ 0 < m ∧ i = .int .i64 k ∧ n = .int .i64 m) (fun _ i => xs.length - (intOf i).toNat)
  case atStart => exact ⟨0, 2 * (xs.length - 1), Nat.zero_le _, by omega, by omega, rfl, by go_num⟩
  case round =>
    obtain ⟨k, m, hk, hm, hm0, rfl, rfl⟩ := hrel
    by_cases hlt : k < xs.length
    · obtain ⟨g', hg', _, hck⟩ := HH.out k hlt
      cases hg'
      have hyk := HX.out k hlt
      generalize xs[k] = y at hck hyk
      go_wp2
      go_round
      case rel => exact ⟨k + 1, m + y.size, by omega, by omega, by omega, by go_num, by go_num⟩
      case measure => simp [intOf]; omega
    · obtain rfl : k = xs.length := by omega
      clear hdv hlt
      have HB0 := Lib.hid (heap_alloc_new w (.cells #[.pointer none, .slice none 0 0] 78))
      obtain ⟨w0, hw0⟩ : ∃ w0, w0 = w.alloc (.cells #[.pointer none, .slice none 0 0] 78) := ⟨_, rfl⟩
      rw [← hw0] at HB0
      have HL0 := Lib.hid (show Below w.heap.size w w0 from by rw [hw0]; exact (Below.refl w.heap.size w).alloc (Nat.le_refl _) _)
      go_wp2_with fail
      rw [← hw0]
      clear hw0
      refine (bGrow_any w.heap.size m w0 HB0.out hm0 (by omega)).mono ?_
      rintro e w1 ⟨rfl, h1, b1⟩
      have H1 := Lib.hid h1
      have HL1 := Lib.hid (HL0.out.trans b1)
      have hw1 : w.heap.size ≤ w1.heap.size := HL1.out.size
      have hc1 := (HL1.out.cell (p := ⟨g, 0, none⟩) hgl).trans HC0.out
      have hx0 := HX.out 0 (by omega)
      have HS1 := Lib.hid (joinS_step0 (xs := xs) (by omega))
      clear h1 b1 HL0 HB0
      generalize xs[0] = y at hc1 hx0 HS1
      go_wp2_with fail
      refine (writeString_any w.heap.size w.heap.size [] y w1 H1.out (by simp; omega) hw1).mono ?_
      rintro e w2 ⟨rfl, h2', b2⟩
      have H2 := Lib.hid (show Bld w.heap.size w.heap.size (joinS (xs.take 1)).data.toList w2 from by rw [HS1.out]; exact h2')
      have HL2 := Lib.hid (HL1.out.trans b2)
      clear h2' b2 H1 HL1 hw1 hc1 hx0
      go_wp2_with fail
      go_loopw [65] (fun i wr => ∃ k : Nat, k + 1 ≤ xs.length ∧ i = .int .i64 k ∧ Bld w.heap.size w.heap.size (joinS (xs.take (k + 1))).data.toList wr ∧ Below w.heap.size w wr) (fun i _ => xs.length - (intOf i).toNat)
      case atStart => exact ⟨0, by omega, rfl, H2.out, HL2.out⟩
      case round =>
        obtain ⟨k, hk, rfl, hb, hl⟩ := hrel
        have HB := Lib.hid hb
        have HL := Lib.hid hl
        have hwr : w.heap.size ≤ wr.heap.size := HL.out.size
        clear hb hl
        by_cases hlt : k + 1 < xs.length
        · obtain ⟨g', hg', _, hck⟩ := HH.out (k + 1) hlt
          cases hg'
          have hyk := HX.out (k + 1) hlt
          have hck' := (HL.out.cell (p := ⟨g, k + 1, none⟩) hgl).trans hck
          have hck2 : wr.cell? ⟨g, 1 + k, none⟩ = some (.string xs[k + 1]) := by rw [Nat.add_comm]; exact hck'
          have HST := Lib.hid (joinS_step hlt (by omega))
          have hj1 := HJ.out (k + 1) (by omega)
          clear hck
          generalize xs[k + 1] = y at hck' hck2 hyk HST
          generalize joinS (xs.take (k + 1)) = a at HB HST hj1
          go_wp2_with fail
          refine (writeString_any w.heap.size w.heap.size a.data.toList sp wr HB.out (by rw [hss]; simp; omega) hwr).mono ?_
          rintro e w3 ⟨rfl, h3, b3⟩
          have H3 := Lib.hid h3
          have HL3 := Lib.hid (HL.out.trans b3)
          have hw3 : w.heap.size ≤ w3.heap.size := HL3.out.size
          clear h3 b3 HB HL hck' hck2
          go_wp2_with fail
          refine (writeString_any w.heap.size w.heap.size (a.data.toList ++ sp.data.toList) y w3 H3.out (by simp; omega) hw3).mono ?_
          rintro e w4 ⟨rfl, h4, b4⟩
          have H4 := Lib.hid (show Bld w.heap.size w.heap.size (joinS (xs.take (k + 1 + 1))).data.toList w4 from by
            rw [HST.out, ByteArray.toList_data_append, ByteArray.toList_data_append, ← HSP.out]; exact h4)
          have HL4 := Lib.hid (HL3.out.trans b4)
          clear h4 b4 H3 HL3 hw3
          go_wp2
          go_roundw
          case rel => exact ⟨k + 1, by omega, by go_num, H4.out, HL4.out⟩
          case measure => simp [intOf]; omega
        · obtain hke : k + 1 = xs.length := by omega
          have HE := Lib.hid (show Bld w.heap.size w.heap.size z.data.toList wr from by
            have := HB.out
            rw [hke, joinS_all, ← HZ.out] at this
            exact this)
          go_wp2_with fail
          refine (string_any _ _ z.data.toList _ HE.out hwr).mono ?_
          rintro e w5 ⟨rfl, _, b5⟩
          have HL5 := Lib.hid (HL.out.trans b5)
          clear b5
          go_wp2
          go_ret
          exact ⟨by rw [bytes_back]; rfl, HL5.out⟩

theorem sjoin_any (A : Option Addr) (c : Nat) (xs : List ByteArray) (w : World) (h : TxIn w A xs) (hn : xs.length ≤ 1000) (hx : ∀ y ∈ xs, y.size ≤ 1000) (hc : xs.length ≤ c) :
    Calls Try.prog 37 #[.slice A xs.length c, .string sepS] w fun e w' => e = .returned (.string (joinS xs)) ∧ Below w.heap.size w w' := by
  rcases Nat.lt_or_ge xs.length 2 with h2 | h2
  · match xs, h2, h with
    | [], _, _ => exact (join_none A c sepS w).mono fun _ _ hh => ⟨hh.1, hh.2 ▸ Below.refl _ _⟩
    | [x], _, h =>
      obtain ⟨g, rfl, _, hc0⟩ := h 0 (by simp)
      exact (join_one g c x sepS w hc0).mono fun _ _ hh => ⟨hh.1, hh.2 ▸ Below.refl _ _⟩
  · obtain ⟨g, rfl, _, _⟩ := h 0 (by omega)
    exact join_many g c xs w h h2 hn hx hc

set_option maxHeartbeats 1000000 in
theorem cjoin_any (A : Option Addr) (c : Nat) (xs : List ByteArray) (w : World) (h : TxIn w A xs) (hn : xs.length ≤ 1000) (hx : ∀ y ∈ xs, y.size ≤ 1000) (hc : xs.length ≤ c) :
    Calls Try.prog 28 #[.slice A xs.length c] w fun e w' => e = .returned (.string (joinS xs)) ∧ Below w.heap.size w w' := by
  have HJ := Lib.hid (sjoin_any A c xs w h hn hx hc)
  generalize joinS xs = z at HJ ⊢
  clear h hx
  go_enter Try.func28, Try.ntmps28
  go_wp2_with fail
  refine HJ.out.mono ?_
  rintro e w1 ⟨rfl, b1⟩
  have HB := Lib.hid b1
  clear b1
  go_wp2
  go_ret
  exact ⟨rfl, HB.out⟩

set_option maxHeartbeats 2000000 in
theorem rjoin_any (A : Option Addr) (c : Nat) (xs : List ByteArray) (w : World) (h : TxIn w A xs) (hn : xs.length ≤ 1000) (hx : ∀ y ∈ xs, y.size ≤ 1000) :
    Calls Try.prog 21 #[.slice A xs.length c] w fun e w' => e = .returned (.string (joinS xs)) ∧ w = w' := by
  obtain ⟨z, hz⟩ : ∃ z, z = joinS xs := ⟨_, rfl⟩
  have HZ := Lib.hid hz
  rw [← hz]
  clear hz
  have HH := Lib.hid h
  have HX := Lib.hid (fun i (hi : i < xs.length) => hx xs[i] (List.getElem_mem hi))
  have HJ := Lib.hid (fun k (hk : k ≤ xs.length) => show (joinS (xs.take k)).size ≤ k * 1002 from by
    have := joinS_size (xs := xs.take k) (m := 1000) (fun y hy => hx y (List.mem_of_mem_take hy))
    rw [List.length_take, Nat.min_eq_left hk] at this
    exact this)
  clear h hx
  go_enter Try.func21, Try.ntmps21
  go_wp2
  go_loop [3, 4] (fun s i => ∃ k : Nat, k ≤ xs.length ∧ i = .int .i64 k ∧ s = .string (joinS (xs.take k))) (fun _ i => xs.length - (intOf i).toNat)
  case atStart => exact ⟨0, Nat.zero_le _, rfl, rfl⟩
  case round =>
    obtain ⟨k, hk, rfl, rfl⟩ := hrel
    by_cases hlt : k < xs.length
    · obtain ⟨g, rfl, _, hck⟩ := HH.out k hlt
      have hyk := HX.out k hlt
      have hj := HJ.out k hk
      by_cases hk0 : k = 0
      · subst hk0
        have HST := Lib.hid (joinS_step0 (xs := xs) hlt)
        have HE := Lib.hid (show joinS (xs.take 0) = ⟨#[]⟩ from rfl)
        generalize joinS (xs.take 0) = a at HE hj ⊢
        have ha : a = ⟨#[]⟩ := HE.out
        subst ha
        generalize xs[0] = y at hck hyk HST
        go_wp2
        go_round
        case rel => exact ⟨1, by omega, by go_num, by rw [HST.out, empty_append]⟩
        case measure => simp [intOf]; omega
      · have HST := Lib.hid (joinS_step hlt (by omega))
        generalize joinS (xs.take k) = a at HST hj ⊢
        generalize xs[k] = y at hck hyk HST
        go_wp2
        go_round
        case rel => exact ⟨k + 1, by omega, by go_num, by rw [HST.out]⟩
        case measure => simp [intOf]; omega
    · obtain rfl : k = xs.length := by omega
      have HE := Lib.hid (joinS_all xs)
      generalize joinS (xs.take xs.length) = a at HE ⊢
      go_wp2
      go_ret
      exact ⟨by rw [HE.out, ← HZ.out]; rfl, rfl⟩

end Go.Proofs.Ytighgoefmccagaa
namespace Go.Proofs.Ytighgoefmccagaa
open Go.RowKit Go.Shelf
attribute [local go_sem] Oper.semAt_some

/-- The iterator's value, and the world in which it was made. -/
abbrev namedF (b : Nat) : Value := .func (.func 52) #[] #[.pointer (some ⟨b, 0, none⟩), .pointer (some ⟨b + 2, 0, none⟩)]
structure NamedAt (W : World) (b c : Nat) (name : ByteArray) (A : Option Addr) (l : List Prm) : Prop where
  lb : Blk W b 22 #[.slice A l.length c]
  nb : Blk W (b + 1) 9 #[.string name]
  fb : Blk W (b + 2) 91 #[namedV (b + 1)]

set_option maxHeartbeats 400000 in
theorem named_any (name : ByteArray) (A : Option Addr) (c : Nat) (l : List Prm) (w : World) :
    Calls Try.prog 36 #[.string name, .slice A l.length c] w fun e w' => e = .returned (namedF w.heap.size) ∧ NamedAt w' w.heap.size c name A l ∧ Below w.heap.size w w' ∧ w'.heap.size = w.heap.size + 3 := by
  have hmf := make_func
  have hst : ∀ (w : World) (a : Addr) (fn : Fn) (fi ca : Array Value) (m : Mode), (store a (.func fn fi ca) m).run Try.prog w = stored Try.prog w a (.func fn fi ca) m := fun w a _ _ _ m => run_store Try.prog w a _ m rfl
  go_enter Try.func36, Try.ntmps36
  go_wp2_with (go_at_call 51; (with_reducible refine (isNamed_any name _).mono ?_); rintro e w1 ⟨rfl, rfl⟩)
  go_ret
  have e1 : ((w.alloc (.cells #[.slice A l.length c] 22)).alloc (.cells #[.string name] 9)).heap.size = w.heap.size + 2 := by simp
  have b2 := Blk.new ((w.alloc (.cells #[.slice A l.length c] 22)).alloc (.cells #[.string name] 9)) 91 #[namedV (w.heap.size + 1)]
  have b1 := (Blk.new (w.alloc (.cells #[.slice A l.length c] 22)) 9 #[.string name]).alloc (.cells #[namedV (w.heap.size + 1)] 91)
  have b0 := ((Blk.new w 22 #[.slice A l.length c]).alloc (.cells #[.string name] 9)).alloc (.cells #[namedV (w.heap.size + 1)] 91)
  rw [e1] at b2
  rw [World.size_alloc] at b1
  exact ⟨rfl, ⟨b0, b1, b2⟩, (((Below.refl _ w).alloc (Nat.le_refl _) _).alloc (by simp) _).alloc (by simp; omega) _, by simp⟩

theorem named_stops (n : Nat) (hn : 1 ≤ n) (b L B c : Nat) (name : ByteArray) (A : Option Addr) (l : List Prm) (hm : name.size ≤ 1048576) (ha : AllIn 1048576 l) (hl : l.length ≤ 1048576) (w : World) (h : NamedAt w b c name A l) (hP : HdIn w A l)
    (hb : b + 2 < B) (hL : L < b) (hA : ∀ a, A = some a → 0 < l.length → a.block < B ∧ a.block ≠ L) :
    SeqStopsK Fence.wide n Try.prog 52 #[.pointer (some ⟨b, 0, none⟩), .pointer (some ⟨b + 2, 0, none⟩)] encH (KeepsU B L) (fun xs => xs = l.filter (hasN name)) (fun _ => True) l.length w := fun l' J Jx W hW hJ _ hY h0 =>
  named1_in n hn l' b (b + 2) (b + 1) L B W.heap.size c name A l hm ha hl J Jx hJ hY W (h.lb.below hW h.lb.lt) (h.fb.below hW h.fb.lt) (h.nb.below hW h.nb.lt) (hP.below hW) ⟨hb, by omega⟩ ⟨by omega, by omega⟩ hA h0

theorem Try.infoS22 : (Try.prog.info? 9).map (fun i => (i.zero, i.size, i.bytes)) = some (some (.string ⟨#[]⟩), 1, 16) := by kernel_rfl
theorem strs_snoc (xs : List ByteArray) (x : ByteArray) : strs (xs ++ [x]) = strs xs ++ [.string x] := by simp [strs]

set_option maxRecDepth 100000 in
set_option maxHeartbeats 4000000 in
theorem hget_any (name : ByteArray) (A : Option Addr) (c : Nat) (l : List Prm) (w : World) (h : HdIn w A l) (ha : AllIn 1048576 l) (hn : l.length ≤ 1048576) (hm : name.size ≤ 1048576) :
    Calls Try.prog 27 #[.string name, .slice A l.length c] w fun e w' => ∃ v, e = .returned v ∧ w'.ownsRow w.heap.size 9 1 v (getN name l).length (strs (getN name l)) ∧ Below w.heap.size w w' := by
  obtain ⟨i0, hi, hz0, hz1, hz2⟩ := info_parts Try.infoS22
  have HH := Lib.hid h
  have HN := Lib.hid fun n W => callsIn_wide (n := n).2 (named_any name A c l W)
  have HAL := Lib.hid h.lt
  clear h
  refine (callsIn_wide (n := 3)).1 ?_
  refine callsIn_of_wp_marks Try.func27 rfl trivial ?_ rfl
  simp only [Try.ntmps27, List.size_toArray, List.length_cons, List.length_nil, Nat.reduceAdd, Nat.reduceSub, Array.replicate_succ, Array.replicate_zero, List.push_toArray, List.append_toArray, List.nil_append, List.cons_append]
  have HL0 := Lib.hid (Blk.new w 25 #[.slice none 0 0])
  have HB0 := Lib.hid ((Below.refl w.heap.size w).alloc (Nat.le_refl _) (.cells #[.slice none 0 0] 25))
  gi_wp2_with (refine ⟨trivial, ?_⟩; gi_at_call 36; refine (HN.out _ _).mono ?_; rintro e w1 ⟨rfl, hn1, b1, hs1⟩; have HN1 := Lib.hid hn1; have HL1 := Lib.hid (HL0.out.below b1 HL0.out.lt); have HB1 := Lib.hid (HB0.out.trans (b1.mono HB0.out.size)); have HH1 := Lib.hid ((HH.out.below HB0.out).below b1); have HS1 := Lib.hid hs1; clear hn1 b1 hs1)
  have hL1 := HL1.out
  have hszw : (w.alloc (.cells #[.slice none 0 0] 25)).heap.size = w.heap.size + 1 := by simp
  have hN1 : NamedAt w1 (w.heap.size + 1) c name A l := by rw [← hszw]; exact HN1.out
  have hsz : w1.heap.size = w.heap.size + 4 := by rw [HS1.out, hszw]
  clear HN HL0 HB0 HS1 HN1 hszw
  refine wpIn_rangeFunc_ownH (w0 := w1) rfl (by omega) (gf := 52) (lb := #[.pointer (some ⟨w.heap.size + 1, 0, none⟩), .pointer (some ⟨w.heap.size + 1 + 2, 0, none⟩)]) rfl trivial (enters_of Try.func52 (by kernel_rfl) rfl)
    (named_stops 2 (by omega) (w.heap.size + 1) w.heap.size w1.heap.size c name A l hm ha hn w1 hN1 HH1.out (by omega) (by omega) (fun a e h0 => by have := HAL.out a e h0; omega)) keepsU_t (fun W l o o' h1 h2 h3 h4 => keepsU_b W l o o' h1 h2 h3 h4) (Below.refl _ _) (fun _ => rfl)
    (fun pre W => (∃ v, Boxed W w.heap.size 25 v ∧ W.ownsRow w1.heap.size 9 1 v pre.length (strs (pre.map Prm.v)) ∧ True) ∧ (Below w.heap.size w W ∧ w1.heap.size ≤ W.heap.size))
    (fun _ _ _ => False)
    (OwnFrom.and (Own.from (holdsRow_own w1.heap.size w.heap.size 25 9 1 (fun pre : List Prm => pre.length) (fun pre => strs (pre.map Prm.v)) (fun _ _ => True)) _) (OwnFrom.and (ownFrom_below (Nat.le_refl _) (by omega)) (fun s X Y row hs hg hr => Nat.le_trans hs hg.size)))
    (fun _ _ _ _ _ hs _ _ => hs)
    ⟨⟨_, hL1, World.ownsRow_nil _ _ _ _, trivial⟩, HB1.out, Nat.le_refl _⟩
    (fun x a' W => ∃ Bx, w1.heap.size ≤ Bx ∧ Blk W Bx 33 #[.string x.n, .string x.v] ∧ a' = { tmps := #[.string name, .slice A l.length c, undef, undef, .slice none 0 0, .pointer (some ⟨w.heap.size, 0, none⟩), .pointer (some ⟨Bx, 0, none⟩), .string name, .slice A l.length c, namedF (w.heap.size + 1), .agg #[.string x.n, .string x.v], undef, undef, undef, undef, undef, undef], defers := [] })
    (fun x a' s X Y row ⟨Bx, h1, h2, h3⟩ hg hr => ⟨Bx, h1, (blk_own (β := Unit) Bx _ _).from _ s X Y row h2 hg hr, h3⟩) ?assign ?body ?done ?stop
  case assign =>
    rintro l' pre x W K ⟨⟨v, hv, hrow, _⟩, hB, hs⟩ hK
    gi_wp2
    exact hK _ _ ((KeepsOthers.alloc _ _).from _) (keepsU_below ((Below.refl _ W).alloc hs _)) ⟨⟨v, hv.alloc _, hrow.alloc _, trivial⟩, hB.alloc (by omega) _, by simp; omega⟩ ⟨W.heap.size, hs, Blk.new W _ _, rfl⟩
  case body =>
    rintro l' pre x a' W hl ⟨r, hr⟩ ⟨⟨v, hv, hrow, _⟩, hB, hs⟩ ⟨Bx, hBx, hbx, rfl⟩ hlt
    have c1 := hbx.cell 1
    have hvc := hv.cell
    have hvl : v.ownBlock ≠ some w.heap.size := fun e => by have := (hrow.lt _ e).1; omega
    have HROW := Lib.hid hrow
    have HV := Lib.hid hv
    have hpl : pre.length < l.length := hlt
    clear hrow hv hr
    obtain ⟨ao, n', cap, rfl⟩ := own_slice HROW.out
    gi_wp2_with (gi_at_builtin; refine wpListIn_append_own _ rfl _ _ 25 rfl w1.heap.size 9 i0 _ 1 16 Try.underlying25 hi hz0 hz1 hz2 rfl (by decide) _ _ _ rfl (HROW.out.alloc _) ⟨W.heap.size, 0, none⟩ 1 1 [.string x.v] rfl rfl (cell_one_new _ _ _) (by simp [Value.oneCell']) (by unfold maxLen; omega) (by omega) (by simp; omega) ?_; intro v' w2 hown' hgrow _; obtain ⟨g', cap', rfl⟩ := ownsRow_succ hown'; obtain ⟨hv1, hv2, hr2, hk2, hb2⟩ := HV.out.appended (by decide) (own_base HROW.out (by omega)) hB.size (Nat.le_refl _) (own_base hown' (by omega)) hgrow; have hc1 := hv1.cell; have hf1 := hv1.frozen)
    have hrow2 := hown'.kept (grownBy_setCell' w2 w.heap.size (.slice (some ⟨g', 0, none⟩) (pre.length + 1) cap')) (.inr (hv1.not_row (by decide) hown').symm)
    have hmv := boxed_mv (L := w.heap.size) (v' := .slice (some ⟨g', 0, none⟩) (pre.length + 1) cap') HROW.out hs hgrow
    have HE := Lib.hid (show strs ((pre ++ [x]).map Prm.v) = strs (pre.map Prm.v) ++ [.string x.v] from by rw [List.map_append]; exact strs_snoc _ _)
    have HE2 := Lib.hid (show (pre ++ [x]).length = pre.length + 1 from by simp)
    refine ⟨hk2.from _, keepsU_mv hmv, ⟨⟨_, hv2, ?_, trivial⟩, hB.trans hb2, Nat.le_trans hs hmv.size⟩⟩
    rw [HE.out, HE2.out]
    exact hrow2
  case done =>
    rintro D xs W hD rfl ⟨⟨v, hv, hrow, _⟩, hB, hs⟩ hK
    have hvc := hv.cell
    have HROW := Lib.hid hrow
    have HV := Lib.hid hv
    clear hrow hv
    obtain ⟨ao, n', cap, rfl⟩ := own_slice HROW.out
    gi_wp2
    refine ⟨by simp, .inl ⟨_, _, rfl, run_takeDeferred hK, ?_⟩⟩
    exact ⟨_, results_tmp rfl _ _ _, _, rfl, (show (getN name l).length = (l.filter (hasN name)).length from by unfold getN; rw [List.length_map]) ▸ own_base (ownsRow_putObj HROW.out _ hK rfl) (by omega), hB.trans (belowK_b (w := w) (Nat.le_refl _) W D _ _ (by omega) hK rfl rfl)⟩
  case stop =>
    rintro D c pre W _ _ h _
    exact h.elim

theorem getN_le {name : ByteArray} {l : List Prm} {m : Nat} (h : ∀ p ∈ l, p.v.size ≤ m) : ∀ y ∈ getN name l, y.size ≤ m := fun y hy => by
  unfold getN at hy
  obtain ⟨p, hp, rfl⟩ := List.mem_map.1 hy
  exact h p (List.mem_filter.1 hp).1

set_option maxHeartbeats 1000000 in
theorem combined_any (name : ByteArray) (A : Option Addr) (c : Nat) (l : List Prm) (w : World) (h : HdIn w A l) (ha : AllIn 1000 l) (hn : l.length ≤ 1000) (hm : name.size ≤ 1048576) :
    Calls Try.prog 17 #[.string name, .slice A l.length c] w fun e w' => e = .returned (.tuple #[.string (joinS (getN name l)), .bool (decide (0 < (getN name l).length))]) ∧ Below w.heap.size w w' := by
  have HG := Lib.hid (hget_any name A c l w h (fun p hp => ⟨by have := (ha p hp).1; omega, by have := (ha p hp).2; omega⟩) (by omega) hm)
  have HX := Lib.hid (getN_le (name := name) fun p hp => (ha p hp).2)
  have hl := Nat.le_trans (getN_len name l) hn
  generalize getN name l = xs at *
  obtain ⟨z, hz⟩ : ∃ z, z = joinS xs := ⟨_, rfl⟩
  rw [← hz]
  have HZ := Lib.hid hz
  clear h ha hz
  go_enter Try.func17, Try.ntmps17
  go_wp2_with fail
  refine HG.out.mono ?_
  rintro e w1 ⟨v, rfl, ho, b1⟩
  obtain ⟨A', c', rfl, ht, hc⟩ := TxIn.of_own ho
  have HB1 := Lib.hid b1
  have HJ := Lib.hid (show Calls Try.prog 28 #[.slice A' xs.length c'] w1 fun e w' => e = .returned (.string z) ∧ Below w1.heap.size w1 w' from by rw [HZ.out]; exact cjoin_any A' c' xs w1 ht hl HX.out hc)
  clear ho ht b1 HG HX
  go_wp2_with fail
  refine HJ.out.mono ?_
  rintro e w2 ⟨rfl, b2⟩
  have HB2 := Lib.hid (below_on HB1.out b2)
  clear b2
  go_wp2
  go_ret2
  exact ⟨rfl, HB2.out⟩

end Go.Proofs.Ytighgoefmccagaa
