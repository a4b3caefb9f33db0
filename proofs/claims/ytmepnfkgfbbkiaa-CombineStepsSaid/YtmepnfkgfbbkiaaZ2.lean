/-
  A slice of texts; what Join of the library answers, with a comma and a blank between each two; the same of package combine. Condition: a thousand texts of a thousand bytes.
  What the document's trim, Split and Same of layer 4 answer. Condition: the text takes at most 2^40 bytes.
  What the document's Split and Same of layer 4 answer; the pieces of some values, the program's and the document's. Condition: a thousand values of a thousand bytes.
-/
import Derived.Test.YtmepnfkgfbbkiaaZ1
import Derived.Test.YtmepnfkgfbbkiaaSplit
import Derived.BigQuiet
import Derived.Test.YtmepnfkgfbbkiaaRef4
import Derived.Test.YtmepnfkgfbbkiaaClass2
import Derived.Test.YtmepnfkgfbbkiaaMh
namespace Go.Proofs.Ytmepnfkgfbbkiaa
open Go.RowKit

/-- These texts lie behind A. -/
def TxIn (w : World) (A : Option Addr) (xs : List ByteArray) : Prop := ∀ i (h : i < xs.length), ∃ g, A = some ⟨g, 0, none⟩ ∧ g < w.heap.size ∧ w.cell? ⟨g, i, none⟩ = some (.string xs[i])
theorem TxIn.below {w w' : World} {A : Option Addr} {xs : List ByteArray} (h : TxIn w A xs) (hb : Below w.heap.size w w') : TxIn w' A xs := fun i hi => by
  obtain ⟨g, e, hl, hc⟩ := h i hi
  exact ⟨g, e, Nat.lt_of_lt_of_le hl hb.size, (hb.cell (p := ⟨g, i, none⟩) hl).trans hc⟩
theorem TxIn.nil (w : World) (A : Option Addr) : TxIn w A [] := fun i h => absurd h (by simp)
theorem TxIn.of_own {w : World} {base : Nat} {v : Value} {xs : List ByteArray} (h : w.ownsRow base 9 1 v xs.length (strs xs)) : ∃ A c, v = .slice A xs.length c ∧ TxIn w A xs ∧ xs.length ≤ c := by
  rcases h.2 with ⟨hv, hn⟩ | ⟨g, cap, cur, hv, hb, hg, hc, _⟩
  · refine ⟨none, 0, by rw [hv, hn], fun i hi => absurd hi (by omega), by omega⟩
  · refine ⟨_, cap, hv, fun i hi => ?_, hc⟩
    subst hv
    have h1 := h.cellAt i (by omega)
    refine ⟨g, rfl, (Array.getElem?_eq_some_iff.1 hg).1, h1.trans ?_⟩
    simp [strs, hi]

theorem empty_append (y : ByteArray) : (⟨#[]⟩ : ByteArray) ++ y = y := by
  apply ByteArray.ext
  rw [ByteArray.data_append]
  simp

theorem join_none (A : Option Addr) (c : Nat) (s : ByteArray) (w : World) :
    Calls Try.prog 59 #[.slice A 0 c, .string s] w fun e w' => e = .returned (.string ⟨#[]⟩) ∧ w = w' := by
  go_enter Try.func59, Try.ntmps59
  go_wp2
  go_ret
  exact ⟨rfl, rfl⟩
theorem join_one (g c : Nat) (x s : ByteArray) (w : World) (h : w.cell? ⟨g, 0, none⟩ = some (.string x)) :
    Calls Try.prog 59 #[.slice (some ⟨g, 0, none⟩) 1 c, .string s] w fun e w' => e = .returned (.string x) ∧ w = w' := by
  go_enter Try.func59, Try.ntmps59
  go_wp2
  go_ret
  exact ⟨rfl, rfl⟩

set_option maxHeartbeats 1000000 in
set_option maxRecDepth 100000 in
theorem bGrow_any (b n : Nat) (w : World) (hbk : w.heap[b]? = some (.cells #[.pointer none, .slice none 0 0] 90 (0, 0))) (hn0 : 0 < n) (hn : n ≤ 281474976710656) :
    Calls Try.prog 76 #[.pointer (some ⟨b, 0, none⟩), .int .i64 n] w fun e w' => e = .returned (.tuple #[]) ∧ Bld b b [] w' ∧ Below b w w' := by
  obtain ⟨w1, hw1⟩ : ∃ w1, w1 = w.setCell ⟨b, 0, none⟩ (.pointer (some ⟨b, 0, none⟩)) := ⟨_, rfl⟩
  have hlt : b < w.heap.size := (Array.getElem?_eq_some_iff.1 hbk).1
  have hbk1 : w1.heap[b]? = some (.cells #[.pointer (some ⟨b, 0, none⟩), .slice none 0 0] 90 (0, 0)) := by
    rw [hw1]; simp [World.setCell, Array.getElem?_modify, hbk]
  have c1 : w1.cell? ⟨b, 1, none⟩ = some (.slice none 0 0) := by rw [Lib.cell_of_heap hbk1]; rfl
  have HB := Lib.hid (show Below b w w1 from by rw [hw1]; exact (Below.refl b w).setCell (p := ⟨b, 0, none⟩) (Nat.le_refl _) _)
  have hlt1 : b < w1.heap.size := Nat.lt_of_lt_of_le hlt HB.out.size
  have HC := Lib.hid (copyCheck_fresh b w (by rw [Lib.cell_of_heap hbk]; rfl) (by simp [World.shape?, hbk]) (Lib.frozen_of_heap hbk 0))
  have HG := Lib.hid (fun W (hW : W.heap[b]? = some (.cells #[.pointer (some ⟨b, 0, none⟩), .slice none 0 0] 90 (0, 0))) => bgrow_any b n W hW hn)
  have HK := Lib.hid hbk1
  have g1 : ¬ (n : Int) < 0 := by omega
  have g2 : (0 : Int) < (n : Int) := by omega
  clear hbk1
  go_enter Try.func76, Try.ntmps76
  go_wp2_with fail
  refine HC.out.mono ?_
  rintro e w2 ⟨rfl, rfl⟩
  rw [← hw1]
  clear hw1
  go_wp2_with fail
  go_quiet (fail)
  go_wp2_with fail
  refine (HG.out (w1.drewN _) HK.out).mono ?_
  rintro e w3 ⟨rfl, h3, b3⟩
  have H3 := Lib.hid h3
  have HB3 := Lib.hid ((Below.drewN' HB.out _).trans b3)
  clear h3 b3
  go_wp2
  go_end0
  exact ⟨rfl, H3.out, HB3.out⟩

set_option maxHeartbeats 4000000 in
set_option maxRecDepth 100000 in
theorem join_many (g c : Nat) (xs : List ByteArray) (w : World) (h : TxIn w (some ⟨g, 0, none⟩) xs) (h2 : 2 ≤ xs.length) (hn : xs.length ≤ 1000) (hx : ∀ y ∈ xs, y.size ≤ 1000) (hc : xs.length ≤ c) :
    Calls Try.prog 59 #[.slice (some ⟨g, 0, none⟩) xs.length c, .string sepS] w fun e w' => e = .returned (.string (joinS xs)) ∧ Below w.heap.size w w' := by
  obtain ⟨z, hz⟩ : ∃ z, z = joinS xs := ⟨_, rfl⟩
  have HZ := Lib.hid hz
  rw [← hz]
  clear hz
  have HH := Lib.hid h
  have HX := Lib.hid (fun i (hi : i < xs.length) => hx xs[i] (List.getElem_mem hi))
  have HJ := Lib.hid (fun k (hk : k ≤ xs.length) => show (joinS (xs.take k)).size ≤ k * 1002 from by
    have := joinS_size (xs := xs.take k) (m := 1000) (fun y hy => hx y (List.mem_of_mem_take hy))
    rw [List.length_take, Nat.min_eq_left hk] at this
    exact this)
  obtain ⟨g', hg', hgl, hc0⟩ := h 0 (by omega)
  cases hg'
  have HC0 := Lib.hid hc0
  have hne0 : ((xs.length : Int) == 0) = false := beq_eq_false_iff_ne.2 (by omega)
  have hne1 : ((xs.length : Int) == 1) = false := beq_eq_false_iff_ne.2 (by omega)
  obtain ⟨sp, hsp⟩ : ∃ sp : ByteArray, sp = sepS := ⟨_, rfl⟩
  have HSP := Lib.hid hsp
  have hss : sp.size = 2 := by rw [hsp]; rfl
  have hdv : ¬ (9223372036854775807 / ((xs.length : Int) - 1) ≤ 2) := by
    have : (3 : Int) ≤ 9223372036854775807 / ((xs.length : Int) - 1) := by
      rw [Int.le_ediv_iff_mul_le (by omega)]; omega
    omega
  rw [← hsp]
  clear h hx hc0 hsp
  go_enter Try.func59, Try.ntmps59
  go_wp2_with fail
  go_loop [5, 41] (fun n i => ∃ k m : Nat, k ≤ xs.length ∧ m ≤ 2000 + k * 1000 ∧ 0 < m ∧ i = .int .i64 k ∧ n = .int .i64 m) (fun _ i => xs.length - (intOf i).toNat)
  case atStart => exact ⟨0, 2 * (xs.length - 1), Nat.zero_le _, by omega, by omega, rfl, by go_num⟩
  case round =>
    obtain ⟨k, m, hk, hm, hm0, rfl, rfl⟩ := hrel
    by_cases hlt : k < xs.length
    · obtain ⟨g', hg', _, hck⟩ := HH.out k hlt
      cases hg'
      have hyk := HX.out k hlt
      generalize xs[k] = y at hck hyk
      go_wp2
      go_round
      case rel => exact ⟨k + 1, m + y.size, by omega, by omega, by omega, by go_num, by go_num⟩
      case measure => simp [intOf]; omega
    · obtain rfl : k = xs.length := by omega
      clear hdv hlt
      have HB0 := Lib.hid (heap_alloc_new w (.cells #[.pointer none, .slice none 0 0] 90))
      obtain ⟨w0, hw0⟩ : ∃ w0, w0 = w.alloc (.cells #[.pointer none, .slice none 0 0] 90) := ⟨_, rfl⟩
      rw [← hw0] at HB0
      have HL0 := Lib.hid (show Below w.heap.size w w0 from by rw [hw0]; exact (Below.refl w.heap.size w).alloc (Nat.le_refl _) _)
      go_wp2_with fail
      rw [← hw0]
      clear hw0
      refine (bGrow_any w.heap.size m w0 HB0.out hm0 (by omega)).mono ?_
      rintro e w1 ⟨rfl, h1, b1⟩
      have H1 := Lib.hid h1
      have HL1 := Lib.hid (HL0.out.trans b1)
      have hw1 : w.heap.size ≤ w1.heap.size := HL1.out.size
      have hc1 := (HL1.out.cell (p := ⟨g, 0, none⟩) hgl).trans HC0.out
      have hx0 := HX.out 0 (by omega)
      have HS1 := Lib.hid (joinS_step0 (xs := xs) (by omega))
      clear h1 b1 HL0 HB0
      generalize xs[0] = y at hc1 hx0 HS1
      go_wp2_with fail
      refine (writeString_any w.heap.size w.heap.size [] y w1 H1.out (by simp; omega) hw1).mono ?_
      rintro e w2 ⟨rfl, h2', b2⟩
      have H2 := Lib.hid (show Bld w.heap.size w.heap.size (joinS (xs.take 1)).data.toList w2 from by rw [HS1.out]; exact h2')
      have HL2 := Lib.hid (HL1.out.trans b2)
      clear h2' b2 H1 HL1 hw1 hc1 hx0
      go_wp2_with fail
      go_loopw [65] (fun i wr => ∃ k : Nat, k + 1 ≤ xs.length ∧ i = .int .i64 k ∧ Bld w.heap.size w.heap.size (joinS (xs.take (k + 1))).data.toList wr ∧ Below w.heap.size w wr) (fun i _ => xs.length - (intOf i).toNat)
      case atStart => exact ⟨0, by omega, rfl, H2.out, HL2.out⟩
      case round =>
        obtain ⟨k, hk, rfl, hb, hl⟩ := hrel
        have HB := Lib.hid hb
        have HL := Lib.hid hl
        have hwr : w.heap.size ≤ wr.heap.size := HL.out.size
        clear hb hl
        by_cases hlt : k + 1 < xs.length
        · obtain ⟨g', hg', _, hck⟩ := HH.out (k + 1) hlt
          cases hg'
          have hyk := HX.out (k + 1) hlt
          have hck' := (HL.out.cell (p := ⟨g, k + 1, none⟩) hgl).trans hck
          have hck2 : wr.cell? ⟨g, 1 + k, none⟩ = some (.string xs[k + 1]) := by rw [Nat.add_comm]; exact hck'
          have HST := Lib.hid (joinS_step hlt (by omega))
          have hj1 := HJ.out (k + 1) (by omega)
          clear hck
          generalize xs[k + 1] = y at hck' hck2 hyk HST
          generalize joinS (xs.take (k + 1)) = a at HB HST hj1
          go_wp2_with fail
          refine (writeString_any w.heap.size w.heap.size a.data.toList sp wr HB.out (by rw [hss]; simp; omega) hwr).mono ?_
          rintro e w3 ⟨rfl, h3, b3⟩
          have H3 := Lib.hid h3
          have HL3 := Lib.hid (HL.out.trans b3)
          have hw3 : w.heap.size ≤ w3.heap.size := HL3.out.size
          clear h3 b3 HB HL hck' hck2
          go_wp2_with fail
          refine (writeString_any w.heap.size w.heap.size (a.data.toList ++ sp.data.toList) y w3 H3.out (by simp; omega) hw3).mono ?_
          rintro e w4 ⟨rfl, h4, b4⟩
          have H4 := Lib.hid (show Bld w.heap.size w.heap.size (joinS (xs.take (k + 1 + 1))).data.toList w4 from by
            rw [HST.out, ByteArray.toList_data_append, ByteArray.toList_data_append, ← HSP.out]; exact h4)
          have HL4 := Lib.hid (HL3.out.trans b4)
          clear h4 b4 H3 HL3 hw3
          go_wp2
          go_roundw
          case rel => exact ⟨k + 1, by omega, by go_num, H4.out, HL4.out⟩
          case measure => simp [intOf]; omega
        · obtain hke : k + 1 = xs.length := by omega
          have HE := Lib.hid (show Bld w.heap.size w.heap.size z.data.toList wr from by
            have := HB.out
            rw [hke, joinS_all, ← HZ.out] at this
            exact this)
          go_wp2_with fail
          refine (string_any _ _ z.data.toList _ HE.out hwr).mono ?_
          rintro e w5 ⟨rfl, _, b5⟩
          have HL5 := Lib.hid (HL.out.trans b5)
          clear b5
          go_wp2
          go_ret
          exact ⟨by rw [bytes_back]; rfl, HL5.out⟩

theorem sjoin_any (A : Option Addr) (c : Nat) (xs : List ByteArray) (w : World) (h : TxIn w A xs) (hn : xs.length ≤ 1000) (hx : ∀ y ∈ xs, y.size ≤ 1000) (hc : xs.length ≤ c) :
    Calls Try.prog 59 #[.slice A xs.length c, .string sepS] w fun e w' => e = .returned (.string (joinS xs)) ∧ Below w.heap.size w w' := by
  rcases Nat.lt_or_ge xs.length 2 with h2 | h2
  · match xs, h2, h with
    | [], _, _ => exact (join_none A c sepS w).mono fun _ _ hh => ⟨hh.1, hh.2 ▸ Below.refl _ _⟩
    | [x], _, h =>
      obtain ⟨g, rfl, _, hc0⟩ := h 0 (by simp)
      exact (join_one g c x sepS w hc0).mono fun _ _ hh => ⟨hh.1, hh.2 ▸ Below.refl _ _⟩
  · obtain ⟨g, rfl, _, _⟩ := h 0 (by omega)
    exact join_many g c xs w h h2 hn hx hc

set_option maxHeartbeats 1000000 in
theorem cjoin_any (A : Option Addr) (c : Nat) (xs : List ByteArray) (w : World) (h : TxIn w A xs) (hn : xs.length ≤ 1000) (hx : ∀ y ∈ xs, y.size ≤ 1000) (hc : xs.length ≤ c) :
    Calls Try.prog 44 #[.slice A xs.length c] w fun e w' => e = .returned (.string (joinS xs)) ∧ Below w.heap.size w w' := by
  have HJ := Lib.hid (sjoin_any A c xs w h hn hx hc)
  generalize joinS xs = z at HJ ⊢
  clear h hx
  go_enter Try.func44, Try.ntmps44
  go_wp2_with fail
  refine HJ.out.mono ?_
  rintro e w1 ⟨rfl, b1⟩
  have HB := Lib.hid b1
  clear b1
  go_wp2
  go_ret
  exact ⟨rfl, HB.out⟩

end Go.Proofs.Ytmepnfkgfbbkiaa
namespace Go.Proofs.Ytmepnfkgfbbkiaa
open Go.RowKit

theorem run_all {p : UInt8 → Bool} {s : ByteArray} : ∀ (n i j : Nat), j = i + n → j < scan p s i → (hj : j < s.size) → p s[j] = true
  | 0, i, j, e, h, hj => by
    obtain rfl : j = i := by omega
    cases hp : p s[j]
    · rw [scan_stop hj hp] at h; omega
    · rfl
  | n + 1, i, j, e, h, hj => by
    have hi : i < s.size := by omega
    cases hp : p s[i]
    · rw [scan_stop hi hp] at h; omega
    · exact run_all n (i + 1) j (by omega) (by rw [scan_step hi hp]; exact h) hj
theorem run_is {p : UInt8 → Bool} {s : ByteArray} : ∀ (n i j : Nat), j = i + n → j ≤ s.size → (∀ k (hk : k < s.size), i ≤ k → k < j → p s[k] = true) → (∀ h : j < s.size, p s[j] = false) → scan p s i = j
  | 0, i, j, e, hj, _, h2 => by
    obtain rfl : j = i := by omega
    rcases Nat.lt_or_ge j s.size with h | h
    · exact scan_stop h (h2 h)
    · exact scan_end (by omega)
  | n + 1, i, j, e, hj, h1, h2 => by
    have hi : i < s.size := by omega
    rw [← scan_step hi (h1 i hi (Nat.le_refl _) (by omega))]
    exact run_is n (i + 1) j (by omega) hj (fun k hk a b => h1 k hk (by omega) b) h2
/-- Bytes that may be passed over anyhow. -/
theorem run_over {p : UInt8 → Bool} {s : ByteArray} : ∀ (n i j : Nat), j = i + n → j ≤ s.size → (∀ k (hk : k < s.size), i ≤ k → k < j → p s[k] = true) → scan p s i = scan p s j
  | 0, i, j, e, _, _ => by obtain rfl : j = i := by omega
                           rfl
  | n + 1, i, j, e, hj, h1 => by
    have hi : i < s.size := by omega
    rw [← scan_step hi (h1 i hi (Nat.le_refl _) (by omega))]
    exact run_over n (i + 1) j (by omega) hj (fun k hk a b => h1 k hk (by omega) b)
theorem back_is {p : UInt8 → Bool} {s : ByteArray} : ∀ (k m : Nat), k ≤ s.size → m ≤ k → (m = 0 ∨ ∃ h : m - 1 < s.size, p s[m - 1] = false) → (∀ i (hi : i < s.size), m ≤ i → i < k → p s[i] = true) → backN p s k = m
  | 0, m, _, hm, _, _ => by obtain rfl : m = 0 := by omega
                            rfl
  | k + 1, m, hk, hm, h1, h2 => by
    have hks : k < s.size := by omega
    rcases Nat.lt_or_ge m (k + 1) with h | h
    · rw [backN_step hks (h2 k hks (by omega) (by omega))]
      exact back_is k m (by omega) (by omega) h1 (fun i hi a b => h2 i hi a (by omega))
    · obtain rfl : m = k + 1 := by omega
      rcases h1 with h1 | ⟨h3, h1⟩
      · omega
      · exact backN_stop hks h1
theorem back_all {p : UInt8 → Bool} {s : ByteArray} : ∀ (k i : Nat), k ≤ s.size → backN p s k ≤ i → i < k → (hi : i < s.size) → p s[i] = true
  | k + 1, i, hk, h1, h2, hi => by
    have hks : k < s.size := by omega
    cases hp : p s[k]
    · rw [backN_stop hks hp] at h1; omega
    · rw [backN_step hks hp] at h1
      rcases Nat.lt_or_ge i k with h | h
      · exact back_all k i (by omega) h1 h hi
      · obtain rfl : i = k := by omega
        exact hp

theorem ext_get {s : ByteArray} {a b i : Nat} (h : i < (s.extract a b).size) (h2 : a + i < s.size) : (s.extract a b)[i] = s[a + i] := by
  rw [← getElem!_pos _ i h, ← getElem!_pos s (a + i) h2, extract_at h]
theorem ext_size (s : ByteArray) {a b : Nat} (h : b ≤ s.size) : (s.extract a b).size = b - a := by simp; omega

/-- A text without what may go at its front. -/
def frontP (p : UInt8 → Bool) (s : ByteArray) : ByteArray := s.extract (scan p s 0) s.size
theorem front_get {p : UInt8 → Bool} {s : ByteArray} {i : Nat} (h : i < (frontP p s).size) (h2 : scan p s 0 + i < s.size) : (frontP p s)[i] = s[scan p s 0 + i] := ext_get (s := s) (a := scan p s 0) (b := s.size) h h2
/-- Where what may go at the front ends, in a part of a text. -/
theorem run_part {p : UInt8 → Bool} {s : ByteArray} {f i : Nat} (hf : f ≤ i) (hi : i ≤ s.size) (h : scan p s f ≤ i) : scan p (s.extract f i) 0 = scan p s f - f := by
  have hz := ext_size s (a := f) hi
  have hg := scan_ge p s f
  refine run_is (scan p s f - f) 0 _ (by omega) (by omega) (fun k hk _ h2 => ?_) (fun hl => ?_)
  · rw [ext_get hk (by omega)]
    exact run_all k f (f + k) rfl (by omega) (by omega)
  · rw [ext_get hl (by omega)]
    have e : f + (scan p s f - f) = scan p s f := by omega
    simp only [e]
    exact scan_at (by omega) (by omega)
theorem none_eq {a b : ByteArray} (h : a.size = 0) (h' : b.size = 0) : a = b := by
  apply ByteArray.ext
  rw [Array.eq_empty_of_size_eq_zero (show a.data.size = 0 from h), Array.eq_empty_of_size_eq_zero (show b.data.size = 0 from h')]
theorem front_cut (p : UInt8 → Bool) (x : ByteArray) : frontP p (cutP p x) = cutP p (frontP p x) := by
  have hb := backN_le p x x.size
  have hle := scan_le p x 0 (Nat.zero_le _)
  have hzc := cutP_size p x
  have hzf : (frontP p x).size = x.size - scan p x 0 := ext_size x (Nat.le_refl _)
  rcases Nat.lt_or_ge (scan p x 0) x.size with h | h
  · have hat := scan_at (p := p) (Nat.zero_le _) h
    -- the cut lies behind the first byte that stays
    have hab : scan p x 0 < backN p x x.size := by
      rcases Nat.lt_or_ge (scan p x 0) (backN p x x.size) with h2 | h2
      · exact h2
      · rw [back_all x.size _ (Nat.le_refl _) h2 h h] at hat; cases hat
    have e1 : scan p (cutP p x) 0 = scan p x 0 := run_part (Nat.zero_le _) hb (by omega)
    have e2 : backN p (frontP p x) (frontP p x).size = backN p x x.size - scan p x 0 := by
      refine back_is _ _ (Nat.le_refl _) (by omega) (.inr ?_) (fun i hi h1 h2 => ?_)
      · have hl : backN p x x.size - scan p x 0 - 1 < (frontP p x).size := by omega
        refine ⟨hl, ?_⟩
        rw [front_get hl (by omega)]
        have e : scan p x 0 + (backN p x x.size - scan p x 0 - 1) = backN p x x.size - 1 := by omega
        simp only [e]
        rcases backN_at p x x.size with h3 | h3
        · omega
        · rw [getElem!_pos x _ (by omega)] at h3
          exact h3
      · rw [front_get hi (by omega)]
        exact back_all x.size _ (Nat.le_refl _) (by omega) (by omega) (by omega)
    have l1 : frontP p (cutP p x) = (cutP p x).extract (scan p x 0) (backN p x x.size) := by
      unfold frontP
      rw [e1, hzc]
    have r1 : cutP p (frontP p x) = (frontP p x).extract 0 (backN p x x.size - scan p x 0) := by
      rw [← e2]; rfl
    rw [l1, r1]
    have l2 : (cutP p x).extract (scan p x 0) (backN p x x.size) = x.extract (scan p x 0) (backN p x x.size) := by
      have h1 : cutP p x = x.extract 0 (backN p x x.size) := rfl
      rw [h1, ByteArray.extract_extract, Nat.zero_add, Nat.zero_add, Nat.min_self]
    have r2 : (frontP p x).extract 0 (backN p x x.size - scan p x 0) = x.extract (scan p x 0) (backN p x x.size) := by
      have h1 : frontP p x = x.extract (scan p x 0) x.size := rfl
      have h2 : scan p x 0 + (backN p x x.size - scan p x 0) = backN p x x.size := by omega
      rw [h1, ByteArray.extract_extract, Nat.add_zero, h2, Nat.min_eq_left hb]
    rw [l2, r2]
  · have e0 : backN p x x.size = 0 := back_is _ _ (Nat.le_refl _) (Nat.zero_le _) (.inl rfl) (fun i hi _ _ => run_all i 0 i (by omega) (by omega) hi)
    have z1 : (frontP p (cutP p x)).size = 0 := by
      unfold frontP
      have := scan_le p (cutP p x) 0 (Nat.zero_le _)
      rw [ext_size _ (Nat.le_refl _)]; omega
    have z2 : (cutP p (frontP p x)).size = 0 := by
      have := cutP_le p (frontP p x)
      omega
    exact none_eq z1 z2

theorem tab_goes (b : UInt8) : (!tabB b || !hasB stopP b) = true := bytes_all (p := fun b => !tabB b || !hasB stopP b) (by kernel_rfl) b
theorem pEnd_run {s : ByteArray} {k j : Nat} (hk : k ≤ s.size) (hj : j ≤ s.size) (h : runP s k = runP s j) : pEnd s k = pEnd s j := by
  rw [pEnd_step hk, pEnd_step hj, h]
theorem pEnd_from {s : ByteArray} {k : Nat} (hk : k ≤ s.size) : pEnd s (pFrom s k) = pEnd s k := by
  have h1 := pFrom_ge s k
  have h2 := pFrom_le hk
  refine (pEnd_run hk h2 ?_).symm
  refine run_over (pFrom s k - k) k (pFrom s k) (by omega) h2 (fun i hi a b => ?_)
  have h3 := run_all (p := tabB) (i - k) k i (by omega) b hi
  have h4 := tab_goes s[i]
  rw [h3] at h4
  simpa using h4
theorem pTo_is {s : ByteArray} {k : Nat} (hk : k ≤ s.size) : pTo s k = pEnd s k := pEnd_from hk
theorem piece_is {s : ByteArray} {k : Nat} (hk : k ≤ s.size) : piece s k = frontP tabB (cutP tabB (s.extract k (pEnd s k))) := by
  rw [front_cut]
  have h1 := pFrom_ge s k
  have h2 := pEnd_ge (pFrom_le hk)
  rw [pEnd_from hk] at h2
  have h3 := pEnd_le hk
  unfold piece frontP
  rw [pTo_is hk, run_part (by omega) h3 h2, ext_size s h3, ByteArray.extract_extract]
  congr 2 <;> (show _ = _) <;> first | (show pFrom s k = _; unfold pFrom at h1 ⊢; omega) | omega
theorem pEnd_over {s : ByteArray} {k : Nat} (h : k < s.size) (h1 : s[k].toNat ≠ 34) (h2 : s[k].toNat ≠ 44) : pEnd s (k + 1) = pEnd s k := by
  refine pEnd_run h (Nat.le_of_lt h) (scan_step h ?_)
  rw [stopP_has]
  simp [h1, h2]
theorem runP_here {s : ByteArray} {k : Nat} (h : k < s.size) (h1 : s[k].toNat = 34 ∨ s[k].toNat = 44) : runP s k = k := by
  refine scan_stop h ?_
  rw [stopP_has]
  rcases h1 with h1 | h1 <;> simp [h1]
theorem pEnd_here {s : ByteArray} {k : Nat} (h : k < s.size) (h1 : s[k].toNat = 44) : pEnd s k = k := by
  have e := runP_here h (.inr h1)
  have := pEnd_comma (Nat.le_of_lt h) (by rw [e]; exact h) (by simp only [e]; exact h1)
  rw [this, e]
theorem pEnd_read {s : ByteArray} {k : Nat} (h : k < s.size) (h1 : s[k].toNat = 34) : pEnd s (k + 1 + (quoS s (k + 1)).2) = pEnd s k := by
  have e := runP_here h (.inl h1)
  have := pEnd_quote (Nat.le_of_lt h) (by rw [e]; exact h) (by simp only [e]; exact h1)
  rw [this, e]
theorem pEnd_stop (s : ByteArray) : pEnd s s.size = s.size := pEnd_end (Nat.le_refl _) (scan_end rfl)

end Go.Proofs.Ytmepnfkgfbbkiaa
namespace Go.Proofs.Ytmepnfkgfbbkiaa
open Go.RowKit

theorem piece_end {s : ByteArray} {f i : Nat} (hf : f ≤ s.size) (h : pEnd s f = i) : frontP tabB (cutP tabB (s.extract f i)) = piece s f := by
  rw [piece_is hf, h]
theorem tail_read {s : ByteArray} {i : Nat} (_h : i ≤ s.size) (k : Nat) : quoS (s.extract i s.size) k = quoS s (i + k) := by
  unfold quoS
  rw [bytes_extract]
  have e : s.data.toList.take s.size = s.data.toList := List.take_of_length_le (by show s.data.toList.length ≤ s.data.size; simp)
  rw [e, List.drop_drop]

/-- What a call of the program's or the document's Values gives. -/
theorem vals_nil (w : World) (xs : List ByteArray) (h : xs.length = 0) : w.ownsRow w.heap.size 9 1 (.slice none 0 0) (valsL xs).length (strs (valsL xs)) := by
  unfold valsL
  rw [if_pos h]
  exact World.ownsRow_nil _ _ _ _

set_option maxHeartbeats 1000000 in
theorem values_any (A : Option Addr) (c : Nat) (xs : List ByteArray) (w : World) (h : TxIn w A xs) (hn : xs.length ≤ 1000) (hx : ∀ y ∈ xs, y.size ≤ 1000) (hc : xs.length ≤ c) :
    Calls Try.prog 34 #[.slice A xs.length c] w (NewStrs (valsL xs) w) := by
  have hj := joinS_size hx
  have HJ := Lib.hid (cjoin_any A c xs w h hn hx hc)
  have hnb : xs.length * (1000 + 2) ≤ 1000 * 1002 := Nat.mul_le_mul hn (Nat.le_refl _)
  have HS := Lib.hid (fun W => split_any (joinS xs) W (by omega))
  by_cases h0 : xs.length = 0
  · have HN := Lib.hid (fun W => vals_nil W xs h0)
    have d0 : ((xs.length : Int) == 0) = true := beq_iff_eq.2 (by omega)
    generalize valsL xs = L at *
    clear HJ HS h hx hj hnb h0
    go_enter Try.func34, Try.ntmps34
    go_wp2
    go_ret
    exact ⟨_, rfl, HN.out _, Below.refl _ _⟩
  · have d0 : ((xs.length : Int) == 0) = false := beq_eq_false_iff_ne.2 (by omega)
    have e : valsL xs = splitL (joinS xs) 0 := by unfold valsL; rw [if_neg h0]
    rw [e]
    clear e
    generalize splitL (joinS xs) 0 = L at HS ⊢
    generalize joinS xs = z at HJ HS
    clear h hx hj hnb h0
    go_enter Try.func34, Try.ntmps34
    go_wp2_with fail
    refine HJ.out.mono ?_
    rintro e w1 ⟨rfl, b1⟩
    have HB := Lib.hid b1
    clear b1
    go_wp2_with fail
    refine (HS.out _).mono ?_
    rintro e w2 ⟨v, rfl, ho, b2⟩
    have HO := Lib.hid (own_base ho HB.out.size)
    have HB2 := Lib.hid (below_on HB.out b2)
    clear ho b2
    go_wp2
    go_ret
    exact ⟨v, rfl, HO.out, HB2.out⟩

end Go.Proofs.Ytmepnfkgfbbkiaa
