/-
  The table of which bytes are among some, as an array in memory. No condition.
  What Until does to a cursor. Conditions as in Cursor.
  What Collect of layer 4 does to a cursor, and what it answers. Conditions: the place lies in the text, which takes at most 2^47 bytes.
-/
import Derived.Test.YtighgoefmccagaaRows
import Derived.Test.YtighgoefmccagaaZ1
import Derived.WalkKit
import Derived.KernelRfl
import Derived.Test.YtighgoefmccagaaZ6
import Derived.Test.YtighgoefmccagaaZ2
import Derived.Deep.RegionWith
namespace Go.Proofs.Ytighgoefmccagaa
open Go.RowKit

/-- The table of which bytes are among some. -/
def tbl (l : List UInt8) : Array Value := ((List.range 256).map fun c => Value.bool (l.contains (UInt8.ofNat c))).toArray
theorem tbl_at (l : List UInt8) (b : UInt8) : (tbl l)[b.toNat]? = some (.bool (l.contains b)) := by
  have := b.toNat_lt
  simp only [tbl, List.getElem?_toArray]
  rw [List.getElem?_eq_getElem (by simp; omega)]
  simp
theorem tbl_set (l : List UInt8) (b : UInt8) : (tbl l).setIfInBounds b.toNat (.bool true) = tbl (l ++ [b]) := by
  apply Array.ext
  · simp [tbl]
  · intro i h1 h2
    rw [Array.getElem_setIfInBounds (by simpa using h1)]
    simp only [tbl, List.getElem_toArray, List.getElem_map, List.getElem_range]
    have hi : i < 256 := by simpa [tbl] using h2
    split
    · next h =>
      subst h
      simp
    · next h =>
      have : UInt8.ofNat i ≠ b := by
        intro e
        apply h
        rw [← e]
        simp
        omega
      simp [this]

set_option maxRecDepth 100000 in
theorem zero_tbl (w : World) : (zeroValue 99).run Try.prog w = .ok (.agg (tbl [])) w := by kernel_rfl

end Go.Proofs.Ytighgoefmccagaa
namespace Go.Proofs.Ytighgoefmccagaa
open Go.RowKit

set_option maxHeartbeats 1000000 in
set_option maxRecDepth 100000 in
theorem until_any (cb k : Nat) (s t : ByteArray) (w : World) (h : Cur w cb s k) (hk : k ≤ s.size) (hs : s.size ≤ 9223372036854775807) (ht : t.size ≤ 9223372036854775807) :
    Calls Try.prog 41 #[cptr cb, .string t] w fun e w' => e = .returned (.string (s.extract k (scan (fun b => !hasB t b) s k))) ∧ Mv w.heap.size [cb] w w' ∧ Cur w' cb s (scan (fun b => !hasB t b) s k) := by
  have c1 := h.c1
  have lc := h.lt
  have HC := Lib.hid h
  have hz := zero_tbl
  clear h
  go_enter Try.func41, Try.ntmps41
  go_wp2
  go_loopw [12] (fun i wr => ∃ m : Nat, m ≤ t.size ∧ i = .int .i64 m ∧ Blk wr w.heap.size 99 (tbl (t.data.toList.take m)) ∧ Below w.heap.size w wr) (fun i _ => t.size - (intOf i).toNat)
  case atStart => exact ⟨0, by omega, rfl, Blk.new _ _ _, (Below.refl _ _).alloc (Nat.le_refl _) _⟩
  case round =>
    obtain ⟨m, hm, rfl, hb, hw⟩ := hrel
    have HW := Lib.hid hw
    have HBk := Lib.hid hb
    by_cases hlt : m < t.size
    · have hu : (t[m].toNat : Int) < 256 := by have := t[m].toNat_lt; omega
      have hu2 : t[m].toNat < 256 := by omega
      have e0 : wr.cell? ⟨w.heap.size, t[m].toNat, none⟩ = some (.bool ((t.data.toList.take m).contains t[m])) := (hb.cell _).trans (tbl_at _ _)
      have z0 : wr.frozen? ⟨w.heap.size, t[m].toNat, none⟩ = false := hb.frozen _
      have HX : Hid (Blk (wr.setCell ⟨w.heap.size, t[m].toNat, none⟩ (.bool true)) w.heap.size 99 (tbl (t.data.toList.take (m + 1)))) := by
        have := hb.set_ t[m].toNat (.bool true)
        rw [tbl_set, ← take_snoc t m hlt] at this
        exact this
      clear hb hw
      go_wp2
      go_roundw
      case rel => exact ⟨m + 1, by omega, by go_num, HX.out, HW.out.setCell (by simp) _⟩
      case measure => simp [intOf]; omega
    · obtain rfl : m = t.size := by omega
      have hc : Cur wr cb s k := HC.out.below hw lc
      have e0 := Cur.c0 hc
      have e1 := Cur.c1 hc
      have HC2 := Lib.hid hc
      have HT : Hid (Blk wr w.heap.size 99 (tbl t.data.toList)) := by
        have := hb
        rwa [List.take_of_length_le (by simp)] at this
      clear hb hw hc HBk
      go_wp2
      go_loop [7] (fun i => ∃ m : Nat, k ≤ m ∧ m ≤ s.size ∧ i = .int .i64 m ∧ scan (fun b => !hasB t b) s m = scan (fun b => !hasB t b) s k) (fun i => s.size - (intOf i).toNat)
      case atStart => exact ⟨k, by omega, hk, rfl, rfl⟩
      case round =>
        obtain ⟨m, hkm, hms, rfl, hsc⟩ := hrel
        have HS := Lib.hid hsc
        clear hsc
        by_cases hlt : m < s.size
        · have hu : (s[m].toNat : Int) < 256 := by have := s[m].toNat_lt; omega
          have hu2 : s[m].toNat < 256 := by omega
          have HG : Hid (wr.cell? ⟨w.heap.size, s[m].toNat, none⟩ = some (.bool (hasB t s[m]))) := (Blk.cell HT.out _).trans (tbl_at _ _)
          cases hb : hasB t s[m]
          · have e5 : wr.cell? ⟨w.heap.size, s[m].toNat, none⟩ = some (.bool false) := by rw [HG.out, hb]
            have HF : Hid (scan (fun b => !hasB t b) s (m + 1) = scan (fun b => !hasB t b) s m) := scan_step hlt (by simp [hb])
            clear hb
            go_wp2
            go_round
            case rel => exact ⟨m + 1, by omega, by omega, by go_num, HF.out.trans HS.out⟩
            case measure => simp [intOf]; omega
          · have e5 : wr.cell? ⟨w.heap.size, s[m].toNat, none⟩ = some (.bool true) := by rw [HG.out, hb]
            have HF : Hid (scan (fun b => !hasB t b) s m = m) := scan_stop hlt (by simp [hb])
            have HP := Lib.hid (passTo_any cb k m s wr HC2.out hkm hms hs)
            clear hb
            go_wp2_with (go_at_call 56; refine HP.out.mono ?_; rintro e w2 ⟨rfl, hw2⟩; have HW2 := Lib.hid hw2; clear hw2)
            go_ret
            rw [← HS.out, HF.out]
            exact ⟨rfl, by rw [HW2.out]; exact (Mv.of_below HW.out _).setCell (.inl (by simp)) _, by rw [HW2.out]; exact Cur.set HC2.out m⟩
        · obtain rfl : m = s.size := by omega
          have HF : Hid (scan (fun b => !hasB t b) s s.size = s.size) := scan_end rfl
          have HP := Lib.hid (passTo_any cb k s.size s wr HC2.out hkm hms hs)
          go_wp2_with (go_at_call 56; refine HP.out.mono ?_; rintro e w2 ⟨rfl, hw2⟩; have HW2 := Lib.hid hw2; clear hw2)
          go_ret
          rw [← HS.out, HF.out]
          exact ⟨rfl, by rw [HW2.out]; exact (Mv.of_below HW.out _).setCell (.inl (by simp)) _, by rw [HW2.out]; exact Cur.set HC2.out s.size⟩

end Go.Proofs.Ytighgoefmccagaa
namespace Go.Proofs.Ytighgoefmccagaa
open Go.RowKit

set_option maxHeartbeats 400000 in
theorem takeEscaped_end (cb k : Nat) (s : ByteArray) (w : World) (h : Cur w cb s k) (hk : k = s.size) (hs : s.size ≤ 9223372036854775807) :
    Calls Try.prog 81 #[cptr cb] w fun e w' => e = .returned (.string ⟨#[92]⟩) ∧ ∃ m, w' = w.drewN m := by
  have HE := Lib.hid (fun W (hW : Cur W cb s k) => end_any cb k s W hW (by omega) hs)
  rw [decide_eq_true hk] at HE
  clear hk
  go_enter Try.func81, Try.ntmps81
  go_wp2_with (go_at_call 79; refine (HE.out _ h).mono ?_; rintro e w1 ⟨rfl, n, rfl⟩)
  go_ret
  exact ⟨rfl, _, rfl⟩

set_option maxHeartbeats 400000 in
theorem takeEscaped_byte (cb k : Nat) (s : ByteArray) (w : World) (h : Cur w cb s k) (hk : k < s.size) (hs : s.size ≤ 9223372036854775807) :
    Calls Try.prog 81 #[cptr cb] w fun e w' => e = .returned (.string (s.extract k (k + 1))) ∧ ∃ m, w' = (w.drewN m).setCell ⟨cb, 1, none⟩ (.int .i64 (k + 1 : Nat)) := by
  have HE := Lib.hid (fun W (hW : Cur W cb s k) => end_any cb k s W hW (by omega) hs)
  rw [decide_eq_false (by omega)] at HE
  have HT := Lib.hid (fun W (hW : Cur W cb s k) => take_ok cb k 1 s W hW (by omega) hs)
  go_enter Try.func81, Try.ntmps81
  go_wp2_with (first
    | (go_at_call 79; refine (HE.out _ h).mono ?_; rintro e w1 ⟨rfl, n, rfl⟩)
    | (go_at_call 64; refine (HT.out _ (h.drewN _)).mono ?_; rintro e w2 ⟨rfl, m, rfl⟩))
  go_ret
  exact ⟨rfl, _, rfl⟩

/-- How many bytes a cursor has gone by. -/
def curAt (w : World) (cb : Nat) : Nat := match w.cell? ⟨cb, 1, none⟩ with
  | some (.int _ n) => n.toNat
  | _ => 0
theorem curAt_of {w : World} {cb k : Nat} {s : ByteArray} (h : Cur w cb s k) : curAt w cb = k := by
  unfold curAt
  rw [h.c1]
  simp

theorem Mv.chain {B : Nat} {r : List Nat} {a b c : World} (h : Mv B r a b) (k : Mv b.heap.size r b c) (hB : B ≤ a.heap.size) : Mv B r a c :=
  h.trans (k.mono (Nat.le_trans hB h.size) fun _ hx => .inl hx)
theorem Mv.put {cb k : Nat} {s : ByteArray} {w w' : World} {j : Nat} (h : Cur w cb s k) (he : ∃ m, w' = (w.drewN m).setCell ⟨cb, 1, none⟩ (.int .i64 j)) : Mv w.heap.size [cb] w w' ∧ Cur w' cb s j := by
  obtain ⟨m, rfl⟩ := he
  exact ⟨((Mv.refl _ _ _).drewN m).setCell (.inl (by simp)) _, Cur.set (Blk.drewN h m) j⟩
theorem Mv.idle {B : Nat} {r : List Nat} {w w' : World} (he : ∃ m, w' = w.drewN m) : Mv B r w w' := by
  obtain ⟨m, rfl⟩ := he
  exact (Mv.refl _ _ _).drewN m

set_option maxHeartbeats 2000000 in
theorem takeToQuote_any (cb k0 : Nat) (s : ByteArray) (w : World) (h : Cur w cb s k0) (hk0 : k0 ≤ s.size) (hs : s.size ≤ 140737488355328) :
    Calls Try.prog 62 #[cptr cb] w fun e w' => e = .returned (.string ⟨(quoS s k0).1.toArray⟩) ∧ Mv w.heap.size [cb] w w' ∧ Cur w' cb s (k0 + (quoS s k0).2) := by
  have hs' : s.size ≤ 9223372036854775807 := by omega
  have lc := h.lt
  have HC := Lib.hid h
  have HN := Lib.hid (Bld.new w)
  clear h
  go_enter Try.func62, Try.ntmps62
  go_wp2
  go_loopw [4] (fun _ wr => ∃ (k : Nat) (l : List UInt8), k ≤ s.size ∧ l.length ≤ k ∧ Cur wr cb s k ∧ Bld w.heap.size w.heap.size l wr ∧ Mv w.heap.size [cb] w wr ∧ l ++ (quoS s k).1 = (quoS s k0).1 ∧ k + (quoS s k).2 = k0 + (quoS s k0).2) (fun _ wr => s.size - curAt wr cb)
  case atStart => exact ⟨k0, [], hk0, Nat.zero_le _, HC.out.alloc _, HN.out, (Mv.refl _ _ _).alloc (Nat.le_refl _) _, by simp, rfl⟩
  case round =>
    obtain ⟨k, l, hk, hl, hc, hb, hm, ht, hn⟩ := hrel
    have hge := runQ_ge s k
    have hle := runQ_le s k hk
    have hrun := quoS_run hk
    have HU : Hid (Calls Try.prog 41 #[cptr cb, .string ⟨#[34, 92]⟩] wr fun e w' => e = .returned (.string (s.extract k (runQ s k))) ∧ Mv wr.heap.size [cb] wr w' ∧ Cur w' cb s (runQ s k)) := until_any cb k s stopQ wr hc hk hs' (by rw [stopQ_size]; omega)
    obtain ⟨j, hj⟩ : ∃ j, j = runQ s k := ⟨_, rfl⟩
    have HJ := Lib.hid (fun h : runQ s k < s.size => runQ_at hk h)
    rw [← hj] at hge hle hrun HU HJ
    clear hj
    have hx : (s.extract k j).data.toList.length = j - k := by simp; omega
    have hxs : (s.extract k j).size = j - k := by simp; omega
    have HT := Lib.hid (show (l ++ (s.extract k j).data.toList) ++ (quoS s j).1 = (quoS s k0).1 from by rw [← ht, hrun]; simp)
    have HK := Lib.hid (show j + (quoS s j).2 = k0 + (quoS s k0).2 from by rw [← hn, hrun]; simp only []; omega)
    have HL := Lib.hid (show (l ++ (s.extract k j).data.toList).length ≤ j from by rw [List.length_append, hx]; omega)
    obtain ⟨l2, hl2⟩ : ∃ l2, l2 = l ++ (s.extract k j).data.toList := ⟨_, rfl⟩
    have hw : l.length + (s.extract k j).size ≤ 140737488355328 := by omega
    have HW : Hid (∀ W, Bld w.heap.size w.heap.size l W → w.heap.size ≤ W.heap.size → Calls Try.prog 40 #[.pointer (some ⟨w.heap.size, 0, none⟩), .string (s.extract k j)] W fun e w' => e = .returned (.tuple #[.int .i64 ((s.extract k j).size : Nat), .nilIface]) ∧ Bld w.heap.size w.heap.size l2 w' ∧ Below w.heap.size W w') := fun W h1 h2 => by
      rw [hl2]
      exact writeString_any _ _ l _ W h1 hw h2
    rw [← hl2] at HT HL
    have HM := Lib.hid hm
    have HB := Lib.hid hb
    have HA := Lib.hid (curAt_of hc)
    clear ht hn hrun hx hb hm hc hxs hl hw hl2
    obtain ⟨x, hx⟩ : ∃ x, x = s.extract k j := ⟨_, rfl⟩
    rw [← hx] at HU HW
    clear hx
    go_wp2_with fail
    refine HU.out.mono ?_
    rintro e w1 ⟨rfl, m1, c1⟩
    have HB1 := Lib.hid (HB.out.mv m1 (by simpa using lc))
    have HM1 := Lib.hid (HM.out.chain m1 (Nat.le_refl _))
    have HC1 := Lib.hid c1
    clear m1 c1
    go_wp2_with fail
    refine (HW.out _ HB1.out HM1.out.size).mono ?_
    rintro e w2 ⟨rfl, b2, m2⟩
    have HB2 := Lib.hid b2
    have HM2 := Lib.hid (HM1.out.trans (Mv.of_below m2 [cb]))
    have HC2 := Lib.hid (Blk.below HC1.out m2 lc)
    clear b2 m2 HB1 HM1 HC1 HU HW
    have HE := Lib.hid (fun W (hW : Cur W cb s j) => end_any cb j s W hW hle hs')
    by_cases hjs : j = s.size
    · rw [decide_eq_true hjs] at HE
      have HQ := Lib.hid (quoS_end (s := s) (k := j) (by omega))
      clear hjs
      go_wp2_with fail
      refine (HE.out _ HC2.out).mono ?_
      rintro e w3 ⟨rfl, i3⟩
      have m3 : Mv w2.heap.size [cb] w2 w3 := Mv.idle i3
      have HB3 := Lib.hid (HB2.out.mv m3 (by simpa using lc))
      have HM3 := Lib.hid (HM2.out.chain m3 (Nat.le_refl _))
      have HC3 : Hid (Cur w3 cb s j) := by obtain ⟨n, rfl⟩ := i3; exact Blk.drewN HC2.out n
      clear i3 m3
      go_wp2_with fail
      refine (string_any _ _ l2 _ HB3.out HM3.out.size).mono ?_
      rintro e w4 ⟨rfl, _, m4⟩
      have HM4 := Lib.hid (HM3.out.trans (Mv.of_below m4 [cb]))
      have HC4 := Lib.hid (Blk.below HC3.out m4 lc)
      clear m4
      go_wp2
      go_ret
      have ht := HT.out
      have hk := HK.out
      rw [HQ.out] at ht hk
      rw [← ht, ← hk]
      exact ⟨by simp, HM4.out, HC4.out⟩
    · rw [decide_eq_false hjs] at HE
      have hlt : j < s.size := by omega
      have HN := Lib.hid (fun W (hW : Cur W cb s j) => next_ok cb j s W hW hlt hs')
      clear hjs
      by_cases hq : s[j].toNat = 34
      · have HQ := Lib.hid (quoS_quote hlt hq)
        have d1 : ((s[j].toNat : Int) == 34) = true := by rw [hq]; rfl
        clear hq
        go_wp2_with fail
        refine (HE.out _ HC2.out).mono ?_
        rintro e w3 ⟨rfl, i3⟩
        have m3 : Mv w2.heap.size [cb] w2 w3 := Mv.idle i3
        have HB3 := Lib.hid (HB2.out.mv m3 (by simpa using lc))
        have HM3 := Lib.hid (HM2.out.chain m3 (Nat.le_refl _))
        have HC3 : Hid (Cur w3 cb s j) := by obtain ⟨n, rfl⟩ := i3; exact Blk.drewN HC2.out n
        clear i3 m3
        go_wp2_with fail
        refine (HN.out _ HC3.out).mono ?_
        rintro e w4 ⟨rfl, i4⟩
        obtain ⟨m4, c4⟩ := Mv.put HC3.out i4
        have HB4 := Lib.hid (HB3.out.mv m4 (by simpa using lc))
        have HM4 := Lib.hid (HM3.out.chain m4 (Nat.le_refl _))
        have HC4 := Lib.hid c4
        clear i4 m4 c4
        go_wp2_with fail
        refine (string_any _ _ l2 _ HB4.out HM4.out.size).mono ?_
        rintro e w5 ⟨rfl, _, m5⟩
        have HM5 := Lib.hid (HM4.out.trans (Mv.of_below m5 [cb]))
        have HC5 := Lib.hid (Blk.below HC4.out m5 lc)
        clear m5
        go_wp2
        go_ret
        have ht := HT.out
        have hk := HK.out
        rw [HQ.out] at ht hk
        rw [← ht, ← hk]
        exact ⟨by simp, HM5.out, HC5.out⟩
      · have hs92 : s[j].toNat = 92 := by rcases HJ.out hlt with h | h; exact absurd h hq; exact h
        have d1 : ((s[j].toNat : Int) == 34) = false := by rw [hs92]; rfl
        clear hq
        by_cases hlast : j + 1 = s.size
        · have HQ := Lib.hid (quoS_slash_end hlt hlast hs92)
          have HP := Lib.hid hlast
          clear hs92 hlast
          go_wp2_with fail
          refine (HE.out _ HC2.out).mono ?_
          rintro e w3 ⟨rfl, i3⟩
          have m3 : Mv w2.heap.size [cb] w2 w3 := Mv.idle i3
          have HB3 := Lib.hid (HB2.out.mv m3 (by simpa using lc))
          have HM3 := Lib.hid (HM2.out.chain m3 (Nat.le_refl _))
          have HC3 : Hid (Cur w3 cb s j) := by obtain ⟨n, rfl⟩ := i3; exact Blk.drewN HC2.out n
          clear i3 m3
          go_wp2_with fail
          refine (HN.out _ HC3.out).mono ?_
          rintro e w4 ⟨rfl, i4⟩
          obtain ⟨m4, c4⟩ := Mv.put HC3.out i4
          have HB4 := Lib.hid (HB3.out.mv m4 (by simpa using lc))
          have HM4 := Lib.hid (HM3.out.chain m4 (Nat.le_refl _))
          have HC4 := Lib.hid c4
          clear i4 m4 c4
          go_wp2_with fail
          refine (takeEscaped_end cb (j + 1) s _ HC4.out HP.out hs').mono ?_
          rintro e w5 ⟨rfl, i5⟩
          have m5 : Mv w4.heap.size [cb] w4 w5 := Mv.idle i5
          have HB5 := Lib.hid (HB4.out.mv m5 (by simpa using lc))
          have HM5 := Lib.hid (HM4.out.chain m5 (Nat.le_refl _))
          have HC5 : Hid (Cur w5 cb s (j + 1)) := by obtain ⟨n, rfl⟩ := i5; exact Blk.drewN HC4.out n
          clear i5 m5
          go_wp2_with fail
          refine (writeString_any _ _ l2 ⟨#[92]⟩ _ HB5.out (by have := HL.out; show l2.length + 1 ≤ _; omega) HM5.out.size).mono ?_
          rintro e w6 ⟨rfl, b6, m6⟩
          have HB6 := Lib.hid b6
          have HM6 := Lib.hid (HM5.out.trans (Mv.of_below m6 [cb]))
          have HC6 := Lib.hid (Blk.below HC5.out m6 lc)
          clear b6 m6
          go_wp2
          go_roundw
          case rel =>
            have hq2 := quoS_end (s := s) (k := j + 1) (by have := HP.out; omega)
            have ht := HT.out
            have hk := HK.out
            rw [HQ.out] at ht hk
            exact ⟨j + 1, l2 ++ [92], by have := HP.out; omega, by simpa using HL.out, HC6.out, HB6.out, HM6.out, by rw [hq2]; simpa using ht, by rw [hq2]; omega⟩
          case measure => rw [HA.out, curAt_of HC6.out]; omega
        · have hlt2 : j + 1 < s.size := by omega
          have HQ := Lib.hid (quoS_slash hlt2 hs92)
          have HX1 := Lib.hid (show (s.extract (j + 1) (j + 1 + 1)).data.toList = [s[j + 1]] from by rw [bytes_extract_cons (by omega) (by omega), bytes_extract_none])
          have HZ := Lib.hid (show (s.extract (j + 1) (j + 1 + 1)).size = 1 from by simp; omega)
          have HTE := Lib.hid (fun W (hW : Cur W cb s (j + 1)) => takeEscaped_byte cb (j + 1) s W hW hlt2 hs')
          obtain ⟨y, hy⟩ : ∃ y, y = s.extract (j + 1) (j + 1 + 1) := ⟨_, rfl⟩
          rw [← hy] at HX1 HTE HZ
          clear hs92 hlast hy
          go_wp2_with fail
          refine (HE.out _ HC2.out).mono ?_
          rintro e w3 ⟨rfl, i3⟩
          have m3 : Mv w2.heap.size [cb] w2 w3 := Mv.idle i3
          have HB3 := Lib.hid (HB2.out.mv m3 (by simpa using lc))
          have HM3 := Lib.hid (HM2.out.chain m3 (Nat.le_refl _))
          have HC3 : Hid (Cur w3 cb s j) := by obtain ⟨n, rfl⟩ := i3; exact Blk.drewN HC2.out n
          clear i3 m3
          go_wp2_with fail
          refine (HN.out _ HC3.out).mono ?_
          rintro e w4 ⟨rfl, i4⟩
          obtain ⟨m4, c4⟩ := Mv.put HC3.out i4
          have HB4 := Lib.hid (HB3.out.mv m4 (by simpa using lc))
          have HM4 := Lib.hid (HM3.out.chain m4 (Nat.le_refl _))
          have HC4 := Lib.hid c4
          clear i4 m4 c4
          go_wp2_with fail
          refine (HTE.out _ HC4.out).mono ?_
          rintro e w5 ⟨rfl, i5⟩
          obtain ⟨m5, c5⟩ := Mv.put HC4.out i5
          have HB5 := Lib.hid (HB4.out.mv m5 (by simpa using lc))
          have HM5 := Lib.hid (HM4.out.chain m5 (Nat.le_refl _))
          have HC5 := Lib.hid c5
          clear i5 m5 c5
          go_wp2_with fail
          refine (writeString_any _ _ l2 y _ HB5.out (by have := HL.out; have := HZ.out; omega) HM5.out.size).mono ?_
          rintro e w6 ⟨rfl, b6, m6⟩
          have HB6 := Lib.hid b6
          have HM6 := Lib.hid (HM5.out.trans (Mv.of_below m6 [cb]))
          have HC6 := Lib.hid (Blk.below HC5.out m6 lc)
          clear b6 m6
          go_wp2
          go_roundw
          case rel =>
            have ht := HT.out
            have hk := HK.out
            rw [HQ.out] at ht hk
            exact ⟨j + 1 + 1, l2 ++ y.data.toList, by omega, by rw [HX1.out]; have := HL.out; simp; omega, HC6.out, HB6.out, HM6.out, by rw [HX1.out]; simpa using ht, by simp only [] at hk; omega⟩
          case measure => rw [HA.out, curAt_of HC6.out]; omega

theorem prefB_one {s : ByteArray} {k : Nat} (h : k < s.size) (c : UInt8) : prefB (s.extract k s.size) ⟨#[c]⟩ = (s[k].toNat == c.toNat) := by
  have h1 : (⟨#[c]⟩ : ByteArray).size = 1 := rfl
  have h2 : ((s.extract k s.size).extract 0 1).toList = [s[k]] := by
    rw [Lib.toList_data, ByteArray.extract_extract, bytes_extract_cons (by omega) (by omega)]
    have e : min (k + 1) s.size = k + 1 := by omega
    simp [e]
  unfold prefB
  rw [h1, h2, decide_eq_true (by simp; omega)]
  have h3 : (⟨#[c]⟩ : ByteArray).toList = [c] := by rw [Lib.toList_data]
  rw [h3, Bool.true_and, Bool.eq_iff_iff]
  simp [← UInt8.toNat_inj]
theorem prefB_none {s : ByteArray} {k : Nat} (h : s.size ≤ k) (c : UInt8) : prefB (s.extract k s.size) ⟨#[c]⟩ = false := by
  have h1 : (⟨#[c]⟩ : ByteArray).size = 1 := rfl
  unfold prefB
  rw [h1, decide_eq_false (by simp; omega)]
  rfl

set_option maxHeartbeats 1000000 in
theorem collect_said (cb k : Nat) (s : ByteArray) (w : World) (h : Cur w cb s k) (hk : k < s.size) (hq : s[k].toNat = 34) (hs : s.size ≤ 140737488355328) :
    Calls Try.prog 45 #[cptr cb, .bool true] w fun e w' => e = .returned (.string ⟨(quoS s (k + 1)).1.toArray⟩) ∧ Mv w.heap.size [cb] w w' ∧ Cur w' cb s (k + 1 + (quoS s (k + 1)).2) := by
  have hs' : s.size ≤ 9223372036854775807 := by omega
  have HS := Lib.hid (fun W (hW : Cur W cb s k) => skip_yes cb k s ⟨#[34]⟩ W hW (by omega) hs' (by show 1 ≤ _; omega) (by rw [prefB_one hk, hq]; rfl) (by show k + 1 ≤ _; omega))
  have HT := Lib.hid (fun W (hW : Cur W cb s (k + 1)) => takeToQuote_any cb (k + 1) s W hW (by omega) hs)
  clear hq
  go_enter Try.func45, Try.ntmps45
  go_wp2_with fail
  refine (at_any cb k s _ h).mono ?_
  rintro e w1 ⟨rfl, rfl⟩
  go_wp2_with fail
  refine (HS.out _ h).mono ?_
  rintro e w1 ⟨rfl, i1⟩
  obtain ⟨m1, c1⟩ := Mv.put (j := k + 1) h i1
  have HM1 := Lib.hid m1
  have HC1 := Lib.hid c1
  clear i1 m1 c1
  go_wp2_with fail
  refine (check_ok _ _ _).mono ?_
  rintro e w2 ⟨rfl, rfl⟩
  go_wp2_with fail
  refine (HT.out _ HC1.out).mono ?_
  rintro e w3 ⟨rfl, m3, c3⟩
  have HM3 := Lib.hid (HM1.out.chain m3 (Nat.le_refl _))
  have HC3 := Lib.hid c3
  clear m3 c3
  go_wp2
  go_ret
  exact ⟨rfl, HM3.out, HC3.out⟩

set_option maxHeartbeats 1000000 in
theorem collect_all (cb k : Nat) (s : ByteArray) (w : World) (h : Cur w cb s k) (hk : k < s.size) (hq : s[k].toNat = 34) (hs : s.size ≤ 140737488355328) :
    Calls Try.prog 45 #[cptr cb, .bool false] w fun e w' => e = .returned (.string (s.extract k (k + 1 + (quoS s (k + 1)).2))) ∧ Mv w.heap.size [cb] w w' ∧ Cur w' cb s (k + 1 + (quoS s (k + 1)).2) := by
  have hs' : s.size ≤ 9223372036854775807 := by omega
  have hle := quoS_le (s := s) (k := k + 1) (by omega)
  have HS := Lib.hid (fun W (hW : Cur W cb s k) => skip_yes cb k s ⟨#[34]⟩ W hW (by omega) hs' (by show 1 ≤ _; omega) (by rw [prefB_one hk, hq]; rfl) (by show k + 1 ≤ _; omega))
  have HT := Lib.hid (fun W (hW : Cur W cb s (k + 1)) => takeToQuote_any cb (k + 1) s W hW (by omega) hs)
  obtain ⟨n, hn⟩ : ∃ n, n = 1 + (quoS s (k + 1)).2 := ⟨_, rfl⟩
  have e1 : k + 1 + (quoS s (k + 1)).2 = k + n := by omega
  have hle2 : k + n ≤ s.size := by omega
  rw [e1]
  rw [e1] at HT
  clear hq hn hle e1
  have g1 : (k : Int) + (n : Int) - (k : Int) = (n : Int) := by omega
  have HK := Lib.hid (fun W (hW : Cur W cb s k) => take_ok cb k n s W hW (by omega) hs')
  go_enter Try.func45, Try.ntmps45
  go_wp2_with fail
  refine (at_any cb k s _ h).mono ?_
  rintro e w1 ⟨rfl, rfl⟩
  go_wp2_with fail
  refine (HS.out _ h).mono ?_
  rintro e w1 ⟨rfl, i1⟩
  obtain ⟨m1, c1⟩ := Mv.put (j := k + 1) h i1
  have HM1 := Lib.hid m1
  have HC1 := Lib.hid c1
  clear i1 m1 c1
  go_wp2_with fail
  refine (check_ok _ _ _).mono ?_
  rintro e w2 ⟨rfl, rfl⟩
  go_wp2_with fail
  refine (HT.out _ HC1.out).mono ?_
  rintro e w3 ⟨rfl, m3, c3⟩
  have HM3 := Lib.hid (HM1.out.chain m3 (Nat.le_refl _))
  have HC3 := Lib.hid c3
  clear m3 c3
  go_wp2_with fail
  refine (at_any cb (k + n) s _ HC3.out).mono ?_
  rintro e w4 ⟨rfl, rfl⟩
  go_wp2_with fail
  refine (back_ok cb (k + n) k s _ HC3.out (by omega)).mono ?_
  rintro e w5 ⟨rfl, i5⟩
  obtain ⟨m5, c5⟩ := Mv.put HC3.out i5
  have HM5 := Lib.hid (HM3.out.chain m5 (Nat.le_refl _))
  have HC5 := Lib.hid c5
  clear i5 m5 c5
  go_wp2_with fail
  refine (HK.out _ HC5.out).mono ?_
  rintro e w6 ⟨rfl, i6⟩
  obtain ⟨m6, c6⟩ := Mv.put HC5.out i6
  have HM6 := Lib.hid (HM5.out.chain m6 (Nat.le_refl _))
  have HC6 := Lib.hid c6
  clear i6 m6 c6
  go_wp2
  go_ret
  exact ⟨rfl, HM6.out, HC6.out⟩

end Go.Proofs.Ytighgoefmccagaa
