/-
  What the document's own Read and Serial of layer 4 answer. Condition: the text takes at most 2^45 bytes.
  What the document's functions of one text, of layer 10, answer, and what it says of parameters. Conditions: texts are as long as a length can be.
  What Clean, isBad and isNamed of package header answer, and the document's Fine. Conditions: a name is as long as a length can be, a value has less than 4294967281 bytes.
-/
import Derived.Test.YtighgoefmccagaaGreatZ14
import Derived.Test.YtighgoefmccagaaGreatZ2
import Derived.LoopTactic
import Derived.WalkKit
import Derived.WalkSpells
import Derived.WalkLawsBesides
import Derived.Lib.Hide
import Derived.Outline
import Derived.Test.YtighgoefmccagaaGreatZ11
import Derived.Test.YtighgoefmccagaaGreatZ3
import Derived.Test.YtighgoefmccagaaGreatZ10
import Derived.Test.YtighgoefmccagaaGreatZ9
import Derived.Test.YtighgoefmccagaaGreatZ5
import Derived.Test.YtighgoefmccagaaGreatZ4
import Derived.Test.YtighgoefmccagaaGreatRows
import Derived.Laws.RangeAny
import Derived.Laws.Runes
import Derived.Lib.OthersKept
import Derived.Deep.LoopGhost
import Derived.BigQuiet
import Derived.IntWalk
namespace Go.Proofs.YtighgoefmccagaaGreat
open Go.RowKit

theorem arr_one (l : List UInt8) (b : UInt8) : (⟨l.toArray⟩ : ByteArray) ++ ⟨#[b]⟩ = ⟨(l ++ [b]).toArray⟩ := by
  apply ByteArray.ext
  rw [ByteArray.data_append]
  simp

set_option maxHeartbeats 2000000 in
theorem refRead_any (s : ByteArray) (w : World) (h0 : 0 < s.size) (hs : s.size ≤ 35184372088832) :
    Calls Tryz.prog 57 #[.string s] w fun e w' => e = .returned (.tuple #[.string ⟨(quoS s 1).1.toArray⟩, .int .i64 (1 + (quoS s 1).2 : Nat)]) ∧ Below w.heap.size w w' := by
  go_enter Tryz.func57, Tryz.ntmps57
  go_wp2
  go_loopw [4, 5] (fun o i wr => ∃ (k : Nat) (l : List UInt8), k ≤ s.size ∧ l.length ≤ k ∧ o = .string ⟨l.toArray⟩ ∧ i = .int .i64 k ∧ Below w.heap.size w wr ∧ l ++ (quoS s k).1 = (quoS s 1).1 ∧ k + (quoS s k).2 = 1 + (quoS s 1).2) (fun _ i _ => s.size - (intOf i).toNat)
  case atStart => exact ⟨1, [], by omega, by simp, rfl, rfl, Below.refl _ _, by simp, rfl⟩
  case round =>
    obtain ⟨k, l, hk, hl, rfl, rfl, hm, ht, hn⟩ := hrel
    have HT := Lib.hid ht
    have HK := Lib.hid hn
    have HM := Lib.hid hm
    clear ht hn hm
    by_cases hlt : k < s.size
    · by_cases hq : s[k].toNat = 34
      · have d1 : ((s[k].toNat : Int) == 34) = true := by rw [hq]; rfl
        have HQ := Lib.hid (quoS_quote hlt hq)
        clear hq
        go_wp2
        refine bodyPost_ret (v := .tuple #[.string ⟨l.toArray⟩, .int .i64 (k + 1 : Nat)]) (by simp [results, Tryz.results57, go_sem]) rfl ⟨?_, HM.out⟩
        have ht := HT.out
        have hn := HK.out
        rw [HQ.out] at ht hn
        rw [← ht, ← hn]
        simp
      · have d1 : ((s[k].toNat : Int) == 34) = false := by simp; omega
        by_cases hy : s[k].toNat = 92
        · have d2 : ((s[k].toNat : Int) == 92) = true := by rw [hy]; rfl
          by_cases hlast : k + 1 < s.size
          · have HQ := Lib.hid (quoS_slash hlast hy)
            have d3 : decide (k + 1 < s.size) = true := by simpa using hlast
            have d4 : decide ((k : Int) + 1 < (s.size : Int)) = true := by simp; omega
            clear hy hq
            have hcv := conv_one s[k + 1]
            go_wp2
            go_roundw
            case rel =>
              have ht := HT.out
              have hn := HK.out
              rw [HQ.out] at ht hn
              exact ⟨k + 1 + 1, l ++ [s[k + 1]], by omega, by simp; omega, by rw [arr_one], by go_num, HM.out.alloc HM.out.size _, by simpa using ht, by simp only [] at hn; omega⟩
            case measure => simp [intOf]; omega
          · have HQ := Lib.hid (quoS_slash_end hlt (by omega) hy)
            have d3 : decide (k + 1 < s.size) = false := by simpa using hlast
            have d4 : decide ((k : Int) + 1 < (s.size : Int)) = false := by simp; omega
            have HE := Lib.hid (show s[k] = 92 from UInt8.toNat_inj.1 (by rw [hy]; rfl))
            clear hy hq
            have hcv := conv_one s[k]
            go_wp2
            go_roundw
            case rel =>
              have ht := HT.out
              have hn := HK.out
              have h2 := quoS_end (s := s) (k := k + 1) (by omega)
              rw [HQ.out] at ht hn
              exact ⟨k + 1, l ++ [s[k]], by omega, by simp; omega, by rw [arr_one], by go_num, HM.out.alloc HM.out.size _, by rw [h2, HE.out]; simpa using ht, by rw [h2]; simp only [] at hn ⊢; omega⟩
            case measure => simp [intOf]; omega
        · have d2 : ((s[k].toNat : Int) == 92) = false := by simp; omega
          have HQ := Lib.hid (quoS_other hlt hq hy)
          clear hy hq
          have hcv := conv_one s[k]
          go_wp2
          go_roundw
          case rel =>
            have ht := HT.out
            have hn := HK.out
            rw [HQ.out] at ht hn
            exact ⟨k + 1, l ++ [s[k]], by omega, by simp; omega, by rw [arr_one], by go_num, HM.out.alloc HM.out.size _, by simpa using ht, by simp only [] at hn; omega⟩
          case measure => simp [intOf]; omega
    · obtain rfl : k = s.size := by omega
      go_wp2
      refine bodyPost_ret (v := .tuple #[.string ⟨l.toArray⟩, .int .i64 (s.size : Nat)]) (by simp [results, Tryz.results57, go_sem]) rfl ⟨?_, HM.out⟩
      have ht := HT.out
      have hn := HK.out
      rw [quoS_end (s := s) (k := s.size) (by omega)] at ht hn
      rw [← ht, ← hn]
      simp

end Go.Proofs.YtighgoefmccagaaGreat
namespace Go.Proofs.YtighgoefmccagaaGreat
open Go.RowKit

theorem allB_all {p : UInt8 → Bool} {s : ByteArray} (h : ∀ j (hj : j < s.size), j < s.size → p s[j] = true) : allB p s = true := allB_yes fun j hj => h j hj hj

set_option maxHeartbeats 1000000 in
theorem rToken_any (s : ByteArray) (w : World) (hs : s.size ≤ 9223372036854775807) :
    Calls Tryz.prog 54 #[.string s] w fun e w' => e = .returned (.bool (!needB s)) ∧ w = w' := by
  obtain ⟨R, hR⟩ : ∃ R, R = !needB s := ⟨_, rfl⟩
  rw [← hR]
  have HR := Lib.hid hR
  clear hR
  go_enter Tryz.func54, Tryz.ntmps54
  go_wp2
  go_loop [3] (fun i => ∃ k : Nat, k ≤ s.size ∧ i = .int .i64 k ∧ ∀ j (hj : j < s.size), j < k → tokB s[j] = true) (fun i => s.size - (intOf i).toNat)
  case atStart => exact ⟨0, by omega, rfl, fun j _ h => absurd h (by omega)⟩
  case round =>
    obtain ⟨k, hk, rfl, hno⟩ := hrel
    have HN := Lib.hid hno
    clear hno
    by_cases hlt : k < s.size
    · have HL := Lib.hid (fun W => refToken_any s[k] W)
      cases hb : tokB s[k]
      · rw [hb] at HL
        have HX := Lib.hid (show R = false from by rw [HR.out]; unfold needB; rw [allB_no hlt hb]; simp)
        clear hb
        go_wp2_with (go_at_call 82; refine (HL.out _).mono ?_; rintro e w' ⟨rfl, rfl⟩)
        go_ret
        exact ⟨by rw [HX.out]; rfl, rfl⟩
      · rw [hb] at HL
        have HB := Lib.hid hb
        clear hb
        go_wp2_with (go_at_call 82; refine (HL.out _).mono ?_; rintro e w' ⟨rfl, rfl⟩)
        go_round
        case rel => exact ⟨k + 1, by omega, by go_num, fun j h1 h => if e : j = k then by subst e; exact HB.out else HN.out j h1 (by omega)⟩
        case measure => first | (simp [intOf]; done) | (simp [intOf]; omega)
    · obtain rfl : k = s.size := by omega
      have HX := Lib.hid (show R = !(s.toList == []) from by rw [HR.out]; unfold needB; rw [allB_all HN.out]; simp)
      cases h0 : (s.toList == [])
      all_goals
        rw [h0] at HX
        go_wp2
        go_ret
        exact ⟨by rw [HX.out]; rfl, rfl⟩

set_option maxHeartbeats 1000000 in
theorem rQuoted_any (s : ByteArray) (w : World) (hs : s.size ≤ 9223372036854775807) :
    Calls Tryz.prog 58 #[.string s] w fun e w' => e = .returned (.bool (allB quoB s)) ∧ w = w' := by
  obtain ⟨R, hR⟩ : ∃ R, R = allB quoB s := ⟨_, rfl⟩
  rw [← hR]
  have HR := Lib.hid hR
  clear hR
  go_enter Tryz.func58, Tryz.ntmps58
  go_wp2
  go_loop [3] (fun i => ∃ k : Nat, k ≤ s.size ∧ i = .int .i64 k ∧ ∀ j (hj : j < s.size), j < k → quoB s[j] = true) (fun i => s.size - (intOf i).toNat)
  case atStart => exact ⟨0, by omega, rfl, fun j _ h => absurd h (by omega)⟩
  case round =>
    obtain ⟨k, hk, rfl, hno⟩ := hrel
    have HN := Lib.hid hno
    clear hno
    by_cases hlt : k < s.size
    · have HL := Lib.hid (fun W => refQuoted_any s[k] W)
      cases hb : quoB s[k]
      · rw [hb] at HL
        have HX := Lib.hid (show R = false from by rw [HR.out]; exact allB_no hlt hb)
        clear hb
        go_wp2_with (go_at_call 83; refine (HL.out _).mono ?_; rintro e w' ⟨rfl, rfl⟩)
        go_ret
        exact ⟨by rw [HX.out]; rfl, rfl⟩
      · rw [hb] at HL
        have HB := Lib.hid hb
        clear hb
        go_wp2_with (go_at_call 83; refine (HL.out _).mono ?_; rintro e w' ⟨rfl, rfl⟩)
        go_round
        case rel => exact ⟨k + 1, by omega, by go_num, fun j h1 h => if e : j = k then by subst e; exact HB.out else HN.out j h1 (by omega)⟩
        case measure => first | (simp [intOf]; done) | (simp [intOf]; omega)
    · obtain rfl : k = s.size := by omega
      have HX := Lib.hid (show R = true from by rw [HR.out]; exact allB_all HN.out)
      go_wp2
      go_ret
      exact ⟨by rw [HX.out]; rfl, rfl⟩

set_option maxHeartbeats 1000000 in
theorem rupto_any (s t : ByteArray) (w : World) (hs : s.size ≤ 9223372036854775807) (ht : t.size ≤ 9223372036854775807) :
    Calls Tryz.prog 53 #[.string s, .string t] w fun e w' => e = .returned (.int .i64 (scan (stp t) s 0 : Nat)) ∧ w = w' := by
  obtain ⟨R, hR⟩ : ∃ R, R = scan (stp t) s 0 := ⟨_, rfl⟩
  rw [← hR]
  have HR := Lib.hid hR
  clear hR
  go_enter Tryz.func53, Tryz.ntmps53
  go_wp2
  go_loop [5] (fun i => ∃ k : Nat, k ≤ s.size ∧ i = .int .i64 k ∧ scan (stp t) s k = R) (fun i => s.size - (intOf i).toNat)
  case atStart => exact ⟨0, by omega, rfl, HR.out.symm⟩
  case round =>
    obtain ⟨k, hk, rfl, hno⟩ := hrel
    have HN := Lib.hid hno
    clear hno
    by_cases hlt : k < s.size
    · have HL := Lib.hid (fun W => has_any t s[k] W ht)
      cases hb : hasB t s[k]
      · rw [hb] at HL
        have HB := Lib.hid (show scan (stp t) s (k + 1) = R from by rw [scan_step hlt (by show (!hasB t s[k]) = true; rw [hb]; rfl), HN.out])
        clear hb
        go_wp2_with (go_at_call 81; refine (HL.out _).mono ?_; rintro e w' ⟨rfl, rfl⟩)
        go_round
        case rel => exact ⟨k + 1, by omega, by go_num, HB.out⟩
        case measure => first | (simp [intOf]; done) | (simp [intOf]; omega)
      · rw [hb] at HL
        have HX := Lib.hid (show R = k from by rw [← HN.out]; exact scan_stop hlt (by show (!hasB t s[k]) = false; rw [hb]; rfl))
        clear hb
        go_wp2_with (go_at_call 81; refine (HL.out _).mono ?_; rintro e w' ⟨rfl, rfl⟩)
        go_ret
        exact ⟨by rw [HX.out]; rfl, rfl⟩
    · obtain rfl : k = s.size := by omega
      have HX := Lib.hid (show R = s.size from by rw [← HN.out]; exact scan_end rfl)
      go_wp2
      go_ret
      exact ⟨by rw [HX.out]; rfl, rfl⟩

set_option maxHeartbeats 1000000 in
theorem rback_any (s : ByteArray) (w : World) (hs : s.size ≤ 9223372036854775807) :
    Calls Tryz.prog 55 #[.string s] w fun e w' => e = .returned (.string (cutP whiB s)) ∧ w = w' := by
  go_enter Tryz.func55, Tryz.ntmps55
  go_wp2
  go_loop [0] (fun i => ∃ (m : Nat) (x : ByteArray), m ≤ s.size ∧ i = .string x ∧ x = s.extract 0 m ∧ backN whiB s m = backN whiB s s.size) (fun i => strLen i)
  case atStart => exact ⟨s.size, s, Nat.le_refl _, rfl, (extract_all s).symm, rfl⟩
  case round =>
    obtain ⟨m, x, hm, rfl, hx, hb⟩ := hrel
    have HB := Lib.hid hb
    have HX := Lib.hid hx
    clear hb
    have hz : x.size = m := by rw [hx]; simp; omega
    clear hx
    cases m with
    | zero =>
      have HE := Lib.hid (show cutP whiB s = x from by unfold cutP; rw [← HB.out, HX.out]; rfl)
      go_wp2
      go_ret
      exact ⟨by rw [HE.out]; rfl, rfl⟩
    | succ n =>
      have hn : n < x.size := by omega
      have g1 : (0 : Int) < (n : Int) + 1 := by omega
      have g2 : ((n + 1 : Nat) : Int) - 1 = (n : Int) := by omega
      have HA := Lib.hid (show x[n] = s[n]'(by omega) from by
        rw [← getElem!_pos x n hn, ← getElem!_pos s n (by omega), HX.out, extract_at (by rw [← HX.out]; exact hn), Nat.zero_add])
      have HL := Lib.hid (fun W => refWhite_any x[n] W)
      cases hb : whiB x[n]
      · have HE := Lib.hid (show cutP whiB s = x from by unfold cutP; rw [← HB.out, backN_stop (by omega) (by rw [← HA.out]; exact hb), HX.out])
        have HL2 : Hid (∀ W, Calls Tryz.prog 56 #[.int .u8 (x[n].toNat : Int)] W fun e w' => e = .returned (.bool false) ∧ W = w') := fun W => by have := HL.out W; rwa [hb] at this
        clear HL hb
        go_wp2_with (go_at_call 56; refine (HL2.out _).mono ?_; rintro e w' ⟨rfl, rfl⟩)
        go_ret
        exact ⟨by rw [HE.out]; rfl, rfl⟩
      · have HE := Lib.hid (show backN whiB s (n + 1) = backN whiB s n from backN_step (by omega) (by rw [← HA.out]; exact hb))
        have HL2 : Hid (∀ W, Calls Tryz.prog 56 #[.int .u8 (x[n].toNat : Int)] W fun e w' => e = .returned (.bool true) ∧ W = w') := fun W => by have := HL.out W; rwa [hb] at this
        clear HL hb
        go_wp2_with (go_at_call 56; refine (HL2.out _).mono ?_; rintro e w' ⟨rfl, rfl⟩)
        go_round
        case rel => exact ⟨n, x.extract 0 n, by omega, rfl, by rw [HX.out, extract_head (by omega)], HE.out.symm.trans HB.out⟩
        case measure => simp [strLen]; omega


set_option maxHeartbeats 1000000 in
theorem rsmall_any (s : ByteArray) (w : World) (hs : s.size ≤ 1048576) :
    Calls Tryz.prog 59 #[.string s] w fun e w' => e = .returned (.bool (nameB s)) ∧ Below w.heap.size w w' := by
  have HN := Lib.hid (fun W => rToken_any s W (by omega))
  unfold nameB
  cases h : needB s
  · rw [h] at HN
    have HS := Lib.hid (fun W => refLowerS_any s W (by omega))
    cases h2 : eqS (lowS s) s
    all_goals
      have h2' : ((lowS s).toList == s.toList) = _ := h2
      go_enter Tryz.func59, Tryz.ntmps59
      go_wp2_with (first | (go_at_call 54; (with_reducible refine (HN.out _).mono ?_); rintro e w1 ⟨rfl, rfl⟩) | (go_at_call 27; (with_reducible refine (HS.out _).mono ?_); rintro e w2 ⟨rfl, hb2⟩))
      go_ret
      exact ⟨rfl, hb2⟩
  · rw [h] at HN
    go_enter Tryz.func59, Tryz.ntmps59
    go_wp2_with (go_at_call 54; (with_reducible refine (HN.out _).mono ?_); rintro e w1 ⟨rfl, rfl⟩)
    go_ret
    exact ⟨rfl, Below.refl _ _⟩

set_option maxHeartbeats 1000000 in
theorem rAt_any (t u : ByteArray) (A : Option Addr) (ps : List Prm) (c : Nat) (x : ByteArray) (w : World) (h : PsIn w A ps) (hn : ps.length ≤ 1048576) :
    Calls Tryz.prog 36 #[mimV t u A ps.length c, .string x] w fun e w' => e = .returned (.int .i64 (atI ps x)) ∧ Below w.heap.size w w' := by
  obtain ⟨w0, hw0⟩ : ∃ w0, w0 = w.alloc (.cells #[.string t, .string u, .slice A ps.length c] 26) := ⟨_, rfl⟩
  have HB0 := Lib.hid (show Below w.heap.size w w0 from by rw [hw0]; exact (Below.refl w.heap.size w).alloc (Nat.le_refl _) _)
  have HP0 := Lib.hid (show Blk w0 w.heap.size 26 #[.string t, .string u, .slice A ps.length c] from by rw [hw0]; exact Blk.new _ _ _)
  have HP := Lib.hid h
  obtain ⟨r, hr⟩ : ∃ r, r = atI ps x := ⟨_, rfl⟩
  rw [← hr]
  have HR := Lib.hid hr
  clear h hr
  go_enter Tryz.func36, Tryz.ntmps36
  go_wp2_with fail
  rw [← hw0]
  clear hw0
  go_loopw [5] (fun i wr => ∃ k : Nat, k ≤ ps.length ∧ i = .int .i64 k ∧ (∀ j (hj : j < ps.length), j < k → eqS ps[j].n x = false) ∧ Below w.heap.size w wr ∧ Blk wr w.heap.size 26 #[.string t, .string u, .slice A ps.length c]) (fun i _ => ps.length - (intOf i).toNat)
  case atStart => exact ⟨0, Nat.zero_le _, rfl, fun j _ h => absurd h (by omega), HB0.out, HP0.out⟩
  case round =>
    obtain ⟨k, hk, rfl, hno, hw, hbk⟩ := hrel
    have HN := Lib.hid hno
    have HW := Lib.hid hw
    have HK := Lib.hid hbk
    have c2 := HK.out.cell 2
    clear hno hw hbk
    by_cases hlt : k < ps.length
    · obtain ⟨g, rfl, hg1, hc0, hc1⟩ := HP.out k hlt
      have c0 := (HW.out.cell (p := ⟨g, k * 2, none⟩) hg1).trans hc0
      have c1 := (HW.out.cell (p := ⟨g, k * 2 + 1, none⟩) hg1).trans hc1
      clear hc0 hc1
      cases he : eqS ps[k].n x
      · have HE := Lib.hid (show ∀ j (hj : j < ps.length), j < k + 1 → eqS ps[j].n x = false from fun j hj hj2 => by
          by_cases e : j = k
          · subst e; exact he
          · exact HN.out j hj (by omega))
        have he' : (ps[k].n.toList == x.toList) = false := he
        clear he
        generalize ps[k] = q at *
        obtain ⟨qn, qv⟩ := q
        go_wp2
        go_roundw
        case rel => exact ⟨k + 1, by omega, by go_num, HE.out, HW.out, HK.out⟩
        case measure => simp [intOf]; omega
      · have e1 : atN ps x = k := atN_is hlt he fun j hj => HN.out j (by omega) hj
        have HR2 := Lib.hid (show r = (k : Int) from by rw [HR.out]; unfold atI; rw [e1, if_pos hlt])
        have he' : (ps[k].n.toList == x.toList) = true := he
        clear he e1
        generalize ps[k] = q at *
        obtain ⟨qn, qv⟩ := q
        go_wp2
        go_ret
        exact ⟨by rw [HR2.out]; rfl, HW.out⟩
    · obtain rfl : k = ps.length := by omega
      have e1 : atN ps x = ps.length := atN_no fun j hj => HN.out j hj hj
      have HR2 := Lib.hid (show r = -1 from by rw [HR.out]; unfold atI; rw [if_neg (by omega)])
      clear e1
      go_wp2
      go_ret
      exact ⟨by rw [HR2.out]; rfl, HW.out⟩

end Go.Proofs.YtighgoefmccagaaGreat
namespace Go.Proofs.YtighgoefmccagaaGreat
open Go.RowKit

/-- A world behind w in which a header lies in the block behind w's. -/
def HdAt (w : World) (cs : Array Value) (W : World) : Prop := Below w.heap.size w W ∧ Blk W w.heap.size 41 cs
theorem HdAt.drew {w W : World} {cs : Array Value} (h : HdAt w cs W) : HdAt w cs W.drew := ⟨h.1.drew, h.2⟩
theorem HdAt.next {w : World} {cs : Array Value} {x : Wld (HdAt w cs)} {W' : World} (hb : Below x.val.heap.size x.val W') : HdAt w cs W' := ⟨x.ok.1.trans (hb.mono x.ok.1.size), x.ok.2.below hb x.ok.2.lt⟩
theorem HdAt.same {w : World} {cs : Array Value} {x : Wld (HdAt w cs)} {W' : World} (h : x.val = W') : HdAt w cs W' := h ▸ x.ok
theorem HdAt.new (w : World) (cs : Array Value) : HdAt w cs (w.alloc (.cells cs 41)) := ⟨(Below.refl _ _).alloc (Nat.le_refl _) _, Blk.new _ _ _⟩

end Go.Proofs.YtighgoefmccagaaGreat
