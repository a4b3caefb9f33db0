/-
  What the document's functions of one text, of layer 10, answer, and what it says of parameters. Conditions: texts are as long as a length can be.
-/
import Derived.Test.YtmepnfkgfbbkiaaMg
import Derived.Test.YtmepnfkgfbbkiaaHas
import Derived.Test.YtmepnfkgfbbkiaaRef4
import Derived.Test.YtmepnfkgfbbkiaaCls
namespace Go.Proofs.Ytmepnfkgfbbkiaa
open Go.RowKit

theorem allB_all {p : UInt8 → Bool} {s : ByteArray} (h : ∀ j (hj : j < s.size), j < s.size → p s[j] = true) : allB p s = true := allB_yes fun j hj => h j hj hj

set_option maxHeartbeats 1000000 in
theorem rToken_any (s : ByteArray) (w : World) (hs : s.size ≤ 9223372036854775807) :
    Calls Try.prog 31 #[.string s] w fun e w' => e = .returned (.bool (!needB s)) ∧ w = w' := by
  obtain ⟨R, hR⟩ : ∃ R, R = !needB s := ⟨_, rfl⟩
  rw [← hR]
  have HR := Lib.hid hR
  clear hR
  go_enter Try.func31, Try.ntmps31
  go_wp2
  go_loop [3] (fun i => ∃ k : Nat, k ≤ s.size ∧ i = .int .i64 k ∧ ∀ j (hj : j < s.size), j < k → tokB s[j] = true) (fun i => s.size - (intOf i).toNat)
  case atStart => exact ⟨0, by omega, rfl, fun j _ h => absurd h (by omega)⟩
  case round =>
    obtain ⟨k, hk, rfl, hno⟩ := hrel
    have HN := Lib.hid hno
    clear hno
    by_cases hlt : k < s.size
    · have HL := Lib.hid (fun W => refToken_any s[k] W)
      cases hb : tokB s[k]
      · rw [hb] at HL
        have HX := Lib.hid (show R = false from by rw [HR.out]; unfold needB; rw [allB_no hlt hb]; simp)
        clear hb
        go_wp2_with (go_at_call 42; refine (HL.out _).mono ?_; rintro e w' ⟨rfl, rfl⟩)
        go_ret
        exact ⟨by rw [HX.out]; rfl, rfl⟩
      · rw [hb] at HL
        have HB := Lib.hid hb
        clear hb
        go_wp2_with (go_at_call 42; refine (HL.out _).mono ?_; rintro e w' ⟨rfl, rfl⟩)
        go_round
        case rel => exact ⟨k + 1, by omega, by go_num, fun j h1 h => if e : j = k then by subst e; exact HB.out else HN.out j h1 (by omega)⟩
        case measure => first | (simp [intOf]; done) | (simp [intOf]; omega)
    · obtain rfl : k = s.size := by omega
      have HX := Lib.hid (show R = !(s.toList == []) from by rw [HR.out]; unfold needB; rw [allB_all HN.out]; simp)
      cases h0 : (s.toList == [])
      all_goals
        rw [h0] at HX
        go_wp2
        go_ret
        exact ⟨by rw [HX.out]; rfl, rfl⟩

set_option maxHeartbeats 1000000 in
theorem rQuoted_any (s : ByteArray) (w : World) (hs : s.size ≤ 9223372036854775807) :
    Calls Try.prog 22 #[.string s] w fun e w' => e = .returned (.bool (allB quoB s)) ∧ w = w' := by
  obtain ⟨R, hR⟩ : ∃ R, R = allB quoB s := ⟨_, rfl⟩
  rw [← hR]
  have HR := Lib.hid hR
  clear hR
  go_enter Try.func22, Try.ntmps22
  go_wp2
  go_loop [3] (fun i => ∃ k : Nat, k ≤ s.size ∧ i = .int .i64 k ∧ ∀ j (hj : j < s.size), j < k → quoB s[j] = true) (fun i => s.size - (intOf i).toNat)
  case atStart => exact ⟨0, by omega, rfl, fun j _ h => absurd h (by omega)⟩
  case round =>
    obtain ⟨k, hk, rfl, hno⟩ := hrel
    have HN := Lib.hid hno
    clear hno
    by_cases hlt : k < s.size
    · have HL := Lib.hid (fun W => refQuoted_any s[k] W)
      cases hb : quoB s[k]
      · rw [hb] at HL
        have HX := Lib.hid (show R = false from by rw [HR.out]; exact allB_no hlt hb)
        clear hb
        go_wp2_with (go_at_call 33; refine (HL.out _).mono ?_; rintro e w' ⟨rfl, rfl⟩)
        go_ret
        exact ⟨by rw [HX.out]; rfl, rfl⟩
      · rw [hb] at HL
        have HB := Lib.hid hb
        clear hb
        go_wp2_with (go_at_call 33; refine (HL.out _).mono ?_; rintro e w' ⟨rfl, rfl⟩)
        go_round
        case rel => exact ⟨k + 1, by omega, by go_num, fun j h1 h => if e : j = k then by subst e; exact HB.out else HN.out j h1 (by omega)⟩
        case measure => first | (simp [intOf]; done) | (simp [intOf]; omega)
    · obtain rfl : k = s.size := by omega
      have HX := Lib.hid (show R = true from by rw [HR.out]; exact allB_all HN.out)
      go_wp2
      go_ret
      exact ⟨by rw [HX.out]; rfl, rfl⟩

set_option maxHeartbeats 1000000 in
theorem rsmall_any (s : ByteArray) (w : World) (hs : s.size ≤ 1048576) :
    Calls Try.prog 21 #[.string s] w fun e w' => e = .returned (.bool (nameB s)) ∧ Below w.heap.size w w' := by
  have HN := Lib.hid (fun W => rToken_any s W (by omega))
  unfold nameB
  cases h : needB s
  · rw [h] at HN
    have HS := Lib.hid (fun W => refLowerS_any s W (by omega))
    cases h2 : eqS (lowS s) s
    all_goals
      have h2' : ((lowS s).toList == s.toList) = _ := h2
      go_enter Try.func21, Try.ntmps21
      go_wp2_with (first | (go_at_call 31; (with_reducible refine (HN.out _).mono ?_); rintro e w1 ⟨rfl, rfl⟩) | (go_at_call 32; (with_reducible refine (HS.out _).mono ?_); rintro e w2 ⟨rfl, hb2⟩))
      go_ret
      exact ⟨rfl, hb2⟩
  · rw [h] at HN
    go_enter Try.func21, Try.ntmps21
    go_wp2_with (go_at_call 31; (with_reducible refine (HN.out _).mono ?_); rintro e w1 ⟨rfl, rfl⟩)
    go_ret
    exact ⟨rfl, Below.refl _ _⟩

set_option maxHeartbeats 1000000 in
theorem rAt_any (t u : ByteArray) (A : Option Addr) (ps : List Prm) (c : Nat) (x : ByteArray) (w : World) (h : PsIn w A ps) (hn : ps.length ≤ 1048576) :
    Calls Try.prog 14 #[mimV t u A ps.length c, .string x] w fun e w' => e = .returned (.int .i64 (atI ps x)) ∧ Below w.heap.size w w' := by
  obtain ⟨w0, hw0⟩ : ∃ w0, w0 = w.alloc (.cells #[.string t, .string u, .slice A ps.length c] 24) := ⟨_, rfl⟩
  have HB0 := Lib.hid (show Below w.heap.size w w0 from by rw [hw0]; exact (Below.refl w.heap.size w).alloc (Nat.le_refl _) _)
  have HP0 := Lib.hid (show Blk w0 w.heap.size 24 #[.string t, .string u, .slice A ps.length c] from by rw [hw0]; exact Blk.new _ _ _)
  have HP := Lib.hid h
  obtain ⟨r, hr⟩ : ∃ r, r = atI ps x := ⟨_, rfl⟩
  rw [← hr]
  have HR := Lib.hid hr
  clear h hr
  go_enter Try.func14, Try.ntmps14
  go_wp2_with fail
  rw [← hw0]
  clear hw0
  go_loopw [5] (fun i wr => ∃ k : Nat, k ≤ ps.length ∧ i = .int .i64 k ∧ (∀ j (hj : j < ps.length), j < k → eqS ps[j].n x = false) ∧ Below w.heap.size w wr ∧ Blk wr w.heap.size 24 #[.string t, .string u, .slice A ps.length c]) (fun i _ => ps.length - (intOf i).toNat)
  case atStart => exact ⟨0, Nat.zero_le _, rfl, fun j _ h => absurd h (by omega), HB0.out, HP0.out⟩
  case round =>
    obtain ⟨k, hk, rfl, hno, hw, hbk⟩ := hrel
    have HN := Lib.hid hno
    have HW := Lib.hid hw
    have HK := Lib.hid hbk
    have c2 := HK.out.cell 2
    clear hno hw hbk
    by_cases hlt : k < ps.length
    · obtain ⟨g, rfl, hg1, hc0, hc1⟩ := HP.out k hlt
      have c0 := (HW.out.cell (p := ⟨g, k * 2, none⟩) hg1).trans hc0
      have c1 := (HW.out.cell (p := ⟨g, k * 2 + 1, none⟩) hg1).trans hc1
      clear hc0 hc1
      cases he : eqS ps[k].n x
      · have HE := Lib.hid (show ∀ j (hj : j < ps.length), j < k + 1 → eqS ps[j].n x = false from fun j hj hj2 => by
          by_cases e : j = k
          · subst e; exact he
          · exact HN.out j hj (by omega))
        have he' : (ps[k].n.toList == x.toList) = false := he
        clear he
        generalize ps[k] = q at *
        obtain ⟨qn, qv⟩ := q
        go_wp2
        go_roundw
        case rel => exact ⟨k + 1, by omega, by go_num, HE.out, HW.out, HK.out⟩
        case measure => simp [intOf]; omega
      · have e1 : atN ps x = k := atN_is hlt he fun j hj => HN.out j (by omega) hj
        have HR2 := Lib.hid (show r = (k : Int) from by rw [HR.out]; unfold atI; rw [e1, if_pos hlt])
        have he' : (ps[k].n.toList == x.toList) = true := he
        clear he e1
        generalize ps[k] = q at *
        obtain ⟨qn, qv⟩ := q
        go_wp2
        go_ret
        exact ⟨by rw [HR2.out]; rfl, HW.out⟩
    · obtain rfl : k = ps.length := by omega
      have e1 : atN ps x = ps.length := atN_no fun j hj => HN.out j hj hj
      have HR2 := Lib.hid (show r = -1 from by rw [HR.out]; unfold atI; rw [if_neg (by omega)])
      clear e1
      go_wp2
      go_ret
      exact ⟨by rw [HR2.out]; rfl, HW.out⟩

end Go.Proofs.Ytmepnfkgfbbkiaa
