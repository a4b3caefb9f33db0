/-
  What Begins and behind of package mask answer, and the document's own Begins: how many bytes of some stand ahead. Condition: texts are as long as a length can be.
-/
import Derived.Test.YtcoblepgehjamaaMk1
import Derived.Test.YtcoblepgehjamaaTbl
import Derived.Test.YtcoblepgehjamaaHas
import Derived.OneCell
import Derived.Lib.Hide
namespace Go.Proofs.Ytcoblepgehjamaa
open Go.RowKit

theorem make_fn (fn : Fn) (first cap : Array Value) (w : World) : (Instr.makeFunc fn first cap).run Try.prog w = .ok (.func fn first cap) w := rfl

set_option maxHeartbeats 400000 in
theorem among1_any (tb : Nat) (t : ByteArray) (b : UInt8) (w : World) (h : Blk w tb 84 (tbl t.data.toList)) :
    Calls Try.prog 58 #[.int .u8 (b.toNat : Int), .pointer (some ⟨tb, 0, none⟩)] w fun e w' => e = .returned (.bool (hasB t b)) ∧ w = w' := by
  have hu : (b.toNat : Int) < 256 := by have := b.toNat_lt; omega
  have hu2 : b.toNat < 256 := by omega
  have e0 : w.cell? ⟨tb, b.toNat, none⟩ = some (.bool (hasB t b)) := (h.cell _).trans (tbl_at _ _)
  have H := Lib.hid h
  clear h
  go_enter Try.func58, Try.ntmps58
  go_wp2
  go_ret
  exact ⟨rfl, rfl⟩

set_option maxHeartbeats 1000000 in
set_option maxRecDepth 100000 in
theorem among_any (t : ByteArray) (w : World) (ht : t.size ≤ 9223372036854775807) :
    Calls Try.prog 57 #[.string t] w fun e w' => e = .returned (.func (.func 58) #[] #[.pointer (some ⟨w.heap.size, 0, none⟩)]) ∧ Below w.heap.size w w' ∧ Blk w' w.heap.size 84 (tbl t.data.toList) := by
  have hz := zero_tbl
  have hmf := make_fn
  go_enter Try.func57, Try.ntmps57
  go_wp2
  go_loopw [7] (fun i wr => ∃ m : Nat, m ≤ t.size ∧ i = .int .i64 m ∧ Blk wr w.heap.size 84 (tbl (t.data.toList.take m)) ∧ Below w.heap.size w wr) (fun i _ => t.size - (intOf i).toNat)
  case atStart => exact ⟨0, by omega, rfl, Blk.new _ _ _, (Below.refl _ _).alloc (Nat.le_refl _) _⟩
  case round =>
    obtain ⟨m, hm, rfl, hb, hw⟩ := hrel
    have HW := Lib.hid hw
    have HBk := Lib.hid hb
    by_cases hlt : m < t.size
    · have hu : (t[m].toNat : Int) < 256 := by have := t[m].toNat_lt; omega
      have hu2 : t[m].toNat < 256 := by omega
      have e0 : wr.cell? ⟨w.heap.size, t[m].toNat, none⟩ = some (.bool ((t.data.toList.take m).contains t[m])) := (hb.cell _).trans (tbl_at _ _)
      have z0 : wr.frozen? ⟨w.heap.size, t[m].toNat, none⟩ = false := hb.frozen _
      have HX : Hid (Blk (wr.setCell ⟨w.heap.size, t[m].toNat, none⟩ (.bool true)) w.heap.size 84 (tbl (t.data.toList.take (m + 1)))) := by
        have := hb.set_ t[m].toNat (.bool true)
        rw [tbl_set, ← take_snoc t m hlt] at this
        exact this
      clear hb hw
      go_wp2
      go_roundw
      case rel => exact ⟨m + 1, by omega, by go_num, HX.out, HW.out.setCell (by simp) _⟩
      case measure => simp [intOf]; omega
    · obtain rfl : m = t.size := by omega
      have HT : Hid (Blk wr w.heap.size 84 (tbl t.data.toList)) := by
        have := hb
        rwa [List.take_of_length_le (by simp)] at this
      clear hb hw HBk
      go_wp2
      go_ret
      exact ⟨rfl, HW.out, HT.out⟩

set_option maxHeartbeats 1000000 in
set_option maxRecDepth 100000 in
theorem mbegins_any (s b m k t : ByteArray) (w : World) (hs : s.size ≤ 9223372036854775807) (hk : k.size ≤ 9223372036854775807) :
    Calls Try.prog 54 #[.string s, patV b m k t] w fun e w' => e = .returned (.int .i64 (begN k s : Nat)) ∧ Below w.heap.size w w' := by
  have hb0 := (Below.refl w.heap.size w).alloc (Nat.le_refl _) (.cells #[.string b, .string m, .string k, .string t] 40)
  have HB0 := Lib.hid hb0
  clear hb0
  go_enter Try.func54, Try.ntmps54
  go_wp2_with (go_at_call 57; refine (among_any k _ hk).mono ?_; rintro e w1 ⟨rfl, hb1, ht1⟩)
  have HT := Lib.hid (show Blk w1 (w.heap.size + 1) 84 (tbl k.data.toList) from by simpa using ht1)
  have HB := Lib.hid (HB0.out.trans (hb1.mono (by simp)))
  clear ht1 hb1 HB0
  go_loop [6] (fun i => ∃ n : Nat, n ≤ s.size ∧ i = .int .i64 n ∧ ∀ j (hj : j < s.size), j < n → hasB k s[j] = true) (fun i => s.size - (intOf i).toNat)
  case atStart => exact ⟨0, by omega, rfl, fun j _ h => absurd h (by omega)⟩
  case round =>
    obtain ⟨n, hn, rfl, hno⟩ := hrel
    have HN := Lib.hid hno
    clear hno
    by_cases hlt : n < s.size
    · have HC := Lib.hid (fun W (h : Blk W (w.heap.size + 1) 84 (tbl k.data.toList)) => among1_any (w.heap.size + 1) k s[n] W h)
      cases hh : hasB k s[n]
      · have HR := Lib.hid (begN_at HN.out hlt hh)
        rw [hh] at HC
        clear hh
        go_wp2_with (go_at_call 58; refine (HC.out _ HT.out).mono ?_; rintro e w2 ⟨rfl, rfl⟩)
        go_ret
        exact ⟨by rw [HR.out]; rfl, HB.out⟩
      · have HH := Lib.hid hh
        rw [hh] at HC
        clear hh
        go_wp2_with (go_at_call 58; refine (HC.out _ HT.out).mono ?_; rintro e w2 ⟨rfl, rfl⟩)
        go_round
        case rel => exact ⟨n + 1, by omega, by go_num, fun j hj h => if e : j = n then by subst e; exact HH.out else HN.out j hj (by omega)⟩
        case measure => simp [intOf]; omega
    · obtain rfl : n = s.size := by omega
      have HR := Lib.hid (begN_all (sk := k) (s := s) fun j hj => HN.out j hj hj)
      go_wp2
      go_ret
      exact ⟨by rw [HR.out]; rfl, HB.out⟩

set_option maxHeartbeats 1000000 in
set_option maxRecDepth 100000 in
theorem refBegins_any (s b m k t : ByteArray) (w : World) (hs : s.size ≤ 9223372036854775807) (hk : k.size ≤ 9223372036854775807) :
    Calls Try.prog 44 #[.string s, patV b m k t] w fun e w' => e = .returned (.int .i64 (begN k s : Nat)) ∧ Below w.heap.size w w' := by
  obtain ⟨w0, hw0⟩ : ∃ w0, w0 = w.alloc (.cells #[.string b, .string m, .string k, .string t] 40) := ⟨_, rfl⟩
  have HB0 := Lib.hid (show Below w.heap.size w w0 from by rw [hw0]; exact (Below.refl w.heap.size w).alloc (Nat.le_refl _) _)
  have HP := Lib.hid (show Blk w0 w.heap.size 40 #[.string b, .string m, .string k, .string t] from by rw [hw0]; exact Blk.new _ _ _)
  go_enter Try.func44, Try.ntmps44
  go_wp2
  rw [← hw0]
  clear hw0
  go_loopw [5] (fun i wr => ∃ n : Nat, n ≤ s.size ∧ i = .int .i64 n ∧ (∀ j (hj : j < s.size), j < n → hasB k s[j] = true) ∧ ∃ d, wr = w0.drewN d) (fun i _ => s.size - (intOf i).toNat)
  case atStart => exact ⟨0, by omega, rfl, fun j _ h => absurd h (by omega), 0, rfl⟩
  case round =>
    obtain ⟨n, hn, rfl, hno, hw⟩ := hrel
    have HN := Lib.hid hno
    have HW := Lib.hid hw
    have c2 : wr.cell? ⟨w.heap.size, 2, none⟩ = some (.string k) := by obtain ⟨d, rfl⟩ := hw; exact (HP.out.drewN d).cell 2
    clear hno hw
    by_cases hlt : n < s.size
    · have HC := Lib.hid (fun W => has_any k s[n] W hk)
      cases hh : hasB k s[n]
      · have HR := Lib.hid (begN_at HN.out hlt hh)
        rw [hh] at HC
        clear hh
        go_wp2
        go_quiet ((go_at_call 53; exact Calls.quiet_of_same ((HC.out _).mono fun _ _ h => ⟨h.1, h.2.symm⟩)))
        go_wp2
        go_ret
        exact ⟨by rw [HR.out]; rfl, by obtain ⟨d, hd⟩ := HW.out; rw [hd]; exact Below.drewN' (Below.drewN' HB0.out d) _⟩
      · have HH := Lib.hid hh
        rw [hh] at HC
        clear hh
        go_wp2
        go_quiet ((go_at_call 53; exact Calls.quiet_of_same ((HC.out _).mono fun _ _ h => ⟨h.1, h.2.symm⟩)))
        go_wp2
        go_roundw
        case rel => exact ⟨n + 1, by omega, by go_num, fun j hj h => if e : j = n then by subst e; exact HH.out else HN.out j hj (by omega), by obtain ⟨d, hd⟩ := HW.out; rw [hd]; exact ⟨_, World.drewN_drewN _ _ _⟩⟩
        case measure => simp [intOf]; omega
    · obtain rfl : n = s.size := by omega
      have HR := Lib.hid (begN_all (sk := k) (s := s) fun j hj => HN.out j hj hj)
      go_wp2
      go_ret
      exact ⟨by rw [HR.out]; rfl, by obtain ⟨d, hd⟩ := HW.out; rw [hd]; exact Below.drewN' HB0.out d⟩

set_option maxHeartbeats 400000 in
theorem behind_any (s b m k t : ByteArray) (w : World) (hs : s.size ≤ 9223372036854775807) (hk : k.size ≤ 9223372036854775807) :
    Calls Try.prog 47 #[.string s, patV b m k t] w fun e w' => e = .returned (.string (restS s k)) ∧ Below w.heap.size w w' := by
  have hb0 := (Below.refl w.heap.size w).alloc (Nat.le_refl _) (.cells #[.string b, .string m, .string k, .string t] 40)
  have HB0 := Lib.hid hb0
  have HC := Lib.hid (fun W => mbegins_any s b m k t W hs hk)
  obtain ⟨n, hn⟩ : ∃ n, n = begN k s := ⟨_, rfl⟩
  have hns : n ≤ s.size := by rw [hn]; exact begN_le _ _
  have HR := Lib.hid (show restS s k = s.extract n s.size from by rw [hn]; rfl)
  rw [← hn] at HC
  clear hb0 hn
  go_enter Try.func47, Try.ntmps47
  go_wp2_with (go_at_call 54; refine (HC.out _).mono ?_; rintro e w1 ⟨rfl, hb1⟩; have HB1 := Lib.hid hb1; clear hb1)
  go_ret
  exact ⟨by rw [HR.out]; rfl, HB0.out.trans (HB1.out.mono (by simp))⟩

end Go.Proofs.Ytcoblepgehjamaa

