/-
  What layer 4's Serial and Needs answer, and the document's own Serial. Condition: the text takes at most 2^45 bytes.
-/
import Derived.Test.YtancilcfbhfopaaBld
import Derived.Test.YtancilcfbhfopaaQuo
import Derived.Test.YtancilcfbhfopaaCount
import Derived.LoopTactic
namespace Go.Proofs.Ytancilcfbhfopaa
open Go.RowKit

theorem n34 : (((34 : UInt8).toNat : Nat) : Int) = 34 := by kernel_rfl
theorem n92 : (((92 : UInt8).toNat : Nat) : Int) = 92 := by kernel_rfl
theorem writeByte_34 (B b : Nat) (l : List UInt8) (w : World) (h : Bld B b l w) (hlen : l.length + 1 ≤ 140737488355328) (hBw : B ≤ w.heap.size) :
    Calls Try.prog 80 #[.pointer (some ⟨b, 0, none⟩), .int .u8 34] w fun e w' => e = .returned .nilIface ∧ Bld B b (l ++ [34]) w' ∧ Below B w w' := by
  have := writeByte_any B b l 34 w h hlen hBw
  rwa [n34] at this
theorem writeByte_92 (B b : Nat) (l : List UInt8) (w : World) (h : Bld B b l w) (hlen : l.length + 1 ≤ 140737488355328) (hBw : B ≤ w.heap.size) :
    Calls Try.prog 80 #[.pointer (some ⟨b, 0, none⟩), .int .u8 92] w fun e w' => e = .returned .nilIface ∧ Bld B b (l ++ [92]) w' ∧ Below B w w' := by
  have := writeByte_any B b l 92 w h hlen hBw
  rwa [n92] at this

/-- What is written of a text in quotes, behind k of its bytes. -/
def serK (s : ByteArray) (k : Nat) : List UInt8 := 34 :: serL (s.data.toList.take k)
theorem serK_zero (s : ByteArray) : serK s 0 = [34] := rfl
theorem serK_yes {s : ByteArray} {k : Nat} (h : k < s.size) (e : s[k].toNat = 34 ∨ s[k].toNat = 92) : serK s (k + 1) = serK s k ++ [92] ++ [s[k]] := by
  unfold serK
  rw [take_snoc s k h, serL_append, serL_yes e]
  simp
theorem serK_no {s : ByteArray} {k : Nat} (h : k < s.size) (e1 : s[k].toNat ≠ 34) (e2 : s[k].toNat ≠ 92) : serK s (k + 1) = serK s k ++ [s[k]] := by
  unfold serK
  rw [take_snoc s k h, serL_append, serL_no e1 e2]
  simp
theorem serK_len (s : ByteArray) (k : Nat) : (serK s k).length ≤ 2 * k + 1 := by
  have := serL_len (s.data.toList.take k)
  have h2 : (s.data.toList.take k).length ≤ k := by simp; omega
  unfold serK
  simp
  omega
theorem serK_all (s : ByteArray) : (⟨(serK s s.size ++ [34]).toArray⟩ : ByteArray) = serS s := by
  unfold serK serS
  rw [List.take_of_length_le (by simp)]

set_option maxHeartbeats 2000000 in
theorem serial_any (s : ByteArray) (w : World) (hs : s.size ≤ 35184372088832) :
    Calls Try.prog 62 #[.string s] w fun e w' => e = .returned (.string (serS s)) ∧ Below w.heap.size w w' := by
  have HN := Lib.hid (Bld.new w)
  have HA := Lib.hid (serK_all s)
  go_enter Try.func62, Try.ntmps62
  go_wp2_with fail
  refine (writeByte_34 w.heap.size w.heap.size [] _ HN.out (by simp) (by simp)).mono ?_
  rintro e w1 ⟨rfl, b1, m1⟩
  have HB1 := Lib.hid b1
  have HM1 := Lib.hid (((Below.refl _ _).alloc (Nat.le_refl _) _).trans m1)
  clear b1 m1 HN
  go_wp2
  go_loopw [8] (fun i wr => ∃ k : Nat, k ≤ s.size ∧ i = .int .i64 k ∧ Bld w.heap.size w.heap.size (serK s k) wr ∧ Below w.heap.size w wr) (fun i _ => s.size - (intOf i).toNat)
  case atStart => exact ⟨0, Nat.zero_le _, rfl, HB1.out, HM1.out⟩
  case round =>
    obtain ⟨k, hk, rfl, hb, hm⟩ := hrel
    have hl := serK_len s k
    have HB := Lib.hid hb
    have HM := Lib.hid hm
    clear hb hm HB1 HM1
    by_cases hlt : k < s.size
    · by_cases hy : s[k].toNat = 34 ∨ s[k].toNat = 92
      · have HE := Lib.hid (serK_yes hlt hy)
        have HR : ∀ K : Prop, ((((s[k].toNat : Int) == 34) = true → K) ∧ (((s[k].toNat : Int) == 34) = false → ((s[k].toNat : Int) == 92) = true → K)) → K := by
          rintro K ⟨h1, h2⟩
          rcases hy with h | h
          · exact h1 (by rw [h]; rfl)
          · exact h2 (by rw [h]; rfl) (by rw [h]; rfl)
        clear hy
        refine HR _ ⟨fun d1 => ?_, fun d1 d2 => ?_⟩
        all_goals
          clear HR
          go_wp2_with fail
          refine (writeByte_92 w.heap.size w.heap.size _ _ HB.out (by omega) HM.out.size).mono ?_
          rintro e w2 ⟨rfl, b2, m2⟩
          have HB2 := Lib.hid b2
          have HM2 := Lib.hid (HM.out.trans m2)
          clear b2 m2
          go_wp2_with fail
          refine (writeByte_any w.heap.size w.heap.size _ s[k] _ HB2.out (by simp; omega) HM2.out.size).mono ?_
          rintro e w3 ⟨rfl, b3, m3⟩
          have HB3 := Lib.hid b3
          have HM3 := Lib.hid (HM2.out.trans m3)
          clear b3 m3
          go_wp2
          go_roundw
          case rel => exact ⟨k + 1, by omega, by go_num, by rw [HE.out]; exact HB3.out, HM3.out⟩
          case measure => simp [intOf]; omega
      · have d1 : ((s[k].toNat : Int) == 34) = false := by simp; omega
        have d2 : ((s[k].toNat : Int) == 92) = false := by simp; omega
        have HE := Lib.hid (serK_no hlt (by omega) (by omega))
        clear hy
        go_wp2_with fail
        refine (writeByte_any w.heap.size w.heap.size _ s[k] _ HB.out (by omega) HM.out.size).mono ?_
        rintro e w3 ⟨rfl, b3, m3⟩
        have HB3 := Lib.hid b3
        have HM3 := Lib.hid (HM.out.trans m3)
        clear b3 m3
        go_wp2
        go_roundw
        case rel => exact ⟨k + 1, by omega, by go_num, by rw [HE.out]; exact HB3.out, HM3.out⟩
        case measure => simp [intOf]; omega
    · obtain rfl : k = s.size := by omega
      go_wp2_with fail
      refine (writeByte_34 w.heap.size w.heap.size _ _ HB.out (by omega) HM.out.size).mono ?_
      rintro e w2 ⟨rfl, b2, m2⟩
      have HB2 := Lib.hid b2
      have HM2 := Lib.hid (HM.out.trans m2)
      clear b2 m2
      go_wp2_with fail
      refine (string_any w.heap.size w.heap.size _ _ HB2.out HM2.out.size).mono ?_
      rintro e w3 ⟨rfl, _, m3⟩
      have HM3 := Lib.hid (HM2.out.trans m3)
      clear m3
      go_wp2
      go_ret
      exact ⟨by rw [← HA.out]; rfl, HM3.out⟩

/-- Whether a text is no token. -/
def needB (s : ByteArray) : Bool := s.toList == [] || !allB tokB s

set_option maxHeartbeats 400000 in
theorem needs_any (s : ByteArray) (w : World) (hs : s.size ≤ 9223372036854775807) :
    Calls Try.prog 26 #[.string s] w fun e w' => e = .returned (.bool (needB s)) ∧ Below w.heap.size w w' := by
  have HA := Lib.hid (fun W => all_Tok s W hs)
  unfold needB
  cases h0 : (s.toList == [])
  · go_enter Try.func26, Try.ntmps26
    go_wp2_with (go_at_call 54; refine (HA.out _).mono ?_; rintro e w1 ⟨rfl, hb⟩)
    go_ret
    exact ⟨rfl, hb⟩
  · go_enter Try.func26, Try.ntmps26
    go_wp2
    go_ret
    exact ⟨rfl, Below.refl _ _⟩

end Go.Proofs.Ytancilcfbhfopaa
