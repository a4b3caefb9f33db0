/-
  The law QuotedBack returns true for any two texts. Condition: they are as long as a length can be.
-/
import Derived.Test.YtikepdlbjfbgjaaLives4
import Derived.Test.YtikepdlbjfbgjaaRead
import Derived.Test.YtikepdlbjfbgjaaRef4
import Derived.Test.YtikepdlbjfbgjaaCut
namespace Go.Proofs.Ytikepdlbjfbgjaa
open Go.RowKit

/-- Whether a text must stand between quotes, as far as its first k bytes tell. -/
def needK (u : ByteArray) (k : Nat) : Bool := u.toList == [] || !((cntT tokB u k : Int) == (k : Int))
theorem needK_zero (u : ByteArray) : needK u 0 = u.toList.isEmpty := by
  unfold needK
  rw [cntT_zero]
  cases u.toList <;> simp
theorem needK_all (u : ByteArray) : needK u u.size = needB u := rfl
theorem needK_no {u : ByteArray} {k : Nat} (h : k < u.size) (hp : tokB u[k] = false) : needK u (k + 1) = true := by
  have := cntT_le tokB u k
  have e : ((cntT tokB u (k + 1) : Int) == ((k + 1 : Nat) : Int)) = false := by
    rw [cntT_no h hp, beq_eq_false_iff_ne]
    omega
  unfold needK
  rw [e]
  simp
theorem needK_yes {u : ByteArray} {k : Nat} (h : k < u.size) (hp : tokB u[k] = true) : needK u (k + 1) = needK u k := by
  unfold needK
  rw [cntT_yes h hp]
  congr 2
  rw [Bool.eq_iff_iff, beq_iff_eq, beq_iff_eq]
  omega
theorem needK_stays {u : ByteArray} {k : Nat} (h : k < u.size) (hn : needK u k = true) : needK u (k + 1) = true := by
  cases hp : tokB u[k]
  · exact needK_no h hp
  · rw [needK_yes h hp]; exact hn

set_option maxHeartbeats 2000000 in
theorem quotedBack_of (s t u v q : ByteArray) (w : World) (hu : u.size ≤ 60) (hv : v.size ≤ 20) (hq : q.size ≤ 122)
    (HCS : Hid (∀ W, Below w.heap.size w W → Calls Try.prog 5 #[.string s, .int .i64 60] W fun e w' => e = .returned (.string u) ∧ Below w.heap.size w w'))
    (HCT : Hid (∀ W, Below w.heap.size w W → Calls Try.prog 5 #[.string t, .int .i64 20] W fun e w' => e = .returned (.string v) ∧ Below w.heap.size w w'))
    (HSE : Hid (∀ W, Below w.heap.size w W → Calls Try.prog 14 #[.string u] W fun e w' => e = .returned (.string q) ∧ Below w.heap.size w w'))
    (HRD : Hid (∀ W, Below w.heap.size w W → Calls Try.prog 6 #[.string (q ++ v)] W fun e w' => e = .returned (.tuple #[.string u, .int .i64 q.size, .int .i64 0]) ∧ Below w.heap.size w w'))
    (HRS : Hid (∀ W, Below w.heap.size w W → Calls Try.prog 16 #[.string u] W fun e w' => e = .returned (.string q) ∧ Below w.heap.size w w'))
    (HND : Hid (∀ W, Below w.heap.size w W → Calls Try.prog 17 #[.string u] W fun e w' => e = .returned (.bool (needK u u.size)) ∧ Below w.heap.size w w'))
    (HLV : Hid (∀ W, Below w.heap.size w W → Calls Try.prog 13 #[] W fun e w' => e = .returned (.bool true) ∧ Below w.heap.size w w')) :
    Calls Try.prog 4 #[.string s, .string t] w fun e w' => e = .returned (.bool true) ∧ Below w.heap.size w w' := by
  have hb0 := Below.refl w.heap.size w
  have HK0 := Lib.hid (needK_zero u)
  go_enter Try.func4, Try.ntmps4
  go_wp2_with (first
    | (go_at_call 5; with_reducible refine (HCS.out _ (by assumption)).mono ?_; rintro e w1 ⟨rfl, hb1⟩)
    | (go_at_call 5; with_reducible refine (HCT.out _ (by assumption)).mono ?_; rintro e w1 ⟨rfl, hb1⟩)
    | (go_at_call 14; with_reducible refine (HSE.out _ (by assumption)).mono ?_; rintro e w1 ⟨rfl, hb1⟩)
    | (go_at_call 6; with_reducible refine (HRD.out _ (by assumption)).mono ?_; rintro e w1 ⟨rfl, hb1⟩))
  go_loopw [9, 10] (fun b i wr => ∃ (k : Nat), k ≤ u.size ∧ b = .bool (needK u k) ∧ i = .int .i64 k ∧ Below w.heap.size w wr) (fun _ i _ => u.size - (intOf i).toNat)
  case atStart => exact ⟨0, Nat.zero_le _, by rw [HK0.out], rfl, by assumption⟩
  case round =>
    obtain ⟨k, hk, rfl, rfl, hm⟩ := hrel
    by_cases hlt : k < u.size
    · cases hb : needK u k
      · have HT := Lib.hid (fun W => refToken_any u[k] W)
        cases hp : tokB u[k]
        · have HE := Lib.hid (needK_no hlt hp)
          have HT2 : Hid (∀ W, Calls Try.prog 15 #[.int .u8 (u[k].toNat : Int)] W fun e w' => e = .returned (.bool false) ∧ W = w') := fun W => by have := HT.out W; rwa [hp] at this
          clear HT hp hb
          go_wp2_with (go_at_call 15; refine (HT2.out _).mono ?_; rintro e w' ⟨rfl, rfl⟩)
          go_roundw
          case rel => exact ⟨k + 1, by omega, by rw [HE.out], by go_num, hm⟩
          case measure => simp [intOf]; omega
        · have HE := Lib.hid ((needK_yes hlt hp).trans hb)
          have HT2 : Hid (∀ W, Calls Try.prog 15 #[.int .u8 (u[k].toNat : Int)] W fun e w' => e = .returned (.bool true) ∧ W = w') := fun W => by have := HT.out W; rwa [hp] at this
          clear HT hp hb
          go_wp2_with (go_at_call 15; refine (HT2.out _).mono ?_; rintro e w' ⟨rfl, rfl⟩)
          go_roundw
          case rel => exact ⟨k + 1, by omega, by rw [HE.out], by go_num, hm⟩
          case measure => simp [intOf]; omega
      · have HE := Lib.hid (needK_stays hlt hb)
        clear hb
        go_wp2
        go_roundw
        case rel => exact ⟨k + 1, by omega, by rw [HE.out], by go_num, hm⟩
        case measure => simp [intOf]; omega
    · obtain rfl : k = u.size := by omega
      clear HCS HCT HSE HRD
      go_wp2_with (first
        | (go_at_call 16; with_reducible refine (HRS.out _ (by assumption)).mono ?_; rintro e w1 ⟨rfl, hb1⟩)
        | (go_at_call 17; with_reducible refine (HND.out _ (by assumption)).mono ?_; rintro e w1 ⟨rfl, hb1⟩)
        | (go_at_call 13; with_reducible refine (HLV.out _ (by assumption)).mono ?_; rintro e w1 ⟨rfl, hb1⟩))
      go_ret
      exact ⟨rfl, by assumption⟩

theorem quotedBack_any (s t : ByteArray) (w : World) (hs : s.size ≤ 9223372036854775807) (ht : t.size ≤ 9223372036854775807) :
    Calls Try.prog 4 #[.string s, .string t] w fun e w' => e = .returned (.bool true) ∧ Below w.heap.size w w' := by
  have hu := cutB_size s 60
  have hv := cutB_size t 20
  have hq := serS_le (cutB s 60)
  have hz := serS_size (cutB s 60)
  exact quotedBack_of s t (cutB s 60) (cutB t 20) (serS (cutB s 60)) w hu hv (by omega)
    (fun W hW => (cut_any s 60 W hs).mono fun _ _ h => ⟨h.1, by rw [← h.2]; exact hW⟩)
    (fun W hW => (cut_any t 20 W ht).mono fun _ _ h => ⟨h.1, by rw [← h.2]; exact hW⟩)
    (fun W hW => (serial_any (cutB s 60) W (by omega)).mono fun _ _ h => ⟨h.1, hW.trans (h.2.mono hW.size)⟩)
    (fun W hW => by
      have h0 : 0 < (serS (cutB s 60) ++ cutB t 20).size := by simp; omega
      have h1 : ((serS (cutB s 60) ++ cutB t 20)[0]).toNat = 34 := by
        rw [ByteArray.getElem_append_left (by omega)]
        rfl
      have := read_ok (serS (cutB s 60) ++ cutB t 20) W h0 h1 (by simp; omega)
      rw [quoS_serS] at this
      have e1 : (⟨(cutB s 60).data.toList.toArray⟩ : ByteArray) = cutB s 60 := bytes_back _
      have e2 : 1 + ((serS (cutB s 60)).size - 1) = (serS (cutB s 60)).size := by omega
      simp only [e1, e2] at this
      exact this.mono fun _ _ h => ⟨h.1, hW.trans (h.2.mono hW.size)⟩)
    (fun W hW => (refSerial_any (cutB s 60) W (by omega)).mono fun _ _ h => ⟨h.1, hW.trans (h.2.mono hW.size)⟩)
    (fun W hW => (needs_any (cutB s 60) W (by omega)).mono fun _ _ h => ⟨h.1, hW.trans (h.2.mono hW.size)⟩)
    (fun W hW => (lives4_any W).mono fun _ _ h => ⟨h.1, hW.trans (h.2.mono hW.size)⟩)

end Go.Proofs.Ytikepdlbjfbgjaa
