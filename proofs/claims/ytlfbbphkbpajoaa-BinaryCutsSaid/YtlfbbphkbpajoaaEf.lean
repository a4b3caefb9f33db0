/-
  The law BinaryCuts. Condition: lengths as they can be.
-/
import Derived.Test.YtlfbbphkbpajoaaEd
import Derived.Test.YtlfbbphkbpajoaaClass3
import Derived.LoopTactic
import Derived.BigQuiet
namespace Go.Proofs.Ytlfbbphkbpajoaa
open Go.RowKit

/-- A text of n bytes: those of another one, again and again. -/
def cycL (s : ByteArray) (n : Nat) : List UInt8 := (List.range n).map fun i => s[i % s.size]!
def cycS (s : ByteArray) (n : Nat) : ByteArray := ⟨(cycL s n).toArray⟩
def cycV (s : ByteArray) (n : Nat) : List Value := (cycL s n).map fun b => .int .u8 (b.toNat : Int)
theorem cycV_zero (s : ByteArray) : cycV s 0 = [] := rfl
theorem cycV_succ {s : ByteArray} {k : Nat} (h : k % s.size < s.size) : cycV s (k + 1) = cycV s k ++ [.int .u8 ((s[k % s.size].toNat : Int))] := by
  unfold cycV cycL
  rw [List.range_succ, List.map_append, List.map_append]
  simp [getElem!_pos, h]
theorem cycS_size (s : ByteArray) (n : Nat) : (cycS s n).size = n := by
  show (cycL s n).toArray.size = n
  simp [cycL]
theorem cycV_at {s : ByteArray} {n j : Nat} (h : j < n) : (cycV s n)[j]? = some (.int .u8 (((cycL s n)[j]'(by simpa [cycL] using h)).toNat : Int)) := by
  unfold cycV
  rw [List.getElem?_map, List.getElem?_eq_getElem (by simpa [cycL] using h)]
  rfl
theorem cyc_drewN {w : World} {base n : Nat} {v : Value} {xs : List Value} (h : w.ownsRow base 5 1 v n xs) (j : Nat) : (w.drewN j).ownsRow base 5 1 v n xs := h
theorem cyc_back {s : ByteArray} {n : Nat} {v : Value} {W : World} {base : Nat} (h : W.ownsRow base 5 1 v n (cycV s n)) :
    (convert 37 9 v).run Try.prog W = .ok (.string (cycS s n)) W := by
  have hl : (cycS s n).data.toList.length = n := by simp [cycS, cycL]
  have h' := h
  rcases h.2 with ⟨rfl, h0⟩ | ⟨g, cap, cur, rfl, _⟩
  · subst h0
    have e : cycS s 0 = ByteArray.empty := rfl
    rw [e]
    exact run_convert_bytes_nil (P := Try.prog) W 37 5 Try.underlying37 Try.underlying5 0 0 9 Try.underlying9
  · have := run_convert_bytes_back (P := Try.prog) W 37 9 5 ⟨g, 0, none⟩ cap (cycS s n).data.toList Try.underlying37 Try.underlying5 Try.underlying9 (fun j hj => by
      have hj' : j < n := by omega
      have e : (⟨g, 0, none⟩ : Addr).add j = ⟨g, j, none⟩ := by cases j <;> simp [Addr.add]
      rw [e, h'.cellAt j (by omega), cycV_at hj']
      rfl)
    rw [hl] at this
    simpa using this

theorem cutB_pos {s : ByteArray} (h : 0 < s.size) : 0 < (cutB s 100).size := by
  unfold cutB
  split
  · simp; omega
  · exact h
theorem mod_is {k n : Nat} : (k : Int) % (n : Int) = ((k % n : Nat) : Int) := by omega

/-- A number of sixteen bits. -/
theorem bits16_of {n : Int} (h : (Lit.int .u16 n).wf = true) : ∃ b : Nat, n = (b : Int) ∧ b < 65536 := by
  have h' : 0 ≤ n ∧ n < 65536 := by
    have e1 : IntKind.u16.min = 0 := by kernel_rfl
    have e2 : IntKind.u16.max = 65535 := by kernel_rfl
    simp [Lit.wf, e1, e2] at h
    omega
  exact ⟨n.toNat, by omega, by omega⟩

set_option maxHeartbeats 4000000 in
theorem binaryCuts_any (s : ByteArray) (n : Nat) (w : World) (hs : s.size ≤ 9223372036854775807) (_hn : n < 65536) :
    Calls Try.prog 5 #[.string s, .int .u16 (n : Nat)] w fun e w' => e = .returned (.bool true) ∧ Below w.heap.size w w' := by
  obtain ⟨i0, hi, hz0, hz1, hz2⟩ := info_parts Try.info5
  obtain ⟨m, hm⟩ : ∃ m : Nat, m = n % 3000 := ⟨_, rfl⟩
  have hmi : (n : Int) % 3000 = (m : Int) := by omega
  have hm2 : m < 3000 := by omega
  clear hm
  have HLV := Lib.hid (fun W => (lives19_any W).mono fun _ _ h => (⟨h.1, h.2.symm⟩ : _ ∧ _))
  obtain ⟨t, ht⟩ : ∃ t : ByteArray, t = if s.size = 0 then ⟨#[97]⟩ else s := ⟨_, rfl⟩
  have htz : t.size ≤ 9223372036854775807 := by
    rw [ht]
    split
    · decide
    · exact hs
  have htp : 0 < t.size := by
    rw [ht]
    split
    · decide
    · omega
  have HCS : Hid (∀ W, Calls Try.prog 9 #[.string t, .int .i64 100] W fun e w' => e = .returned (.string (cutB t 100)) ∧ W = w') := Lib.hid fun W => cut_any t 100 W htz
  have hu := cutB_size t 100
  have hu0 := cutB_pos htp
  generalize cutB t 100 = u at *
  have HC1 := Lib.hid (fun W => (cut19_any (cycS u m) W (by rw [cycS_size]; omega)).mono fun _ _ h => (⟨h.1, h.2.symm⟩ : _ ∧ _))
  have HC2 := Lib.hid (fun W => (rcut19_any (cycS u m) W (by rw [cycS_size]; omega)).mono fun _ _ h => (⟨h.1, h.2.symm⟩ : _ ∧ _))
  generalize cutB (cycS u m) 1445 = z at *
  have hcase : (((s.size : Int) == 0) = true ∧ t = ⟨#[97]⟩) ∨ (((s.size : Int) == 0) = false ∧ t = s) := by
    by_cases h : s.size = 0
    · exact Or.inl ⟨by rw [beq_iff_eq]; omega, by rw [ht, if_pos h]⟩
    · exact Or.inr ⟨by rw [beq_eq_false_iff_ne]; omega, by rw [ht, if_neg h]⟩
  clear ht htz htp
  rcases hcase with ⟨hd, rfl⟩ | ⟨hd, rfl⟩
  all_goals
    go_enter Try.func5, Try.ntmps5
    go_wp2_with (go_at_call 9; (with_reducible refine (HCS.out _).mono ?_); rintro e w1 ⟨rfl, rfl⟩)
    go_loopw [5, 6] (fun v i wr => ∃ k : Nat, k ≤ m ∧ i = .int .i64 k ∧ wr.ownsRow w.heap.size 5 1 v k (cycV u k) ∧ Below w.heap.size w wr) (fun _ i _ => m - (intOf i).toNat)
    case atStart => exact ⟨0, Nat.zero_le _, rfl, World.ownsRow_made w #[] 0 (Nat.le_refl _) (Nat.zero_le _) rfl, (Below.refl _ _).alloc (Nat.le_refl _) _⟩
    case round =>
      obtain ⟨k, hk, rfl, hown, hW⟩ := hrel
      have HO := Lib.hid hown
      have HW := Lib.hid hW
      clear hown hW
      by_cases hlt : k < m
      · have hkl : k % u.size < u.size := Nat.mod_lt _ hu0
        have hki : (k : Int) % (u.size : Int) = ((k % u.size : Nat) : Int) := rfl
        have HX := Lib.hid (cycV_succ hkl)
        generalize k % u.size = q at *
        go_wp2_with (at_builtin; refine wpList_append_own _ rfl _ _ 37 rfl w.heap.size 5 i0 (.int .u8 0) 1 1 Try.underlying37 hi hz0 hz1 hz2 rfl (by decide) _ _ _ rfl (HO.out.alloc _) ⟨wr.heap.size, 0, none⟩ 1 1 [.int .u8 (u[q].toNat : Int)] rfl rfl ?_ ?_ ?_ ?_ ?_ ?_)
        · intro j u hj
          match j, hj with
          | 0, hj => simp at hj; subst hj; simp [Addr.add]
        · intro u hu; simp at hu; subst hu; rfl
        · unfold maxLen; omega
        · omega
        · have := HW.out.size; simp; omega
        · intro v' w1 hown' hgrow _
          have hown2 : w1.ownsRow w.heap.size 5 1 v' (k + 1) (cycV u (k + 1)) := by rw [HX.out]; exact hown'
          have HO2 := Lib.hid hown2
          have HG := Lib.hid (Below.grown (HW.out.alloc (by have := HW.out.size; omega) _) hgrow (by have := HW.out.size; simp; omega) (fun g hg => (HO.out.lt g hg).1))
          clear hown2 hown' hgrow
          go_wp2
          go_roundw
          case rel => exact ⟨k + 1, by omega, by go_num, HO2.out, HG.out⟩
          case measure => simp [intOf]; omega
      · obtain rfl : k = m := by omega
        have hback := fun j => cyc_back (cyc_drewN HO.out j)
        go_wp2
        go_quiet (first
          | (go_at_call 22; with_reducible exact Calls.quiet_of_same (HC1.out _))
          | (go_at_call 23; with_reducible exact Calls.quiet_of_same (HC2.out _))
          | (go_at_call 8; with_reducible exact Calls.quiet_of_same (HLV.out _)))
        go_wp2
        go_ret
        exact ⟨rfl, Below.drewN' HW.out _⟩

end Go.Proofs.Ytlfbbphkbpajoaa
