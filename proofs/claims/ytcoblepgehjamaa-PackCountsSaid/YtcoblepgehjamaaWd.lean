/-
  What two and Members of the document's own answer of layer 15. Condition: the text is not longer than memory.
-/
import Derived.Test.YtcoblepgehjamaaWb
import Derived.Test.YtcoblepgehjamaaCut
import Derived.Test.YtcoblepgehjamaaCls
import Derived.Lib.Hide
import Derived.Test.YtcoblepgehjamaaMv
import Derived.BigQuiet
import Derived.Deep.QuietTactic
import Derived.OwnWalk
import Derived.LoopTactic
import Derived.WalkKit
namespace Go.Proofs.Ytcoblepgehjamaa
open Go.RowKit

set_option maxHeartbeats 1000000 in
theorem two_any (s : ByteArray) (w : World) (h : 2 ≤ s.size) (hs : s.size ≤ 9223372036854775807) :
    Calls Try.prog 27 #[.string s] w fun e w' => e = .returned (.int .i64 (twoB s 0 : Nat)) ∧ ∃ d, w' = w.drewN d := by
  obtain ⟨a, ha, ea⟩ : ∃ a : UInt8, s[0]'(by omega) = a ∧ Hid (s[0]! = a) := ⟨_, rfl, getElem!_pos s 0 (by omega)⟩
  obtain ⟨b, hb, eb⟩ : ∃ b : UInt8, s[1]'(by omega) = b ∧ Hid (s[1]! = b) := ⟨_, rfl, getElem!_pos s 1 (by omega)⟩
  have HV := Lib.hid (show twoB s 0 = a.toNat + 256 * b.toNat from by unfold twoB; rw [ea.out, eb.out])
  have ha8 := a.toNat_lt
  have hb8 := b.toNat_lt
  go_enter Try.func27, Try.ntmps27
  go_wp2
  go_quiet (fail)
  go_wp2
  go_ret
  exact ⟨by rw [HV.out]; go_num, _, rfl⟩

theorem two_at {s : ByteArray} {i : Nat} (h : i + 1 < s.size) : twoB (s.extract i s.size) 0 = twoB s i := by
  have e : ∀ j, i + j < s.size → (s.extract i s.size)[j]! = s[i + j]! := fun j hj => by
    have h1 : j < (s.extract i s.size).size := by simp; omega
    rw [getElem!_pos (s.extract i s.size) j h1, getElem!_pos s (i + j) hj]
    exact ByteArray.getElem_extract h1
  unfold twoB
  rw [e 0 (by omega), e (0 + 1) (by omega)]
  rfl
theorem two_lt (s : ByteArray) (i : Nat) : twoB s i < 65536 := by
  have h1 := (s[i]!).toNat_lt
  have h2 := (s[i + 1]!).toNat_lt
  unfold twoB
  omega

def sizeV : Value → Nat
  | .string x => x.size
  | _ => 0
/-- A world that differs from w by draws alone. -/
def Drn (w W : World) : Prop := ∃ d, W = w.drewN d
theorem Drn.drew {w W : World} (h : Drn w W) : Drn w W.drew := by
  obtain ⟨d, rfl⟩ := h
  exact ⟨d + 1, by rw [← World.drewN_drewN]; rfl⟩
theorem Drn.next {w : World} {x : Wld (Drn w)} {W' : World} (h : ∃ d, W' = x.val.drewN d) : Drn w W' := by
  obtain ⟨d, rfl⟩ := h
  obtain ⟨d0, h0⟩ := x.ok
  exact ⟨d0 + d, by rw [h0, World.drewN_drewN]⟩
theorem memH_no {x : ByteArray} {j : Nat} {v : UInt8} (hj : (j = 0 ∧ v = 80) ∨ (j = 1 ∧ v = 75) ∨ (j = 2 ∧ v = 3) ∨ (j = 3 ∧ v = 4)) (h : x[j]! ≠ v) : memH x = false := by
  have : (x[j]! == v) = false := beq_eq_false_iff_ne.2 h
  unfold memH
  rcases hj with ⟨rfl, rfl⟩ | ⟨rfl, rfl⟩ | ⟨rfl, rfl⟩ | ⟨rfl, rfl⟩ <;> rw [this] <;> simp
theorem memH_short {x : ByteArray} (h : x.size < 30) : memH x = false := by
  unfold memH
  rw [show decide (30 ≤ x.size) = false from by simpa using h]
  rfl
theorem memH_yes {x : ByteArray} (h : 30 ≤ x.size) (h0 : x[0]! = 80) (h1 : x[1]! = 75) (h2 : x[2]! = 3) (h3 : x[3]! = 4) : memH x = true := by
  unfold memH
  rw [h0, h1, h2, h3, show decide (30 ≤ x.size) = true from by simpa using h]
  rfl

-- MEMBERS
theorem list_empty {x : ByteArray} (h : x.size = 0) : (x.toList == ([] : List UInt8)) = true := by
  have := toList_size x
  rw [beq_iff_eq]
  exact List.eq_nil_of_length_eq_zero (by omega)
theorem list_full {x : ByteArray} (h : 0 < x.size) : (x.toList == ([] : List UInt8)) = false := by
  have := toList_size x
  rw [beq_eq_false_iff_ne]
  intro e
  rw [e] at this
  simp at this
  omega
theorem byte_ne {a b : UInt8} {n : Int} (h : a ≠ b) (hn : (b.toNat : Int) = n) : ((a.toNat : Int) == n) = false := by
  rw [beq_eq_false_iff_ne, ← hn]
  intro e
  exact h (UInt8.toNat_inj.1 (by omega))

set_option maxHeartbeats 4000000 in
set_option maxRecDepth 100000 in
theorem rMembers_any (s : ByteArray) (w : World) (hs : s.size ≤ 140737488351232) :
    Calls Try.prog 19 #[.string s] w fun e w' => e = .returned (.tuple #[.int .i64 ((memG s).1 : Nat), .bool (decide (0 < (memG s).1) && (memG s).2)]) ∧ Drn w w' := by
  go_enter Try.func19, Try.ntmps19
  go_wp2
  go_loopw [0, 4] (fun u n wr => ∃ (x : ByteArray) (c : Nat), u = .string x ∧ n = .int .i64 c ∧ x.size + c ≤ s.size ∧ ((memG x).1 + c = (memG s).1 ∧ (memG x).2 = (memG s).2) ∧ Drn w wr) (fun u _ _ => sizeV u)
  case atStart => exact ⟨s, 0, rfl, rfl, by omega, ⟨rfl, rfl⟩, 0, rfl⟩
  case round =>
    obtain ⟨x, c, rfl, rfl, hx, hm, hw⟩ := hrel
    have HM := Lib.hid hm
    have HW := Lib.hid hw
    clear hm hw
    have hend : memH x = false → Hid (∀ v, v = (x.size == 0) → (memG s).1 = c ∧ (decide (0 < (memG s).1) && (memG s).2) = (decide (0 < c) && v)) := fun h v hv => by
      have e := memG_stop (s := x) (fun h2 => by rw [h] at h2; cases h2.1)
      have h1 := HM.out.1
      have h2 := HM.out.2
      rw [e] at h1 h2
      have h3 : (memG s).1 = c := by rw [← h1]; exact Nat.zero_add c
      refine ⟨h3, ?_⟩
      rw [h3, ← h2, hv]
    by_cases h30 : 30 ≤ x.size
    · obtain ⟨a0, hi0, ea0⟩ : ∃ a : UInt8, x[0]'(by omega) = a ∧ Hid (x[0]! = a) := ⟨_, rfl, getElem!_pos x 0 (by omega)⟩
      obtain ⟨a1, hi1, ea1⟩ : ∃ a : UInt8, x[1]'(by omega) = a ∧ Hid (x[1]! = a) := ⟨_, rfl, getElem!_pos x 1 (by omega)⟩
      obtain ⟨a2, hi2, ea2⟩ : ∃ a : UInt8, x[2]'(by omega) = a ∧ Hid (x[2]! = a) := ⟨_, rfl, getElem!_pos x 2 (by omega)⟩
      obtain ⟨a3, hi3, ea3⟩ : ∃ a : UInt8, x[3]'(by omega) = a ∧ Hid (x[3]! = a) := ⟨_, rfl, getElem!_pos x 3 (by omega)⟩
      by_cases h0 : a0 = 80
      · subst h0
        by_cases h1 : a1 = 75
        · subst h1
          by_cases h2 : a2 = 3
          · subst h2
            by_cases h3 : a3 = 4
            · subst h3
              have HH := Lib.hid (memH_yes h30 ea0.out ea1.out ea2.out ea3.out)
              have h26 := two_lt x 26
              have h28 := two_lt x 28
              have h18 := two_lt x 18
              have h20 := two_lt x 20
              have HT26 := Lib.hid (fun W => two_any (x.extract 26 x.size) W (by simp; omega) (by simp; omega))
              have HT28 := Lib.hid (fun W => two_any (x.extract 28 x.size) W (by simp; omega) (by simp; omega))
              have HT18 := Lib.hid (fun W => two_any (x.extract 18 x.size) W (by simp; omega) (by simp; omega))
              have HT20 := Lib.hid (fun W => two_any (x.extract 20 x.size) W (by simp; omega) (by simp; omega))
              rw [two_at (by omega)] at HT26 HT28 HT18 HT20
              have HK := Lib.hid (show memK x = 30 + twoB x 26 + twoB x 28 + twoB x 18 + 65536 * twoB x 20 from rfl)
              generalize twoB x 26 = k1 at *
              generalize twoB x 28 = k2 at *
              generalize twoB x 18 = k3 at *
              generalize twoB x 20 = k4 at *
              have inst : Nonempty (Wld (Drn w)) := ⟨⟨_, HW.out⟩⟩
              clear hend ea0 ea1 ea2 ea3
              by_cases hk : 30 + k1 + k2 + k3 + 65536 * k4 ≤ x.size
              · have HS := Lib.hid (memG_step HH.out (by rw [HK.out]; exact hk))
                rw [HK.out] at HS
                go_wp2
                refine wp_region_class (Drn w) (by kernel_rfl) (by kernel_rfl) HW.out.drew ?_
                repeat (go_big_quiet_step ((go_at_call 27; (first | with_reducible exact Calls.cls (HT26.out _) fun _ h => Drn.next h | with_reducible exact Calls.cls (HT28.out _) fun _ h => Drn.next h | with_reducible exact Calls.cls (HT18.out _) fun _ h => Drn.next h | with_reducible exact Calls.cls (HT20.out _) fun _ h => Drn.next h))))
                refine wpQuiet_nil ?_
                intro w3 h3
                have HW3 := Lib.hid h3
                clear h3
                go_wp2
                go_roundw
                case rel => exact ⟨_, c + 1, rfl, by go_num, by simp; omega, ⟨by have h1 := HM.out.1; rw [HS.out] at h1; simp only at h1; omega, by have h2 := HM.out.2; rw [HS.out] at h2; exact h2⟩, HW3.out⟩
                case measure => simp [sizeV]; omega
              · have HE := Lib.hid (show (memG s).1 = c ∧ (memG s).2 = false from by
                  have e := memG_stop (s := x) (fun h2 => by rw [HK.out] at h2; exact hk h2.2)
                  have h1 := HM.out.1
                  have h2 := HM.out.2
                  rw [e] at h1 h2
                  exact ⟨by rw [← h1]; exact Nat.zero_add c, by rw [← h2]; exact beq_eq_false_iff_ne.2 (by show x.size ≠ 0; omega)⟩)
                go_wp2
                refine wp_region_class (Drn w) (by kernel_rfl) (by kernel_rfl) HW.out.drew ?_
                repeat (go_big_quiet_step ((go_at_call 27; (first | with_reducible exact Calls.cls (HT26.out _) fun _ h => Drn.next h | with_reducible exact Calls.cls (HT28.out _) fun _ h => Drn.next h | with_reducible exact Calls.cls (HT18.out _) fun _ h => Drn.next h | with_reducible exact Calls.cls (HT20.out _) fun _ h => Drn.next h))))
                refine wpQuiet_nil ?_
                intro w3 h3
                have HW3 := Lib.hid h3
                clear h3
                go_wp2
                exact bodyPost_ret (v := .tuple #[.int .i64 (c : Nat), .bool false]) (by simp [results, Try.results19, go_sem]) rfl ⟨by rw [HE.out.2, HE.out.1, Bool.and_false], HW3.out⟩
            · have HE := hend (memH_no (j := 3) (v := 4) (by decide) (by rw [ea3.out]; exact h3))
              have g3 := byte_ne (n := 4) h3 rfl
              clear hend h3 ea0 ea1 ea2 ea3
              by_cases hc : 0 < c
              · have hl : (x.toList == ([] : List UInt8)) = false := list_full (by omega)
                have HV := Lib.hid (HE.out false (by exact (beq_eq_false_iff_ne.2 (by omega)).symm))
                have d1 : decide (0 < c) = true := by simpa using hc
                clear HE
                as_aux_lemma =>
                go_wp2
                exact bodyPost_ret (v := .tuple #[.int .i64 (c : Nat), .bool false]) (by simp [results, Try.results19, go_sem]) rfl ⟨by rw [HV.out.2, HV.out.1, d1]; rfl, HW.out⟩
              · have HV := Lib.hid (HE.out _ rfl)
                obtain rfl : c = 0 := by omega
                clear HE
                as_aux_lemma =>
                go_wp2
                exact bodyPost_ret (v := .tuple #[.int .i64 0, .bool false]) (by simp [results, Try.results19, go_sem]) rfl ⟨by rw [HV.out.2, HV.out.1]; rfl, HW.out⟩
          · have HE := hend (memH_no (j := 2) (v := 3) (by decide) (by rw [ea2.out]; exact h2))
            have g2 := byte_ne (n := 3) h2 rfl
            clear hend h2 ea0 ea1 ea2 ea3
            by_cases hc : 0 < c
            · have hl : (x.toList == ([] : List UInt8)) = false := list_full (by omega)
              have HV := Lib.hid (HE.out false (by exact (beq_eq_false_iff_ne.2 (by omega)).symm))
              have d1 : decide (0 < c) = true := by simpa using hc
              clear HE
              as_aux_lemma =>
              go_wp2
              exact bodyPost_ret (v := .tuple #[.int .i64 (c : Nat), .bool false]) (by simp [results, Try.results19, go_sem]) rfl ⟨by rw [HV.out.2, HV.out.1, d1]; rfl, HW.out⟩
            · have HV := Lib.hid (HE.out _ rfl)
              obtain rfl : c = 0 := by omega
              clear HE
              as_aux_lemma =>
              go_wp2
              exact bodyPost_ret (v := .tuple #[.int .i64 0, .bool false]) (by simp [results, Try.results19, go_sem]) rfl ⟨by rw [HV.out.2, HV.out.1]; rfl, HW.out⟩
        · have HE := hend (memH_no (j := 1) (v := 75) (by decide) (by rw [ea1.out]; exact h1))
          have g1 := byte_ne (n := 75) h1 rfl
          clear hend h1 ea0 ea1 ea2 ea3
          by_cases hc : 0 < c
          · have hl : (x.toList == ([] : List UInt8)) = false := list_full (by omega)
            have HV := Lib.hid (HE.out false (by exact (beq_eq_false_iff_ne.2 (by omega)).symm))
            have d1 : decide (0 < c) = true := by simpa using hc
            clear HE
            as_aux_lemma =>
            go_wp2
            exact bodyPost_ret (v := .tuple #[.int .i64 (c : Nat), .bool false]) (by simp [results, Try.results19, go_sem]) rfl ⟨by rw [HV.out.2, HV.out.1, d1]; rfl, HW.out⟩
          · have HV := Lib.hid (HE.out _ rfl)
            obtain rfl : c = 0 := by omega
            clear HE
            as_aux_lemma =>
            go_wp2
            exact bodyPost_ret (v := .tuple #[.int .i64 0, .bool false]) (by simp [results, Try.results19, go_sem]) rfl ⟨by rw [HV.out.2, HV.out.1]; rfl, HW.out⟩
      · have HE := hend (memH_no (j := 0) (v := 80) (by decide) (by rw [ea0.out]; exact h0))
        have g0 := byte_ne (n := 80) h0 rfl
        clear hend h0 ea0 ea1 ea2 ea3
        by_cases hc : 0 < c
        · have hl : (x.toList == ([] : List UInt8)) = false := list_full (by omega)
          have HV := Lib.hid (HE.out false (by exact (beq_eq_false_iff_ne.2 (by omega)).symm))
          have d1 : decide (0 < c) = true := by simpa using hc
          clear HE
          as_aux_lemma =>
          go_wp2
          exact bodyPost_ret (v := .tuple #[.int .i64 (c : Nat), .bool false]) (by simp [results, Try.results19, go_sem]) rfl ⟨by rw [HV.out.2, HV.out.1, d1]; rfl, HW.out⟩
        · have HV := Lib.hid (HE.out _ rfl)
          obtain rfl : c = 0 := by omega
          clear HE
          as_aux_lemma =>
          go_wp2
          exact bodyPost_ret (v := .tuple #[.int .i64 0, .bool false]) (by simp [results, Try.results19, go_sem]) rfl ⟨by rw [HV.out.2, HV.out.1]; rfl, HW.out⟩
    · have HE := hend (memH_short (by omega))
      clear hend
      by_cases hc : 0 < c
      · by_cases hz : x.size = 0
        · have hl : (x.toList == ([] : List UInt8)) = true := list_empty hz
          have HV := Lib.hid (HE.out true (by rw [hz]; rfl))
          have d1 : decide (0 < c) = true := by simpa using hc
          clear HE
          as_aux_lemma =>
          go_wp2
          exact bodyPost_ret (v := .tuple #[.int .i64 (c : Nat), .bool true]) (by simp [results, Try.results19, go_sem]) rfl ⟨by rw [HV.out.2, HV.out.1, d1]; rfl, HW.out⟩
        · have hl : (x.toList == ([] : List UInt8)) = false := list_full (by omega)
          have HV := Lib.hid (HE.out false (by exact (beq_eq_false_iff_ne.2 (by omega)).symm))
          have d1 : decide (0 < c) = true := by simpa using hc
          clear HE
          as_aux_lemma =>
          go_wp2
          exact bodyPost_ret (v := .tuple #[.int .i64 (c : Nat), .bool false]) (by simp [results, Try.results19, go_sem]) rfl ⟨by rw [HV.out.2, HV.out.1, d1]; rfl, HW.out⟩
      · have HV := Lib.hid (HE.out _ rfl)
        obtain rfl : c = 0 := by omega
        clear HE
        as_aux_lemma =>
        go_wp2
        exact bodyPost_ret (v := .tuple #[.int .i64 0, .bool false]) (by simp [results, Try.results19, go_sem]) rfl ⟨by rw [HV.out.2, HV.out.1]; rfl, HW.out⟩

end Go.Proofs.Ytcoblepgehjamaa
