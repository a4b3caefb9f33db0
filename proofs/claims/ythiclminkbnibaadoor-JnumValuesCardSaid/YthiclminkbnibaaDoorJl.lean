/-
  What the document's own State and Scan of layer 9 answer. Condition: the text is as long as a length can be.
-/
import Derived.Test.YthiclminkbnibaaDoorJk
namespace Go.Proofs.YthiclminkbnibaaDoor
open Go.RowKit

theorem plc_same {s t : ByteArray} : ∀ n, (∀ j, j < n → s.data.toList.getD j 0 = t.data.toList.getD j 0) → plc s n = plc t n
  | 0, _ => rfl
  | n + 1, h => by
    show nxt (plc s n) _ = nxt (plc t n) _
    rw [plc_same n fun j hj => h j (by omega), h n (by omega)]
theorem isB_head {s : ByteArray} {n : Nat} (hn : n ≤ s.size) : isB (s.extract 0 n) = endB (plc s n) := by
  unfold isB
  have e : (s.extract 0 n).size = n := by simp; omega
  rw [e, plc_same n fun j hj => head_at s hn hj]
theorem isB_one (s : ByteArray) : isB (s ++ ⟨#[49]⟩) = endB (nxt (plc s s.size) 49) := by
  unfold isB
  have e : (s ++ ⟨#[49]⟩ : ByteArray).size = s.size + 1 := by simp [ByteArray.size_append]; rfl
  have h1 : ∀ j, j < s.size → (s ++ ⟨#[49]⟩ : ByteArray).data.toList.getD j 0 = s.data.toList.getD j 0 := fun j hj => by
    simp only [ByteArray.data_append, Array.toList_append]
    rw [List.getD_eq_getElem?_getD, List.getElem?_append_left (by simpa using hj), ← List.getD_eq_getElem?_getD]
  rw [e]
  show endB (nxt (plc _ s.size) _) = _
  rw [plc_same s.size h1]
  congr 2
  simp only [ByteArray.data_append, Array.toList_append]
  rw [List.getD_eq_getElem?_getD, List.getElem?_append_right (by simp)]
  simp
theorem sta_all : (List.range 10).all (fun p => staB p == if endB p then 2 else if endB (nxt p 49) then 1 else 0) = true := by kernel_rfl
theorem sta_is {p : Nat} (h : p ≤ 9) : staB p = if endB p = true then 2 else if endB (nxt p 49) = true then 1 else 0 := by
  have := List.all_eq_true.1 sta_all p (List.mem_range.2 (by omega))
  exact beq_iff_eq.1 this
/-- What State tells of a text. -/
def staT (s : ByteArray) : Int := staB (plc s s.size)
theorem staT_full {s : ByteArray} (h : isB s = true) : staT s = 2 := by
  unfold staT
  rw [sta_is (plc_le _ _), if_pos (show endB (plc s s.size) = true from h)]
theorem staT_begun {s : ByteArray} (h : isB s = false) (h1 : isB (s ++ ⟨#[49]⟩) = true) : staT s = 1 := by
  unfold staT
  rw [isB_one] at h1
  unfold isB at h
  rw [sta_is (plc_le _ _), if_neg (by rw [h]; decide), if_pos h1]
theorem staT_no {s : ByteArray} (h : isB s = false) (h1 : isB (s ++ ⟨#[49]⟩) = false) : staT s = 0 := by
  unfold staT
  rw [isB_one] at h1
  unfold isB at h
  rw [sta_is (plc_le _ _), if_neg (by rw [h]; decide), if_neg (by rw [h1]; decide)]

set_option maxHeartbeats 1000000 in
theorem refState_any (s : ByteArray) (w : World) (hs : s.size ≤ 1000000) :
    Calls Tryd.prog 10 #[.string s] w fun e w' => e = .returned (.int .i64 (staT s)) ∧ w = w' := by
  have HI := Lib.hid fun W => is_any s W (by omega)
  have HJ := Lib.hid fun W => is_any (s ++ ⟨#[49]⟩) W (by have : (s ++ ⟨#[49]⟩ : ByteArray).size = s.size + 1 := (by simp [ByteArray.size_append]; rfl); omega)
  obtain ⟨v, hv⟩ : ∃ v, v = staT s := ⟨_, rfl⟩
  rw [← hv]
  cases h : isB s
  · cases h1 : isB (s ++ ⟨#[49]⟩)
    · rw [h] at HI
      rw [h1] at HJ
      rw [staT_no h h1] at hv
      subst hv
      clear h h1
      go_enter Tryd.func10, Tryd.ntmps10
      go_wp2_with (first
        | (go_at_call 13; (with_reducible refine (HI.out _).mono ?_); rintro e w' ⟨rfl, rfl⟩)
        | (go_at_call 13; (with_reducible refine (HJ.out _).mono ?_); rintro e w' ⟨rfl, rfl⟩))
      go_ret
      exact ⟨rfl, rfl⟩
    · rw [h] at HI
      rw [h1] at HJ
      rw [staT_begun h h1] at hv
      subst hv
      clear h h1
      go_enter Tryd.func10, Tryd.ntmps10
      go_wp2_with (first
        | (go_at_call 13; (with_reducible refine (HI.out _).mono ?_); rintro e w' ⟨rfl, rfl⟩)
        | (go_at_call 13; (with_reducible refine (HJ.out _).mono ?_); rintro e w' ⟨rfl, rfl⟩))
      go_ret
      exact ⟨rfl, rfl⟩
  · rw [h] at HI
    rw [staT_full h] at hv
    subst hv
    clear h HJ
    go_enter Tryd.func10, Tryd.ntmps10
    go_wp2_with (go_at_call 13; (with_reducible refine (HI.out _).mono ?_); rintro e w' ⟨rfl, rfl⟩)
    go_ret
    exact ⟨rfl, rfl⟩

set_option maxHeartbeats 1000000 in
theorem refScan_any (s : ByteArray) (w : World) (hs : s.size ≤ 9223372036854775807) :
    Calls Tryd.prog 8 #[.string s] w fun e w' => e = .returned (.int .i64 (lng s s.size : Nat)) ∧ w = w' := by
  obtain ⟨v, hv⟩ : ∃ v, v = lng s s.size := ⟨_, rfl⟩
  rw [← hv]
  have HV := Lib.hid hv
  clear hv
  go_enter Tryd.func8, Tryd.ntmps8
  go_wp2
  go_loop [3] (fun i => ∃ k : Nat, k ≤ s.size ∧ i = .int .i64 k ∧ Hid (v = lng s k)) (fun i => (intOf i).toNat)
  case atStart => exact ⟨s.size, Nat.le_refl _, rfl, HV⟩
  case round =>
    obtain ⟨k, hk, rfl, HB⟩ := hrel
    by_cases h0 : k = 0
    · have HT : Hid (v = 0) := by
        have := HB.out
        rw [h0] at this
        exact this
      subst h0
      go_wp2
      go_ret
      exact ⟨by rw [HT.out]; rfl, rfl⟩
    · have hd : decide ((0 : Int) < (k : Int)) = true := decide_eq_true (by omega)
      have HI := Lib.hid fun W => is_any (s.extract 0 k) W (by simp only [ByteArray.size_extract]; omega)
      rw [isB_head hk] at HI
      obtain ⟨j, rfl⟩ : ∃ j, k = j + 1 := ⟨k - 1, by omega⟩
      cases he : endB (plc s (j + 1))
      · rw [he] at HI
        have HE : Hid (v = lng s j) := by
          have := HB.out
          unfold lng at this
          rw [if_neg (by rw [he]; decide)] at this
          exact this
        clear he HB h0
        go_wp2_with (go_at_call 13; (with_reducible refine (HI.out _).mono ?_); rintro e w' ⟨rfl, rfl⟩)
        go_round
        case rel => exact ⟨j, by omega, by go_num, HE⟩
        case measure => simp [intOf]
      · rw [he] at HI
        have HE : Hid (v = j + 1) := by
          have := HB.out
          unfold lng at this
          rw [if_pos he] at this
          exact this
        clear he HB h0
        go_wp2_with (go_at_call 13; (with_reducible refine (HI.out _).mono ?_); rintro e w' ⟨rfl, rfl⟩)
        go_ret
        exact ⟨by rw [HE.out]; rfl, rfl⟩

end Go.Proofs.YthiclminkbnibaaDoor
