/-
  That layer 4's 'lives' is true, and what Value tells of the law's own calls. Conditions as in Collect.
-/
import Derived.Test.YtikepdlbjfbgjaaSplit
import Derived.Test.YtikepdlbjfbgjaaSer
import Derived.Test.YtikepdlbjfbgjaaAttemptStr
namespace Go.Proofs.Ytikepdlbjfbgjaa
open Go.RowKit

def live4 : ByteArray := ⟨#[97, 44, 34, 98, 44, 99, 34]⟩
theorem live4_split : splitL live4 0 = [⟨#[97]⟩, ⟨#[34, 98, 44, 99, 34]⟩] := by kernel_rfl
theorem live4_serial : serS ⟨#[97, 34]⟩ = ⟨#[34, 97, 92, 34, 34]⟩ := by kernel_rfl

set_option maxHeartbeats 400000 in
theorem lives4_any (w : World) :
    Calls Try.prog 13 #[] w fun e w' => e = .returned (.bool true) ∧ Below w.heap.size w w' := by
  obtain ⟨x, hx⟩ : ∃ x : ByteArray, x = ⟨#[34, 98, 44, 99, 34]⟩ := ⟨_, rfl⟩
  obtain ⟨y, hy⟩ : ∃ y : ByteArray, y = ⟨#[34, 97, 92, 34, 34]⟩ := ⟨_, rfl⟩
  have hxx : (x.toList == [34, 98, 44, 99, 34]) = true := by rw [hx]; kernel_rfl
  have hyy : (y.toList == [34, 97, 92, 34, 34]) = true := by rw [hy]; kernel_rfl
  have HS : Hid (Calls Try.prog 22 #[.string ⟨#[97, 44, 34, 98, 44, 99, 34]⟩] w fun e w' => ∃ g cap, e = .returned (.slice (some ⟨g, 0, none⟩) 2 cap) ∧ w'.cell? ⟨g, 1, none⟩ = some (.string x) ∧ 2 ≤ cap ∧ Below w.heap.size w w') := by
    refine (split_any live4 w (by decide)).mono ?_
    rintro e w' ⟨v, rfl, ho, hb⟩
    rw [live4_split] at ho
    rcases ho.2 with ⟨_, h0⟩ | ⟨g, cap, cur, rfl, _, _, hc, _⟩
    · cases h0
    · refine ⟨g, cap, rfl, ?_, hc, hb⟩
      have := ho.cellAt 1 (by decide)
      rw [hx]
      simpa [strs] using this
  have HR : Hid (∀ W, Calls Try.prog 14 #[.string ⟨#[97, 34]⟩] W fun e w' => e = .returned (.string y) ∧ Below W.heap.size W w') := fun W => by
    have := serial_any ⟨#[97, 34]⟩ W (by decide)
    rw [live4_serial, ← hy] at this
    exact this
  clear hx hy
  go_enter Try.func13, Try.ntmps13
  go_wp2_with fail
  refine HS.out.mono ?_
  rintro e w1 ⟨g, cap, rfl, hc, hcap, hb1⟩
  have HB := Lib.hid hb1
  clear hb1
  go_wp2_with (go_at_call 14; refine (HR.out _).mono ?_; rintro e w2 ⟨rfl, hb2⟩)
  go_ret
  exact ⟨rfl, HB.out.trans (hb2.mono HB.out.size)⟩

abbrev skipc (cb : Nat) (n : Int) : Value := .agg #[cptr cb, .int .i64 n]
abbrev callc (cb : Nat) (x : Bool) : Value := .agg #[cptr cb, .bool x]
theorem enter_skip (d : Value) (w : World) : (callFunc 9 (#[d] ++ #[])).run Try.prog w = .ok (.enter 9 (#[d] ++ #[])) w := by simp [go_sem]
theorem enter_call (d : Value) (w : World) : (callFunc 10 (#[d] ++ #[])).run Try.prog w = .ok (.enter 10 (#[d] ++ #[])) w := by simp [go_sem]

set_option maxHeartbeats 400000 in
theorem skipDo_ok (cb k n : Nat) (s : ByteArray) (w : World) (h : Cur w cb s k) (hk : k + n ≤ s.size) (hs : s.size ≤ 9223372036854775807) :
    Calls Try.prog 9 #[skipc cb n] w fun e w' => e = .returned (.string (s.extract k (k + n))) ∧ Mv w.heap.size [cb] w w' ∧ Cur w' cb s (k + n) := by
  have hcb := h.lt
  go_enter Try.func9, Try.ntmps9
  go_wp2_with (go_at_call 21; refine (take_ok cb k n s _ (h.alloc _) hk hs).mono ?_; rintro e w1 ⟨rfl, i1⟩; have HI := Lib.hid i1; clear i1)
  go_ret
  obtain ⟨m1, c1⟩ := Mv.put (h.alloc (.cells #[cptr cb, .int .i64 n] 34)) HI.out
  exact ⟨rfl, ((Mv.refl _ _ _).alloc (Nat.le_refl _) _).chain m1 (Nat.le_refl _), c1⟩

set_option maxHeartbeats 400000 in
theorem callDo_of (cb j : Nat) (x : Bool) (s y : ByteArray) (w : World)
    (h : Hid (∀ W, Below w.heap.size w W → Calls Try.prog 19 #[cptr cb, .bool x] W fun e w' => e = .returned (.string y) ∧ Mv W.heap.size [cb] W w' ∧ Cur w' cb s j)) :
    Calls Try.prog 10 #[callc cb x] w fun e w' => e = .returned (.string y) ∧ Mv w.heap.size [cb] w w' ∧ Cur w' cb s j := by
  go_enter Try.func10, Try.ntmps10
  go_wp2_with (go_at_call 19; refine (h.out _ ((Below.refl _ _).alloc (Nat.le_refl _) _)).mono ?_; rintro e w1 ⟨rfl, m1, c1⟩)
  go_ret
  exact ⟨rfl, ((Mv.refl _ _ _).alloc (Nat.le_refl _) _).chain m1 (Nat.le_refl _), c1⟩

set_option maxHeartbeats 400000 in
theorem callDo_bad (cb k : Nat) (x : Bool) (s : ByteArray) (w : World) (hc : Cur w cb s k)
    (h : Hid (∀ W, Below w.heap.size w W → Calls Try.prog 19 #[cptr cb, .bool x] W fun e w' => e = pnc k 2 ∧ ∃ m, w' = W.drewN m)) :
    Calls Try.prog 10 #[callc cb x] w fun e w' => e = pnc k 2 ∧ Mv w.heap.size [cb] w w' ∧ Cur w' cb s k := by
  have HC := Lib.hid hc
  clear hc
  go_enter Try.func10, Try.ntmps10
  go_wp2_with (go_at_call 19; refine (h.out _ ((Below.refl _ _).alloc (Nat.le_refl _) _)).mono ?_; rintro e w1 ⟨rfl, n, rfl⟩)
  exact ⟨rfl, rfl, ((Mv.refl _ _ _).alloc (Nat.le_refl _) _).drewN n, Blk.drewN (HC.out.alloc _) n⟩

theorem one_in {n cb : Nat} (hcb : cb < n) : ∀ x ∈ [cb], x < n := fun x hx => by simp at hx; omega

theorem value_skip (cb k n : Nat) (s : ByteArray) (w : World) (h : Cur w cb s k) (hk : k + n ≤ s.size) (hs : s.size ≤ 9223372036854775807) :
    Calls Try.prog 8 #[.func (.func 9) #[skipc cb n] #[]] w fun e w' => e = .returned (.tuple #[.string (s.extract k (k + n)), flt 0 0]) ∧ Mv w.heap.size [cb] w w' ∧ Cur w' cb s (k + n) :=
  valueStr_returns 9 #[skipc cb n] #[] _ w [cb] (fun W => Cur W cb s (k + n)) (one_in h.lt) (fun _ _ hb hc => hc.below hb h.lt) (enter_skip _)
    fun W hW => skipDo_ok cb k n s W (h.below hW h.lt) hk hs
theorem value_said (cb k : Nat) (s : ByteArray) (w : World) (h : Cur w cb s k) (hk : k < s.size) (hq : s[k].toNat = 34) (hs : s.size ≤ 140737488355328) :
    Calls Try.prog 8 #[.func (.func 10) #[callc cb true] #[]] w fun e w' => e = .returned (.tuple #[.string ⟨(quoS s (k + 1)).1.toArray⟩, flt 0 0]) ∧ Mv w.heap.size [cb] w w' ∧ Cur w' cb s (k + 1 + (quoS s (k + 1)).2) :=
  valueStr_returns 10 #[callc cb true] #[] _ w [cb] (fun W => Cur W cb s (k + 1 + (quoS s (k + 1)).2)) (one_in h.lt) (fun _ _ hb hc => hc.below hb h.lt) (enter_call _)
    fun W hW => callDo_of cb _ true s _ W fun W' hW' => collect_said cb k s W' (Blk.below (h.below hW h.lt) hW' (Nat.lt_of_lt_of_le h.lt hW.size)) hk hq hs
theorem value_all (cb k : Nat) (s : ByteArray) (w : World) (h : Cur w cb s k) (hk : k < s.size) (hq : s[k].toNat = 34) (hs : s.size ≤ 140737488355328) :
    Calls Try.prog 8 #[.func (.func 10) #[callc cb false] #[]] w fun e w' => e = .returned (.tuple #[.string (s.extract k (k + 1 + (quoS s (k + 1)).2)), flt 0 0]) ∧ Mv w.heap.size [cb] w w' ∧ Cur w' cb s (k + 1 + (quoS s (k + 1)).2) :=
  valueStr_returns 10 #[callc cb false] #[] _ w [cb] (fun W => Cur W cb s (k + 1 + (quoS s (k + 1)).2)) (one_in h.lt) (fun _ _ hb hc => hc.below hb h.lt) (enter_call _)
    fun W hW => callDo_of cb _ false s _ W fun W' hW' => collect_all cb k s W' (Blk.below (h.below hW h.lt) hW' (Nat.lt_of_lt_of_le h.lt hW.size)) hk hq hs
theorem value_bad (cb k : Nat) (x : Bool) (s : ByteArray) (w : World) (h : Cur w cb s k) (hk : k ≤ s.size) (hq : ∀ h : k < s.size, s[k].toNat ≠ 34) (hs : s.size ≤ 9223372036854775807) :
    Calls Try.prog 8 #[.func (.func 10) #[callc cb x] #[]] w fun e w' => e = .returned (.tuple #[.string ⟨#[]⟩, flt k 2]) ∧ Mv w.heap.size [cb] w w' ∧ Cur w' cb s k :=
  valueStr_throws 10 #[callc cb x] #[] k 2 w [cb] (fun W => Cur W cb s k) (one_in h.lt) (fun _ _ hb hc => hc.below hb h.lt) (enter_call _)
    fun W hW => callDo_bad cb k x s W (h.below hW h.lt) fun W' hW' => collect_bad cb k s x W' (Blk.below (h.below hW h.lt) hW' (Nat.lt_of_lt_of_le h.lt hW.size)) hk hq hs

end Go.Proofs.Ytikepdlbjfbgjaa
