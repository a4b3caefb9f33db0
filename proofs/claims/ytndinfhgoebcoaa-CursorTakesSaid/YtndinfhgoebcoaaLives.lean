/-
  What layer 2's calls do (Next, Take, U32, Back over a cursor, or none), what Value and Catch tell of them, and that 'lives' is true. Conditions as in Cursor.
-/
import Derived.Test.YtndinfhgoebcoaaCursor
import Derived.Test.YtndinfhgoebcoaaAttemptStr
import Derived.Test.YtndinfhgoebcoaaAttemptU32
import Derived.Laws.IdiomStrings
namespace Go.Proofs.Ytndinfhgoebcoaa
open Go.RowKit

abbrev call (p : Option Addr) (n : Int) : Value := .agg #[.pointer p, .int .i64 n]
abbrev callc (p : Option Addr) (n : Int) : Obj := .cells #[.pointer p, .int .i64 n] 29

theorem enter_next (d : Value) (w : World) : (callFunc 27 (#[d] ++ #[])).run Try.prog w = .ok (.enter 27 (#[d] ++ #[])) w := by simp [go_sem]
theorem enter_take (d : Value) (w : World) : (callFunc 31 (#[d] ++ #[])).run Try.prog w = .ok (.enter 31 (#[d] ++ #[])) w := by simp [go_sem]
theorem enter_u32 (d : Value) (w : World) : (callFunc 33 (#[d] ++ #[])).run Try.prog w = .ok (.enter 33 (#[d] ++ #[])) w := by simp [go_sem]
theorem enter_back (d : Value) (w : World) : (callFunc 10 (#[d] ++ #[])).run Try.prog w = .ok (.enter 10 (#[d] ++ #[])) w := by simp [go_sem]

set_option maxHeartbeats 400000 in
theorem callNext_nil (n : Int) (w : World) :
    Calls Try.prog 27 #[call none n] w fun e w' => e = pnc 0 8 ∧ w' = w.alloc (callc none n) := by
  go_enter Try.func27, Try.ntmps27
  go_wp2_with (go_at_call 38; refine (next_nil _).mono ?_; rintro e w1 ⟨rfl, rfl⟩)
  exact ⟨rfl, rfl, rfl⟩

/-- A one-byte slice as a text. -/
theorem conv_one (b : UInt8) (W : World) (g : Nat) (h : W.cell? ⟨g, 0, none⟩ = some (.int .u8 (b.toNat : Int))) :
    (convert 69 9 (.slice (some ⟨g, 0, none⟩) 1 1)).run Try.prog W = .ok (.string ⟨#[b]⟩) W := by
  refine run_convert_bytes_back W _ _ 5 ⟨g, 0, none⟩ 1 [b] Try.underlying69 Try.underlying5 Try.underlying9 ?_
  intro j hj
  obtain rfl : j = 0 := by simpa using hj
  exact h

theorem Cur.put {W w' : World} {cb j : Nat} {s : ByteArray} {k : Nat} (h : Cur W cb s k) (he : w' = W.setCell ⟨cb, 1, none⟩ (.int .i64 j)) : Mv W.heap.size [cb] W w' ∧ Cur w' cb s j := by
  subst he
  exact ⟨(Mv.refl _ _ _).setCell (.inl (by simp)) _, h.set j⟩

set_option maxHeartbeats 400000 in
theorem callNext_ok (cb k : Nat) (n : Int) (s : ByteArray) (w : World) (h : Cur w cb s k) (hk : k < s.size) (hs : s.size ≤ 9223372036854775807) :
    Calls Try.prog 27 #[call (some ⟨cb, 0, none⟩) n] w fun e w' => e = .returned (.string ⟨#[s[k]]⟩) ∧ Mv w.heap.size [cb] w w' ∧ Cur w' cb s (k + 1) := by
  have hcb := h.lt
  have hcv := conv_one s[k]
  go_enter Try.func27, Try.ntmps27
  go_wp2_with (go_at_call 38; refine (next_ok cb k s _ (h.alloc _) hk hs).mono ?_; rintro e w1 ⟨rfl, m, rfl⟩)
  go_ret
  obtain ⟨h1, h2⟩ := Cur.put (j := k + 1) ((h.alloc (callc (some ⟨cb, 0, none⟩) n)).drewN m) rfl
  exact ⟨rfl, ((((Mv.refl _ _ _).alloc (Nat.le_refl _) _).drewN m).trans (h1.mono (by simp) (fun x hx => .inl hx))).alloc (by simp [World.setCell]) _, h2.alloc _⟩

set_option maxHeartbeats 400000 in
theorem callNext_far (cb k : Nat) (n : Int) (s : ByteArray) (w : World) (h : Cur w cb s k) (hk : k = s.size) (hs : s.size ≤ 9223372036854775807) :
    Calls Try.prog 27 #[call (some ⟨cb, 0, none⟩) n] w fun e w' => e = pnc k 8 ∧ Below w.heap.size w w' := by
  have HK := Lib.hid hk
  clear hk
  go_enter Try.func27, Try.ntmps27
  go_wp2_with (go_at_call 38; refine (next_far cb k s _ (h.alloc _) HK.out hs).mono ?_; rintro e w1 ⟨rfl, hD⟩)
  exact ⟨rfl, rfl, ((Below.refl _ _).alloc (Nat.le_refl _) _).trans (hD.below.mono (by simp))⟩

set_option maxHeartbeats 400000 in
theorem callTake_ok (cb k n : Nat) (s : ByteArray) (w : World) (h : Cur w cb s k) (hk : k + n ≤ s.size) (hs : s.size ≤ 9223372036854775807) :
    Calls Try.prog 31 #[call (some ⟨cb, 0, none⟩) n] w fun e w' => e = .returned (.string (s.extract k (k + n))) ∧ Mv w.heap.size [cb] w w' ∧ Cur w' cb s (k + n) := by
  have hcb := h.lt
  go_enter Try.func31, Try.ntmps31
  go_wp2_with (go_at_call 40; refine (take_ok cb k n s _ (h.alloc _) hk hs).mono ?_; rintro e w1 ⟨rfl, m, hw⟩; have HW := Lib.hid hw; clear hw)
  go_ret
  obtain ⟨h1, h2⟩ := Cur.put (j := k + n) ((h.alloc (callc (some ⟨cb, 0, none⟩) n)).drewN m) HW.out
  exact ⟨rfl, (((Mv.refl _ _ _).alloc (Nat.le_refl _) _).drewN m).trans (h1.mono (by simp) (fun x hx => .inl hx)), h2⟩

set_option maxHeartbeats 400000 in
theorem callTake_neg (cb k : Nat) (n : Int) (s : ByteArray) (w : World) (h : Cur w cb s k) (h0 : n < 0) :
    Calls Try.prog 31 #[call (some ⟨cb, 0, none⟩) n] w fun e w' => e = pnc k 9 ∧ Below w.heap.size w w' := by
  go_enter Try.func31, Try.ntmps31
  go_wp2_with (go_at_call 40; refine (take_neg cb k s n _ (h.alloc _) h0).mono ?_; rintro e w1 ⟨rfl, rfl⟩)
  exact ⟨rfl, rfl, (Below.refl _ _).alloc (Nat.le_refl _) _⟩

set_option maxHeartbeats 400000 in
theorem callTake_far (cb k : Nat) (n : Int) (s : ByteArray) (w : World) (h : Cur w cb s k) (hk : k ≤ s.size) (hs : s.size ≤ 9223372036854775807) (h0 : 0 ≤ n) (h1 : (s.size : Int) - k < n) :
    Calls Try.prog 31 #[call (some ⟨cb, 0, none⟩) n] w fun e w' => e = pnc k 8 ∧ Below w.heap.size w w' := by
  go_enter Try.func31, Try.ntmps31
  go_wp2_with (go_at_call 40; refine (take_far cb k s n _ (h.alloc _) hk hs h0 h1).mono ?_; rintro e w1 ⟨rfl, hD⟩)
  exact ⟨rfl, rfl, ((Below.refl _ _).alloc (Nat.le_refl _) _).trans (hD.below.mono (by simp))⟩

set_option maxHeartbeats 400000 in
theorem callBack_ok (cb k j : Nat) (s : ByteArray) (w : World) (h : Cur w cb s k) (hj : j ≤ k) :
    Calls Try.prog 10 #[call (some ⟨cb, 0, none⟩) j] w fun e w' => (∃ v, e = .returned v) ∧ Mv w.heap.size [cb] w w' ∧ Cur w' cb s j := by
  have hcb := h.lt
  go_enter Try.func10, Try.ntmps10
  go_wp2_with (go_at_call 30; refine (back_ok cb k j s _ (h.alloc _) hj).mono ?_; rintro e w1 ⟨rfl, m, hw⟩; have HW := Lib.hid hw; clear hw)
  go_end0
  obtain ⟨h1, h2⟩ := Cur.put (j := j) ((h.alloc (callc (some ⟨cb, 0, none⟩) j)).drewN m) HW.out
  exact ⟨⟨_, rfl⟩, (((Mv.refl _ _ _).alloc (Nat.le_refl _) _).drewN m).trans (h1.mono (by simp) (fun x hx => .inl hx)), h2⟩

set_option maxHeartbeats 400000 in
theorem callBack_neg (cb k : Nat) (n : Int) (s : ByteArray) (w : World) (h : Cur w cb s k) (h0 : n < 0) :
    Calls Try.prog 10 #[call (some ⟨cb, 0, none⟩) n] w fun e w' => e = pnc k 9 ∧ Below w.heap.size w w' := by
  go_enter Try.func10, Try.ntmps10
  go_wp2_with (go_at_call 30; refine (back_neg cb k n s _ (h.alloc _) h0).mono ?_; rintro e w1 ⟨rfl, hD⟩)
  exact ⟨rfl, rfl, ((Below.refl _ _).alloc (Nat.le_refl _) _).trans (hD.below.mono (by simp))⟩

set_option maxHeartbeats 400000 in
theorem callBack_far (cb k : Nat) (n : Int) (s : ByteArray) (w : World) (h : Cur w cb s k) (h0 : 0 ≤ n) (h1 : (k : Int) < n) :
    Calls Try.prog 10 #[call (some ⟨cb, 0, none⟩) n] w fun e w' => e = pnc k 9 ∧ Below w.heap.size w w' := by
  go_enter Try.func10, Try.ntmps10
  go_wp2_with (go_at_call 30; refine (back_far cb k n s _ (h.alloc _) h0 h1).mono ?_; rintro e w1 ⟨rfl, hD⟩)
  exact ⟨rfl, rfl, ((Below.refl _ _).alloc (Nat.le_refl _) _).trans (hD.below.mono (by simp))⟩

set_option maxHeartbeats 400000 in
theorem callBack_nil (n : Int) (w : World) :
    Calls Try.prog 10 #[call none n] w fun e w' => e = pnc 0 9 ∧ Below w.heap.size w w' := by
  go_enter Try.func10, Try.ntmps10
  go_wp2_with (go_at_call 30; refine (back_nil _ _).mono ?_; rintro e w1 ⟨rfl, rfl⟩)
  exact ⟨rfl, rfl, (Below.refl _ _).alloc (Nat.le_refl _) _⟩

/-! ### What Value and Catch tell of them -/
theorem cur_stable {n cb k : Nat} {s : ByteArray} (hcb : cb < n) : ∀ W1 W2 : World, Below n W1 W2 → Cur W1 cb s k → Cur W2 cb s k := fun _ _ hb h => h.below hb hcb
theorem one_lt {n cb : Nat} (hcb : cb < n) : ∀ x ∈ [cb], x < n := fun x hx => by simp at hx; omega
theorem true_stable (n : Nat) : ∀ W1 W2 : World, Below n W1 W2 → True → True := fun _ _ _ h => h
theorem none_lt (n : Nat) : ∀ x ∈ ([] : List Nat), x < n := fun x hx => by cases hx
theorem Mv.none_below {B : Nat} {w w' : World} (h : Mv B [] w w') : Below B w w' := h.below (Nat.le_refl _) (fun x hx => by cases hx)

theorem value_next_ok (cb k : Nat) (n : Int) (s : ByteArray) (w : World) (h : Cur w cb s k) (hk : k < s.size) (hs : s.size ≤ 9223372036854775807) :
    Calls Try.prog 26 #[.func (.func 27) #[call (some ⟨cb, 0, none⟩) n] #[]] w fun e w' => e = .returned (.tuple #[.string ⟨#[s[k]]⟩, flt 0 0]) ∧ Mv w.heap.size [cb] w w' ∧ Cur w' cb s (k + 1) :=
  valueStr_returns 27 #[call (some ⟨cb, 0, none⟩) n] #[] _ w [cb] (fun W => Cur W cb s (k + 1)) (one_lt h.lt) (cur_stable h.lt) (enter_next _)
    fun W hW => callNext_ok cb k n s W (h.below hW h.lt) hk hs
theorem value_next_far (cb k : Nat) (n : Int) (s : ByteArray) (w : World) (h : Cur w cb s k) (hk : k = s.size) (hs : s.size ≤ 9223372036854775807) :
    Calls Try.prog 26 #[.func (.func 27) #[call (some ⟨cb, 0, none⟩) n] #[]] w fun e w' => e = .returned (.tuple #[.string ⟨#[]⟩, flt k 8]) ∧ Below w.heap.size w w' :=
  (valueStr_throws 27 #[call (some ⟨cb, 0, none⟩) n] #[] k 8 w [] (fun _ => True) (none_lt _) (true_stable _) (enter_next _)
    fun W hW => (callNext_far cb k n s W (h.below hW h.lt) hk hs).mono fun _ _ ⟨h1, h2⟩ => ⟨h1, Mv.of_below h2 _, trivial⟩).mono fun _ _ ⟨h1, h2, _⟩ => ⟨h1, h2.none_below⟩
theorem value_next_nil (n : Int) (w : World) :
    Calls Try.prog 26 #[.func (.func 27) #[call none n] #[]] w fun e w' => e = .returned (.tuple #[.string ⟨#[]⟩, flt 0 8]) ∧ Below w.heap.size w w' :=
  (valueStr_throws 27 #[call none n] #[] 0 8 w [] (fun _ => True) (none_lt _) (true_stable _) (enter_next _)
    fun W _ => (callNext_nil n W).mono fun _ _ ⟨h1, h2⟩ => ⟨h1, h2 ▸ Mv.of_below ((Below.refl _ _).alloc (Nat.le_refl _) _) _, trivial⟩).mono fun _ _ ⟨h1, h2, _⟩ => ⟨h1, h2.none_below⟩
theorem value_take_ok (cb k n : Nat) (s : ByteArray) (w : World) (h : Cur w cb s k) (hk : k + n ≤ s.size) (hs : s.size ≤ 9223372036854775807) :
    Calls Try.prog 26 #[.func (.func 31) #[call (some ⟨cb, 0, none⟩) n] #[]] w fun e w' => e = .returned (.tuple #[.string (s.extract k (k + n)), flt 0 0]) ∧ Mv w.heap.size [cb] w w' ∧ Cur w' cb s (k + n) :=
  valueStr_returns 31 #[call (some ⟨cb, 0, none⟩) n] #[] _ w [cb] (fun W => Cur W cb s (k + n)) (one_lt h.lt) (cur_stable h.lt) (enter_take _)
    fun W hW => callTake_ok cb k n s W (h.below hW h.lt) hk hs
theorem value_take_neg (cb k : Nat) (n : Int) (s : ByteArray) (w : World) (h : Cur w cb s k) (h0 : n < 0) :
    Calls Try.prog 26 #[.func (.func 31) #[call (some ⟨cb, 0, none⟩) n] #[]] w fun e w' => e = .returned (.tuple #[.string ⟨#[]⟩, flt k 9]) ∧ Below w.heap.size w w' :=
  (valueStr_throws 31 #[call (some ⟨cb, 0, none⟩) n] #[] k 9 w [] (fun _ => True) (none_lt _) (true_stable _) (enter_take _)
    fun W hW => (callTake_neg cb k n s W (h.below hW h.lt) h0).mono fun _ _ ⟨h1, h2⟩ => ⟨h1, Mv.of_below h2 _, trivial⟩).mono fun _ _ ⟨h1, h2, _⟩ => ⟨h1, h2.none_below⟩
theorem value_take_far (cb k : Nat) (n : Int) (s : ByteArray) (w : World) (h : Cur w cb s k) (hk : k ≤ s.size) (hs : s.size ≤ 9223372036854775807) (h0 : 0 ≤ n) (h1 : (s.size : Int) - k < n) :
    Calls Try.prog 26 #[.func (.func 31) #[call (some ⟨cb, 0, none⟩) n] #[]] w fun e w' => e = .returned (.tuple #[.string ⟨#[]⟩, flt k 8]) ∧ Below w.heap.size w w' :=
  (valueStr_throws 31 #[call (some ⟨cb, 0, none⟩) n] #[] k 8 w [] (fun _ => True) (none_lt _) (true_stable _) (enter_take _)
    fun W hW => (callTake_far cb k n s W (h.below hW h.lt) hk hs h0 h1).mono fun _ _ ⟨h1, h2⟩ => ⟨h1, Mv.of_below h2 _, trivial⟩).mono fun _ _ ⟨h1, h2, _⟩ => ⟨h1, h2.none_below⟩
theorem catch_back_ok (cb k j : Nat) (s : ByteArray) (w : World) (h : Cur w cb s k) (hj : j ≤ k) :
    Calls Try.prog 9 #[.func (.func 10) #[call (some ⟨cb, 0, none⟩) j] #[]] w fun e w' => e = .returned (.tuple #[flt 0 0, .bool false]) ∧ Mv w.heap.size [cb] w w' ∧ Cur w' cb s j :=
  catch_mv_returns 10 #[call (some ⟨cb, 0, none⟩) j] #[] w [cb] (fun W => Cur W cb s j) (one_lt h.lt) (cur_stable h.lt) (enter_back _)
    fun W hW => callBack_ok cb k j s W (h.below hW h.lt) hj
theorem catch_back_bad (cb k : Nat) (n : Int) (s : ByteArray) (w : World) (h : Cur w cb s k) (hn : n < 0 ∨ (k : Int) < n) :
    Calls Try.prog 9 #[.func (.func 10) #[call (some ⟨cb, 0, none⟩) n] #[]] w fun e w' => e = .returned (.tuple #[flt k 9, .bool true]) ∧ Below w.heap.size w w' :=
  (catch_mv_throws 10 #[call (some ⟨cb, 0, none⟩) n] #[] w k 9 [] (fun _ => True) (none_lt _) (true_stable _) (enter_back _)
    fun W hW => by
      by_cases h0 : n < 0
      · exact (callBack_neg cb k n s W (h.below hW h.lt) h0).mono fun _ _ ⟨h1, h2⟩ => ⟨h1, Mv.of_below h2 _, trivial⟩
      · exact (callBack_far cb k n s W (h.below hW h.lt) (by omega) (by omega)).mono fun _ _ ⟨h1, h2⟩ => ⟨h1, Mv.of_below h2 _, trivial⟩).mono fun _ _ ⟨h1, h2, _⟩ => ⟨h1, h2.none_below⟩
theorem catch_back_nil (n : Int) (w : World) :
    Calls Try.prog 9 #[.func (.func 10) #[call none n] #[]] w fun e w' => e = .returned (.tuple #[flt 0 9, .bool true]) ∧ Below w.heap.size w w' :=
  (catch_mv_throws 10 #[call none n] #[] w 0 9 [] (fun _ => True) (none_lt _) (true_stable _) (enter_back _)
    fun W _ => (callBack_nil n W).mono fun _ _ ⟨h1, h2⟩ => ⟨h1, Mv.of_below h2 _, trivial⟩).mono fun _ _ ⟨h1, h2, _⟩ => ⟨h1, h2.none_below⟩

theorem value_next_ab (n : Int) (w : World) (cb : Nat) (h : Cur w cb ⟨#[97, 98]⟩ 0) :
    Calls Try.prog 26 #[.func (.func 27) #[call (some ⟨cb, 0, none⟩) n] #[]] w fun e w' => e = .returned (.tuple #[.string ⟨#[97]⟩, flt 0 0]) ∧ Mv w.heap.size [cb] w w' ∧ Cur w' cb ⟨#[97, 98]⟩ 1 :=
  value_next_ok cb 0 n ⟨#[97, 98]⟩ w h (by decide) (by decide)

set_option maxHeartbeats 400000 in
theorem lives_any (w : World) :
    Calls Try.prog 18 #[] w fun e w' => e = .returned (.bool true) ∧ Below w.heap.size w w' := by
  have hmf := make_func
  have hab : ∀ W1 : World, Cur W1 w.heap.size ⟨#[97, 98]⟩ 1 → Calls Try.prog 15 #[cptr w.heap.size] W1 fun e w' => e = .returned (.int .i64 1) ∧ ∃ n, w' = W1.drewN n :=
    fun W1 h => left_any w.heap.size 1 ⟨#[97, 98]⟩ W1 h (by decide) (by decide)
  have HAB := Lib.hid hab
  clear hab
  go_enter Try.func18, Try.ntmps18
  go_wp2_with (first
    | (go_at_call 8; refine (new_any _ _).mono ?_; rintro e w1 ⟨rfl, rfl⟩)
    | (go_at_call 26; refine (value_next_ab 0 _ w.heap.size (Blk.new _ _ _)).mono ?_; rintro e w1 ⟨rfl, hm1, hc1⟩; obtain ⟨hcl, hfr⟩ := mcell hm1; have hz := hm1.size; simp at hz)
    | (go_at_call 14; refine (at_any w.heap.size 1 ⟨#[97, 98]⟩ _ (by exact hc1.alloc _)).mono ?_; rintro e w2 ⟨rfl, rfl⟩)
    | (go_at_call 15; refine (HAB.out _ (by exact hc1.alloc _)).mono ?_; rintro e w2 ⟨rfl, m, rfl⟩))
  go_ret
  exact ⟨rfl, (((((Mv.refl _ _ _).alloc (Nat.le_refl _) _).trans (hm1.mono (by simp) (fun x hx => .inl hx))).alloc (by omega) _).drewN m).below (Nat.le_refl _) (by simp)⟩

end Go.Proofs.Ytndinfhgoebcoaa
