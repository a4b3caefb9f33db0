/-
  What Type, Is, Needs, Open and Most of package media answer. Condition: the text is not longer than memory.
-/
import Derived.Test.YtnidokhlhgkjcaaVd
namespace Go.Proofs.Ytnidokhlhgkjcaa
open Go.RowKit Go.Shelf
attribute [local go_sem] Oper.semAt_some

set_option maxHeartbeats 400000 in
theorem medType_any (s : ByteArray) (r : Int) (w : World) (hs : s.size ≤ 140737488351232) (hr : IsFirst s medP 6 r) :
    Calls Try.prog 11 #[.string s] w fun e w' => e = .returned (.string (typeOf medP r)) ∧ Below w.heap.size w w' := by
  have HT := Lib.hid (fun W g (h : PatsIn W g medP 6) => type_any g 6 6 s medP r W h (fun i hi => med_ok hi) (by omega) (by decide) hr)
  have HB := Lib.hid (Below.refl w.heap.size w)
  clear hr
  go_enter Try.func11, Try.ntmps11
  go_wp2_with (first
    | (go_at_call 17; refine (medTable_any _).mono ?_; rintro e w1 ⟨g, rfl, hg, hp, b1⟩; have HB := Lib.hid (HB.out.trans (b1.mono HB.out.size)); have HP := Lib.hid (pats6 hp); clear b1 hp)
    | (go_at_call 27; refine (HT.out _ _ HP.out).mono ?_; rintro e w2 ⟨rfl, b2⟩; have HB := Lib.hid (HB.out.trans (b2.mono HB.out.size)); clear b2))
  go_ret
  exact ⟨rfl, HB.out⟩

set_option maxHeartbeats 400000 in
theorem medIs_any (s : ByteArray) (r : Int) (w : World) (hs : s.size ≤ 140737488351232) (hr : IsFirst s medP 6 r) :
    Calls Try.prog 12 #[.string s] w fun e w' => e = .returned (.bool (decide (0 ≤ r))) ∧ Below w.heap.size w w' := by
  have HT := Lib.hid (fun W => medType_any s r W hs hr)
  have HE := Lib.hid (show decide (0 ≤ r) = !(typeOf medP r).toList.isEmpty from by rw [med_said hr]; by_cases h : r < 0 <;> simp [h] <;> omega)
  generalize typeOf medP r = t at *
  clear hr
  go_enter Try.func12, Try.ntmps12
  go_wp2_with (go_at_call 11; refine (HT.out _).mono ?_; rintro e w1 ⟨rfl, b1⟩; have HB := Lib.hid b1; clear b1)
  go_ret
  exact ⟨by rw [HE.out]; rfl, HB.out⟩

theorem lacks_stops (n : Nat) (hn : 1 ≤ n) (Bn L : Nat) (s : ByteArray) (hs : s.size ≤ 140737488351232) (w : World) (hB : Blk w Bn 9 #[.string s]) (hne : Bn ≠ L) (hL : L < w.heap.size) :
    SeqStopsK Fence.wide n Try.prog 37 #[.pointer (some ⟨Bn, 0, none⟩)] encN (KeepsBut L) (fun xs => xs = lackL s medP 6) (fun _ => True) 6 w := fun l J Jx W hW hJ _ hY h0 =>
  lacks1_in n hn l Bn L W.heap.size s hs J Jx hJ hY W (hB.below hW hB.lt) hne (Nat.lt_of_lt_of_le hL hW.size) h0

set_option maxHeartbeats 400000 in
theorem lacks_any (n : Nat) (s : ByteArray) (w : World) :
    CallsIn Fence.wide n Try.prog 28 #[.string s] w fun e w' => e = .returned (.func (.func 37) #[] #[.pointer (some ⟨w.heap.size, 0, none⟩)]) ∧ w' = w.alloc (.cells #[.string s] 9) := by
  refine callsIn_wide.2 ?_
  go_enter Try.func28, Try.ntmps28
  go_wp2
  go_ret
  exact ⟨rfl, rfl⟩

theorem keepsBut_set (L : Nat) (W : World) (v : Value) : KeepsBut L W (W.setCell ⟨L, 0, none⟩ v) := fun _ _ _ _ hg e => (Below.heap_setCell W _ v _ hg).trans e

set_option maxRecDepth 100000 in
set_option maxHeartbeats 4000000 in
theorem medNeeds_any (s : ByteArray) (r : Int) (w : World) (hs : s.size ≤ 140737488351232) (hr : IsFirst s medP 6 r) :
    Calls Try.prog 14 #[.string s] w fun e w' => e = .returned (.int .i64 (needN s medP 6 r : Nat)) ∧ Below w.heap.size w w' := by
  have HI := Lib.hid (fun W => medIs_any s r W hs hr)
  by_cases h0 : 0 ≤ r
  · have HN := Lib.hid (show needN s medP 6 r = 0 from if_pos h0)
    have e0 : decide (0 ≤ r) = true := by simpa using h0
    rw [e0] at HI
    clear e0 h0 hr
    go_enter Try.func14, Try.ntmps14
    go_wp2_with (go_at_call 12; refine (HI.out _).mono ?_; rintro e w1 ⟨rfl, b1⟩; have HB := Lib.hid b1; clear b1)
    go_ret
    exact ⟨by rw [HN.out]; rfl, HB.out⟩
  · have HN := Lib.hid (show needN s medP 6 r = minL (lackL s medP 6) from (if_neg h0).trans (minL_low s medP 6).symm)
    have e0 : decide (0 ≤ r) = false := by simpa using h0
    rw [e0] at HI
    clear e0 h0 hr
    have HI := Lib.hid fun m W => callsIn_wide (n := m).2 (HI.out W)
    refine (callsIn_wide (n := 3)).1 ?_
    refine callsIn_of_wp_marks Try.func14 rfl trivial ?_ rfl
    simp only [Try.ntmps14, List.size_toArray, List.length_cons, List.length_nil, Nat.reduceAdd, Nat.reduceSub, Array.replicate_succ, Array.replicate_zero, List.push_toArray, List.append_toArray, List.nil_append, List.cons_append]
    gi_wp2_with (first
      | (refine ⟨trivial, ?_⟩; gi_at_call 12; refine (HI.out _ _).mono ?_; rintro e w1 ⟨rfl, b1⟩; have HB := Lib.hid b1; clear b1)
      | (refine ⟨trivial, ?_⟩; gi_at_call 28; refine (lacks_any _ s _).mono ?_; rintro e w' ⟨rfl, rfl⟩))
    have hB0 : Below w.heap.size w ((w1.alloc (.cells #[.int .i64 0] 3)).alloc (.cells #[.string s] 9)) := (HB.out.alloc HB.out.size _).alloc (by have := HB.out.size; simp; omega) _
    have hbk : Blk ((w1.alloc (.cells #[.int .i64 0] 3)).alloc (.cells #[.string s] 9)) (w1.heap.size + 1) 9 #[.string s] := by
      have := Blk.new (w1.alloc (.cells #[.int .i64 0] 3)) 9 #[.string s]
      simpa using this
    have hbl : Blk ((w1.alloc (.cells #[.int .i64 0] 3)).alloc (.cells #[.string s] 9)) w1.heap.size 3 #[.int .i64 0] := (Blk.new w1 3 #[.int .i64 0]).alloc _
    have hsz := HB.out.size
    have HLK := Lib.hid hB0
    generalize hW0 : (w1.alloc (.cells #[.int .i64 0] 3)).alloc (.cells #[.string s] 9) = w2 at *
    have hs2 : w2.heap.size = w1.heap.size + 2 := by rw [← hW0]; simp
    clear hW0 hB0
    refine wpIn_rangeFunc_ownF (w0 := w2) rfl (by omega) (gf := 37) (lb := #[.pointer (some ⟨w1.heap.size + 1, 0, none⟩)]) rfl trivial (enters_of Try.func37 (by kernel_rfl) rfl)
      (lacks_stops 2 (by omega) (w1.heap.size + 1) w1.heap.size s hs _ hbk (by omega) (by omega)) keepsBut_t keepsBut_b (Below.refl _ _) (fun _ => rfl)
      (fun pre W => (W.cell? ⟨w1.heap.size, 0, none⟩ = some (.int .i64 (minL pre : Nat)) ∧ W.frozen? ⟨w1.heap.size, 0, none⟩ = false) ∧ Below w.heap.size w W)
      (fun _ _ _ => False)
      (OwnFrom.and (Own.from (fun s A B row hs hg hr => ⟨cell_kept hs.1 hg hr, (frozen_kept hs.1 hg hr).trans hs.2⟩) _) (ownFrom_below (Nat.le_refl _) (by omega)))
      (fun _ _ _ _ _ hs _ _ => hs)
      ⟨⟨(Blk.cell hbl 0).trans rfl, Blk.frozen hbl 0⟩, HLK.out⟩
      (fun x => { tmps := #[.string s, undef, .int .i64 0, .pointer (some ⟨w1.heap.size, 0, none⟩), .int .i64 (x : Int), .string s, .bool false, .string s, .func (.func 37) #[] #[.pointer (some ⟨w1.heap.size + 1, 0, none⟩)], .int .i64 (x : Int), undef, undef, undef, undef, undef, undef, undef, undef, undef], defers := [] }) ?assign ?body ?done ?stop
    case assign =>
      intro l x W K hK
      gi_wp2
      exact hK
    case body =>
      rintro l pre x W ⟨⟨hc, hf⟩, hB⟩ _
      have HL := Lib.hid (minL_snoc pre x)
      obtain ⟨lo, hlo⟩ : ∃ lo, lo = minL pre := ⟨_, rfl⟩
      rw [← hlo] at HL hc
      clear hlo
      by_cases h1 : lo = 0
      · subst h1
        have HL2 := Lib.hid (show minL (pre ++ [x]) = x from by rw [HL.out, if_pos (.inl rfl)])
        gi_wp2_with (with_reducible refine And.intro ?_ ?_; focus (intro f h; cases h))
        exact ⟨KeepsOthers.setCell _ _ _, keepsBut_set _ _ _, ⟨by rw [HL2.out]; exact World.cell?_setCell_same' _ _ _ (by rw [hc]; rfl), by rw [World.frozen?_setCell]; exact hf⟩, hB.setCell (p := ⟨w1.heap.size, 0, none⟩) hsz _⟩
      · have d1 : ((lo : Int) == 0) = false := by rw [beq_eq_false_iff_ne]; omega
        by_cases h2 : x < lo
        · have HL2 := Lib.hid (show minL (pre ++ [x]) = x from by rw [HL.out, if_pos (.inr h2)])
          have d2 : decide ((x : Int) < (lo : Int)) = true := by simpa using h2
          gi_wp2
          exact ⟨KeepsOthers.setCell _ _ _, keepsBut_set _ _ _, ⟨by rw [HL2.out]; exact World.cell?_setCell_same' _ _ _ (by rw [hc]; rfl), by rw [World.frozen?_setCell]; exact hf⟩, hB.setCell (p := ⟨w1.heap.size, 0, none⟩) hsz _⟩
        · have HL2 := Lib.hid (show minL (pre ++ [x]) = lo from by rw [HL.out, if_neg (fun h => h.elim h1 h2)])
          have d2 : decide ((x : Int) < (lo : Int)) = false := by simpa using h2
          gi_wp2
          exact ⟨KeepsOthers.refl _, fun _ _ _ _ _ e => e, ⟨by rw [HL2.out]; exact hc, hf⟩, hB⟩
    case done =>
      rintro D xs W hD rfl ⟨⟨hc, hf⟩, hB⟩ hK
      have HD := Lib.hid (belowK_b (w := w) (Nat.le_refl _) W D (.deferred (some [])) (.deferred none) (by omega) hK rfl rfl)
      gi_wp2
      refine ⟨by simp, .inl ⟨_, _, rfl, run_takeDeferred hK, ?_⟩⟩
      exact ⟨_, results_tmp rfl _ _ _, by rw [HN.out]; rfl, hB.trans HD.out⟩
    case stop =>
      rintro D c pre W _ _ h _
      exact h.elim

set_option maxHeartbeats 400000 in
theorem medOpen_any (s : ByteArray) (r : Int) (w : World) (hs : s.size ≤ 140737488351232) (hr : IsFirst s medP 6 r) :
    Calls Try.prog 13 #[.string s] w fun e w' => e = .returned (.bool (decide (0 < needN s medP 6 r))) ∧ Below w.heap.size w w' := by
  have HT := Lib.hid (fun W => medNeeds_any s r W hs hr)
  generalize needN s medP 6 r = n at *
  clear hr
  go_enter Try.func13, Try.ntmps13
  go_wp2_with (go_at_call 14; refine (HT.out _).mono ?_; rintro e w1 ⟨rfl, b1⟩; have HB := Lib.hid b1; clear b1)
  go_ret
  exact ⟨by simp, HB.out⟩

set_option maxHeartbeats 2000000 in
set_option maxRecDepth 100000 in
theorem medMost_any (w : World) :
    Calls Try.prog 18 #[] w fun e w' => e = .returned (.int .i64 12) ∧ Below w.heap.size w w' := by
  go_enter Try.func18, Try.ntmps18
  go_wp2_with (go_at_call 17; refine (medTable_any _).mono ?_; rintro e w2 ⟨g, rfl, hg, hp, b2⟩; have HB := Lib.hid b2; have HP := Lib.hid (pats6 hp); clear b2 hp)
  go_loopw [1, 6] (fun m i wr => ∃ k : Nat, k ≤ 6 ∧ i = .int .i64 k ∧ m = .int .i64 (mostN medP k : Nat) ∧ Aft w2 wr) (fun _ i _ => 6 - (intOf i).toNat)
  case atStart => exact ⟨0, by omega, rfl, rfl, Below.refl _ _⟩
  case round =>
    obtain ⟨k, hk, rfl, rfl, hw⟩ := hrel
    have HW := Lib.hid hw
    clear hw
    by_cases hlt : k < 6
    · obtain ⟨c0, c1, c2, c3⟩ := (HP.out.below HW.out HP.out.1 (Nat.le_refl _)).2 k hlt
      have hb14 := (med_small hlt).1
      have HM := Lib.hid (show mostN medP (k + 1) = max (mostN medP k) (medP k).b.size from rfl)
      go_wp2
      go_roundw
      case rel => exact ⟨k + 1, by omega, by go_num, by rw [HM.out]; go_num, HW.out.trans (((Below.refl wr.heap.size wr).alloc (Nat.le_refl _) _).mono HW.out.size)⟩
      case measure => simp [intOf]; omega
    · obtain rfl : k = 6 := by omega
      go_wp2
      go_ret
      exact ⟨by rw [med_most]; rfl, HB.out.trans (HW.out.mono HB.out.size)⟩

end Go.Proofs.Ytnidokhlhgkjcaa
