/-
  What package mp4's Size, Head and what they stand on answer. Condition: the text is no longer than a length can be.
-/
import Derived.Test.YtbibcpbldnedhaaU32
import Derived.Test.YtbibcpbldnedhaaAttemptU32
import Derived.Test.YtbibcpbldnedhaaYa
import Derived.Test.YtbibcpbldnedhaaQuo
import Derived.Test.YtbibcpbldnedhaaLives
import Derived.BigQuiet
namespace Go.Proofs.Ytbibcpbldnedhaa
open Go.RowKit

theorem be4_four {s : ByteArray} {k : Nat} (h : k + 4 ≤ s.size) : be4 s k = (fourB s k : Int) := by
  unfold be4
  have e : (s.extract k (k + 4)).data.toList = [s[k], s[k + 1], s[k + 2], s[k + 3]] := by
    rw [bytes_extract_cons (by omega) (by omega), bytes_extract_cons (by omega) (by omega), bytes_extract_cons (by omega) (by omega), bytes_extract_cons (by omega) (by omega)]
    rw [List.cons.injEq, List.cons.injEq, List.cons.injEq, List.cons.injEq]
    refine ⟨rfl, rfl, rfl, rfl, ?_⟩
    simp
  rw [e]
  unfold fourB be
  rw [getElem!_pos s k (by omega), getElem!_pos s (k + 1) (by omega), getElem!_pos s (k + 2) (by omega), getElem!_pos s (k + 3) (by omega)]
  have h0 := s[k].toNat_lt
  have h1 := s[k + 1].toNat_lt
  have h2 := s[k + 2].toNat_lt
  have h3 := s[k + 3].toNat_lt
  simp only [List.foldl_cons, List.foldl_nil]
  omega

/-- The number of the first box; 0, if there is none. -/
def sizN (s : ByteArray) : Nat := if 4 ≤ s.size then fourB s 0 else 0
theorem sizN_lt (s : ByteArray) : sizN s < 4294967296 := by
  have := fourB_lt s 0
  unfold sizN
  split <;> omega

theorem sizeU_enter (a : Value) (w : World) : (callFunc 31 (#[] ++ #[a])).run Try.prog w = .ok (.enter 31 (#[] ++ #[a])) w := by simp [go_sem]

set_option maxHeartbeats 400000 in
theorem firstSize1_ok (b : Nat) (s : ByteArray) (w : World) (hb : Blk w b 9 #[.string s]) (hk : 4 ≤ s.size) (hs : s.size ≤ 9223372036854775807) :
    Calls Try.prog 31 #[.pointer (some ⟨b, 0, none⟩)] w fun e w' => e = .returned (.int .u32 (fourB s 0 : Nat)) ∧ Below w.heap.size w w' := by
  have c0 : w.cell? ⟨b, 0, none⟩ = some (.string s) := hb.cell 0
  have HC0 := Lib.hid (show Cur (w.alloc (.cells #[.string s, .int .i64 0] 60)) w.heap.size s 0 from Blk.new w 60 #[.string s, .int .i64 0])
  have HU := Lib.hid (u32_ok w.heap.size 0 s _ HC0.out (by omega) hs)
  rw [be4_four (by omega)] at HU
  clear hb hk
  go_enter Try.func31, Try.ntmps31
  go_wp2_with (first
    | (go_at_call 26; refine (new_any s _).mono ?_; rintro e w1 ⟨rfl, rfl⟩)
    | (go_at_call 32; refine HU.out.mono ?_; rintro e w2 ⟨rfl, hm, _⟩))
  go_ret
  exact ⟨rfl, ((Below.refl _ _).alloc (Nat.le_refl _) _).trans (hm.below (by simp) (by simp))⟩

set_option maxHeartbeats 400000 in
theorem firstSize1_far (b : Nat) (s : ByteArray) (w : World) (hb : Blk w b 9 #[.string s]) (hk : s.size < 4) (hs : s.size ≤ 9223372036854775807) :
    Calls Try.prog 31 #[.pointer (some ⟨b, 0, none⟩)] w fun e w' => e = pnc 0 8 ∧ Below w.heap.size w w' := by
  have c0 : w.cell? ⟨b, 0, none⟩ = some (.string s) := hb.cell 0
  have HC0 := Lib.hid (show Cur (w.alloc (.cells #[.string s, .int .i64 0] 60)) w.heap.size s 0 from Blk.new w 60 #[.string s, .int .i64 0])
  have HU := Lib.hid (u32_far w.heap.size 0 s _ HC0.out (by omega) (by omega) hs)
  clear hb hk
  go_enter Try.func31, Try.ntmps31
  go_wp2_with (first
    | (go_at_call 26; refine (new_any s _).mono ?_; rintro e w1 ⟨rfl, rfl⟩)
    | (go_at_call 32; refine HU.out.mono ?_; rintro e w2 ⟨rfl, hD⟩))
  exact ⟨rfl, rfl, ((Below.refl _ _).alloc (Nat.le_refl _) _).trans (hD.below.mono (by simp))⟩

set_option maxHeartbeats 1000000 in
theorem firstSize_any (s : ByteArray) (w : World) (hs : s.size ≤ 9223372036854775807) :
    Calls Try.prog 20 #[.string s] w fun e w' => e = .returned (.tuple #[.int .u32 (sizN s : Nat), .bool (decide (4 ≤ s.size))]) ∧ Below w.heap.size w w' := by
  have HB0 := Lib.hid (Blk.new w 9 #[.string s])
  have hmf := make_func
  by_cases hk : 4 ≤ s.size
  · have HV := Lib.hid (valueU32_returns 31 #[] #[.pointer (some ⟨w.heap.size, 0, none⟩)] (fourB s 0 : Nat) (w.alloc (.cells #[.string s] 9)) [] (fun _ => True) (none_lt _) (true_stable _) (sizeU_enter _)
      fun W hW => (firstSize1_ok w.heap.size s W (HB0.out.below hW (by simp)) hk hs).mono fun _ _ ⟨h1, h2⟩ => ⟨h1, Mv.of_below h2 _, trivial⟩)
    rw [show sizN s = fourB s 0 from if_pos hk, decide_eq_true hk]
    clear hk
    go_enter Try.func20, Try.ntmps20
    go_wp2_with (go_at_call 30; refine HV.out.mono ?_; rintro e w1 ⟨rfl, hm, _⟩)
    have hb := Lib.hid (((Below.refl w.heap.size w).alloc (Nat.le_refl _) (.cells #[.string s] 9)).trans ((hm.none_below).mono (by simp)))
    clear hm
    go_quiet (fail)
    go_wp2
    refine bodyPost_ret (v := .tuple #[.int .u32 _, .bool _]) (by simp [results, Try.results20, go_sem]) rfl ⟨rfl, Below.drewN' (hb.out.alloc hb.out.size _) _⟩
  · have HV := Lib.hid (valueU32_throws 31 #[] #[.pointer (some ⟨w.heap.size, 0, none⟩)] 0 8 (w.alloc (.cells #[.string s] 9)) [] (fun _ => True) (none_lt _) (true_stable _) (sizeU_enter _)
      fun W hW => (firstSize1_far w.heap.size s W (HB0.out.below hW (by simp)) (by omega) hs).mono fun _ _ ⟨h1, h2⟩ => ⟨h1, Mv.of_below h2 _, trivial⟩)
    rw [show sizN s = 0 from if_neg hk, decide_eq_false hk]
    clear hk
    go_enter Try.func20, Try.ntmps20
    go_wp2_with (go_at_call 30; refine HV.out.mono ?_; rintro e w1 ⟨rfl, hm, _⟩)
    have hb := Lib.hid (((Below.refl w.heap.size w).alloc (Nat.le_refl _) (.cells #[.string s] 9)).trans ((hm.none_below).mono (by simp)))
    clear hm
    go_quiet (fail)
    go_wp2
    refine bodyPost_ret (v := .tuple #[.int .u32 _, .bool _]) (by simp [results, Try.results20, go_sem]) rfl ⟨rfl, Below.drewN' (hb.out.alloc hb.out.size _) _⟩

set_option maxHeartbeats 400000 in
theorem mp4Size_any (s : ByteArray) (w : World) (hs : s.size ≤ 9223372036854775807) :
    Calls Try.prog 7 #[.string s] w fun e w' => e = .returned (.tuple #[.int .i64 (sizN s : Nat), .bool (decide (4 ≤ s.size))]) ∧ Below w.heap.size w w' := by
  have HF := Lib.hid (fun W => firstSize_any s W hs)
  have hlt := sizN_lt s
  generalize sizN s = n at *
  go_enter Try.func7, Try.ntmps7
  go_wp2_with (go_at_call 20; refine (HF.out _).mono ?_; rintro e w1 ⟨rfl, hb⟩)
  refine bodyPost_ret (v := .tuple #[.int .i64 _, .bool _]) (by simp [results, Try.results7, go_sem]) rfl ⟨rfl, hb⟩

set_option maxHeartbeats 1000000 in
theorem mp4Head_any (s : ByteArray) (w : World) (hs : s.size ≤ 9223372036854775807) :
    Calls Try.prog 9 #[.string s] w fun e w' => e = .returned (.bool (filmH s)) ∧ Below w.heap.size w w' := by
  by_cases h0 : 12 ≤ s.size
  · have HF := Lib.hid (fun W => firstSize_any s W hs)
    rw [show sizN s = fourB s 0 from if_pos (by omega), decide_eq_true (by omega : 4 ≤ s.size)] at HF
    have hn := fourB_lt s 0
    have HX := Lib.hid (filmH_far (s := s))
    have HY := Lib.hid (filmH_odd (s := s))
    have HZ := Lib.hid (fun h1 h2 => filmH_else (s := s) h0 h1 h2)
    have hft : Hid (ftypB s = ((s.extract 4 8).toList == [102, 116, 121, 112])) := by unfold ftypB; rw [show ftypS.toList = [102, 116, 121, 112] from by kernel_rfl]; exact rfl
    generalize fourB s 0 = n at *
    by_cases h1 : n ≤ s.size
    · by_cases h2 : n % 4 = 0
      · have HV := Lib.hid (HZ.out h1 h2)
        cases hc : ((s.extract 4 8).toList == [102, 116, 121, 112])
        all_goals
          have HE := Lib.hid (show filmH s = _ from HV.out.trans (hft.out.trans hc))
          rw [HE.out]
          clear HX HY HZ HV hft HE
          go_enter Try.func9, Try.ntmps9
          go_wp2_with (go_at_call 20; refine (HF.out _).mono ?_; rintro e w1 ⟨rfl, hb⟩)
          go_ret
          exact ⟨rfl, hb⟩
      · have HV := Lib.hid (HY.out h2)
        rw [HV.out]
        clear HX HY HZ HV hft
        go_enter Try.func9, Try.ntmps9
        go_wp2_with (go_at_call 20; refine (HF.out _).mono ?_; rintro e w1 ⟨rfl, hb⟩)
        go_ret
        exact ⟨rfl, hb⟩
    · have HV := Lib.hid (HX.out h1)
      rw [HV.out]
      clear HX HY HZ HV hft
      go_enter Try.func9, Try.ntmps9
      go_wp2_with (go_at_call 20; refine (HF.out _).mono ?_; rintro e w1 ⟨rfl, hb⟩)
      go_ret
      exact ⟨rfl, hb⟩
  · rw [filmH_short h0]
    go_enter Try.func9, Try.ntmps9
    go_wp2
    go_ret
    exact ⟨rfl, Below.refl _ _⟩

end Go.Proofs.Ytbibcpbldnedhaa
