/-
  Plain facts on films of boxes: the first box, the names in it, and all boxes. No condition.
  What package mp4's Size, Head and what they stand on answer. Condition: the text is no longer than a length can be.
  What package mp4's Is and Brands answer, and what eachBrand hands to a function value. Condition: the text takes at most 2^47 - 4096 bytes.
-/
import Derived.Test.YtkdjjlfpaciohaaGreatDoorZ20
import Derived.Test.YtkdjjlfpaciohaaGreatDoorZ21
import Derived.Test.YtkdjjlfpaciohaaGreatDoorZ2
import Derived.BigQuiet
import Derived.Test.YtkdjjlfpaciohaaGreatDoorZ9
import Derived.Test.YtkdjjlfpaciohaaGreatDoorZ13
import Derived.OwnWalk
import Derived.Laws.OwnMore
import Derived.Outline
namespace Go.Proofs.YtkdjjlfpaciohaaGreatDoor

/-- The number of four bytes at a place, the highest first. -/
def fourB (s : ByteArray) (i : Nat) : Nat := ((s[i]!.toNat * 256 + s[i + 1]!.toNat) * 256 + s[i + 2]!.toNat) * 256 + s[i + 3]!.toNat
theorem fourB_lt (s : ByteArray) (i : Nat) : fourB s i < 4294967296 := by
  have h0 := (s[i]!).toNat_lt
  have h1 := (s[i + 1]!).toNat_lt
  have h2 := (s[i + 2]!).toNat_lt
  have h3 := (s[i + 3]!).toNat_lt
  unfold fourB
  omega
abbrev ftypS : ByteArray := ⟨#[102, 116, 121, 112]⟩
abbrev mp4S : ByteArray := ⟨#[109, 112, 52]⟩
/-- Whether the fourth to the seventh byte say that it is a film. -/
def ftypB (s : ByteArray) : Bool := (s.extract 4 8).toList == ftypS.toList
/-- Whether a film's first box is whole. -/
def filmH (s : ByteArray) : Bool := decide (12 ≤ s.size) && (decide (fourB s 0 ≤ s.size) && (decide (fourB s 0 % 4 = 0) && ftypB s))
theorem filmH_all {s : ByteArray} (h : filmH s = true) : 12 ≤ s.size ∧ fourB s 0 ≤ s.size ∧ fourB s 0 % 4 = 0 ∧ ftypB s = true := by
  unfold filmH at h
  simp only [Bool.and_eq_true, decide_eq_true_eq] at h
  exact h
theorem filmH_short {s : ByteArray} (h : ¬12 ≤ s.size) : filmH s = false := by
  unfold filmH
  rw [show decide (12 ≤ s.size) = false from by simpa using h]
  rfl
theorem filmH_far {s : ByteArray} (h : ¬fourB s 0 ≤ s.size) : filmH s = false := by
  unfold filmH
  rw [show decide (fourB s 0 ≤ s.size) = false from by simpa using h]
  simp
theorem filmH_odd {s : ByteArray} (h : ¬fourB s 0 % 4 = 0) : filmH s = false := by
  unfold filmH
  rw [show decide (fourB s 0 % 4 = 0) = false from by simpa using h]
  simp
theorem filmH_else {s : ByteArray} (h0 : 12 ≤ s.size) (h1 : fourB s 0 ≤ s.size) (h2 : fourB s 0 % 4 = 0) : filmH s = ftypB s := by
  unfold filmH
  rw [show decide (12 ≤ s.size) = true from by simpa using h0, show decide (fourB s 0 ≤ s.size) = true from by simpa using h1, show decide (fourB s 0 % 4 = 0) = true from by simpa using h2]
  rfl

/-- How many names a film's first box has. -/
def namN (s : ByteArray) : Nat := if filmH s = true then (if 16 < fourB s 0 then (fourB s 0 - 12) / 4 else 1) else 0
/-- Where a name stands. -/
def namP (j : Nat) : Nat := if j = 0 then 8 else 12 + 4 * j
def namT (s : ByteArray) (j : Nat) : ByteArray := s.extract (namP j) (namP j + 4)
/-- The first k names. -/
def namL (s : ByteArray) : Nat → List ByteArray
  | 0 => []
  | k + 1 => namL s k ++ [namT s k]
theorem namN_none {s : ByteArray} (h : filmH s = false) : namN s = 0 := by
  unfold namN
  rw [h]
  rfl
theorem namN_is {s : ByteArray} (h : filmH s = true) : namN s = if 16 < fourB s 0 then (fourB s 0 - 12) / 4 else 1 := by
  unfold namN
  rw [if_pos h]
theorem namN_pos {s : ByteArray} (h : 0 < namN s) : filmH s = true := by
  cases e : filmH s
  · rw [namN_none e] at h; omega
  · rfl
theorem namN_some {s : ByteArray} (h : filmH s = true) : 1 ≤ namN s := by
  rw [namN_is h]
  split <;> omega
theorem namP_end {s : ByteArray} {j : Nat} (h : j < namN s) : namP j + 4 ≤ s.size := by
  have hf := namN_pos (by omega : 0 < namN s)
  obtain ⟨h0, h1, h2, _⟩ := filmH_all hf
  rw [namN_is hf] at h
  unfold namP
  split
  · omega
  · split at h <;> omega
theorem namT_size {s : ByteArray} {j : Nat} (h : j < namN s) : (namT s j).size = 4 := by
  have := namP_end h
  unfold namT
  simp
  omega
/-- A further name lies below the first box's end, and only such. -/
theorem namN_more {s : ByteArray} (h : filmH s = true) {j : Nat} (hj : 1 ≤ j) : j < namN s ↔ 12 + 4 * j < fourB s 0 := by
  obtain ⟨_, _, h2, _⟩ := filmH_all h
  rw [namN_is h]
  split <;> omega
theorem namN_le (s : ByteArray) : namN s ≤ s.size := by
  cases e : filmH s
  · rw [namN_none e]; omega
  · obtain ⟨h0, h1, h2, _⟩ := filmH_all e
    rw [namN_is e]
    split <;> omega
theorem namL_len (s : ByteArray) : ∀ k, (namL s k).length = k
  | 0 => rfl
  | k + 1 => by rw [namL, List.length_append, namL_len s k]; rfl
theorem namL_at (s : ByteArray) : ∀ (k i : Nat) (h : i < (namL s k).length), (namL s k)[i] = namT s i
  | 0, i, h => absurd h (by simp [namL])
  | k + 1, i, h => by
    have hl := namL_len s k
    by_cases e : i = k
    · subst e
      simp only [namL]
      rw [List.getElem_append_right (by omega)]
      simp [hl]
    · have h2 : i < (namL s k).length := by rw [hl]; rw [namL_len] at h; omega
      have := namL_at s k i h2
      simp only [namL]
      rw [List.getElem_append_left h2]
      exact this

/-- Whether a name begins as it must. -/
def mp4B (x : ByteArray) : Bool := (x.extract 0 3).toList == mp4S.toList
/-- Whether one of the first k names does. -/
def filmA (s : ByteArray) : Nat → Bool
  | 0 => false
  | k + 1 => filmA s k || mp4B (namT s k)
def filmB (s : ByteArray) : Bool := filmA s (namN s)
theorem filmA_on {s : ByteArray} {k : Nat} : ∀ {n : Nat}, k ≤ n → filmA s k = true → filmA s n = true
  | 0, h, e => by rw [show k = 0 from by omega] at e; exact e
  | n + 1, h, e => by
    by_cases hk : k = n + 1
    · rw [← hk]; exact e
    · rw [filmA, filmA_on (n := n) (by omega) e]; rfl
theorem filmB_here {s : ByteArray} {k : Nat} (h : k < namN s) (e : mp4B (namT s k) = true) : filmB s = true :=
  filmA_on (k := k + 1) (by omega) (by rw [filmA, e, Bool.or_true])

end Go.Proofs.YtkdjjlfpaciohaaGreatDoor
namespace Go.Proofs.YtkdjjlfpaciohaaGreatDoor
open Go.RowKit

theorem be4_four {s : ByteArray} {k : Nat} (h : k + 4 ≤ s.size) : be4 s k = (fourB s k : Int) := by
  unfold be4
  have e : (s.extract k (k + 4)).data.toList = [s[k], s[k + 1], s[k + 2], s[k + 3]] := by
    rw [bytes_extract_cons (by omega) (by omega), bytes_extract_cons (by omega) (by omega), bytes_extract_cons (by omega) (by omega), bytes_extract_cons (by omega) (by omega)]
    rw [List.cons.injEq, List.cons.injEq, List.cons.injEq, List.cons.injEq]
    refine ⟨rfl, rfl, rfl, rfl, ?_⟩
    simp
  rw [e]
  unfold fourB be
  rw [getElem!_pos s k (by omega), getElem!_pos s (k + 1) (by omega), getElem!_pos s (k + 2) (by omega), getElem!_pos s (k + 3) (by omega)]
  have h0 := s[k].toNat_lt
  have h1 := s[k + 1].toNat_lt
  have h2 := s[k + 2].toNat_lt
  have h3 := s[k + 3].toNat_lt
  simp only [List.foldl_cons, List.foldl_nil]
  omega

/-- The number of the first box; 0, if there is none. -/
def sizN (s : ByteArray) : Nat := if 4 ≤ s.size then fourB s 0 else 0
theorem sizN_lt (s : ByteArray) : sizN s < 4294967296 := by
  have := fourB_lt s 0
  unfold sizN
  split <;> omega

theorem sizeU_enter (a : Value) (w : World) : (callFunc 153 (#[] ++ #[a])).run Tryz.prog w = .ok (.enter 153 (#[] ++ #[a])) w := by simp [go_sem]

set_option maxHeartbeats 400000 in
theorem firstSize1_ok (b : Nat) (s : ByteArray) (w : World) (hb : Blk w b 9 #[.string s]) (hk : 4 ≤ s.size) (hs : s.size ≤ 9223372036854775807) :
    Calls Tryz.prog 153 #[.pointer (some ⟨b, 0, none⟩)] w fun e w' => e = .returned (.int .u32 (fourB s 0 : Nat)) ∧ Below w.heap.size w w' := by
  have c0 : w.cell? ⟨b, 0, none⟩ = some (.string s) := hb.cell 0
  have HC0 := Lib.hid (show Cur (w.alloc (.cells #[.string s, .int .i64 0] 138)) w.heap.size s 0 from Blk.new w 138 #[.string s, .int .i64 0])
  have HU := Lib.hid (u32_ok w.heap.size 0 s _ HC0.out (by omega) hs)
  rw [be4_four (by omega)] at HU
  clear hb hk
  go_enter Tryz.func153, Tryz.ntmps153
  go_wp2_with (first
    | (go_at_call 154; refine (new_any s _).mono ?_; rintro e w1 ⟨rfl, rfl⟩)
    | (go_at_call 155; refine HU.out.mono ?_; rintro e w2 ⟨rfl, hm, _⟩))
  go_ret
  exact ⟨rfl, ((Below.refl _ _).alloc (Nat.le_refl _) _).trans (hm.below (by simp) (by simp))⟩

set_option maxHeartbeats 400000 in
theorem firstSize1_far (b : Nat) (s : ByteArray) (w : World) (hb : Blk w b 9 #[.string s]) (hk : s.size < 4) (hs : s.size ≤ 9223372036854775807) :
    Calls Tryz.prog 153 #[.pointer (some ⟨b, 0, none⟩)] w fun e w' => e = pnc 0 8 ∧ Below w.heap.size w w' := by
  have c0 : w.cell? ⟨b, 0, none⟩ = some (.string s) := hb.cell 0
  have HC0 := Lib.hid (show Cur (w.alloc (.cells #[.string s, .int .i64 0] 138)) w.heap.size s 0 from Blk.new w 138 #[.string s, .int .i64 0])
  have HU := Lib.hid (u32_far w.heap.size 0 s _ HC0.out (by omega) (by omega) hs)
  clear hb hk
  go_enter Tryz.func153, Tryz.ntmps153
  go_wp2_with (first
    | (go_at_call 154; refine (new_any s _).mono ?_; rintro e w1 ⟨rfl, rfl⟩)
    | (go_at_call 155; refine HU.out.mono ?_; rintro e w2 ⟨rfl, hD⟩))
  exact ⟨rfl, rfl, ((Below.refl _ _).alloc (Nat.le_refl _) _).trans (hD.below.mono (by simp))⟩

set_option maxHeartbeats 1000000 in
theorem firstSize_any (s : ByteArray) (w : World) (hs : s.size ≤ 9223372036854775807) :
    Calls Tryz.prog 137 #[.string s] w fun e w' => e = .returned (.tuple #[.int .u32 (sizN s : Nat), .bool (decide (4 ≤ s.size))]) ∧ Below w.heap.size w w' := by
  have HB0 := Lib.hid (Blk.new w 9 #[.string s])
  have hmf := make_func
  by_cases hk : 4 ≤ s.size
  · have HV := Lib.hid (valueU32_returns 153 #[] #[.pointer (some ⟨w.heap.size, 0, none⟩)] (fourB s 0 : Nat) (w.alloc (.cells #[.string s] 9)) [] (fun _ => True) (none_lt _) (true_stable _) (sizeU_enter _)
      fun W hW => (firstSize1_ok w.heap.size s W (HB0.out.below hW (by simp)) hk hs).mono fun _ _ ⟨h1, h2⟩ => ⟨h1, Mv.of_below h2 _, trivial⟩)
    rw [show sizN s = fourB s 0 from if_pos hk, decide_eq_true hk]
    clear hk
    go_enter Tryz.func137, Tryz.ntmps137
    go_wp2_with (go_at_call 152; refine HV.out.mono ?_; rintro e w1 ⟨rfl, hm, _⟩)
    have hb := Lib.hid (((Below.refl w.heap.size w).alloc (Nat.le_refl _) (.cells #[.string s] 9)).trans ((hm.none_below).mono (by simp)))
    clear hm
    go_quiet (fail)
    go_wp2
    refine bodyPost_ret (v := .tuple #[.int .u32 _, .bool _]) (by simp [results, Tryz.results137, go_sem]) rfl ⟨rfl, Below.drewN' (hb.out.alloc hb.out.size _) _⟩
  · have HV := Lib.hid (valueU32_throws 153 #[] #[.pointer (some ⟨w.heap.size, 0, none⟩)] 0 8 (w.alloc (.cells #[.string s] 9)) [] (fun _ => True) (none_lt _) (true_stable _) (sizeU_enter _)
      fun W hW => (firstSize1_far w.heap.size s W (HB0.out.below hW (by simp)) (by omega) hs).mono fun _ _ ⟨h1, h2⟩ => ⟨h1, Mv.of_below h2 _, trivial⟩)
    rw [show sizN s = 0 from if_neg hk, decide_eq_false hk]
    clear hk
    go_enter Tryz.func137, Tryz.ntmps137
    go_wp2_with (go_at_call 152; refine HV.out.mono ?_; rintro e w1 ⟨rfl, hm, _⟩)
    have hb := Lib.hid (((Below.refl w.heap.size w).alloc (Nat.le_refl _) (.cells #[.string s] 9)).trans ((hm.none_below).mono (by simp)))
    clear hm
    go_quiet (fail)
    go_wp2
    refine bodyPost_ret (v := .tuple #[.int .u32 _, .bool _]) (by simp [results, Tryz.results137, go_sem]) rfl ⟨rfl, Below.drewN' (hb.out.alloc hb.out.size _) _⟩

set_option maxHeartbeats 400000 in
theorem mp4Size_any (s : ByteArray) (w : World) (hs : s.size ≤ 9223372036854775807) :
    Calls Tryz.prog 116 #[.string s] w fun e w' => e = .returned (.tuple #[.int .i64 (sizN s : Nat), .bool (decide (4 ≤ s.size))]) ∧ Below w.heap.size w w' := by
  have HF := Lib.hid (fun W => firstSize_any s W hs)
  have hlt := sizN_lt s
  generalize sizN s = n at *
  go_enter Tryz.func116, Tryz.ntmps116
  go_wp2_with (go_at_call 137; refine (HF.out _).mono ?_; rintro e w1 ⟨rfl, hb⟩)
  refine bodyPost_ret (v := .tuple #[.int .i64 _, .bool _]) (by simp [results, Tryz.results116, go_sem]) rfl ⟨rfl, hb⟩

set_option maxHeartbeats 1000000 in
theorem mp4Head_any (s : ByteArray) (w : World) (hs : s.size ≤ 9223372036854775807) :
    Calls Tryz.prog 115 #[.string s] w fun e w' => e = .returned (.bool (filmH s)) ∧ Below w.heap.size w w' := by
  by_cases h0 : 12 ≤ s.size
  · have HF := Lib.hid (fun W => firstSize_any s W hs)
    rw [show sizN s = fourB s 0 from if_pos (by omega), decide_eq_true (by omega : 4 ≤ s.size)] at HF
    have hn := fourB_lt s 0
    have HX := Lib.hid (filmH_far (s := s))
    have HY := Lib.hid (filmH_odd (s := s))
    have HZ := Lib.hid (fun h1 h2 => filmH_else (s := s) h0 h1 h2)
    have hft : Hid (ftypB s = ((s.extract 4 8).toList == [102, 116, 121, 112])) := by unfold ftypB; rw [show ftypS.toList = [102, 116, 121, 112] from by kernel_rfl]; exact rfl
    generalize fourB s 0 = n at *
    by_cases h1 : n ≤ s.size
    · by_cases h2 : n % 4 = 0
      · have HV := Lib.hid (HZ.out h1 h2)
        cases hc : ((s.extract 4 8).toList == [102, 116, 121, 112])
        all_goals
          have HE := Lib.hid (show filmH s = _ from HV.out.trans (hft.out.trans hc))
          rw [HE.out]
          clear HX HY HZ HV hft HE
          go_enter Tryz.func115, Tryz.ntmps115
          go_wp2_with (go_at_call 137; refine (HF.out _).mono ?_; rintro e w1 ⟨rfl, hb⟩)
          go_ret
          exact ⟨rfl, hb⟩
      · have HV := Lib.hid (HY.out h2)
        rw [HV.out]
        clear HX HY HZ HV hft
        go_enter Tryz.func115, Tryz.ntmps115
        go_wp2_with (go_at_call 137; refine (HF.out _).mono ?_; rintro e w1 ⟨rfl, hb⟩)
        go_ret
        exact ⟨rfl, hb⟩
    · have HV := Lib.hid (HX.out h1)
      rw [HV.out]
      clear HX HY HZ HV hft
      go_enter Tryz.func115, Tryz.ntmps115
      go_wp2_with (go_at_call 137; refine (HF.out _).mono ?_; rintro e w1 ⟨rfl, hb⟩)
      go_ret
      exact ⟨rfl, hb⟩
  · rw [filmH_short h0]
    go_enter Tryz.func115, Tryz.ntmps115
    go_wp2
    go_ret
    exact ⟨rfl, Below.refl _ _⟩

end Go.Proofs.YtkdjjlfpaciohaaGreatDoor
namespace Go.Proofs.YtkdjjlfpaciohaaGreatDoor
open Go.RowKit

/-- What is handed to a function value that keeps J while it is so, and leaves Jx where it is not. -/
theorem eachBrand_any (g : FuncId) (p : Addr) (s : ByteArray) (w : World) (hs : s.size ≤ 140737488351232) (J Jx : Nat → World → Prop)
    (hJ : ∀ k W W', J k W → Below W.heap.size W W' → J k W')
    (hen : ∀ (x : ByteArray) (w : World), (callFunc g #[.string x, .pointer (some p)]).run Tryz.prog w = .ok (.enter g #[.string x, .pointer (some p)]) w)
    (hf : ∀ k W, k < namN s → J k W → Calls Tryz.prog g #[.string (namT s k), .pointer (some p)] W fun e W' => (e = .returned (.bool true) ∧ J (k + 1) W') ∨ (e = .returned (.bool false) ∧ Jx (k + 1) W'))
    (h0 : J 0 w) :
    Calls Tryz.prog 86 #[.string s, .func (.func g) #[] #[.pointer (some p)]] w fun e w' => e = .returned (.tuple #[]) ∧ (J (namN s) w' ∨ ∃ k, k ≤ namN s ∧ Jx k w') := by
  have HH := Lib.hid (fun W => mp4Head_any s W (by omega))
  have HJ := Lib.hid hJ
  have HF := Lib.hid hf
  have H0 := Lib.hid h0
  clear hJ hf h0
  cases hh : filmH s
  · have HN := Lib.hid (namN_none hh)
    rw [hh] at HH
    clear hh
    go_enter Tryz.func86, Tryz.ntmps86
    go_wp2_with (go_at_call 115; refine (HH.out _).mono ?_; rintro e w1 ⟨rfl, hb⟩)
    refine bodyPost_ret (results_none rfl _ _ _) rfl ?_
    exact ⟨rfl, .inl (by rw [HN.out]; exact HJ.out _ _ _ H0.out hb)⟩
  · have hn1 := namN_some hh
    have hsz := (filmH_all hh).1
    have hfs := (filmH_all hh).2.1
    have HM := Lib.hid (fun j (hj : 1 ≤ j) => namN_more hh hj)
    have HS := Lib.hid (fun W => mp4Size_any s W (by omega))
    rw [show sizN s = fourB s 0 from if_pos (by omega)] at HS
    have HT0 : Hid (namT s 0 = s.extract 8 12) := rfl
    have HP := Lib.hid (fun j (hj : j < namN s) => namP_end hj)
    rw [hh] at HH
    have HF0 := Lib.hid (fun W (h : J 0 W) => HF.out 0 W hn1 h)
    rw [HT0.out] at HF0
    clear hh HT0
    generalize fourB s 0 = n at *
    go_enter Tryz.func86, Tryz.ntmps86
    go_wp2_with (go_at_call 115; refine (HH.out _).mono ?_; rintro e w1 ⟨rfl, hb⟩; have HJ1 := Lib.hid (HJ.out _ _ _ H0.out hb); clear hb)
    refine (HF0.out _ HJ1.out).mono ?_
    rintro e w2 (⟨rfl, h2⟩ | ⟨rfl, h2⟩)
    · have HJ2 := Lib.hid h2
      clear h2
      go_wp2_with (go_at_call 116; refine (HS.out _).mono ?_; rintro e w3 ⟨rfl, hb⟩; have HJ3 := Lib.hid (HJ.out _ _ _ HJ2.out hb); clear hb)
      go_loopw [6] (fun i wr => ∃ k : Nat, 1 ≤ k ∧ k ≤ namN s ∧ i = .int .i64 ((12 + 4 * k : Nat) : Int) ∧ J k wr) (fun i _ => n + 16 - (intOf i).toNat)
      case atStart => exact ⟨1, by omega, hn1, rfl, HJ3.out⟩
      case round =>
        obtain ⟨k, hk1, hk, rfl, hj⟩ := hrel
        have HK := Lib.hid hj
        clear hj
        by_cases hlt : k < namN s
        · have hkn := (HM.out k hk1).1 hlt
          have hpe := HP.out k hlt
          have hpk : namP k = 12 + 4 * k := by unfold namP; rw [if_neg (by omega)]
          have HFK := Lib.hid (fun W (h : J k W) => HF.out k W hlt h)
          have HTK : Hid (namT s k = s.extract (12 + 4 * k) (12 + 4 * k + 4)) := by unfold namT; rw [hpk]; exact rfl
          rw [hpk] at hpe
          rw [HTK.out] at HFK
          clear hpk HTK
          obtain ⟨m, hm⟩ : ∃ m, m = 12 + 4 * k := ⟨_, rfl⟩
          have HMM := Lib.hid hm
          rw [← hm] at hkn hpe HFK ⊢
          have hm1 : m ≤ 140737488351232 := by omega
          clear hm
          go_wp2_with fail
          refine (HFK.out _ HK.out).mono ?_
          rintro e w4 (⟨rfl, h4⟩ | ⟨rfl, h4⟩)
          · have HJ4 := Lib.hid h4
            clear h4
            go_wp2
            go_roundw
            case rel => exact ⟨k + 1, by omega, by omega, by have := HMM.out; go_num, HJ4.out⟩
            case measure => simp [intOf]; omega
          · go_wp2
            refine bodyPost_ret (results_none rfl _ _ _) rfl ?_
            exact ⟨rfl, .inr ⟨_, hlt, h4⟩⟩
        · obtain rfl : k = namN s := by omega
          have hkn : ¬(12 + 4 * namN s < n) := fun h => hlt ((HM.out _ hk1).2 h)
          obtain ⟨m, hm⟩ : ∃ m, m = 12 + 4 * namN s := ⟨_, rfl⟩
          rw [← hm] at hkn ⊢
          clear hm
          go_wp2
          go_end0
          exact ⟨rfl, .inl HK.out⟩
    · go_wp2
      refine bodyPost_ret (results_none rfl _ _ _) rfl ?_
      exact ⟨rfl, .inr ⟨_, hn1, h2⟩⟩

end Go.Proofs.YtkdjjlfpaciohaaGreatDoor
