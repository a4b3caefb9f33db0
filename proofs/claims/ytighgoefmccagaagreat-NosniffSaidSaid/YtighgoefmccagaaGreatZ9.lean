/-
  What Trim and Ends answer, and those of the document's own answer. Condition: the text is as long as a length can be.
  What Parse of package mime answers. Condition: the text is as long as a mebibyte.
  Plain facts: what a good type is written as says just that type; and what a text says is a good type. No condition.
-/
import Derived.Test.YtighgoefmccagaaGreatZ3
import Derived.Test.YtighgoefmccagaaGreatZ1
import Derived.LoopTactic
import Derived.Test.YtighgoefmccagaaGreatZ8
namespace Go.Proofs.YtighgoefmccagaaGreat
open Go.RowKit

set_option maxHeartbeats 1000000 in
theorem cutBack_white (s : ByteArray) (w : World) (hs : s.size ≤ 9223372036854775807) :
    Calls Tryz.prog 87 #[.string s, .func (.func 86) #[] #[]] w fun e w' => e = .returned (.string (cutP whiB s)) ∧ w = w' := by
  go_enter Tryz.func87, Tryz.ntmps87
  go_wp2
  go_loop [5] (fun i => ∃ k : Nat, k ≤ s.size ∧ i = .int .i64 k ∧ backN whiB s k = backN whiB s s.size) (fun i => (intOf i).toNat)
  case atStart => exact ⟨s.size, Nat.le_refl _, rfl, rfl⟩
  case round =>
    obtain ⟨k, hk, rfl, hb⟩ := hrel
    have HB := Lib.hid hb
    clear hb
    cases k with
    | zero =>
      have HE := Lib.hid (show cutP whiB s = ByteArray.empty from by unfold cutP; rw [← HB.out]; simp [backN])
      go_wp2
      go_ret
      exact ⟨by rw [HE.out]; rfl, rfl⟩
    | succ m =>
      have hm : m < s.size := by omega
      have g1 : (0 : Int) < (m : Int) + 1 := by omega
      have g2 : ((m + 1 : Nat) : Int) - 1 = (m : Int) := by omega
      have HL := Lib.hid (fun W => white_any s[m] W)
      cases hb : whiB s[m]
      · have HE := Lib.hid (show cutP whiB s = s.extract 0 (m + 1) from by unfold cutP; rw [← HB.out, backN_stop hm hb])
        have HL2 : Hid (∀ W, Calls Tryz.prog 86 #[.int .u8 (s[m].toNat : Int)] W fun e w' => e = .returned (.bool false) ∧ W = w') := fun W => by have := HL.out W; rwa [hb] at this
        clear HL hb
        go_wp2_with (go_at_call 86; refine (HL2.out _).mono ?_; rintro e w' ⟨rfl, rfl⟩)
        go_ret
        exact ⟨by rw [HE.out]; rfl, rfl⟩
      · have HE : Hid (backN whiB s (m + 1) = backN whiB s m) := backN_step hm hb
        have HL2 : Hid (∀ W, Calls Tryz.prog 86 #[.int .u8 (s[m].toNat : Int)] W fun e w' => e = .returned (.bool true) ∧ W = w') := fun W => by have := HL.out W; rwa [hb] at this
        clear HL hb
        go_wp2_with (go_at_call 86; refine (HL2.out _).mono ?_; rintro e w' ⟨rfl, rfl⟩)
        go_round
        case rel => exact ⟨m, by omega, by go_num, HE.out.symm.trans HB.out⟩
        case measure => first | (simp [intOf]; done) | (simp [intOf]; omega)

set_option maxHeartbeats 1000000 in
theorem cutBack_tab (s : ByteArray) (w : World) (hs : s.size ≤ 9223372036854775807) :
    Calls Tryz.prog 87 #[.string s, .func (.func 74) #[] #[]] w fun e w' => e = .returned (.string (cutP tabB s)) ∧ w = w' := by
  go_enter Tryz.func87, Tryz.ntmps87
  go_wp2
  go_loop [5] (fun i => ∃ k : Nat, k ≤ s.size ∧ i = .int .i64 k ∧ backN tabB s k = backN tabB s s.size) (fun i => (intOf i).toNat)
  case atStart => exact ⟨s.size, Nat.le_refl _, rfl, rfl⟩
  case round =>
    obtain ⟨k, hk, rfl, hb⟩ := hrel
    have HB := Lib.hid hb
    clear hb
    cases k with
    | zero =>
      have HE := Lib.hid (show cutP tabB s = ByteArray.empty from by unfold cutP; rw [← HB.out]; simp [backN])
      go_wp2
      go_ret
      exact ⟨by rw [HE.out]; rfl, rfl⟩
    | succ m =>
      have hm : m < s.size := by omega
      have g1 : (0 : Int) < (m : Int) + 1 := by omega
      have g2 : ((m + 1 : Nat) : Int) - 1 = (m : Int) := by omega
      have HL := Lib.hid (fun W => tab_any s[m] W)
      cases hb : tabB s[m]
      · have HE := Lib.hid (show cutP tabB s = s.extract 0 (m + 1) from by unfold cutP; rw [← HB.out, backN_stop hm hb])
        have HL2 : Hid (∀ W, Calls Tryz.prog 74 #[.int .u8 (s[m].toNat : Int)] W fun e w' => e = .returned (.bool false) ∧ W = w') := fun W => by have := HL.out W; rwa [hb] at this
        clear HL hb
        go_wp2_with (go_at_call 74; refine (HL2.out _).mono ?_; rintro e w' ⟨rfl, rfl⟩)
        go_ret
        exact ⟨by rw [HE.out]; rfl, rfl⟩
      · have HE : Hid (backN tabB s (m + 1) = backN tabB s m) := backN_step hm hb
        have HL2 : Hid (∀ W, Calls Tryz.prog 74 #[.int .u8 (s[m].toNat : Int)] W fun e w' => e = .returned (.bool true) ∧ W = w') := fun W => by have := HL.out W; rwa [hb] at this
        clear HL hb
        go_wp2_with (go_at_call 74; refine (HL2.out _).mono ?_; rintro e w' ⟨rfl, rfl⟩)
        go_round
        case rel => exact ⟨m, by omega, by go_num, HE.out.symm.trans HB.out⟩
        case measure => first | (simp [intOf]; done) | (simp [intOf]; omega)

set_option maxHeartbeats 1000000 in
theorem ends_any (s : ByteArray) (w : World) (hs : s.size ≤ 9223372036854775807) :
    Calls Tryz.prog 77 #[.string s] w fun e w' => e = .returned (.string (cutP tabB s)) ∧ w = w' := by
  go_enter Tryz.func77, Tryz.ntmps77
  go_wp2_with (go_at_call 87; refine (cutBack_tab s _ hs).mono ?_; rintro e w' ⟨rfl, rfl⟩)
  go_ret
  exact ⟨rfl, rfl⟩

set_option maxHeartbeats 1000000 in
theorem trim_any (s : ByteArray) (w : World) (hs : s.size ≤ 9223372036854775807) :
    Calls Tryz.prog 61 #[.string s] w fun e w' => e = .returned (.string (trimP whiB s)) ∧ w = w' := by
  go_enter Tryz.func61, Tryz.ntmps61
  go_wp2
  go_loop [3] (fun i => ∃ k : Nat, k ≤ s.size ∧ i = .int .i64 k ∧ scan whiB s k = scan whiB s 0) (fun i => s.size - (intOf i).toNat)
  case atStart => exact ⟨0, by omega, rfl, rfl⟩
  case round =>
    obtain ⟨k, hk, rfl, hb⟩ := hrel
    have HB := Lib.hid hb
    clear hb
    by_cases hlt : k < s.size
    · have HL := Lib.hid (fun W => white_any s[k] W)
      cases hb : whiB s[k]
      · have HT := Lib.hid (show trimP whiB s = cutP whiB (s.extract k s.size) from by unfold trimP; rw [← HB.out, scan_stop hlt hb])
        have HL2 : Hid (∀ W, Calls Tryz.prog 86 #[.int .u8 (s[k].toNat : Int)] W fun e w' => e = .returned (.bool false) ∧ W = w') := fun W => by have := HL.out W; rwa [hb] at this
        clear HL hb
        go_wp2_with (first
          | (go_at_call 86; refine (HL2.out _).mono ?_; rintro e w' ⟨rfl, rfl⟩)
          | (go_at_call 87; refine (cutBack_white _ _ (by simp; omega)).mono ?_; rintro e w' ⟨rfl, rfl⟩))
        go_ret
        exact ⟨by rw [HT.out]; rfl, rfl⟩
      · have HE : Hid (scan whiB s (k + 1) = scan whiB s k) := scan_step hlt hb
        have HL2 : Hid (∀ W, Calls Tryz.prog 86 #[.int .u8 (s[k].toNat : Int)] W fun e w' => e = .returned (.bool true) ∧ W = w') := fun W => by have := HL.out W; rwa [hb] at this
        clear HL hb
        go_wp2_with (go_at_call 86; refine (HL2.out _).mono ?_; rintro e w' ⟨rfl, rfl⟩)
        go_round
        case rel => exact ⟨k + 1, by omega, by go_num, HE.out.trans HB.out⟩
        case measure => simp [intOf]; omega
    · obtain rfl : k = s.size := by omega
      have HT := Lib.hid (show trimP whiB s = cutP whiB ByteArray.empty from by unfold trimP; rw [← HB.out, scan_end rfl]; congr 1; simp)
      go_wp2_with (go_at_call 87; refine (cutBack_white _ _ (by simp)).mono ?_; rintro e w' ⟨rfl, rfl⟩)
      go_ret
      exact ⟨by rw [HT.out]; rfl, rfl⟩

/-- How long a text is. -/
def strLen : Value → Nat
  | .string s => s.size
  | _ => 0

set_option maxHeartbeats 1000000 in
theorem refEnds_any (s : ByteArray) (w : World) (hs : s.size ≤ 9223372036854775807) :
    Calls Tryz.prog 84 #[.string s] w fun e w' => e = .returned (.string (cutP tabB s)) ∧ w = w' := by
  go_enter Tryz.func84, Tryz.ntmps84
  go_wp2
  go_loop [0] (fun i => ∃ (m : Nat) (x : ByteArray), m ≤ s.size ∧ i = .string x ∧ x = s.extract 0 m ∧ backN tabB s m = backN tabB s s.size) (fun i => strLen i)
  case atStart => exact ⟨s.size, s, Nat.le_refl _, rfl, (extract_all s).symm, rfl⟩
  case round =>
    obtain ⟨m, x, hm, rfl, hx, hb⟩ := hrel
    have HB := Lib.hid hb
    have HX := Lib.hid hx
    clear hb
    have hz : x.size = m := by rw [hx]; simp; omega
    clear hx
    cases m with
    | zero =>
      have HE := Lib.hid (show cutP tabB s = x from by unfold cutP; rw [← HB.out, HX.out]; rfl)
      go_wp2
      go_ret
      exact ⟨by rw [HE.out]; rfl, rfl⟩
    | succ n =>
      have hn : n < x.size := by omega
      have g1 : (0 : Int) < (n : Int) + 1 := by omega
      have g2 : ((n + 1 : Nat) : Int) - 1 = (n : Int) := by omega
      have HA := Lib.hid (show x[n] = s[n]'(by omega) from by
        rw [← getElem!_pos x n hn, ← getElem!_pos s n (by omega), HX.out, extract_at (by rw [← HX.out]; exact hn), Nat.zero_add])
      have HL := Lib.hid (fun W => refTab_any x[n] W)
      cases hb : tabB x[n]
      · have HE := Lib.hid (show cutP tabB s = x from by unfold cutP; rw [← HB.out, backN_stop (by omega) (by rw [← HA.out]; exact hb), HX.out])
        have HL2 : Hid (∀ W, Calls Tryz.prog 85 #[.int .u8 (x[n].toNat : Int)] W fun e w' => e = .returned (.bool false) ∧ W = w') := fun W => by have := HL.out W; rwa [hb] at this
        clear HL hb
        go_wp2_with (go_at_call 85; refine (HL2.out _).mono ?_; rintro e w' ⟨rfl, rfl⟩)
        go_ret
        exact ⟨by rw [HE.out]; rfl, rfl⟩
      · have HE := Lib.hid (show backN tabB s (n + 1) = backN tabB s n from backN_step (by omega) (by rw [← HA.out]; exact hb))
        have HL2 : Hid (∀ W, Calls Tryz.prog 85 #[.int .u8 (x[n].toNat : Int)] W fun e w' => e = .returned (.bool true) ∧ W = w') := fun W => by have := HL.out W; rwa [hb] at this
        clear HL hb
        go_wp2_with (go_at_call 85; refine (HL2.out _).mono ?_; rintro e w' ⟨rfl, rfl⟩)
        go_round
        case rel => exact ⟨n, x.extract 0 n, by omega, rfl, by rw [HX.out, extract_head (by omega)], HE.out.symm.trans HB.out⟩
        case measure => simp [strLen]; omega

set_option maxHeartbeats 2000000 in
theorem refTrim_any (s : ByteArray) (w : World) (hs : s.size ≤ 9223372036854775807) :
    Calls Tryz.prog 52 #[.string s] w fun e w' => e = .returned (.string (trimP whiB s)) ∧ w = w' := by
  go_enter Tryz.func52, Tryz.ntmps52
  go_wp2
  go_loop [0] (fun i => ∃ (k : Nat) (x : ByteArray), k ≤ s.size ∧ i = .string x ∧ x = s.extract k s.size ∧ scan whiB s k = scan whiB s 0) (fun i => strLen i)
  case atStart => exact ⟨0, s, Nat.zero_le _, rfl, (extract_all s).symm, rfl⟩
  case round =>
    obtain ⟨k, x, hk, rfl, hx, hb⟩ := hrel
    have HB := Lib.hid hb
    have HX := Lib.hid hx
    clear hb
    have hz : x.size = s.size - k := by rw [hx]; simp
    have hzs : x.size ≤ 9223372036854775807 := by omega
    clear hx
    by_cases hlt : k < s.size
    · have hx0 : 0 < x.size := by omega
      have HZ := Lib.hid hz
      clear hz
      have g1 : (0 : Int) < (x.size : Int) := by omega
      have HA := Lib.hid (show x[0] = s[k] from by
        rw [← getElem!_pos x 0 hx0, ← getElem!_pos s k hlt, HX.out, extract_at (by rw [← HX.out]; exact hx0), Nat.add_zero])
      have HL := Lib.hid (fun W => refWhite_any x[0] W)
      cases hb : whiB x[0]
      · have HT := Lib.hid (show trimP whiB s = cutP whiB x from by unfold trimP; rw [← HB.out, scan_stop hlt (by rw [← HA.out]; exact hb), HX.out])
        have HL2 : Hid (∀ W, Calls Tryz.prog 56 #[.int .u8 (x[0].toNat : Int)] W fun e w' => e = .returned (.bool false) ∧ W = w') := fun W => by have := HL.out W; rwa [hb] at this
        clear HL hb
        go_wp2_with (go_at_call 56; refine (HL2.out _).mono ?_; rintro e w' ⟨rfl, rfl⟩)
        go_loop [0] (fun i => ∃ (m : Nat) (y : ByteArray), m ≤ x.size ∧ i = .string y ∧ y = x.extract 0 m ∧ backN whiB x m = backN whiB x x.size) (fun i => strLen i)
        case atStart => exact ⟨x.size, x, Nat.le_refl _, rfl, (extract_all x).symm, rfl⟩
        case round =>
          obtain ⟨m, y, hm, rfl, hy, hb⟩ := hrel
          have HB := Lib.hid hb
          have HY := Lib.hid hy
          clear hb
          have hzy : y.size = m := by rw [hy]; simp; omega
          have HM := Lib.hid hm
          clear hy hm
          cases m with
          | zero =>
            have HE := Lib.hid (show cutP whiB x = y from by unfold cutP; rw [← HB.out, HY.out]; rfl)
            go_wp2
            go_ret
            exact ⟨by rw [HT.out, HE.out]; rfl, rfl⟩
          | succ n =>
            have hn : n < y.size := by omega
            have hnx : n < x.size := by have := HM.out; omega
            have g1 : (0 : Int) < (n : Int) + 1 := by omega
            have g2 : ((n + 1 : Nat) : Int) - 1 = (n : Int) := by omega
            have HA := Lib.hid (show y[n] = x[n]'hnx from by
              rw [← getElem!_pos y n hn, ← getElem!_pos x n hnx, HY.out, extract_at (by rw [← HY.out]; exact hn), Nat.zero_add])
            have HL := Lib.hid (fun W => refWhite_any y[n] W)
            cases hb : whiB y[n]
            · have HE := Lib.hid (show cutP whiB x = y from by unfold cutP; rw [← HB.out, backN_stop hnx (by rw [← HA.out]; exact hb), HY.out])
              have HL2 : Hid (∀ W, Calls Tryz.prog 56 #[.int .u8 (y[n].toNat : Int)] W fun e w' => e = .returned (.bool false) ∧ W = w') := fun W => by have := HL.out W; rwa [hb] at this
              clear HL hb
              go_wp2_with (go_at_call 56; refine (HL2.out _).mono ?_; rintro e w' ⟨rfl, rfl⟩)
              go_ret
              exact ⟨by rw [HT.out, HE.out]; rfl, rfl⟩
            · have HE := Lib.hid (show backN whiB x (n + 1) = backN whiB x n from backN_step hnx (by rw [← HA.out]; exact hb))
              have HL2 : Hid (∀ W, Calls Tryz.prog 56 #[.int .u8 (y[n].toNat : Int)] W fun e w' => e = .returned (.bool true) ∧ W = w') := fun W => by have := HL.out W; rwa [hb] at this
              clear HL hb
              go_wp2_with (go_at_call 56; refine (HL2.out _).mono ?_; rintro e w' ⟨rfl, rfl⟩)
              go_round
              case rel => exact ⟨n, y.extract 0 n, by omega, rfl, by rw [HY.out, extract_head (by omega)], HE.out.symm.trans HB.out⟩
              case measure => simp [strLen]; omega
      · have HE := Lib.hid (show scan whiB s (k + 1) = scan whiB s k from scan_step hlt (by rw [← HA.out]; exact hb))
        have HL2 : Hid (∀ W, Calls Tryz.prog 56 #[.int .u8 (x[0].toNat : Int)] W fun e w' => e = .returned (.bool true) ∧ W = w') := fun W => by have := HL.out W; rwa [hb] at this
        clear HL hb
        go_wp2_with (go_at_call 56; refine (HL2.out _).mono ?_; rintro e w' ⟨rfl, rfl⟩)
        go_round
        case rel => exact ⟨k + 1, x.extract 1 x.size, by omega, rfl, by rw [HX.out, extract_tail hlt], HE.out.trans HB.out⟩
        case measure => simp [strLen]; omega
    · have HT := Lib.hid (show trimP whiB s = cutP whiB x from by unfold trimP; rw [← HB.out, scan_end (by omega), HX.out])
      have hx0 : x.size = 0 := by omega
      clear hz hzs
      have hxe : x = ByteArray.empty := by
        cases x with | mk d => have : d = #[] := Array.eq_empty_of_size_eq_zero hx0; rw [this]; rfl
      subst hxe
      have HE := Lib.hid (show cutP whiB ByteArray.empty = ByteArray.empty from by unfold cutP; simp)
      go_wp2
      refine wp_loop_rounds 1 ?_
      rw [rounds_succ]
      go_wp2
      go_ret
      exact ⟨by rw [HT.out, HE.out]; rfl, rfl⟩

end Go.Proofs.YtighgoefmccagaaGreat
namespace Go.Proofs.YtighgoefmccagaaGreat
open Go.RowKit Go.Maps

/-- A type as a value. -/
abbrev mimV (t u : ByteArray) (A : Option Addr) (n c : Nat) : Value := .agg #[.string t, .string u, .slice A n c]

theorem tyOf_size (t : ByteArray) : (tyOf t).size ≤ t.size := by unfold tyOf; simp; omega
theorem suOf_size (t : ByteArray) : (suOf t).size ≤ t.size := by
  unfold suOf
  have := cutP_le whiB (t.extract (tyTo t + 1) (suTo t))
  have h2 : (t.extract (tyTo t + 1) (suTo t)).size ≤ t.size := by simp; omega
  omega

/-- What Parse answers of a text that says a type; of another one. -/
def SaysYes (t : ByteArray) (w : World) (e : Ending) (w' : World) : Prop := ∃ A c, e = .returned (.tuple #[mimV (lowS (tyOf t)) (lowS (suOf t)) A (prOf t).length c, .int .i64 0]) ∧ OwnPs w' w.heap.size A c (prOf t) ∧ AllIn t.size (prOf t) ∧ Below w.heap.size w w'
def SaysNo (w : World) (e : Ending) (w' : World) : Prop := e = .returned (.tuple #[mimV ⟨#[]⟩ ⟨#[]⟩ none 0 0, .int .i64 2]) ∧ Below w.heap.size w w'

set_option maxHeartbeats 2000000 in
set_option maxRecDepth 100000 in
theorem parse_any (s : ByteArray) (w : World) (hs : s.size ≤ 1048576) :
    Calls Tryz.prog 41 #[.string s] w fun e w' => if saysB (trimP whiB s) then SaysYes (trimP whiB s) w e w' else SaysNo w e w' := by
  have hts := trimP_size whiB s
  have HT := Lib.hid (fun W => trim_any s W (by omega))
  generalize trimP whiB s = t at *
  have ht' : t.size ≤ 9223372036854775807 := by omega
  have hty := tyTo_le t
  have hsz1 := tyOf_size t
  have hsz2 := suOf_size t
  have HU := Lib.hid (fun W cb (hW : Cur W cb t 0) => until_any cb 0 t sSl W hW (Nat.zero_le _) ht' (by show 1 ≤ _; omega))
  have e1 : scan (fun b => !hasB sSl b) t 0 = tyTo t := rfl
  have e2 : t.extract 0 (tyTo t) = tyOf t := rfl
  rw [e1, e2] at HU
  clear e1 e2
  obtain ⟨w0, hw0⟩ : ∃ w0, w0 = w.alloc (.cells #[.string ⟨#[]⟩, .string ⟨#[]⟩, .slice none 0 0] 26) := ⟨_, rfl⟩
  have HM0 := Lib.hid (show Below w.heap.size w w0 from by rw [hw0]; exact (Below.refl _ _).alloc (Nat.le_refl _) _)
  have HR0 := Lib.hid (show Blk w0 w.heap.size 26 #[.string ⟨#[]⟩, .string ⟨#[]⟩, .slice none 0 0] from by rw [hw0]; exact Blk.new _ _ _)
  by_cases h1 : tyTo t < t.size
  · have h47 := tyTo_at h1
    have hsu := suTo_le h1
    have hsg := suTo_ge t
    have HN := Lib.hid (fun W => needs_any (tyOf t) W (by omega))
    have HS := Lib.hid (fun W cb (hW : Cur W cb t (tyTo t)) => skip_yes cb (tyTo t) t sSl W hW hty ht' (by show 1 ≤ _; omega) (by rw [prefB_one h1, h47]; rfl) (by show tyTo t + 1 ≤ _; omega))
    cases hn1 : needB (tyOf t)
    · have HU2 := Lib.hid (fun W cb (hW : Cur W cb t (tyTo t + 1)) => until_any cb (tyTo t + 1) t sSe W hW (by omega) ht' (by show 1 ≤ _; omega))
      have e3 : scan (fun b => !hasB sSe b) t (tyTo t + 1) = suTo t := rfl
      rw [e3] at HU2
      have HK := Lib.hid (fun W => mcut_any (t.extract (tyTo t + 1) (suTo t)) W (by simp; omega))
      have e4 : cutP whiB (t.extract (tyTo t + 1) (suTo t)) = suOf t := rfl
      rw [e4] at HK
      have HN2 := Lib.hid (fun W => needs_any (suOf t) W (by omega))
      clear e3 e4 h47
      cases hn2 : needB (suOf t)
      · have HPS := Lib.hid (fun W cb (hW : Cur W cb t (suTo t)) => takeParams_any cb (suTo t) t W hW hsu (fun h => suTo_at h1 h) (by omega))
        have ep : parS t (suTo t) [] = prOf t := rfl
        rw [ep] at HPS
        have HL1 := Lib.hid (fun W => lowerS_any (tyOf t) W (by omega))
        have HL2 := Lib.hid (fun W => lowerS_any (suOf t) W (by omega))
        have hb : saysB t = true := by unfold saysB; rw [hn1, hn2, decide_eq_true h1]; rfl
        rw [hn1] at HN
        rw [hn2] at HN2
        rw [hb]
        show Calls Tryz.prog 41 #[.string s] w fun e w' => SaysYes t w e w'
        unfold SaysYes
        clear hn1 hn2 hb ep hsg
        generalize tyOf t = ty at *
        generalize suOf t = su at *
        generalize prOf t = pr at *
        generalize lowS ty = lty at *
        generalize lowS su = lsu at *
        go_enter Tryz.func41, Tryz.ntmps41
        go_wp2_with fail
        rw [← hw0]
        clear hw0
        refine (HT.out _).mono ?_
        rintro e w1 ⟨rfl, rfl⟩
        go_wp2_with fail
        refine (new_any _ _).mono ?_
        rintro e w1 ⟨rfl, hw1⟩
        have HC1 := Lib.hid (show Cur w1 w0.heap.size t 0 from by rw [hw1]; exact Blk.new _ _ _)
        have HB1 := Lib.hid (show Below w.heap.size w w1 from by rw [hw1]; exact HM0.out.alloc (by have := HM0.out.size; omega) _)
        have HR1 := Lib.hid (show Blk w1 w.heap.size 26 _ from by rw [hw1]; exact HR0.out.alloc _)
        have hcr : w.heap.size < w0.heap.size := HR0.out.lt
        clear hw1 HM0 HR0
        generalize w0.heap.size = cb at *
        have hnr : w.heap.size ∉ [cb] := by simp; omega
        have hge : ∀ x ∈ [cb], w.heap.size ≤ x := by simp; omega
        go_wp2_with fail
        refine (HU.out _ _ HC1.out).mono ?_
        rintro e w2 ⟨rfl, m2, c2⟩
        have HC2 := Lib.hid c2
        have HB2 := Lib.hid (HB1.out.trans (m2.below (by have := HB1.out.size; omega) hge))
        have HR2 := Lib.hid (HR1.out.mv m2 HR1.out.lt hnr)
        clear m2 c2 HC1 HB1 HR1
        go_wp2_with fail
        refine (HS.out _ _ HC2.out).mono ?_
        rintro e w3 ⟨rfl, i3⟩
        obtain ⟨m3, c3⟩ := Mv.put (j := tyTo t + 1) HC2.out i3
        have HC3 := Lib.hid c3
        have HB3 := Lib.hid (HB2.out.trans (m3.below (by have := HB2.out.size; omega) hge))
        have HR3 := Lib.hid (HR2.out.mv m3 HR2.out.lt hnr)
        clear i3 m3 c3 HC2 HB2 HR2
        go_wp2_with fail
        refine (HN.out _).mono ?_
        rintro e w4 ⟨rfl, b4⟩
        have HC4 := Lib.hid (HC3.out.below b4 HC3.out.lt)
        have HB4 := Lib.hid (HB3.out.trans (b4.mono (by have := HB3.out.size; omega)))
        have HR4 := Lib.hid (HR3.out.below b4 HR3.out.lt)
        clear b4 HC3 HB3 HR3
        go_wp2_with fail
        refine (HU2.out _ _ HC4.out).mono ?_
        rintro e w5 ⟨rfl, m5, c5⟩
        have HC5 := Lib.hid c5
        have HB5 := Lib.hid (HB4.out.trans (m5.below (by have := HB4.out.size; omega) hge))
        have HR5 := Lib.hid (HR4.out.mv m5 HR4.out.lt hnr)
        clear m5 c5 HC4 HB4 HR4
        go_wp2_with fail
        refine (HK.out _).mono ?_
        rintro e wx ⟨rfl, rfl⟩
        go_wp2_with fail
        refine (HN2.out _).mono ?_
        rintro e w6 ⟨rfl, b6⟩
        have HC6 := Lib.hid (HC5.out.below b6 HC5.out.lt)
        have HB6 := Lib.hid (HB5.out.trans (b6.mono (by have := HB5.out.size; omega)))
        have HR6 := Lib.hid (HR5.out.below b6 HR5.out.lt)
        clear b6 HC5 HB5 HR5
        go_wp2_with fail
        refine (HL1.out _).mono ?_
        rintro e w7 ⟨rfl, b7⟩
        have HC7 := Lib.hid (HC6.out.below b7 HC6.out.lt)
        have HB7 := Lib.hid (HB6.out.trans (b7.mono (by have := HB6.out.size; omega)))
        have HR7 := Lib.hid (HR6.out.below b7 HR6.out.lt)
        clear b7 HC6 HB6 HR6
        go_wp2_with fail
        refine (HL2.out _).mono ?_
        rintro e w8 ⟨rfl, b8⟩
        have HC8 := Lib.hid (HC7.out.below b8 HC7.out.lt)
        have HB8 := Lib.hid (HB7.out.trans (b8.mono (by have := HB7.out.size; omega)))
        have HR8 := Lib.hid (HR7.out.below b8 HR7.out.lt)
        clear b8 HC7 HB7 HR7
        go_wp2_with fail
        refine (HPS.out _ _ HC8.out).mono ?_
        rintro e w9 ⟨v, rfl, ho, hall, m9⟩
        have HB9 := Lib.hid (HB8.out.trans (m9.below (by have := HB8.out.size; omega) hge))
        have HR9 := Lib.hid (HR8.out.mv m9 HR8.out.lt hnr)
        have hrl := HR8.out.lt
        have HO := Lib.hid ho
        have HAL := Lib.hid hall
        clear m9 HC8 HB8 HR8 ho hall
        obtain ⟨A, c, rfl, _⟩ := PsIn.of_own HO.out
        have c0 := HR9.out.cell 0
        have z0 := HR9.out.frozen 0
        have c1 := HR9.out.cell 1
        have z1 := HR9.out.frozen 1
        have c2 := HR9.out.cell 2
        have z2 := HR9.out.frozen 2
        go_wp2
        refine bodyPost_ret (v := .tuple #[mimV lty lsu A pr.length c, .int .i64 0]) (by simp [results, Tryz.results41, go_sem, c0, c1, c2]; done) rfl ?_
        have hm : Mv w9.heap.size [w.heap.size] w9 (((w9.setCell ⟨w.heap.size, 0, none⟩ (.string lty)).setCell ⟨w.heap.size, 1, none⟩ (.string lsu)).setCell ⟨w.heap.size, 2, none⟩ (.slice A pr.length c)) := (((Mv.refl _ _ _).setCell (.inl (by simp)) _).setCell (.inl (by simp)) _).setCell (.inl (by simp)) _
        refine ⟨A, c, rfl, own_base (own_keep HO.out hm (by simp; omega)) (by omega), HAL.out, ?_⟩
        · exact ((HB9.out.setCell (by exact Nat.le_refl _) _).setCell (by exact Nat.le_refl _) _).setCell (by exact Nat.le_refl _) _
      · have hb : saysB t = false := by unfold saysB; rw [hn2]; simp
        rw [hn1] at HN
        rw [hn2] at HN2
        rw [hb]
        show Calls Tryz.prog 41 #[.string s] w fun e w' => SaysNo w e w'
        unfold SaysNo
        clear hn1 hn2 hb hsg
        generalize tyOf t = ty at *
        generalize suOf t = su at *
        go_enter Tryz.func41, Tryz.ntmps41
        go_wp2_with fail
        rw [← hw0]
        clear hw0
        refine (HT.out _).mono ?_
        rintro e w1 ⟨rfl, rfl⟩
        go_wp2_with fail
        refine (new_any _ _).mono ?_
        rintro e w1 ⟨rfl, hw1⟩
        have HC1 := Lib.hid (show Cur w1 w0.heap.size t 0 from by rw [hw1]; exact Blk.new _ _ _)
        have HB1 := Lib.hid (show Below w.heap.size w w1 from by rw [hw1]; exact HM0.out.alloc (by have := HM0.out.size; omega) _)
        have HR1 := Lib.hid (show Blk w1 w.heap.size 26 _ from by rw [hw1]; exact HR0.out.alloc _)
        have hcr : w.heap.size < w0.heap.size := HR0.out.lt
        clear hw1 HM0 HR0
        generalize w0.heap.size = cb at *
        have hnr : w.heap.size ∉ [cb] := by simp; omega
        have hge : ∀ x ∈ [cb], w.heap.size ≤ x := by simp; omega
        go_wp2_with fail
        refine (HU.out _ _ HC1.out).mono ?_
        rintro e w2 ⟨rfl, m2, c2⟩
        have HC2 := Lib.hid c2
        have HB2 := Lib.hid (HB1.out.trans (m2.below (by have := HB1.out.size; omega) hge))
        have HR2 := Lib.hid (HR1.out.mv m2 HR1.out.lt hnr)
        clear m2 c2 HC1 HB1 HR1
        go_wp2_with fail
        refine (HS.out _ _ HC2.out).mono ?_
        rintro e w3 ⟨rfl, i3⟩
        obtain ⟨m3, c3⟩ := Mv.put (j := tyTo t + 1) HC2.out i3
        have HC3 := Lib.hid c3
        have HB3 := Lib.hid (HB2.out.trans (m3.below (by have := HB2.out.size; omega) hge))
        have HR3 := Lib.hid (HR2.out.mv m3 HR2.out.lt hnr)
        clear i3 m3 c3 HC2 HB2 HR2
        go_wp2_with fail
        refine (HN.out _).mono ?_
        rintro e w4 ⟨rfl, b4⟩
        have HC4 := Lib.hid (HC3.out.below b4 HC3.out.lt)
        have HB4 := Lib.hid (HB3.out.trans (b4.mono (by have := HB3.out.size; omega)))
        have HR4 := Lib.hid (HR3.out.below b4 HR3.out.lt)
        clear b4 HC3 HB3 HR3
        go_wp2_with fail
        refine (HU2.out _ _ HC4.out).mono ?_
        rintro e w5 ⟨rfl, m5, c5⟩
        have HC5 := Lib.hid c5
        have HB5 := Lib.hid (HB4.out.trans (m5.below (by have := HB4.out.size; omega) hge))
        have HR5 := Lib.hid (HR4.out.mv m5 HR4.out.lt hnr)
        clear m5 c5 HC4 HB4 HR4
        go_wp2_with fail
        refine (HK.out _).mono ?_
        rintro e wx ⟨rfl, rfl⟩
        go_wp2_with fail
        refine (HN2.out _).mono ?_
        rintro e w6 ⟨rfl, b6⟩
        have HC6 := Lib.hid (HC5.out.below b6 HC5.out.lt)
        have HB6 := Lib.hid (HB5.out.trans (b6.mono (by have := HB5.out.size; omega)))
        have HR6 := Lib.hid (HR5.out.below b6 HR5.out.lt)
        clear b6 HC5 HB5 HR5
        have c0 := HR6.out.cell 0
        have z0 := HR6.out.frozen 0
        have c1 := HR6.out.cell 1
        have z1 := HR6.out.frozen 1
        have c2 := HR6.out.cell 2
        have z2 := HR6.out.frozen 2
        go_wp2
        refine bodyPost_ret (v := .tuple #[mimV ⟨#[]⟩ ⟨#[]⟩ none 0 0, .int .i64 2]) (by simp [results, Tryz.results41, go_sem, c0, c1, c2]; done) rfl ?_
        refine ⟨rfl, ?_⟩
        exact ((HB6.out.setCell (by exact Nat.le_refl _) _).setCell (by exact Nat.le_refl _) _).setCell (by exact Nat.le_refl _) _
    · have hb : saysB t = false := by unfold saysB; rw [hn1]; simp
      rw [hn1] at HN
      rw [hb]
      show Calls Tryz.prog 41 #[.string s] w fun e w' => SaysNo w e w'
      unfold SaysNo
      clear hn1 hb hsg h47
      generalize tyOf t = ty at *
      go_enter Tryz.func41, Tryz.ntmps41
      go_wp2_with fail
      rw [← hw0]
      clear hw0
      refine (HT.out _).mono ?_
      rintro e w1 ⟨rfl, rfl⟩
      go_wp2_with fail
      refine (new_any _ _).mono ?_
      rintro e w1 ⟨rfl, hw1⟩
      have HC1 := Lib.hid (show Cur w1 w0.heap.size t 0 from by rw [hw1]; exact Blk.new _ _ _)
      have HB1 := Lib.hid (show Below w.heap.size w w1 from by rw [hw1]; exact HM0.out.alloc (by have := HM0.out.size; omega) _)
      have HR1 := Lib.hid (show Blk w1 w.heap.size 26 _ from by rw [hw1]; exact HR0.out.alloc _)
      have hcr : w.heap.size < w0.heap.size := HR0.out.lt
      clear hw1 HM0 HR0
      generalize w0.heap.size = cb at *
      have hnr : w.heap.size ∉ [cb] := by simp; omega
      have hge : ∀ x ∈ [cb], w.heap.size ≤ x := by simp; omega
      go_wp2_with fail
      refine (HU.out _ _ HC1.out).mono ?_
      rintro e w2 ⟨rfl, m2, c2⟩
      have HC2 := Lib.hid c2
      have HB2 := Lib.hid (HB1.out.trans (m2.below (by have := HB1.out.size; omega) hge))
      have HR2 := Lib.hid (HR1.out.mv m2 HR1.out.lt hnr)
      clear m2 c2 HC1 HB1 HR1
      go_wp2_with fail
      refine (HS.out _ _ HC2.out).mono ?_
      rintro e w3 ⟨rfl, i3⟩
      obtain ⟨m3, c3⟩ := Mv.put (j := tyTo t + 1) HC2.out i3
      have HC3 := Lib.hid c3
      have HB3 := Lib.hid (HB2.out.trans (m3.below (by have := HB2.out.size; omega) hge))
      have HR3 := Lib.hid (HR2.out.mv m3 HR2.out.lt hnr)
      clear i3 m3 c3 HC2 HB2 HR2
      go_wp2_with fail
      refine (HN.out _).mono ?_
      rintro e w4 ⟨rfl, b4⟩
      have HC4 := Lib.hid (HC3.out.below b4 HC3.out.lt)
      have HB4 := Lib.hid (HB3.out.trans (b4.mono (by have := HB3.out.size; omega)))
      have HR4 := Lib.hid (HR3.out.below b4 HR3.out.lt)
      clear b4 HC3 HB3 HR3
      have c0 := HR4.out.cell 0
      have z0 := HR4.out.frozen 0
      have c1 := HR4.out.cell 1
      have z1 := HR4.out.frozen 1
      have c2 := HR4.out.cell 2
      have z2 := HR4.out.frozen 2
      go_wp2
      refine bodyPost_ret (v := .tuple #[mimV ⟨#[]⟩ ⟨#[]⟩ none 0 0, .int .i64 2]) (by simp [results, Tryz.results41, go_sem, c0, c1, c2]; done) rfl ?_
      refine ⟨rfl, ?_⟩
      exact ((HB4.out.setCell (by exact Nat.le_refl _) _).setCell (by exact Nat.le_refl _) _).setCell (by exact Nat.le_refl _) _
  · have hb : saysB t = false := by unfold saysB; rw [decide_eq_false h1]; simp
    have HS := Lib.hid (fun W cb (hW : Cur W cb t (tyTo t)) => skip_no cb (tyTo t) t sSl W hW hty ht' (by show 1 ≤ _; omega) (prefB_none (by omega) _))
    rw [hb]
    show Calls Tryz.prog 41 #[.string s] w fun e w' => SaysNo w e w'
    unfold SaysNo
    clear hb
    generalize tyOf t = ty at *
    go_enter Tryz.func41, Tryz.ntmps41
    go_wp2_with fail
    rw [← hw0]
    clear hw0
    refine (HT.out _).mono ?_
    rintro e w1 ⟨rfl, rfl⟩
    go_wp2_with fail
    refine (new_any _ _).mono ?_
    rintro e w1 ⟨rfl, hw1⟩
    have HC1 := Lib.hid (show Cur w1 w0.heap.size t 0 from by rw [hw1]; exact Blk.new _ _ _)
    have HB1 := Lib.hid (show Below w.heap.size w w1 from by rw [hw1]; exact HM0.out.alloc (by have := HM0.out.size; omega) _)
    have HR1 := Lib.hid (show Blk w1 w.heap.size 26 _ from by rw [hw1]; exact HR0.out.alloc _)
    have hcr : w.heap.size < w0.heap.size := HR0.out.lt
    clear hw1 HM0 HR0
    generalize w0.heap.size = cb at *
    have hnr : w.heap.size ∉ [cb] := by simp; omega
    have hge : ∀ x ∈ [cb], w.heap.size ≤ x := by simp; omega
    go_wp2_with fail
    refine (HU.out _ _ HC1.out).mono ?_
    rintro e w2 ⟨rfl, m2, c2⟩
    have HC2 := Lib.hid c2
    have HB2 := Lib.hid (HB1.out.trans (m2.below (by have := HB1.out.size; omega) hge))
    have HR2 := Lib.hid (HR1.out.mv m2 HR1.out.lt hnr)
    clear m2 c2 HC1 HB1 HR1
    go_wp2_with fail
    refine (HS.out _ _ HC2.out).mono ?_
    rintro e w3 ⟨rfl, i3⟩
    have m3 : Mv w2.heap.size [cb] w2 w3 := Mv.idle i3
    have HB3 := Lib.hid (HB2.out.trans (m3.below (by have := HB2.out.size; omega) hge))
    have HR3 := Lib.hid (HR2.out.mv m3 HR2.out.lt hnr)
    clear i3 m3 HB2 HR2
    have c0 := HR3.out.cell 0
    have z0 := HR3.out.frozen 0
    have c1 := HR3.out.cell 1
    have z1 := HR3.out.frozen 1
    have c2 := HR3.out.cell 2
    have z2 := HR3.out.frozen 2
    go_wp2
    refine bodyPost_ret (v := .tuple #[mimV ⟨#[]⟩ ⟨#[]⟩ none 0 0, .int .i64 2]) (by simp [results, Tryz.results41, go_sem, c0, c1, c2]; done) rfl ?_
    refine ⟨rfl, ?_⟩
    exact ((HB3.out.setCell (by exact Nat.le_refl _) _).setCell (by exact Nat.le_refl _) _).setCell (by exact Nat.le_refl _) _

end Go.Proofs.YtighgoefmccagaaGreat
namespace Go.Proofs.YtighgoefmccagaaGreat

/-- How many parameters a text has at most; how long a text is. -/
theorem parF_len (s : ByteArray) : ∀ (f k : Nat) (acc : List Prm), (parF s f k acc).length ≤ acc.length + f
  | 0, _, _ => Nat.le_refl _
  | f + 1, k, acc => by
    rw [parF]
    split
    · have h1 := parF_len s f (stepE s k) (putO acc (stepP s k))
      have h2 : (putO acc (stepP s k)).length ≤ acc.length + 1 := by
        cases stepP s k with
        | none => show acc.length ≤ _; omega
        | some p =>
          show (putL acc p).length ≤ _
          unfold putL
          split <;> simp
      omega
    · omega
theorem prOf_len (t : ByteArray) : (prOf t).length ≤ t.size := by
  have := parF_len t t.size (suTo t) []
  rw [List.length_nil, Nat.zero_add] at this
  exact this
end Go.Proofs.YtighgoefmccagaaGreat
