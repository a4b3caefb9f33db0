/-
  What Collect of layer 4 does to a cursor, and what it answers. Conditions: the place lies in the text, which takes at most 2^47 bytes.
  What takeParams answers of a cursor: a slice of new parameters. Condition: the text is as long as a mebibyte.
  What Trim and Ends answer, and those of the document's own answer. Condition: the text is as long as a length can be.
-/
import Derived.Test.YtjikahflbhgniaaZ1
import Derived.Test.YtjikahflbhgniaaZ4
import Derived.Test.YtjikahflbhgniaaZ3
import Derived.Test.YtjikahflbhgniaaZ2
import Derived.Deep.RegionWith
import Derived.RegionTactic
import Derived.BigRegion
import Derived.Deep.QuietTactic
import Derived.BigQuiet
import Derived.Outline
import Derived.Deep.RegionHeld3
import Derived.StillTailTactics
import Derived.Lib.Hide
import Derived.IntWalk
import Derived.LoopTactic
import Derived.Test.YtjikahflbhgniaaRows
import Derived.WalkKit
import Derived.KernelRfl
import Derived.Test.YtjikahflbhgniaaZ5
import Derived.Maps.OwnSet
import Derived.Maps.AppendAt
import Derived.Laws.OwnMore
import Derived.Laws.AppendOwn
namespace Go.Proofs.Ytjikahflbhgniaa
open Go.RowKit

theorem Mv.idle {B : Nat} {r : List Nat} {w w' : World} (he : ∃ m, w' = w.drewN m) : Mv B r w w' := by
  obtain ⟨m, rfl⟩ := he
  exact (Mv.refl _ _ _).drewN m

end Go.Proofs.Ytjikahflbhgniaa
namespace Go.Proofs.Ytjikahflbhgniaa
open Go.RowKit Go.Maps

/-- The cells of some parameters. -/
def prmL (ps : List Prm) : List Value := ps.flatMap fun p => [.string p.n, .string p.v]
theorem prmL_snoc (ps : List Prm) (p : Prm) : prmL (ps ++ [p]) = prmL ps ++ [.string p.n, .string p.v] := by simp [prmL]
theorem prmL_len (ps : List Prm) : (prmL ps).length = ps.length * 2 := by
  induction ps with
  | nil => rfl
  | cons p r ih => simp [prmL] at ih ⊢; omega
theorem prmL_at : ∀ (ps : List Prm) (i : Nat) (h : i < ps.length), (prmL ps)[i * 2]? = some (.string ps[i].n) ∧ (prmL ps)[i * 2 + 1]? = some (.string ps[i].v)
  | [], i, h => absurd h (by simp)
  | p :: r, 0, _ => ⟨rfl, rfl⟩
  | p :: r, i + 1, h => by
    have ih := prmL_at r i (by simpa using h)
    have e : prmL (p :: r) = .string p.n :: .string p.v :: prmL r := by simp [prmL]
    rw [e]
    have e1 : (i + 1) * 2 = i * 2 + 1 + 1 := by omega
    have e2 : (i + 1) * 2 + 1 = i * 2 + 1 + 1 + 1 := by omega
    rw [e1, List.getElem?_cons_succ, List.getElem?_cons_succ]
    refine ⟨ih.1, ?_⟩
    rw [List.getElem?_cons_succ, List.getElem?_cons_succ]
    exact ih.2

/-- Parameters that lie behind A. -/
def PsIn (w : World) (A : Option Addr) (ps : List Prm) : Prop := ∀ i (h : i < ps.length), ∃ g, A = some ⟨g, 0, none⟩ ∧ g < w.heap.size ∧ w.cell? ⟨g, i * 2, none⟩ = some (.string ps[i].n) ∧ w.cell? ⟨g, i * 2 + 1, none⟩ = some (.string ps[i].v)
theorem PsIn.below {w w' : World} {A : Option Addr} {ps : List Prm} (h : PsIn w A ps) (hb : Below w.heap.size w w') : PsIn w' A ps := fun i hi => by
  obtain ⟨g, h1, h2, h3, h4⟩ := h i hi
  have e := fun o => hb.cell (p := ⟨g, o, none⟩) h2
  exact ⟨g, h1, by have := hb.size; omega, (e _).trans h3, (e _).trans h4⟩
theorem PsIn.nil (w : World) (A : Option Addr) : PsIn w A [] := fun i h => absurd h (by simp)
theorem own_keep {w w' : World} {base : Nat} {e : TypeId} {size n : Nat} {v : Value} {xs : List Value} {r : List Nat} (h : w.ownsRow base e size v n xs) (hm : Mv w.heap.size r w w') (hr : ∀ x ∈ r, x < base) : w'.ownsRow base e size v n xs := by
  refine ⟨h.1, ?_⟩
  rcases h.2 with h2 | ⟨g, cap, cur, e1, e2, e3, e4⟩
  · exact .inl h2
  · have hl := h.lt g (by rw [e1]; rfl)
    exact .inr ⟨g, cap, cur, e1, e2, (hm.block g hl.2 (fun hx => by have := hr g hx; omega)).trans e3, e4⟩

theorem own_base {w : World} {base b : Nat} {e : TypeId} {size n : Nat} {v : Value} {xs : List Value} (h : w.ownsRow base e size v n xs) (hb : b ≤ base) : w.ownsRow b e size v n xs := by
  refine ⟨h.1, ?_⟩
  rcases h.2 with h2 | ⟨g, cap, cur, e1, e2, e3, e4⟩
  · exact .inl h2
  · exact .inr ⟨g, cap, cur, e1, by omega, e3, e4⟩
/-- All texts are short enough. -/
def AllIn (n : Nat) (ps : List Prm) : Prop := ∀ p ∈ ps, p.n.size ≤ n ∧ p.v.size ≤ n
theorem AllIn.at_ {n : Nat} {ps : List Prm} (h : AllIn n ps) {i : Nat} (hi : i < ps.length) : ps[i].n.size ≤ n ∧ ps[i].v.size ≤ n := h _ (List.getElem_mem hi)

end Go.Proofs.Ytjikahflbhgniaa
namespace Go.Proofs.Ytjikahflbhgniaa
open Go.RowKit

set_option maxHeartbeats 1000000 in
theorem cutBack_white (s : ByteArray) (w : World) (hs : s.size ≤ 9223372036854775807) :
    Calls Try.prog 64 #[.string s, .func (.func 63) #[] #[]] w fun e w' => e = .returned (.string (cutP whiB s)) ∧ w = w' := by
  go_enter Try.func64, Try.ntmps64
  go_wp2
  go_loop [5] (fun i => ∃ k : Nat, k ≤ s.size ∧ i = .int .i64 k ∧ backN whiB s k = backN whiB s s.size) (fun i => (intOf i).toNat)
  case atStart => exact ⟨s.size, Nat.le_refl _, rfl, rfl⟩
  case round =>
    obtain ⟨k, hk, rfl, hb⟩ := hrel
    have HB := Lib.hid hb
    clear hb
    cases k with
    | zero =>
      have HE := Lib.hid (show cutP whiB s = ByteArray.empty from by unfold cutP; rw [← HB.out]; simp [backN])
      go_wp2
      go_ret
      exact ⟨by rw [HE.out]; rfl, rfl⟩
    | succ m =>
      have hm : m < s.size := by omega
      have g1 : (0 : Int) < (m : Int) + 1 := by omega
      have g2 : ((m + 1 : Nat) : Int) - 1 = (m : Int) := by omega
      have HL := Lib.hid (fun W => white_any s[m] W)
      cases hb : whiB s[m]
      · have HE := Lib.hid (show cutP whiB s = s.extract 0 (m + 1) from by unfold cutP; rw [← HB.out, backN_stop hm hb])
        have HL2 : Hid (∀ W, Calls Try.prog 63 #[.int .u8 (s[m].toNat : Int)] W fun e w' => e = .returned (.bool false) ∧ W = w') := fun W => by have := HL.out W; rwa [hb] at this
        clear HL hb
        go_wp2_with (go_at_call 63; refine (HL2.out _).mono ?_; rintro e w' ⟨rfl, rfl⟩)
        go_ret
        exact ⟨by rw [HE.out]; rfl, rfl⟩
      · have HE : Hid (backN whiB s (m + 1) = backN whiB s m) := backN_step hm hb
        have HL2 : Hid (∀ W, Calls Try.prog 63 #[.int .u8 (s[m].toNat : Int)] W fun e w' => e = .returned (.bool true) ∧ W = w') := fun W => by have := HL.out W; rwa [hb] at this
        clear HL hb
        go_wp2_with (go_at_call 63; refine (HL2.out _).mono ?_; rintro e w' ⟨rfl, rfl⟩)
        go_round
        case rel => exact ⟨m, by omega, by go_num, HE.out.symm.trans HB.out⟩
        case measure => first | (simp [intOf]; done) | (simp [intOf]; omega)

set_option maxHeartbeats 1000000 in
theorem trim_any (s : ByteArray) (w : World) (hs : s.size ≤ 9223372036854775807) :
    Calls Try.prog 43 #[.string s] w fun e w' => e = .returned (.string (trimP whiB s)) ∧ w = w' := by
  go_enter Try.func43, Try.ntmps43
  go_wp2
  go_loop [3] (fun i => ∃ k : Nat, k ≤ s.size ∧ i = .int .i64 k ∧ scan whiB s k = scan whiB s 0) (fun i => s.size - (intOf i).toNat)
  case atStart => exact ⟨0, by omega, rfl, rfl⟩
  case round =>
    obtain ⟨k, hk, rfl, hb⟩ := hrel
    have HB := Lib.hid hb
    clear hb
    by_cases hlt : k < s.size
    · have HL := Lib.hid (fun W => white_any s[k] W)
      cases hb : whiB s[k]
      · have HT := Lib.hid (show trimP whiB s = cutP whiB (s.extract k s.size) from by unfold trimP; rw [← HB.out, scan_stop hlt hb])
        have HL2 : Hid (∀ W, Calls Try.prog 63 #[.int .u8 (s[k].toNat : Int)] W fun e w' => e = .returned (.bool false) ∧ W = w') := fun W => by have := HL.out W; rwa [hb] at this
        clear HL hb
        go_wp2_with (first
          | (go_at_call 63; refine (HL2.out _).mono ?_; rintro e w' ⟨rfl, rfl⟩)
          | (go_at_call 64; refine (cutBack_white _ _ (by simp; omega)).mono ?_; rintro e w' ⟨rfl, rfl⟩))
        go_ret
        exact ⟨by rw [HT.out]; rfl, rfl⟩
      · have HE : Hid (scan whiB s (k + 1) = scan whiB s k) := scan_step hlt hb
        have HL2 : Hid (∀ W, Calls Try.prog 63 #[.int .u8 (s[k].toNat : Int)] W fun e w' => e = .returned (.bool true) ∧ W = w') := fun W => by have := HL.out W; rwa [hb] at this
        clear HL hb
        go_wp2_with (go_at_call 63; refine (HL2.out _).mono ?_; rintro e w' ⟨rfl, rfl⟩)
        go_round
        case rel => exact ⟨k + 1, by omega, by go_num, HE.out.trans HB.out⟩
        case measure => simp [intOf]; omega
    · obtain rfl : k = s.size := by omega
      have HT := Lib.hid (show trimP whiB s = cutP whiB ByteArray.empty from by unfold trimP; rw [← HB.out, scan_end rfl]; congr 1; simp)
      go_wp2_with (go_at_call 64; refine (cutBack_white _ _ (by simp)).mono ?_; rintro e w' ⟨rfl, rfl⟩)
      go_ret
      exact ⟨by rw [HT.out]; rfl, rfl⟩

/-- How long a text is. -/
def strLen : Value → Nat
  | .string s => s.size
  | _ => 0

set_option maxHeartbeats 2000000 in
theorem refTrim_any (s : ByteArray) (w : World) (hs : s.size ≤ 9223372036854775807) :
    Calls Try.prog 22 #[.string s] w fun e w' => e = .returned (.string (trimP whiB s)) ∧ w = w' := by
  go_enter Try.func22, Try.ntmps22
  go_wp2
  go_loop [0] (fun i => ∃ (k : Nat) (x : ByteArray), k ≤ s.size ∧ i = .string x ∧ x = s.extract k s.size ∧ scan whiB s k = scan whiB s 0) (fun i => strLen i)
  case atStart => exact ⟨0, s, Nat.zero_le _, rfl, (extract_all s).symm, rfl⟩
  case round =>
    obtain ⟨k, x, hk, rfl, hx, hb⟩ := hrel
    have HB := Lib.hid hb
    have HX := Lib.hid hx
    clear hb
    have hz : x.size = s.size - k := by rw [hx]; simp
    have hzs : x.size ≤ 9223372036854775807 := by omega
    clear hx
    by_cases hlt : k < s.size
    · have hx0 : 0 < x.size := by omega
      have HZ := Lib.hid hz
      clear hz
      have g1 : (0 : Int) < (x.size : Int) := by omega
      have HA := Lib.hid (show x[0] = s[k] from by
        rw [← getElem!_pos x 0 hx0, ← getElem!_pos s k hlt, HX.out, extract_at (by rw [← HX.out]; exact hx0), Nat.add_zero])
      have HL := Lib.hid (fun W => refWhite_any x[0] W)
      cases hb : whiB x[0]
      · have HT := Lib.hid (show trimP whiB s = cutP whiB x from by unfold trimP; rw [← HB.out, scan_stop hlt (by rw [← HA.out]; exact hb), HX.out])
        have HL2 : Hid (∀ W, Calls Try.prog 44 #[.int .u8 (x[0].toNat : Int)] W fun e w' => e = .returned (.bool false) ∧ W = w') := fun W => by have := HL.out W; rwa [hb] at this
        clear HL hb
        go_wp2_with (go_at_call 44; refine (HL2.out _).mono ?_; rintro e w' ⟨rfl, rfl⟩)
        go_loop [0] (fun i => ∃ (m : Nat) (y : ByteArray), m ≤ x.size ∧ i = .string y ∧ y = x.extract 0 m ∧ backN whiB x m = backN whiB x x.size) (fun i => strLen i)
        case atStart => exact ⟨x.size, x, Nat.le_refl _, rfl, (extract_all x).symm, rfl⟩
        case round =>
          obtain ⟨m, y, hm, rfl, hy, hb⟩ := hrel
          have HB := Lib.hid hb
          have HY := Lib.hid hy
          clear hb
          have hzy : y.size = m := by rw [hy]; simp; omega
          have HM := Lib.hid hm
          clear hy hm
          cases m with
          | zero =>
            have HE := Lib.hid (show cutP whiB x = y from by unfold cutP; rw [← HB.out, HY.out]; rfl)
            go_wp2
            go_ret
            exact ⟨by rw [HT.out, HE.out]; rfl, rfl⟩
          | succ n =>
            have hn : n < y.size := by omega
            have hnx : n < x.size := by have := HM.out; omega
            have g1 : (0 : Int) < (n : Int) + 1 := by omega
            have g2 : ((n + 1 : Nat) : Int) - 1 = (n : Int) := by omega
            have HA := Lib.hid (show y[n] = x[n]'hnx from by
              rw [← getElem!_pos y n hn, ← getElem!_pos x n hnx, HY.out, extract_at (by rw [← HY.out]; exact hn), Nat.zero_add])
            have HL := Lib.hid (fun W => refWhite_any y[n] W)
            cases hb : whiB y[n]
            · have HE := Lib.hid (show cutP whiB x = y from by unfold cutP; rw [← HB.out, backN_stop hnx (by rw [← HA.out]; exact hb), HY.out])
              have HL2 : Hid (∀ W, Calls Try.prog 44 #[.int .u8 (y[n].toNat : Int)] W fun e w' => e = .returned (.bool false) ∧ W = w') := fun W => by have := HL.out W; rwa [hb] at this
              clear HL hb
              go_wp2_with (go_at_call 44; refine (HL2.out _).mono ?_; rintro e w' ⟨rfl, rfl⟩)
              go_ret
              exact ⟨by rw [HT.out, HE.out]; rfl, rfl⟩
            · have HE := Lib.hid (show backN whiB x (n + 1) = backN whiB x n from backN_step hnx (by rw [← HA.out]; exact hb))
              have HL2 : Hid (∀ W, Calls Try.prog 44 #[.int .u8 (y[n].toNat : Int)] W fun e w' => e = .returned (.bool true) ∧ W = w') := fun W => by have := HL.out W; rwa [hb] at this
              clear HL hb
              go_wp2_with (go_at_call 44; refine (HL2.out _).mono ?_; rintro e w' ⟨rfl, rfl⟩)
              go_round
              case rel => exact ⟨n, y.extract 0 n, by omega, rfl, by rw [HY.out, extract_head (by omega)], HE.out.symm.trans HB.out⟩
              case measure => simp [strLen]; omega
      · have HE := Lib.hid (show scan whiB s (k + 1) = scan whiB s k from scan_step hlt (by rw [← HA.out]; exact hb))
        have HL2 : Hid (∀ W, Calls Try.prog 44 #[.int .u8 (x[0].toNat : Int)] W fun e w' => e = .returned (.bool true) ∧ W = w') := fun W => by have := HL.out W; rwa [hb] at this
        clear HL hb
        go_wp2_with (go_at_call 44; refine (HL2.out _).mono ?_; rintro e w' ⟨rfl, rfl⟩)
        go_round
        case rel => exact ⟨k + 1, x.extract 1 x.size, by omega, rfl, by rw [HX.out, extract_tail hlt], HE.out.trans HB.out⟩
        case measure => simp [strLen]; omega
    · have HT := Lib.hid (show trimP whiB s = cutP whiB x from by unfold trimP; rw [← HB.out, scan_end (by omega), HX.out])
      have hx0 : x.size = 0 := by omega
      clear hz hzs
      have hxe : x = ByteArray.empty := by
        cases x with | mk d => have : d = #[] := Array.eq_empty_of_size_eq_zero hx0; rw [this]; rfl
      subst hxe
      have HE := Lib.hid (show cutP whiB ByteArray.empty = ByteArray.empty from by unfold cutP; simp)
      go_wp2
      refine wp_loop_rounds 1 ?_
      rw [rounds_succ]
      go_wp2
      go_ret
      exact ⟨by rw [HT.out, HE.out]; rfl, rfl⟩

end Go.Proofs.Ytjikahflbhgniaa
