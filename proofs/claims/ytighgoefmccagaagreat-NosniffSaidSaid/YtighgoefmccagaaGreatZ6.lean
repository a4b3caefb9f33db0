/-
  What mime's functions of one text, of one parameter, and of names that were asked answer. Conditions: texts are as long as a length can be.
  What package cursor's New, At, Left, End, Peek, Take, Next, Rest, Back and U32 do, over a cursor of its own block, and over none. Conditions: the place lies in the text, and the text is no longer than a length can be.
  What Lower, Prefix, HasPrefix and Has answer, and what Skip does to a cursor. Conditions: lengths as they can be.
-/
import Derived.Test.YtighgoefmccagaaGreatZ5
import Derived.Maps.OwnSet
import Derived.Maps.AppendAt
import Derived.Test.YtighgoefmccagaaGreatZ3
import Derived.RegionTactic
import Derived.BigRegion
import Derived.Deep.QuietTactic
import Derived.BigQuiet
import Derived.Outline
import Derived.Deep.RegionHeld3
import Derived.StillTailTactics
import Derived.Lib.Hide
import Derived.IntWalk
import Derived.Test.YtighgoefmccagaaGreatZ1
import Derived.LoopTactic
namespace Go.Proofs.YtighgoefmccagaaGreat
open Go.RowKit Go.Maps

set_option maxHeartbeats 1000000 in
theorem mcut_any (s : ByteArray) (w : World) (hs : s.size ≤ 9223372036854775807) :
    Calls Tryz.prog 64 #[.string s] w fun e w' => e = .returned (.string (cutP whiB s)) ∧ w = w' := by
  go_enter Tryz.func64, Tryz.ntmps64
  go_wp2
  go_loop [3] (fun i => ∃ k : Nat, k ≤ s.size ∧ i = .int .i64 k ∧ backN whiB s k = backN whiB s s.size) (fun i => (intOf i).toNat)
  case atStart => exact ⟨s.size, Nat.le_refl _, rfl, rfl⟩
  case round =>
    obtain ⟨k, hk, rfl, hb⟩ := hrel
    have HB := Lib.hid hb
    clear hb
    cases k with
    | zero =>
      have HE := Lib.hid (show cutP whiB s = ByteArray.empty from by unfold cutP; rw [← HB.out]; simp [backN])
      go_wp2
      go_ret
      exact ⟨by rw [HE.out]; rfl, rfl⟩
    | succ m =>
      have hm : m < s.size := by omega
      have g1 : (0 : Int) < (m : Int) + 1 := by omega
      have g2 : ((m + 1 : Nat) : Int) - 1 = (m : Int) := by omega
      have HL := Lib.hid (fun W => white_any s[m] W)
      cases hb : whiB s[m]
      · have HE := Lib.hid (show cutP whiB s = s.extract 0 (m + 1) from by unfold cutP; rw [← HB.out, backN_stop hm hb])
        have HL2 : Hid (∀ W, Calls Tryz.prog 86 #[.int .u8 (s[m].toNat : Int)] W fun e w' => e = .returned (.bool false) ∧ W = w') := fun W => by have := HL.out W; rwa [hb] at this
        clear HL hb
        go_wp2_with (go_at_call 86; refine (HL2.out _).mono ?_; rintro e w' ⟨rfl, rfl⟩)
        go_ret
        exact ⟨by rw [HE.out]; rfl, rfl⟩
      · have HE : Hid (backN whiB s (m + 1) = backN whiB s m) := backN_step hm hb
        have HL2 : Hid (∀ W, Calls Tryz.prog 86 #[.int .u8 (s[m].toNat : Int)] W fun e w' => e = .returned (.bool true) ∧ W = w') := fun W => by have := HL.out W; rwa [hb] at this
        clear HL hb
        go_wp2_with (go_at_call 86; refine (HL2.out _).mono ?_; rintro e w' ⟨rfl, rfl⟩)
        go_round
        case rel => exact ⟨m, by omega, by go_num, HE.out.symm.trans HB.out⟩
        case measure => first | (simp [intOf]; done) | (simp [intOf]; omega)

set_option maxHeartbeats 400000 in
theorem isName_any (s : ByteArray) (w : World) (hs : s.size ≤ 9223372036854775807) :
    Calls Tryz.prog 94 #[.string s] w fun e w' => e = .returned (.bool (nameB s)) ∧ Below w.heap.size w w' := by
  have HN := Lib.hid (fun W => needs_any s W hs)
  unfold nameB
  cases h : needB s
  · rw [h] at HN
    have HS := Lib.hid (fun W => lowerS_any s W hs)
    cases h2 : eqS (lowS s) s
    all_goals
      have h2' : ((lowS s).toList == s.toList) = _ := h2
      go_enter Tryz.func94, Tryz.ntmps94
      go_wp2_with (first | (go_at_call 63; (with_reducible refine (HN.out _).mono ?_); rintro e w1 ⟨rfl, hb⟩) | (go_at_call 65; (with_reducible refine (HS.out _).mono ?_); rintro e w2 ⟨rfl, hb2⟩))
      go_ret
      exact ⟨rfl, hb.trans (hb2.mono hb.size)⟩
  · rw [h] at HN
    go_enter Tryz.func94, Tryz.ntmps94
    go_wp2_with (go_at_call 63; (with_reducible refine (HN.out _).mono ?_); rintro e w1 ⟨rfl, hb⟩)
    go_ret
    exact ⟨rfl, hb⟩

/-- A parameter as a value. -/
abbrev prmV (p : Prm) : Value := .agg #[.string p.n, .string p.v]

set_option maxHeartbeats 400000 in
theorem isGood_any (p : Prm) (w : World) (hn : p.n.size ≤ 9223372036854775807) (hv : p.v.size ≤ 9223372036854775807) :
    Calls Tryz.prog 69 #[prmV p] w fun e w' => e = .returned (.bool (prmB p)) ∧ Below w.heap.size w w' := by
  obtain ⟨n, v⟩ := p
  have HN := Lib.hid (fun W => isName_any n W hn)
  have HV := Lib.hid (fun W => all_Qtd v W hv)
  obtain ⟨w0, hw0⟩ : ∃ w0, w0 = w.alloc (.cells #[.string n, .string v] 51) := ⟨_, rfl⟩
  have HB0 := Lib.hid (show Below w.heap.size w w0 from by rw [hw0]; exact (Below.refl w.heap.size w).alloc (Nat.le_refl _) _)
  have HP := Lib.hid (show Blk w0 w.heap.size 51 #[.string n, .string v] from by rw [hw0]; exact Blk.new _ _ _)
  have c0 := HP.out.cell 0
  show Calls Tryz.prog 69 #[.agg #[.string n, .string v]] w fun e w' => e = .returned (.bool (nameB n && allB quoB v)) ∧ Below w.heap.size w w'
  cases h : nameB n
  · rw [h] at HN
    go_enter Tryz.func69, Tryz.ntmps69
    go_wp2_with fail
    rw [← hw0]
    clear hw0
    go_wp2_with (go_at_call 94; (with_reducible refine (HN.out _).mono ?_); rintro e w1 ⟨rfl, hb⟩)
    go_ret
    exact ⟨rfl, HB0.out.trans (hb.mono HB0.out.size)⟩
  · rw [h] at HN
    go_enter Tryz.func69, Tryz.ntmps69
    go_wp2_with fail
    rw [← hw0]
    clear hw0
    go_wp2_with (first | (go_at_call 94; (with_reducible refine (HN.out _).mono ?_); rintro e w1 ⟨rfl, hb⟩; have c1 := (HP.out.below hb HP.out.lt).cell 1) | (go_at_call 89; (with_reducible refine (HV.out _).mono ?_); rintro e w2 ⟨rfl, hb2⟩))
    go_ret
    exact ⟨rfl, (HB0.out.trans (hb.mono HB0.out.size)).trans (hb2.mono (Nat.le_trans HB0.out.size hb.size))⟩

/-- The set of names that were asked, in block mb, which the block nb names. -/
abbrev litS (s : ByteArray) : Lit := .string s.data.toList
def setS (xs : List ByteArray) : DataW Unit := setOf (.agg []) (xs.map litS)
theorem litS_same (y x : ByteArray) : (litS y).sameKey (litS x) = eqS y x := by
  show (y.data.toList == x.data.toList) = (y.toList == x.toList)
  rw [Lib.toList_data, Lib.toList_data]
theorem has_setS (xs : List ByteArray) (x : ByteArray) : Maps.has (setS xs) (litS x) = xs.any fun y => eqS y x := by
  unfold setS
  rw [has_setOf _ _ _ (fun y hy => by obtain ⟨_, _, rfl⟩ := List.mem_map.1 hy; trivial), List.any_map]
  congr 1
  funext y
  exact litS_same y x
theorem setS_snoc (xs : List ByteArray) (x : ByteArray) : setS (xs ++ [x]) = (setS xs).put (litS x) (.agg []) := by
  unfold setS
  rw [List.map_append, List.map_singleton, setOf_snoc]
def Asked (w : World) (nb mb : Nat) (xs : List ByteArray) : Prop := Blk w nb 128 #[.map (some mb)] ∧ w.ownsMap Tryz.prog 9 (unitElem (H := Unit)) mb xs.length (setS xs) ∧ nb ≠ mb
theorem Mv.of_grown {w w' : World} {r : List Nat} {row : Option Nat} (h : w.grownBy w' row) (hr : ∀ k, row = some k → k ∈ r) : Mv w.heap.size r w w' :=
  ⟨h.os, h.tape, h.output, h.size, fun k hk hn => h.block k hk (fun e => hn (hr k e.symm))⟩
theorem Asked.mv {w w' : World} {nb mb B : Nat} {r : List Nat} {xs : List ByteArray} (h : Asked w nb mb xs) (hm : Mv B r w w') (h1 : nb < B) (h2 : mb < B) (h3 : nb ∉ r) (h4 : mb ∉ r) : Asked w' nb mb xs := by
  obtain ⟨hb, ⟨es, clock, ho, hr⟩, hn⟩ := h
  exact ⟨hb.mv hm h1 h3, ⟨es, clock, (hm.block mb h2 h4).trans ho, hr⟩, hn⟩

theorem Tryz.stringLaw : Keyed Tryz.prog 9 := string_keyed Tryz.underlying9
theorem Tryz.zeroUnit (w : World) : (zeroValue 129).run Tryz.prog w = .ok (.agg #[]) w := by kernel_rfl

abbrev newsV (nb : Nat) : Value := .func (.func 116) #[] #[.pointer (some ⟨nb, 0, none⟩)]

set_option maxHeartbeats 400000 in
theorem news_any (w : World) :
    Calls Tryz.prog 91 #[] w fun e w' => e = .returned (newsV (w.heap.size + 1)) ∧ Below w.heap.size w w' ∧ Asked w' (w.heap.size + 1) w.heap.size [] := by
  have hmm := @run_makeMap Tryz.prog
  have hmf := make_func
  go_enter Tryz.func91, Tryz.ntmps91
  go_wp2
  go_ret
  refine ⟨rfl, ((Below.refl _ _).alloc (Nat.le_refl _) _).alloc (by simp) _, ?_, ?_, by omega⟩
  · have := Blk.new (w.alloc (.map #[] 0)) 128 #[.map (some w.heap.size)]
    simpa using this
  · exact (World.ownsMap_made _ _ _ _).alloc _

set_option maxHeartbeats 1000000 in
theorem news1_any (nb mb : Nat) (x : ByteArray) (xs : List ByteArray) (w : World) (h : Asked w nb mb xs) (hx : x.size ≤ 9223372036854775807) (hl : xs.length < 9223372036854775807) :
    Calls Tryz.prog 116 #[.string x, .pointer (some ⟨nb, 0, none⟩)] w fun e w' => e = .returned (.bool (!(xs.any fun y => eqS y x))) ∧ Mv w.heap.size [mb] w w' ∧ Asked w' nb mb (xs ++ [x]) := by
  obtain ⟨hb, ho, hne⟩ := h
  have hkey : keyOf Tryz.prog 9 (.string x) = some (litS x) := Go.WideMaps.keyOf_string_mk Tryz.underlying9 (by unfold maxLen; omega)
  have c0 := hb.cell 0
  have hbl := hb.lt
  have HB := Lib.hid hb
  have HO := Lib.hid ho
  have HX := Lib.hid (has_setS xs x)
  have HN := Lib.hid hne
  clear hb ho
  rw [← HX.out]
  generalize hd : Maps.has (setS xs) (litS x) = d
  go_enter Tryz.func116, Tryz.ntmps116
  go_wp2_with (first
    | (at_lookup; refine wpList_lookup_own_unit _ rfl _ _ 128 rfl 9 129 Tryz.stringLaw Tryz.underlying128 (Tryz.zeroUnit _) mb xs.length _ rfl HO.out _ _ rfl hkey ?_; rw [hd])
    | (at_mapUpdate; refine wpList_mapUpdate_own _ rfl _ _ _ 128 rfl 9 129 Tryz.stringLaw Tryz.underlying128 (unitElem (H := Unit)) mb xs.length _ rfl (HO.out.alloc _) (by unfold maxLen; omega) _ _ _ rfl rfl hkey _ [] unitElem_mk ?_; intro w1 hown1 hgrow1)
    | go_in)
  go_ret
  have hmb : mb < w.heap.size := by have := hown1.lt; have := HO.out.lt; exact this
  have hmv := Mv.of_grown hgrow1 (r := [mb]) (fun k hk => by cases hk; simp)
  refine ⟨rfl, ?_, ?_, ?_, HN.out⟩
  · exact ((Mv.refl _ _ _).alloc (Nat.le_refl _) _).trans (hmv.mono (by simp) (fun x hx => .inl hx))
  · exact (HB.out.alloc _).mv hmv (by simp; omega) (by simpa using HN.out)
  · rw [setS_snoc, List.length_append]
    exact hown1

end Go.Proofs.YtighgoefmccagaaGreat
namespace Go.Proofs.YtighgoefmccagaaGreat
open Go.RowKit

/-- A cursor: its text, and how many bytes are gone by. -/
abbrev Cur (w : World) (cb : Nat) (s : ByteArray) (k : Nat) : Prop := Blk w cb 95 #[.string s, .int .i64 k]
abbrev cptr (cb : Nat) : Value := .pointer (some ⟨cb, 0, none⟩)

theorem Cur.c0 {w : World} {cb k : Nat} {s : ByteArray} (h : Cur w cb s k) : w.cell? ⟨cb, 0, none⟩ = some (.string s) := h.cell 0
theorem Cur.c1 {w : World} {cb k : Nat} {s : ByteArray} (h : Cur w cb s k) : w.cell? ⟨cb, 1, none⟩ = some (.int .i64 k) := h.cell 1
theorem Cur.set {w : World} {cb k : Nat} {s : ByteArray} (h : Cur w cb s k) (j : Nat) : Cur (w.setCell ⟨cb, 1, none⟩ (.int .i64 j)) cb s j := h.set_ 1 _

set_option maxHeartbeats 400000 in
theorem new_any (s : ByteArray) (w : World) :
    Calls Tryz.prog 49 #[.string s] w fun e w' => e = .returned (cptr w.heap.size) ∧ w' = w.alloc (.cells #[.string s, .int .i64 0] 95) := by
  go_enter Tryz.func49, Tryz.ntmps49
  go_wp2
  go_ret
  exact ⟨rfl, rfl⟩

set_option maxHeartbeats 400000 in
theorem at_any (cb k : Nat) (s : ByteArray) (w : World) (h : Cur w cb s k) :
    Calls Tryz.prog 104 #[cptr cb] w fun e w' => e = .returned (.int .i64 k) ∧ w = w' := by
  have c1 := h.c1
  clear h
  go_enter Tryz.func104, Tryz.ntmps104
  go_wp2
  go_ret
  exact ⟨rfl, rfl⟩

set_option maxHeartbeats 400000 in
theorem left_any (cb k : Nat) (s : ByteArray) (w : World) (h : Cur w cb s k) (hk : k ≤ s.size) (hs : s.size ≤ 9223372036854775807) :
    Calls Tryz.prog 103 #[cptr cb] w fun e w' => e = .returned (.int .i64 ((s.size : Int) - (k : Int))) ∧ ∃ n, w' = w.drewN n := by
  have c0 := h.c0
  have c1 := h.c1
  clear h
  go_enter Tryz.func103, Tryz.ntmps103
  go_wp2
  go_quiet (fail)
  go_wp2
  go_ret
  exact ⟨rfl, _, rfl⟩

set_option maxHeartbeats 400000 in
theorem end_any (cb k : Nat) (s : ByteArray) (w : World) (h : Cur w cb s k) (hk : k ≤ s.size) (hs : s.size ≤ 9223372036854775807) :
    Calls Tryz.prog 92 #[cptr cb] w fun e w' => e = .returned (.bool (decide (k = s.size))) ∧ ∃ n, w' = w.drewN n := by
  by_cases hd : k = s.size
  · have hd' : decide (k = s.size) = true := by simp [hd]
    have he : (((s.size : Int) - (k : Int)) == 0) = true := by simp; omega
    rw [hd']
    clear hd hd'
    go_enter Tryz.func92, Tryz.ntmps92
    go_wp2_with (go_at_call 103; refine (left_any cb k s _ h hk hs).mono ?_; rintro e w1 ⟨rfl, n, rfl⟩)
    go_ret
    exact ⟨rfl, _, rfl⟩
  · have hd' : decide (k = s.size) = false := by simp [hd]
    have he : (((s.size : Int) - (k : Int)) == 0) = false := by simp; omega
    rw [hd']
    clear hd hd'
    go_enter Tryz.func92, Tryz.ntmps92
    go_wp2_with (go_at_call 103; refine (left_any cb k s _ h hk hs).mono ?_; rintro e w1 ⟨rfl, n, rfl⟩)
    go_ret
    exact ⟨rfl, _, rfl⟩

set_option maxHeartbeats 400000 in
theorem passTo_any (cb k j : Nat) (s : ByteArray) (w : World) (h : Cur w cb s k) (hk : k ≤ j) (hj : j ≤ s.size) (_hs : s.size ≤ 9223372036854775807) :
    Calls Tryz.prog 88 #[cptr cb, .int .i64 j] w fun e w' => e = .returned (.string (s.extract k j)) ∧ w' = w.setCell ⟨cb, 1, none⟩ (.int .i64 j) := by
  have c0 := h.c0
  have c1 := h.c1
  have z1 := h.frozen 1
  clear h
  go_enter Tryz.func88, Tryz.ntmps88
  go_wp2
  go_ret
  exact ⟨rfl, rfl⟩

set_option maxHeartbeats 400000 in
theorem take_ok (cb k n : Nat) (s : ByteArray) (w : World) (h : Cur w cb s k) (hk : k + n ≤ s.size) (hs : s.size ≤ 9223372036854775807) :
    Calls Tryz.prog 108 #[cptr cb, .int .i64 n] w fun e w' => e = .returned (.string (s.extract k (k + n))) ∧ ∃ m, w' = (w.drewN m).setCell ⟨cb, 1, none⟩ (.int .i64 (k + n : Nat)) := by
  have c1 := h.c1
  have hd : decide ((n : Int) ≤ (s.size : Int) - (k : Int)) = true := by simp; omega
  have hd0 : decide (0 ≤ (n : Int)) = true := by simp
  have hp : ∀ w2 : World, Cur w2 cb s k → Calls Tryz.prog 88 #[cptr cb, .int .i64 ((k : Int) + (n : Int))] w2 fun e w' => e = .returned (.string (s.extract k (k + n))) ∧ w' = w2.setCell ⟨cb, 1, none⟩ (.int .i64 (k + n : Nat)) :=
    fun w2 h2 => by have := passTo_any cb k (k + n) s w2 h2 (by omega) (by omega) hs; simpa using this
  have HP := Lib.hid hp
  clear hp
  go_enter Tryz.func108, Tryz.ntmps108
  go_wp2_with (go_at_call 105; refine (check_ok _ _ _).mono ?_; rintro e w1 ⟨rfl, rfl⟩)
  go_quiet ((first | (go_at_call 103; exact Calls.quiet_of (left_any cb k s _ (by exact h) (by omega) hs)) | (go_at_call 105; exact Calls.quiet_of_same ((check_ok _ _ _).mono fun _ _ h => ⟨h.1, h.2.symm⟩))))
  go_wp2_with (go_at_call 88; refine (HP.out _ (by exact h)).mono ?_; rintro e w1 ⟨rfl, rfl⟩)
  go_ret
  exact ⟨rfl, _, rfl⟩

set_option maxHeartbeats 400000 in
theorem back_ok (cb k j : Nat) (s : ByteArray) (w : World) (h : Cur w cb s k) (hj : j ≤ k) :
    Calls Tryz.prog 107 #[cptr cb, .int .i64 j] w fun e w' => e = .returned (.tuple #[]) ∧ ∃ m, w' = (w.drewN m).setCell ⟨cb, 1, none⟩ (.int .i64 j) := by
  have c1 := h.c1
  have z1 := h.frozen 1
  have hd0 : decide (0 ≤ (j : Int)) = true := by simp
  have hd1 : decide ((j : Int) ≤ (k : Int)) = true := by simp; omega
  have hd2 : decide (j ≤ k) = true := by simp; omega
  go_enter Tryz.func107, Tryz.ntmps107
  go_wp2_with (go_at_call 105; refine (check_ok _ _ _).mono ?_; rintro e w1 ⟨rfl, rfl⟩)
  go_quiet ((go_at_call 105; exact Calls.quiet_of_same ((check_ok _ _ _).mono fun _ _ h => ⟨h.1, h.2.symm⟩)))
  go_wp2
  go_end0
  exact ⟨rfl, _, rfl⟩

set_option maxHeartbeats 400000 in
theorem next_of (cb j : Nat) (x : ByteArray) (w : World) (hlt : 0 < x.size)
    (h : Hid (Calls Tryz.prog 108 #[cptr cb, .int .i64 1] w fun e w' => e = .returned (.string x) ∧ ∃ m, w' = (w.drewN m).setCell ⟨cb, 1, none⟩ (.int .i64 j))) :
    Calls Tryz.prog 124 #[cptr cb] w fun e w' => e = .returned (.int .u8 (x[0].toNat : Int)) ∧ ∃ m, w' = (w.drewN m).setCell ⟨cb, 1, none⟩ (.int .i64 j) := by
  go_enter Tryz.func124, Tryz.ntmps124
  go_wp2_with (go_at_call 108; refine h.out.mono ?_; rintro e w1 ⟨rfl, m, rfl⟩)
  go_ret
  exact ⟨rfl, _, rfl⟩

theorem next_ok (cb k : Nat) (s : ByteArray) (w : World) (h : Cur w cb s k) (hk : k < s.size) (hs : s.size ≤ 9223372036854775807) :
    Calls Tryz.prog 124 #[cptr cb] w fun e w' => e = .returned (.int .u8 (s[k].toNat : Int)) ∧ ∃ m, w' = (w.drewN m).setCell ⟨cb, 1, none⟩ (.int .i64 (k + 1 : Nat)) := by
  have hsz : 0 < (s.extract k (k + 1)).size := by simp; omega
  have hx : (s.extract k (k + 1))[0] = s[k] := by simp [ByteArray.getElem_extract]
  rw [← hx]
  exact next_of cb (k + 1) _ w hsz (take_ok cb k 1 s w h (by omega) hs)

set_option maxHeartbeats 400000 in
theorem peek_far (cb k : Nat) (s : ByteArray) (n : Int) (w : World) (h : Cur w cb s k) (hk : k ≤ s.size) (hs : s.size ≤ 9223372036854775807) (h0 : 0 ≤ n) (h1 : (s.size : Int) - k ≤ n) :
    Calls Tryz.prog 76 #[cptr cb, .int .i64 n] w fun e w' => e = .returned (.tuple #[.int .u8 0, .bool false]) ∧ ∃ m, w' = w.drewN m := by
  have hd0 : decide (n < 0) = false := by simp; omega
  have hd1 : decide ((s.size : Int) - k ≤ n) = true := by simpa using h1
  go_enter Tryz.func76, Tryz.ntmps76
  go_wp2_with (go_at_call 103; refine (left_any cb k s _ h hk hs).mono ?_; rintro e w1 ⟨rfl, m, rfl⟩)
  go_ret2
  exact ⟨rfl, _, rfl⟩

set_option maxHeartbeats 400000 in
theorem peek_ok (cb k j : Nat) (s : ByteArray) (w : World) (h : Cur w cb s k) (hs : s.size ≤ 9223372036854775807) (hj : k + j < s.size) :
    Calls Tryz.prog 76 #[cptr cb, .int .i64 j] w fun e w' => e = .returned (.tuple #[.int .u8 (s[k + j].toNat : Int), .bool true]) ∧ ∃ m, w' = w.drewN m := by
  have c0 := h.c0
  have c1 := h.c1
  have hd0 : decide ((j : Int) < 0) = false := by simp
  have hd1 : decide ((s.size : Int) - k ≤ j) = false := by simp; omega
  have e1 : IntKind.i64.wrap ((k : Int) + (j : Int)) = (k : Int) + (j : Int) := IntWalk.i64_in _ (by omega)
  have e2 : 0 ≤ (k : Int) + (j : Int) := by omega
  have e3 : ((k : Int) + (j : Int)).toNat = k + j := by omega
  have e4 : (k : Int) + (j : Int) < (s.size : Int) := by omega
  go_enter Tryz.func76, Tryz.ntmps76
  go_wp2_with (go_at_call 103; refine (left_any cb k s _ h (by omega) hs).mono ?_; rintro e w1 ⟨rfl, m, rfl⟩)
  go_quiet (fail)
  go_wp2
  go_ret2
  exact ⟨rfl, _, World.drewN_drewN _ _ _⟩

end Go.Proofs.YtighgoefmccagaaGreat
namespace Go.Proofs.YtighgoefmccagaaGreat
open Go.RowKit

set_option maxHeartbeats 400000 in
theorem hasPrefix0_any (s p : ByteArray) (w : World) (_hs : s.size ≤ 9223372036854775807) (_hp : p.size ≤ 9223372036854775807) :
    Calls Tryz.prog 109 #[.string s, .string p] w fun e w' => e = .returned (.bool (prefB s p)) ∧ w = w' := by
  by_cases h1 : p.size ≤ s.size
  · have d1 : decide (p.size ≤ s.size) = true := by simpa using h1
    have e : prefB s p = ((s.extract 0 p.size).toList == p.toList) := by unfold prefB; rw [d1]; rfl
    rw [e]
    clear e
    go_enter Tryz.func109, Tryz.ntmps109
    go_wp2
    go_ret
    exact ⟨rfl, rfl⟩
  · have d1 : decide (p.size ≤ s.size) = false := by simpa using h1
    have e : prefB s p = false := by unfold prefB; rw [d1]; rfl
    rw [e]
    clear e
    go_enter Tryz.func109, Tryz.ntmps109
    go_wp2
    go_ret
    exact ⟨rfl, rfl⟩

set_option maxHeartbeats 400000 in
theorem hasPrefix_any (s p : ByteArray) (w : World) (hs : s.size ≤ 9223372036854775807) (hp : p.size ≤ 9223372036854775807) :
    Calls Tryz.prog 80 #[.string s, .string p] w fun e w' => e = .returned (.bool (prefB s p)) ∧ w = w' := by
  go_enter Tryz.func80, Tryz.ntmps80
  go_wp2_with (go_at_call 109; refine (hasPrefix0_any s p _ hs hp).mono ?_; rintro e w' ⟨rfl, rfl⟩)
  go_ret
  exact ⟨rfl, rfl⟩

set_option maxHeartbeats 400000 in
theorem skip_yes (cb k : Nat) (s t : ByteArray) (w : World) (h : Cur w cb s k) (hk : k ≤ s.size) (hs : s.size ≤ 9223372036854775807) (ht : t.size ≤ 9223372036854775807) (hp : prefB (s.extract k s.size) t = true) (hkt : k + t.size ≤ s.size) :
    Calls Tryz.prog 51 #[cptr cb, .string t] w fun e w' => e = .returned (.bool true) ∧ ∃ m, w' = (w.drewN m).setCell ⟨cb, 1, none⟩ (.int .i64 (k + t.size : Nat)) := by
  have c0 := h.c0
  have c1 := h.c1
  have z1 := h.frozen 1
  have HP : Hid (∀ W, Calls Tryz.prog 80 #[.string (s.extract k s.size), .string t] W fun e w' => e = .returned (.bool true) ∧ w' = W) := by
    intro W
    have := hasPrefix_any (s.extract k s.size) t W (by simp; omega) ht
    rw [hp] at this
    exact this.mono fun _ _ h => ⟨h.1, h.2.symm⟩
  clear h hp
  go_enter Tryz.func51, Tryz.ntmps51
  go_wp2
  go_quiet ((go_at_call 80; exact Calls.quiet_of_same (HP.out _)))
  go_wp2
  go_ret
  exact ⟨rfl, _, rfl⟩

set_option maxHeartbeats 400000 in
theorem skip_no (cb k : Nat) (s t : ByteArray) (w : World) (h : Cur w cb s k) (hk : k ≤ s.size) (hs : s.size ≤ 9223372036854775807) (ht : t.size ≤ 9223372036854775807) (hp : prefB (s.extract k s.size) t = false) :
    Calls Tryz.prog 51 #[cptr cb, .string t] w fun e w' => e = .returned (.bool false) ∧ ∃ m, w' = w.drewN m := by
  have c0 := h.c0
  have c1 := h.c1
  have HP : Hid (∀ W, Calls Tryz.prog 80 #[.string (s.extract k s.size), .string t] W fun e w' => e = .returned (.bool false) ∧ w' = W) := by
    intro W
    have := hasPrefix_any (s.extract k s.size) t W (by simp; omega) ht
    rw [hp] at this
    exact this.mono fun _ _ h => ⟨h.1, h.2.symm⟩
  clear h hp
  go_enter Tryz.func51, Tryz.ntmps51
  go_wp2
  go_quiet ((go_at_call 80; exact Calls.quiet_of_same (HP.out _)))
  go_wp2
  go_ret
  exact ⟨rfl, _, rfl⟩

end Go.Proofs.YtighgoefmccagaaGreat
