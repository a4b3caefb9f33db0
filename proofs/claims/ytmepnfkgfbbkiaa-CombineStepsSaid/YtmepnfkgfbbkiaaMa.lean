/-
  What mime's functions of one text, of one parameter, and of names that were asked answer. Conditions: texts are as long as a length can be.
-/
import Derived.Test.YtmepnfkgfbbkiaaMim
import Derived.Test.YtmepnfkgfbbkiaaClass3
import Derived.Test.YtmepnfkgfbbkiaaCountQ
import Derived.Maps.OwnSet
import Derived.Maps.AppendAt
namespace Go.Proofs.Ytmepnfkgfbbkiaa
open Go.RowKit Go.Maps

set_option maxHeartbeats 1000000 in
theorem mcut_any (s : ByteArray) (w : World) (hs : s.size ≤ 9223372036854775807) :
    Calls Try.prog 49 #[.string s] w fun e w' => e = .returned (.string (cutP whiB s)) ∧ w = w' := by
  go_enter Try.func49, Try.ntmps49
  go_wp2
  go_loop [3] (fun i => ∃ k : Nat, k ≤ s.size ∧ i = .int .i64 k ∧ backN whiB s k = backN whiB s s.size) (fun i => (intOf i).toNat)
  case atStart => exact ⟨s.size, Nat.le_refl _, rfl, rfl⟩
  case round =>
    obtain ⟨k, hk, rfl, hb⟩ := hrel
    have HB := Lib.hid hb
    clear hb
    cases k with
    | zero =>
      have HE := Lib.hid (show cutP whiB s = ByteArray.empty from by unfold cutP; rw [← HB.out]; simp [backN])
      go_wp2
      go_ret
      exact ⟨by rw [HE.out]; rfl, rfl⟩
    | succ m =>
      have hm : m < s.size := by omega
      have g1 : (0 : Int) < (m : Int) + 1 := by omega
      have g2 : ((m + 1 : Nat) : Int) - 1 = (m : Int) := by omega
      have HL := Lib.hid (fun W => white_any s[m] W)
      cases hb : whiB s[m]
      · have HE := Lib.hid (show cutP whiB s = s.extract 0 (m + 1) from by unfold cutP; rw [← HB.out, backN_stop hm hb])
        have HL2 : Hid (∀ W, Calls Try.prog 60 #[.int .u8 (s[m].toNat : Int)] W fun e w' => e = .returned (.bool false) ∧ W = w') := fun W => by have := HL.out W; rwa [hb] at this
        clear HL hb
        go_wp2_with (go_at_call 60; refine (HL2.out _).mono ?_; rintro e w' ⟨rfl, rfl⟩)
        go_ret
        exact ⟨by rw [HE.out]; rfl, rfl⟩
      · have HE : Hid (backN whiB s (m + 1) = backN whiB s m) := backN_step hm hb
        have HL2 : Hid (∀ W, Calls Try.prog 60 #[.int .u8 (s[m].toNat : Int)] W fun e w' => e = .returned (.bool true) ∧ W = w') := fun W => by have := HL.out W; rwa [hb] at this
        clear HL hb
        go_wp2_with (go_at_call 60; refine (HL2.out _).mono ?_; rintro e w' ⟨rfl, rfl⟩)
        go_round
        case rel => exact ⟨m, by omega, by go_num, HE.out.symm.trans HB.out⟩
        case measure => first | (simp [intOf]; done) | (simp [intOf]; omega)

set_option maxHeartbeats 400000 in
theorem isName_any (s : ByteArray) (w : World) (hs : s.size ≤ 9223372036854775807) :
    Calls Try.prog 24 #[.string s] w fun e w' => e = .returned (.bool (nameB s)) ∧ Below w.heap.size w w' := by
  have HN := Lib.hid (fun W => needs_any s W hs)
  unfold nameB
  cases h : needB s
  · rw [h] at HN
    have HS := Lib.hid (fun W => lowerS_any s W hs)
    cases h2 : eqS (lowS s) s
    all_goals
      have h2' : ((lowS s).toList == s.toList) = _ := h2
      go_enter Try.func24, Try.ntmps24
      go_wp2_with (first | (go_at_call 36; (with_reducible refine (HN.out _).mono ?_); rintro e w1 ⟨rfl, hb⟩) | (go_at_call 37; (with_reducible refine (HS.out _).mono ?_); rintro e w2 ⟨rfl, hb2⟩))
      go_ret
      exact ⟨rfl, hb.trans (hb2.mono hb.size)⟩
  · rw [h] at HN
    go_enter Try.func24, Try.ntmps24
    go_wp2_with (go_at_call 36; (with_reducible refine (HN.out _).mono ?_); rintro e w1 ⟨rfl, hb⟩)
    go_ret
    exact ⟨rfl, hb⟩

/-- A parameter as a value. -/
abbrev prmV (p : Prm) : Value := .agg #[.string p.n, .string p.v]

set_option maxHeartbeats 400000 in
theorem isGood_any (p : Prm) (w : World) (hn : p.n.size ≤ 9223372036854775807) (hv : p.v.size ≤ 9223372036854775807) :
    Calls Try.prog 19 #[prmV p] w fun e w' => e = .returned (.bool (prmB p)) ∧ Below w.heap.size w w' := by
  obtain ⟨n, v⟩ := p
  have HN := Lib.hid (fun W => isName_any n W hn)
  have HV := Lib.hid (fun W => all_Qtd v W hv)
  obtain ⟨w0, hw0⟩ : ∃ w0, w0 = w.alloc (.cells #[.string n, .string v] 33) := ⟨_, rfl⟩
  have HB0 := Lib.hid (show Below w.heap.size w w0 from by rw [hw0]; exact (Below.refl w.heap.size w).alloc (Nat.le_refl _) _)
  have HP := Lib.hid (show Blk w0 w.heap.size 33 #[.string n, .string v] from by rw [hw0]; exact Blk.new _ _ _)
  have c0 := HP.out.cell 0
  show Calls Try.prog 19 #[.agg #[.string n, .string v]] w fun e w' => e = .returned (.bool (nameB n && allB quoB v)) ∧ Below w.heap.size w w'
  cases h : nameB n
  · rw [h] at HN
    go_enter Try.func19, Try.ntmps19
    go_wp2_with fail
    rw [← hw0]
    clear hw0
    go_wp2_with (go_at_call 24; (with_reducible refine (HN.out _).mono ?_); rintro e w1 ⟨rfl, hb⟩)
    go_ret
    exact ⟨rfl, HB0.out.trans (hb.mono HB0.out.size)⟩
  · rw [h] at HN
    go_enter Try.func19, Try.ntmps19
    go_wp2_with fail
    rw [← hw0]
    clear hw0
    go_wp2_with (first | (go_at_call 24; (with_reducible refine (HN.out _).mono ?_); rintro e w1 ⟨rfl, hb⟩; have c1 := (HP.out.below hb HP.out.lt).cell 1) | (go_at_call 28; (with_reducible refine (HV.out _).mono ?_); rintro e w2 ⟨rfl, hb2⟩))
    go_ret
    exact ⟨rfl, (HB0.out.trans (hb.mono HB0.out.size)).trans (hb2.mono (Nat.le_trans HB0.out.size hb.size))⟩

/-- The set of names that were asked, in block mb, which the block nb names. -/
abbrev litS (s : ByteArray) : Lit := .string s.data.toList
def setS (xs : List ByteArray) : DataW Unit := setOf (.agg []) (xs.map litS)
theorem litS_same (y x : ByteArray) : (litS y).sameKey (litS x) = eqS y x := by
  show (y.data.toList == x.data.toList) = (y.toList == x.toList)
  rw [Lib.toList_data, Lib.toList_data]
theorem has_setS (xs : List ByteArray) (x : ByteArray) : Maps.has (setS xs) (litS x) = xs.any fun y => eqS y x := by
  unfold setS
  rw [has_setOf _ _ _ (fun y hy => by obtain ⟨_, _, rfl⟩ := List.mem_map.1 hy; trivial), List.any_map]
  congr 1
  funext y
  exact litS_same y x
theorem setS_snoc (xs : List ByteArray) (x : ByteArray) : setS (xs ++ [x]) = (setS xs).put (litS x) (.agg []) := by
  unfold setS
  rw [List.map_append, List.map_singleton, setOf_snoc]
def Asked (w : World) (nb mb : Nat) (xs : List ByteArray) : Prop := Blk w nb 59 #[.map (some mb)] ∧ w.ownsMap Try.prog 9 (unitElem (H := Unit)) mb xs.length (setS xs) ∧ nb ≠ mb
theorem Mv.of_grown {w w' : World} {r : List Nat} {row : Option Nat} (h : w.grownBy w' row) (hr : ∀ k, row = some k → k ∈ r) : Mv w.heap.size r w w' :=
  ⟨h.os, h.tape, h.output, h.size, fun k hk hn => h.block k hk (fun e => hn (hr k e.symm))⟩
theorem Asked.mv {w w' : World} {nb mb B : Nat} {r : List Nat} {xs : List ByteArray} (h : Asked w nb mb xs) (hm : Mv B r w w') (h1 : nb < B) (h2 : mb < B) (h3 : nb ∉ r) (h4 : mb ∉ r) : Asked w' nb mb xs := by
  obtain ⟨hb, ⟨es, clock, ho, hr⟩, hn⟩ := h
  exact ⟨hb.mv hm h1 h3, ⟨es, clock, (hm.block mb h2 h4).trans ho, hr⟩, hn⟩

theorem Try.stringLaw : Keyed Try.prog 9 := string_keyed Try.underlying9
theorem Try.zeroUnit (w : World) : (zeroValue 60).run Try.prog w = .ok (.agg #[]) w := by kernel_rfl

abbrev newsV (nb : Nat) : Value := .func (.func 38) #[] #[.pointer (some ⟨nb, 0, none⟩)]

set_option maxHeartbeats 400000 in
theorem news_any (w : World) :
    Calls Try.prog 25 #[] w fun e w' => e = .returned (newsV (w.heap.size + 1)) ∧ Below w.heap.size w w' ∧ Asked w' (w.heap.size + 1) w.heap.size [] := by
  have hmm := @run_makeMap Try.prog
  have hmf := make_func
  go_enter Try.func25, Try.ntmps25
  go_wp2
  go_ret
  refine ⟨rfl, ((Below.refl _ _).alloc (Nat.le_refl _) _).alloc (by simp) _, ?_, ?_, by omega⟩
  · have := Blk.new (w.alloc (.map #[] 0)) 59 #[.map (some w.heap.size)]
    simpa using this
  · exact (World.ownsMap_made _ _ _ _).alloc _

set_option maxHeartbeats 1000000 in
theorem news1_any (nb mb : Nat) (x : ByteArray) (xs : List ByteArray) (w : World) (h : Asked w nb mb xs) (hx : x.size ≤ 9223372036854775807) (hl : xs.length < 9223372036854775807) :
    Calls Try.prog 38 #[.string x, .pointer (some ⟨nb, 0, none⟩)] w fun e w' => e = .returned (.bool (!(xs.any fun y => eqS y x))) ∧ Mv w.heap.size [mb] w w' ∧ Asked w' nb mb (xs ++ [x]) := by
  obtain ⟨hb, ho, hne⟩ := h
  have hkey : keyOf Try.prog 9 (.string x) = some (litS x) := Go.WideMaps.keyOf_string_mk Try.underlying9 (by unfold maxLen; omega)
  have c0 := hb.cell 0
  have hbl := hb.lt
  have HB := Lib.hid hb
  have HO := Lib.hid ho
  have HX := Lib.hid (has_setS xs x)
  have HN := Lib.hid hne
  clear hb ho
  rw [← HX.out]
  generalize hd : Maps.has (setS xs) (litS x) = d
  go_enter Try.func38, Try.ntmps38
  go_wp2_with (first
    | (at_lookup; refine wpList_lookup_own_unit _ rfl _ _ 59 rfl 9 60 Try.stringLaw Try.underlying59 (Try.zeroUnit _) mb xs.length _ rfl HO.out _ _ rfl hkey ?_; rw [hd])
    | (at_mapUpdate; refine wpList_mapUpdate_own _ rfl _ _ _ 59 rfl 9 60 Try.stringLaw Try.underlying59 (unitElem (H := Unit)) mb xs.length _ rfl (HO.out.alloc _) (by unfold maxLen; omega) _ _ _ rfl rfl hkey _ [] unitElem_mk ?_; intro w1 hown1 hgrow1)
    | go_in)
  go_ret
  have hmb : mb < w.heap.size := by have := hown1.lt; have := HO.out.lt; exact this
  have hmv := Mv.of_grown hgrow1 (r := [mb]) (fun k hk => by cases hk; simp)
  refine ⟨rfl, ?_, ?_, ?_, HN.out⟩
  · exact ((Mv.refl _ _ _).alloc (Nat.le_refl _) _).trans (hmv.mono (by simp) (fun x hx => .inl hx))
  · exact (HB.out.alloc _).mv hmv (by simp; omega) (by simpa using HN.out)
  · rw [setS_snoc, List.length_append]
    exact hown1

end Go.Proofs.Ytmepnfkgfbbkiaa
