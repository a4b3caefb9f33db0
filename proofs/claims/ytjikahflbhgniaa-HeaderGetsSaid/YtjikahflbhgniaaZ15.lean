/-
  What the document's Is, Good, Get, Cut and Same of headers answer. Condition: texts are shorter than a mebibyte, headers no more than that.
  What Grow and Concat of the library do with headers. Condition: there are some headers in all, and no more than a mebibyte.
  What the document's Cut of headers answers, and its Same of two lists that are one. Condition: texts are shorter than a mebibyte, headers no more than that.
-/
import Derived.Test.YtjikahflbhgniaaZ13
import Derived.Test.YtjikahflbhgniaaZ14
import Derived.Test.YtjikahflbhgniaaZ10
import Derived.Maps.AppendAt
import Derived.BigQuiet
import Derived.Lib.AppendZeros
import Derived.IntWalk
namespace Go.Proofs.Ytjikahflbhgniaa
open Go.RowKit

set_option maxHeartbeats 1000000 in
theorem ris_any (name n v : ByteArray) (w : World) (hn : n.size ≤ 1048576) (hm : name.size ≤ 1048576) :
    Calls Try.prog 29 #[.agg #[.string n, .string v], .string name] w fun e w' => e = .returned (.bool (hasN name ⟨n, v⟩)) ∧ Below w.heap.size w w' := by
  have HN := Lib.hid (fun W => refLowerS_any n W (by omega))
  have HM := Lib.hid (fun W => refLowerS_any name W (by omega))
  have HE : Hid (hasN name ⟨n, v⟩ = ((lowS n).toList == (lowS name).toList)) := Lib.hid rfl
  rw [HE.out]
  obtain ⟨a, ha⟩ : ∃ a, a = lowS n := ⟨_, rfl⟩
  obtain ⟨b, hb⟩ : ∃ b, b = lowS name := ⟨_, rfl⟩
  rw [← ha] at HN ⊢
  rw [← hb] at HM ⊢
  clear ha hb HE
  obtain ⟨z, hz⟩ : ∃ z, (a.toList == b.toList) = z := ⟨_, rfl⟩
  rw [hz]
  have HB0 := Lib.hid ((Below.refl w.heap.size w).alloc (Nat.le_refl _) (.cells #[.string n, .string v] 53))
  go_enter Try.func29, Try.ntmps29
  go_wp2_with fail
  refine (HN.out _).mono ?_
  rintro e w1 ⟨rfl, b1⟩
  have HB1 := Lib.hid (below_on HB0.out b1)
  clear b1
  go_wp2_with fail
  refine (HM.out _).mono ?_
  rintro e w2 ⟨rfl, b2⟩
  have HB2 := Lib.hid (below_on HB1.out b2)
  clear b2
  go_wp2
  go_ret
  exact ⟨by first | rfl | (rw [← hz]; rfl) | simp [hz], HB2.out⟩

set_option maxHeartbeats 2000000 in
set_option maxRecDepth 100000 in
theorem rgood22_any (A : Option Addr) (c : Nat) (l : List Prm) (w : World) (h : HdIn w A l) (ha : AllIn 1048576 l) (hn : l.length ≤ 1048576) :
    Calls Try.prog 13 #[.slice A l.length c] w fun e w' => e = .returned (.bool (hdrsB l)) ∧ Below w.heap.size w w' := by
  have HH := Lib.hid h
  have HA := Lib.hid ha
  obtain ⟨G, hG⟩ : ∃ G, G = hdrsB l := ⟨_, rfl⟩
  rw [← hG]
  have HG := Lib.hid hG
  clear h ha hG
  go_enter Try.func13, Try.ntmps13
  go_wp2
  go_loopw [3] (fun i wr => ∃ k : Nat, k ≤ l.length ∧ i = .int .i64 k ∧ Hid ((l.take k).all hdrB = true) ∧ Hid (Below w.heap.size w wr)) (fun i _ => l.length - (intOf i).toNat)
  case atStart => exact ⟨0, by omega, rfl, Lib.hid rfl, Lib.hid (Below.refl _ _)⟩
  case round =>
    obtain ⟨k, hk, rfl, HK, HW⟩ := hrel
    by_cases hlt : k < l.length
    · obtain ⟨a, rfl, hal, c0, c1⟩ := (HH.out.below HW.out) k hlt
      have hsz := HA.out.at_ hlt
      have HST := Lib.hid (good_step hlt)
      have HNO := Lib.hid (good_not (l := l) hlt)
      obtain ⟨p, hp⟩ : ∃ p, l[k] = p := ⟨_, rfl⟩
      rw [hp] at c0 c1 hsz HST HNO
      clear hp
      obtain ⟨n, v⟩ := p
      simp only at c0 c1 hsz
      have HF := Lib.hid (fun W => fine_any n v W (by omega) (by omega))
      cases hb : hdrB ⟨n, v⟩
      · rw [hb] at HF
        have HV := Lib.hid (HG.out.trans (HNO.out hb))
        clear hb
        go_wp2_with (go_at_call 34; (with_reducible refine (HF.out _).mono ?_); rintro e w1 ⟨rfl, b1⟩; have HB1 := Lib.hid (HW.out.trans (b1.mono HW.out.size)); clear b1)
        go_ret
        exact ⟨by rw [HV.out]; rfl, HB1.out⟩
      · rw [hb] at HF
        have HK1 := Lib.hid (show (l.take (k + 1)).all hdrB = true from by rw [HST.out, HK.out, hb]; rfl)
        clear hb
        go_wp2_with (go_at_call 34; (with_reducible refine (HF.out _).mono ?_); rintro e w1 ⟨rfl, b1⟩; have HB1 := Lib.hid (HW.out.trans (b1.mono HW.out.size)); clear b1)
        go_roundw
        case rel => exact ⟨k + 1, by omega, by go_num, HK1, HB1⟩
        case measure => simp [intOf]; omega
    · obtain rfl : k = l.length := by omega
      have HV := Lib.hid (show G = decide (l.length < 101) from by
        have := HK.out
        rw [List.take_length] at this
        rw [HG.out]
        unfold hdrsB
        rw [this, Bool.true_and, decide_eq_decide]
        omega)
      go_wp2
      go_ret
      exact ⟨by rw [HV.out]; first | rfl | (simp; omega), HW.out⟩

theorem strs_app (xs ys : List ByteArray) : strs (xs ++ ys) = strs xs ++ strs ys := by simp [strs]
theorem Try.infoS23 : (Try.prog.info? 9).map (fun i => (i.zero, i.size, i.bytes)) = some (some (.string ⟨#[]⟩), 1, 16) := by kernel_rfl

set_option maxHeartbeats 2000000 in
set_option maxRecDepth 100000 in
theorem rget_any (name : ByteArray) (A : Option Addr) (c : Nat) (l : List Prm) (w : World) (h : HdIn w A l) (ha : AllIn 1048576 l) (hn : l.length ≤ 1048576) (hm : name.size ≤ 1048576) :
    Calls Try.prog 8 #[.string name, .slice A l.length c] w fun e w' => ∃ v, e = .returned v ∧ w'.ownsRow w.heap.size 9 1 v (getN name l).length (strs (getN name l)) ∧ Below w.heap.size w w' := by
  obtain ⟨i0, hi, hz0, hz1, hz2⟩ := info_parts Try.infoS23
  have HH := Lib.hid h
  have HA := Lib.hid ha
  have HALL := Lib.hid (show l.take l.length = l from List.take_length)
  have HO0 := Lib.hid (World.ownsRow_made (base := w.heap.size) (e := 9) (size := 1) w #[] 0 (Nat.le_refl _) (Nat.zero_le _) rfl)
  have HB0 := Lib.hid ((Below.refl w.heap.size w).alloc (Nat.le_refl _) (.cells #[] 9))
  clear h ha
  go_enter Try.func8, Try.ntmps8
  go_wp2
  go_loopw [5, 6] (fun v i wr => ∃ k : Nat, k ≤ l.length ∧ i = .int .i64 k ∧ Hid (wr.ownsRow w.heap.size 9 1 v (getN name (l.take k)).length (strs (getN name (l.take k)))) ∧ Hid (Below w.heap.size w wr)) (fun _ i _ => l.length - (intOf i).toNat)
  case atStart => exact ⟨0, by omega, rfl, HO0, HB0⟩
  case round =>
    obtain ⟨k, hk, rfl, HO, HW⟩ := hrel
    have hwr := HW.out.size
    by_cases hlt : k < l.length
    · obtain ⟨a, rfl, hal, c0, c1⟩ := (HH.out.below HW.out) k hlt
      have hsz := HA.out.at_ hlt
      have HST := Lib.hid (getN_step name l hlt)
      have HHB := Lib.hid (fun W (hW : Below wr.heap.size wr W) => (((HH.out.below HW.out).below hW) k hlt))
      have hgl := Nat.le_trans (getN_len name (l.take k)) (List.length_take_le _ _)
      obtain ⟨p, hp⟩ : ∃ p, l[k] = p := ⟨_, rfl⟩
      rw [hp] at c0 c1 hsz HST HHB
      clear hp
      obtain ⟨n, v⟩ := p
      simp only at c0 c1 hsz
      have HI := Lib.hid (fun W => ris_any name n v W (by omega) hm)
      have HC1 := Lib.hid (fun W (hW : Below wr.heap.size wr W) => show W.cell? ⟨(a.add (k * 2)).block, (a.add (k * 2)).off + 1, none⟩ = some (.string v) from by
        obtain ⟨a', e, _, _, d1⟩ := HHB.out W hW
        cases e
        exact d1)
      obtain ⟨X, hX⟩ : ∃ X, X = getN name (l.take k) := ⟨_, rfl⟩
      rw [← hX] at HST HO hgl
      clear hX HHB
      cases hb : hasN name ⟨n, v⟩
      · rw [hb] at HI HST
        have HST2 := Lib.hid (show getN name (l.take (k + 1)) = X from by rw [HST.out]; simp)
        clear HST
        clear hb
        go_wp2_with (go_at_call 29; (with_reducible refine (HI.out _).mono ?_); rintro e w1 ⟨rfl, b1⟩; have HB1 := Lib.hid (HW.out.trans (b1.mono hwr)); have HO1 := Lib.hid (own_mv HO.out (Mv.of_below b1 []) (by simp)); clear b1)
        go_roundw
        case rel => exact ⟨k + 1, by omega, by go_num, by rw [HST2.out]; exact HO1, HB1⟩
        case measure => simp [intOf]; omega
      · rw [hb] at HI HST
        have HST2 := Lib.hid (show getN name (l.take (k + 1)) = X ++ [v] from by rw [HST.out]; simp)
        clear HST
        have HSS := Lib.hid (show strs (X ++ [v]) = strs X ++ [.string v] from by rw [strs_app]; rfl)
        have HSL := Lib.hid (show (X ++ [v]).length = X.length + 1 from by simp)
        clear hb
        go_wp2_with (first
          | (go_at_call 29; (with_reducible refine (HI.out _).mono ?_); rintro e w1 ⟨rfl, b1⟩
             have HB1 := Lib.hid (HW.out.trans (b1.mono hwr))
             have HO1 := Lib.hid (own_mv HO.out (Mv.of_below b1 []) (by simp))
             have d1 := HC1.out w1 b1
             have hw1 : w.heap.size ≤ w1.heap.size := HB1.out.size
             clear b1 c0 c1)
          | (at_builtin; refine wpList_append_own _ rfl _ _ 25 rfl w.heap.size 9 i0 _ 1 16 Try.underlying25 hi hz0 hz1 hz2 rfl (by decide) _ _ _ rfl (HO1.out.alloc _) ⟨w1.heap.size, 0, none⟩ 1 1 [.string v] rfl rfl (cell_one_new _ _ _) (by simp [Value.oneCell']) (by unfold maxLen; omega) (by omega) (by simp; omega) ?_; intro v' w2 hown hgrow _
             have HB2 := Lib.hid ((HB1.out.alloc hw1 (.cells #[.string v] 9)).grown hgrow (by simp; omega) (fun g hg => (HO1.out.lt g hg).1))
             have HO2 := Lib.hid hown
             clear hown hgrow))
        go_roundw
        case rel => exact ⟨k + 1, by omega, by go_num, by rw [HST2.out, HSS.out, HSL.out]; exact HO2, HB2⟩
        case measure => simp [intOf]; omega
    · obtain rfl : k = l.length := by omega
      rw [HALL.out] at HO
      go_wp2
      go_ret
      exact ⟨_, rfl, HO.out, HW.out⟩

end Go.Proofs.Ytjikahflbhgniaa
namespace Go.Proofs.Ytjikahflbhgniaa
open Go.RowKit

theorem append_noneH (g n G c : Nat) (ty : TypeId) (w : World) (h : n ≤ G) : (Builtin.append_ #[22, 22] ty #[.slice (some ⟨g, 0, none⟩) n G, .slice none 0 c]).run Try.prog w = .ok (.slice (some ⟨g, 0, none⟩) n G) w := by
  obtain ⟨i0, hi, hz0, hz1, hz2⟩ := info_parts Try.infoHdr
  simp [Builtin.append_, run_underlying Try.underlying22, sizeOf, typeInfo, zeroValue, hi, hz0, hz2, asInt, asIntOf, Builtin.lenOf, run_firstCells_none, storeCells, h]

set_option maxHeartbeats 1000000 in
set_option maxRecDepth 100000 in
theorem hgrow_any (n : Nat) (w : World) (h0 : 0 < n) (hn : n ≤ 4194304) :
    Calls Try.prog 65 #[.slice none 0 0, .int .i64 n] w fun e w' => ∃ G, e = .returned (.slice (some ⟨w.heap.size, 0, none⟩) 0 G) ∧ w'.ownsRow w.heap.size 53 2 (.slice (some ⟨w.heap.size, 0, none⟩) 0 G) 0 [] ∧ Below w.heap.size w w' ∧ w.heap.size < w'.heap.size := by
  obtain ⟨i0, hi, hz0, hz1, hz2⟩ := info_parts Try.infoHdr
  obtain ⟨G, hG⟩ : ∃ G, G = grownCap w n 0 53 := ⟨_, rfl⟩
  have hGn : n ≤ G := by rw [hG]; exact grownCap_ge w _ _ _
  have hG63 : G ≤ maxLen := by
    rw [hG]; exact grownCap_le_maxLen w n 0 53 (by unfold maxLen; omega)
  have hr : ∀ ty, (Builtin.append_ #[22, 3] ty #[.slice none 0 0, .int .i64 n]).run Try.prog w =
      .ok (.slice (some ⟨w.heap.size, 0, none⟩) n G) (w.drew.alloc (.cells (Builtin.zeroCells (Value.agg #[.string ⟨#[]⟩, .string ⟨#[]⟩]).cells n ++ Builtin.zeroCells (Value.agg #[.string ⟨#[]⟩, .string ⟨#[]⟩]).cells (G - n)) 53)) := fun ty => by
    have h := Lib.run_append_nil_zeros w 22 3 ty 53 i0 _ .i64 .i64 Try.underlying22 Try.underlying3 hi hz0 n h0 (by omega) (by omega) (by rw [hz2]; omega)
    rw [← hG] at h
    exact h
  have hzl : ∀ k, (Builtin.zeroCells (Value.agg #[.string ⟨#[]⟩, .string ⟨#[]⟩]).cells k).size = k * 2 := fun k => by
    simp [Builtin.zeroCells]
    exact rfl
  have hsz : (Builtin.zeroCells (Value.agg #[.string ⟨#[]⟩, .string ⟨#[]⟩]).cells n ++ Builtin.zeroCells (Value.agg #[.string ⟨#[]⟩, .string ⟨#[]⟩]).cells (G - n)).size = G * 2 := by
    rw [Array.size_append, hzl, hzl]; omega
  generalize (Builtin.zeroCells (Value.agg #[.string ⟨#[]⟩, .string ⟨#[]⟩]).cells n ++ Builtin.zeroCells (Value.agg #[.string ⟨#[]⟩, .string ⟨#[]⟩]).cells (G - n)) = Z at *
  have hG64 : G ≤ 9223372036854775807 := by unfold maxLen at hG63; exact hG63
  clear hG hzl
  have g1 : (0 : Int) < (n : Int) := by omega
  go_enter Try.func65, Try.ntmps65
  go_wp2_with (at_builtin; refine Lib.wpList_append_run _ rfl _ _ _ _ rfl _ _ rfl rfl _ _ (hr _) ?_)
  go_ret
  refine ⟨G, rfl, ⟨rfl, .inr ⟨w.heap.size, G, Z, rfl, Nat.le_refl _, Blk.new w.drew _ _, Nat.zero_le _, hG63, hsz, by simp⟩⟩, ?_, ?_⟩
  · exact ((Below.refl w.heap.size w).drew.alloc (Nat.le_refl _) _)
  · simp

/-- Rows that are put one behind the other. -/
structure Rw where
  A : Option Addr
  l : List Prm
  c : Nat
def RwsIn (w : World) (b : Nat) (rs : List Rw) : Prop := b < w.heap.size ∧ ∀ i (h : i < rs.length), w.cell? ⟨b, i, none⟩ = some (.slice rs[i].A rs[i].l.length rs[i].c) ∧ HdIn w rs[i].A rs[i].l
theorem RwsIn.below {w w' : World} {b : Nat} {rs : List Rw} (h : RwsIn w b rs) (hb : Below w.heap.size w w') : RwsIn w' b rs :=
  ⟨Nat.lt_of_lt_of_le h.1 hb.size, fun i hi => ⟨(hb.cell (p := ⟨b, i, none⟩) h.1).trans (h.2 i hi).1, (h.2 i hi).2.below hb⟩⟩
def catR (rs : List Rw) : List Prm := rs.flatMap (·.l)
theorem catR_step {rs : List Rw} {k : Nat} (hk : k < rs.length) : catR (rs.take (k + 1)) = catR (rs.take k) ++ rs[k].l := by
  unfold catR
  rw [List.take_succ_eq_append_getElem hk, List.flatMap_append]
  simp
theorem catR_le (rs : List Rw) (k : Nat) : (catR (rs.take k)).length ≤ (catR rs).length := by
  unfold catR
  rw [← List.take_append_drop k rs, List.flatMap_append, List.length_append]
  simp
theorem prmL_app (a b : List Prm) : prmL (a ++ b) = prmL a ++ prmL b := by simp [prmL]

set_option maxHeartbeats 4000000 in
set_option maxRecDepth 100000 in
theorem hconcat_any (b c : Nat) (rs : List Rw) (w : World) (h : RwsIn w b rs) (h0 : 0 < (catR rs).length) (hn : (catR rs).length ≤ 1048576) (hr : rs.length ≤ 1000) :
    Calls Try.prog 46 #[.slice (some ⟨b, 0, none⟩) rs.length c] w fun e w' => ∃ A' c', e = .returned (.slice A' (catR rs).length c') ∧ OwnHd w' w.heap.size A' c' (catR rs) ∧ Below w.heap.size w w' := by
  have HH := Lib.hid h
  have HG := Lib.hid (hgrow_any (catR rs).length w h0 (by omega))
  have HLE := Lib.hid (fun k => catR_le rs k)
  have HALL := Lib.hid (show catR (rs.take rs.length) = catR rs from by rw [List.take_length])
  obtain ⟨N, hN⟩ : ∃ N, N = (catR rs).length := ⟨_, rfl⟩
  rw [← hN] at HG h0 hn HLE ⊢
  have HN := Lib.hid hN
  clear h hN
  go_enter Try.func46, Try.ntmps46
  go_wp2
  go_loop [3, 11] (fun s i => ∃ k : Nat, k ≤ rs.length ∧ i = .int .i64 k ∧ s = .int .i64 (catR (rs.take k)).length) (fun _ i => rs.length - (intOf i).toNat)
  case atStart => exact ⟨0, by omega, rfl, rfl⟩
  case round =>
    obtain ⟨k, hk, rfl, rfl⟩ := hrel
    by_cases hlt : k < rs.length
    · have c0 := (HH.out.2 k hlt).1
      have HST := Lib.hid (congrArg List.length (catR_step hlt))
      rw [List.length_append] at HST
      have hle := HLE.out (k + 1)
      rw [HST.out] at hle
      obtain ⟨m, hm⟩ : ∃ m, m = (catR (rs.take k)).length := ⟨_, rfl⟩
      rw [← hm] at HST hle ⊢
      obtain ⟨q, hq⟩ : ∃ q, q = rs[k].l.length := ⟨_, rfl⟩
      rw [← hq] at HST hle c0
      clear hm hq
      have hmq : ¬ ((m : Int) + (q : Int) < 0) := by omega
      go_wp2
      go_round
      case rel => exact ⟨k + 1, by omega, by go_num, by rw [HST.out]; go_num⟩
      case measure => simp [intOf]; omega
    · obtain rfl : k = rs.length := by omega
      rw [HALL.out, ← HN.out]
      clear hlt hk
      go_wp2_with fail
      refine HG.out.mono ?_
      rintro e w1 ⟨G, rfl, ho, b1, hs1⟩
      have HO1 := Lib.hid ho
      have HB1 := Lib.hid b1
      have HH1 := Lib.hid (HH.out.below b1)
      clear ho b1 HG
      go_wp2_with fail
      go_loopw [6, 27] (fun v i wr => ∃ k : Nat, k ≤ rs.length ∧ i = .int .i64 k ∧ ∃ (g cp : Nat), v = .slice (some ⟨g, 0, none⟩) (catR (rs.take k)).length cp ∧ Hid (wr.ownsRow w.heap.size 53 2 (.slice (some ⟨g, 0, none⟩) (catR (rs.take k)).length cp) (catR (rs.take k)).length (prmL (catR (rs.take k)))) ∧ Hid (RwsIn wr b rs) ∧ Hid (Below w.heap.size w wr)) (fun _ i _ => rs.length - (intOf i).toNat)
      case atStart => exact ⟨0, by omega, rfl, _, G, rfl, HO1, HH1, HB1⟩
      case round =>
        obtain ⟨k, hk, rfl, g, cp, rfl, HOr, HHr, HBr⟩ := hrel
        have hwr := HBr.out.size
        by_cases hlt : k < rs.length
        · obtain ⟨c0, hd⟩ := HHr.out.2 k hlt
          have HST := Lib.hid (catR_step hlt)
          have HST2 := Lib.hid (show (catR (rs.take (k + 1))).length = (catR (rs.take k)).length + rs[k].l.length from by rw [HST.out, List.length_append])
          have HST3 := Lib.hid (show prmL (catR (rs.take (k + 1))) = prmL (catR (rs.take k)) ++ prmL rs[k].l from by rw [HST.out, prmL_app])
          have hle := HLE.out (k + 1)
          rw [HST2.out] at hle
          obtain ⟨D, hD⟩ : ∃ D, D = catR (rs.take k) := ⟨_, rfl⟩
          rw [← hD] at HST2 HST3 HOr hle ⊢
          obtain ⟨r, hr2⟩ : ∃ r, r = rs[k] := ⟨_, rfl⟩
          rw [← hr2] at c0 hd HST2 HST3 hle
          clear hD hr2 HST
          obtain ⟨A, l, c⟩ := r
          simp only at c0 hd HST2 HST3 hle
          have hcp : D.length ≤ cp := by
            rcases HOr.out.2 with ⟨h1, _⟩ | ⟨_, _, _, h1, _, _, h2, _⟩
            · cases h1
            · cases h1; exact h2
          cases A with
          | none =>
            have hl : l = [] := by
              cases l with
              | nil => rfl
              | cons q r =>
                obtain ⟨g, e, _⟩ := hd 0 (by simp)
                cases e
            subst hl
            simp only [List.length_nil, Nat.add_zero] at c0 HST2
            have HST3 := Lib.hid (HST3.out.trans (List.append_nil _))
            clear hd
            go_wp2_with (at_builtin; refine Lib.wpList_append_run _ rfl _ _ _ _ rfl _ _ rfl rfl _ _ (append_noneH g D.length cp c _ _ hcp) ?_)
            go_roundw
            case rel => exact ⟨k + 1, by omega, by go_num, g, cp, by rw [HST2.out], by rw [HST2.out, HST3.out]; exact HOr, HHr, HBr⟩
            case measure => simp [intOf]; omega
          | some a =>
            have HC := Lib.hid hd.cells
            have HLN := Lib.hid (prmL_len l)
            clear hd
            go_wp2_with (at_builtin; refine wpH_append rfl _ _ rfl w.heap.size _ _ _ rfl HOr.out a l.length c (prmL l) rfl HLN.out HC.out (hdL_one l) (by omega) hwr ?_)
            intro v' w2 hown hgrow hnil
            have HB2 := Lib.hid (HBr.out.grown hgrow hwr (fun k e => (HOr.out.lt k e).1))
            obtain ⟨g2, cp2, rfl⟩ : ∃ g2 cp2, v' = .slice (some ⟨g2, 0, none⟩) (D.length + l.length) cp2 := by
              rcases hown.2 with ⟨h1, _⟩ | ⟨g2, cp2, _, h1, _⟩
              · exact (hnil h1).elim
              · exact ⟨g2, cp2, h1⟩
            have HO2 := Lib.hid hown
            clear hown hgrow hnil
            go_wp2
            go_roundw
            case rel => exact ⟨k + 1, by omega, by go_num, g2, cp2, by rw [HST2.out], by rw [HST2.out, HST3.out]; exact HO2, Lib.hid (HH.out.below HB2.out), HB2⟩
            case measure => simp [intOf]; omega
        · obtain rfl : k = rs.length := by omega
          rw [HALL.out, ← HN.out] at HOr
          rw [HALL.out, ← HN.out]
          go_wp2
          go_ret
          exact ⟨_, cp, rfl, by unfold OwnHd; rw [← HN.out]; exact HOr.out, HBr.out⟩

end Go.Proofs.Ytjikahflbhgniaa
namespace Go.Proofs.Ytjikahflbhgniaa
open Go.RowKit

set_option maxHeartbeats 2000000 in
set_option maxRecDepth 100000 in
theorem rcut_any (name : ByteArray) (A : Option Addr) (c : Nat) (l : List Prm) (w : World) (h : HdIn w A l) (ha : AllIn 1048576 l) (hn : l.length ≤ 1048576) (hm : name.size ≤ 1048576) :
    Calls Try.prog 18 #[.string name, .slice A l.length c] w fun e w' => ∃ b c', e = .returned (.slice (some b) (cutN name l).length c') ∧ OwnHd w' w.heap.size (some b) c' (cutN name l) ∧ Below w.heap.size w w' := by
  have HH := Lib.hid h
  have HA := Lib.hid ha
  have HALL := Lib.hid (show l.take l.length = l from List.take_length)
  have HO0 := Lib.hid (World.ownsRow_made (base := w.heap.size) (e := 53) (size := 2) w #[] 0 (Nat.le_refl _) (Nat.zero_le _) rfl)
  have HB0 := Lib.hid ((Below.refl w.heap.size w).alloc (Nat.le_refl _) (.cells #[] 53))
  clear h ha
  go_enter Try.func18, Try.ntmps18
  go_wp2
  go_loopw [5, 6] (fun v i wr => ∃ k : Nat, k ≤ l.length ∧ i = .int .i64 k ∧ Hid (v ≠ .slice none 0 0) ∧ Hid (wr.ownsRow w.heap.size 53 2 v (cutN name (l.take k)).length (prmL (cutN name (l.take k)))) ∧ Hid (Below w.heap.size w wr)) (fun _ i _ => l.length - (intOf i).toNat)
  case atStart => exact ⟨0, by omega, rfl, Lib.hid (fun e => by cases e), HO0, HB0⟩
  case round =>
    obtain ⟨k, hk, rfl, HNE, HO, HW⟩ := hrel
    have hwr := HW.out.size
    by_cases hlt : k < l.length
    · obtain ⟨a, rfl, hal, c0, c1⟩ := (HH.out.below HW.out) k hlt
      have hsz := HA.out.at_ hlt
      have HST := Lib.hid (cutN_step name l hlt)
      have HHB := Lib.hid (fun W (hW : Below wr.heap.size wr W) => (((HH.out.below HW.out).below hW) k hlt))
      have hgl := Nat.le_trans (cutN_len name (l.take k)) (List.length_take_le _ _)
      obtain ⟨p, hp⟩ : ∃ p, l[k] = p := ⟨_, rfl⟩
      rw [hp] at c0 c1 hsz HST HHB
      clear hp
      obtain ⟨n, v⟩ := p
      simp only at c0 c1 hsz
      have HI := Lib.hid (fun W => ris_any name n v W (by omega) hm)
      have HC0 := Lib.hid (fun W (hW : Below wr.heap.size wr W) => show W.cell? (a.add (k * 2)) = some (.string n) ∧ W.cell? ⟨(a.add (k * 2)).block, (a.add (k * 2)).off + 1, none⟩ = some (.string v) from by
        obtain ⟨a', e, _, d0, d1⟩ := HHB.out W hW
        cases e
        exact ⟨d0, d1⟩)
      obtain ⟨X, hX⟩ : ∃ X, X = cutN name (l.take k) := ⟨_, rfl⟩
      rw [← hX] at HST HO hgl
      clear hX HHB
      cases hb : hasN name ⟨n, v⟩
      · rw [hb] at HI HST
        have HST2 := Lib.hid (show cutN name (l.take (k + 1)) = X ++ [⟨n, v⟩] from by rw [HST.out]; simp)
        clear HST
        have HSS := Lib.hid (show prmL (X ++ [⟨n, v⟩]) = prmL X ++ [.string n, .string v] from by rw [prmL_app]; rfl)
        have HSL := Lib.hid (show (X ++ [(⟨n, v⟩ : Prm)]).length = X.length + 1 from by simp)
        clear hb
        go_wp2_with (first
          | (go_at_call 29; (with_reducible refine (HI.out _).mono ?_); rintro e w1 ⟨rfl, b1⟩
             have HB1 := Lib.hid (HW.out.trans (b1.mono hwr))
             have HO1 := Lib.hid (own_mv HO.out (Mv.of_below b1 []) (by simp))
             obtain ⟨d0, d1⟩ := HC0.out w1 b1
             have hw1 : w.heap.size ≤ w1.heap.size := HB1.out.size
             clear b1 c0 c1)
          | (at_builtin; refine wpH_append rfl _ _ rfl w.heap.size _ _ _ rfl (HO1.out.alloc _) ⟨w1.heap.size, 0, none⟩ 1 1 [.string n, .string v] rfl rfl (two_new w1 n v) two_one22 (by omega) (by simp; omega) ?_; intro v' w2 hown hgrow hnil
             have HN2 := Lib.hid (show v' ≠ .slice none 0 0 from fun e => by have := (hnil.1 e).2; cases this)
             have HB2 := Lib.hid ((HB1.out.alloc hw1 (.cells #[.string n, .string v] 53)).grown hgrow (by simp; omega) (fun g hg => (HO1.out.lt g hg).1))
             have HO2 := Lib.hid hown
             clear hown hgrow hnil))
        go_roundw
        case rel => exact ⟨k + 1, by omega, by go_num, HN2, by rw [HST2.out, HSS.out, HSL.out]; exact HO2, HB2⟩
        case measure => simp [intOf]; omega
      · rw [hb] at HI HST
        have HST2 := Lib.hid (show cutN name (l.take (k + 1)) = X from by rw [HST.out]; simp)
        clear HST
        clear hb
        go_wp2_with (go_at_call 29; (with_reducible refine (HI.out _).mono ?_); rintro e w1 ⟨rfl, b1⟩; have HB1 := Lib.hid (HW.out.trans (b1.mono hwr)); have HO1 := Lib.hid (own_mv HO.out (Mv.of_below b1 []) (by simp)); clear b1)
        go_roundw
        case rel => exact ⟨k + 1, by omega, by go_num, HNE, by rw [HST2.out]; exact HO1, HB1⟩
        case measure => simp [intOf]; omega
    · obtain rfl : k = l.length := by omega
      rw [HALL.out] at HO
      obtain ⟨b', c', rfl⟩ : ∃ b' c', u5 = .slice (some b') (cutN name l).length c' := by
        rcases HO.out.2 with ⟨h1, _⟩ | ⟨g, cap, _, h1, _⟩
        · exact absurd h1 HNE.out
        · exact ⟨_, cap, h1⟩
      go_wp2
      go_ret
      exact ⟨b', c', rfl, HO.out, HW.out⟩

set_option maxHeartbeats 4000000 in
set_option maxRecDepth 100000 in
theorem rsameH_any (A B : Option Addr) (c d : Nat) (l : List Prm) (w : World) (h : HdIn w A l) (h' : HdIn w B l) (hn : l.length ≤ 1048576) :
    Calls Try.prog 16 #[.slice A l.length c, .slice B l.length d] w fun e w' => ∃ n, e = .returned (.bool true) ∧ w' = w.drewN n := by
  have HH := Lib.hid h
  have HH' := Lib.hid h'
  clear h h'
  go_enter Try.func16, Try.ntmps16
  go_wp2
  go_loopw [5] (fun i wr => ∃ k : Nat, k ≤ l.length ∧ i = .int .i64 k ∧ Hid (∃ n, wr = w.drewN n)) (fun i _ => l.length - (intOf i).toNat)
  case atStart => exact ⟨0, by omega, rfl, Lib.hid ⟨0, rfl⟩⟩
  case round =>
    obtain ⟨k, hk, rfl, HW⟩ := hrel
    obtain ⟨n0, hw⟩ := HW.out
    have hb : Below w.heap.size w wr := by rw [hw]; exact Below.drewN' (Below.refl _ _) _
    have HDW := Lib.hid hw
    by_cases hlt : k < l.length
    · obtain ⟨a, rfl, hal, c0, c1⟩ := (HH.out.below hb) k hlt
      obtain ⟨b, rfl, hbl, d0, d1⟩ := (HH'.out.below hb) k hlt
      obtain ⟨p, hp⟩ : ∃ p, l[k] = p := ⟨_, rfl⟩
      rw [hp] at c0 c1 d0 d1
      clear hp hw hb HW
      obtain ⟨n, v⟩ := p
      simp only at c0 c1 d0 d1
      go_wp2
      go_quiet (fail)
      go_wp2
      go_roundw
      case rel => exact ⟨k + 1, by omega, by go_num, Lib.hid ⟨_, by rw [HDW.out]; exact World.drewN_drewN _ _ _⟩⟩
      case measure => simp [intOf]; omega
    · obtain rfl : k = l.length := by omega
      clear hw hb HW
      go_wp2
      go_ret
      exact ⟨n0, rfl, HDW.out⟩

end Go.Proofs.Ytjikahflbhgniaa
