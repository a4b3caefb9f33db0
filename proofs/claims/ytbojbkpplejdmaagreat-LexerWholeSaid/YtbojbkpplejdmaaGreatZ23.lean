/-
  What package lexer's Feed and Whole answer, and lives of layer 29. Conditions: the texts are no longer than a length can be.
  What package lexer's Whole answers, and lives of layer 29. Condition: the text is no longer than a length can be.
  A machine of layer 29 among the blocks that a call made (FdX: it is fed; EdX: it is told), and what Feed, End and the rest do with it. Conditions: the texts are no longer than a length can be.
-/
import Derived.Test.YtbojbkpplejdmaaGreatZ22
import Derived.OwnWalk
namespace Go.Proofs.YtbojbkpplejdmaaGreat
open Go.RowKit

/-- A machine behind all bytes that came: it waits, or it is told. -/
def StX (w : World) (mb db sb D : Nat) (sn : Int) (T : ByteArray) : Prop := match fstV D [] T.data.toList with
  | none => Mx w mb db sb sn (T.size : Nat) 0 ⟨#[]⟩ ∧ TwoX w db sb D T
  | some (c, n) => Mx w mb db sb sn (n : Nat) (vdV c) (rsV c)
def vdF (D : Nat) (T : ByteArray) : Int := match fstV D [] T.data.toList with
  | none => 0
  | some (c, _) => vdV c
theorem stX_new {w : World} {mb db sb D : Nat} (m : Mx w mb db sb 0 0 0 ⟨#[]⟩) (t : TwoX w db sb D ⟨#[]⟩) : StX w mb db sb D 0 ⟨#[]⟩ := ⟨m, t⟩
/-- A machine behind so many bytes more, while Feed goes on: what is told, or that it waits. -/
def OnX (w : World) (mb db sb D : Nat) (sn : Int) (T : ByteArray) : Prop := ∃ vd : Int, vd = vdF D T ∧ ((vd = 0 ∧ fstV D [] T.data.toList = none ∧ Mx w mb db sb sn (T.size : Nat) 0 ⟨#[]⟩ ∧ TwoX w db sb D T) ∨ (∃ c n, vd = vdV c ∧ fstV D [] T.data.toList = some (c, n) ∧ Mx w mb db sb sn (n : Nat) vd (rsV c)))
theorem stX_on {w : World} {mb db sb D : Nat} {sn : Int} {T : ByteArray} (h : StX w mb db sb D sn T) : OnX w mb db sb D sn T := by
  unfold StX at h
  unfold OnX vdF
  cases hf : fstV D [] T.data.toList with
  | none => rw [hf] at h; exact ⟨0, rfl, Or.inl ⟨rfl, rfl, h.1, h.2⟩⟩
  | some r => obtain ⟨c, n⟩ := r; rw [hf] at h; exact ⟨vdV c, rfl, Or.inr ⟨c, n, rfl, rfl, h⟩⟩
theorem fst_more {D c n : Nat} {T x : ByteArray} (h : fstV D [] T.data.toList = some (c, n)) : fstV D [] (T ++ x).data.toList = some (c, n) := by
  rw [app_toList, fstV_app, h]
theorem fst_step {D : Nat} {T x : ByteArray} {b : UInt8} (h : fstV D [] T.data.toList = none) (hx : x.data.toList = [b]) : fstV D [] (T ++ x).data.toList = (vrdB D (T ++ x).data.toList).map fun c => (c, T.size + 1) := by
  rw [app_toList, fstV_app, h, hx]
  show fstV D ([] ++ T.data.toList) [b] = _
  rw [List.nil_append, fstV_one, show T.data.toList.length = T.size by simp]
theorem one_more {T t : ByteArray} {k : Nat} (h : k < t.size) : T ++ t.extract 0 k ++ t.extract k (k + 1) = T ++ t.extract 0 (k + 1) := by
  apply ByteArray.ext
  apply Array.toList_inj.1
  rw [app_toList, app_toList, app_toList, List.append_assoc]
  congr 1
  rw [ByteArray.data_extract, ByteArray.data_extract, ByteArray.data_extract, Array.toList_extract, Array.toList_extract, Array.toList_extract, List.extract_eq_take_drop, List.extract_eq_take_drop, List.extract_eq_take_drop, List.drop_zero, Nat.sub_zero, Nat.sub_zero, Nat.add_sub_cancel_left]
  have hk : k < t.data.toList.length := by simpa using h
  rw [List.take_succ_eq_append_getElem hk, List.drop_eq_getElem_cons hk]
  rfl
theorem one_byte {t : ByteArray} {k : Nat} (h : k < t.size) : (t.extract k (k + 1)).data.toList = [t[k]] := by
  rw [ByteArray.data_extract, Array.toList_extract, List.extract_eq_take_drop, Nat.add_sub_cancel_left]
  have hk : k < t.data.toList.length := by simpa using h
  rw [List.drop_eq_getElem_cons hk]
  rfl
theorem none_more (T t : ByteArray) : T ++ t.extract 0 0 = T := by
  apply ByteArray.ext
  apply Array.toList_inj.1
  rw [app_toList, ByteArray.data_extract, Array.toList_extract, List.extract_eq_take_drop]
  simp
theorem all_more (T t : ByteArray) : T ++ t.extract 0 t.size = T ++ t := by
  apply ByteArray.ext
  apply Array.toList_inj.1
  rw [app_toList, app_toList, ByteArray.data_extract, Array.toList_extract, List.extract_eq_take_drop, List.drop_zero, Nat.sub_zero, List.take_of_length_le (by simp)]
theorem rest29 {T t : ByteArray} {k : Nat} (hk : k ≤ t.size) : T ++ t = T ++ t.extract 0 k ++ t.extract k t.size := by
  apply ByteArray.ext
  apply Array.toList_inj.1
  rw [app_toList, app_toList, app_toList, List.append_assoc]
  congr 1
  rw [ByteArray.data_extract, ByteArray.data_extract, Array.toList_extract, Array.toList_extract, List.extract_eq_take_drop, List.extract_eq_take_drop, List.drop_zero, Nat.sub_zero]
  have e : (t.data.toList.drop k).take (t.size - k) = t.data.toList.drop k := List.take_of_length_le (by rw [List.length_drop]; simp)
  rw [e]
  exact (List.take_append_drop k _).symm

set_option maxHeartbeats 8000000 in
set_option maxRecDepth 10000 in
theorem xfeed_any {w : World} {mb db sb D : Nat} {sn : Nat} {T : ByteArray} (t : ByteArray) (h : StX w mb db sb D (sn : Nat) T) (ha : Apart mb db sb) (hz : T.size + t.size ≤ 1152921504606846976) (hs : sn + t.size ≤ 4611686018427387904) :
    Calls Tryz.prog 10 #[mptr mb, .string t] w fun e w' => e = .returned (.int .i64 (vdF D (T ++ t))) ∧ Mv w.heap.size [mb, db, sb] w w' ∧ StX w' mb db sb D ((sn + t.size : Nat) : Int) (T ++ t) := by
  obtain ⟨v, hv⟩ : ∃ v, v = vdF D (T ++ t) := ⟨_, rfl⟩
  rw [← hv]
  have HV := Lib.hid hv
  have ht62 : t.size ≤ 4611686018427387904 := by omega
  have hsn : sn ≤ 4611686018427387904 := by omega
  have hst : (sn : Int) + (t.size : Int) ≤ 4611686018427387904 := by omega
  have H := Lib.hid (show OnX w mb db sb D (sn : Nat) (T ++ t.extract 0 0) by rw [none_more]; exact stX_on h)
  have HA := Lib.hid ha
  have HE : ∀ wr c n k, k ≤ t.size → fstV D [] (T ++ t.extract 0 k).data.toList = some (c, n) → Mx wr mb db sb (sn : Nat) (n : Nat) (vdV c) (rsV c) → Hid (v = vdV c ∧ StX (wr.setCell ⟨mb, 2, none⟩ (.int .i64 ((sn : Int) + (t.size : Int)))) mb db sb D ((sn + t.size : Nat) : Int) (T ++ t)) := fun wr c n k hk hf hm => by
    have e : fstV D [] (T ++ t).data.toList = some (c, n) := by rw [rest29 hk]; exact fst_more hf
    refine Lib.hid ⟨by rw [HV.out]; unfold vdF; rw [e], ?_⟩
    unfold StX
    rw [e]
    have e2 : ((sn + t.size : Nat) : Int) = (sn : Int) + (t.size : Int) := by omega
    rw [e2]
    exact hm.s2 _
  have HE2 := Lib.hid HE
  have HF : ∀ wr, fstV D [] (T ++ t.extract 0 t.size).data.toList = none → Mx wr mb db sb (sn : Nat) ((T ++ t.extract 0 t.size).size : Nat) 0 ⟨#[]⟩ → TwoX wr db sb D (T ++ t.extract 0 t.size) → Hid (v = 0 ∧ StX (wr.setCell ⟨mb, 2, none⟩ (.int .i64 ((sn : Int) + (t.size : Int)))) mb db sb D ((sn + t.size : Nat) : Int) (T ++ t)) := fun wr hf hm h2 => by
    rw [all_more] at hf hm h2
    refine Lib.hid ⟨by rw [HV.out]; unfold vdF; rw [hf], ?_⟩
    unfold StX
    rw [hf]
    have e2 : ((sn + t.size : Nat) : Int) = (sn : Int) + (t.size : Int) := by omega
    rw [e2]
    exact ⟨hm.s2 _, h2.put HA.out _ _⟩
  have HF2 := Lib.hid HF
  have HZ := Lib.hid hz
  clear h ha hv HE HF hz
  go_enter Tryz.func10, Tryz.ntmps10
  go_wp2
  go_loopw [10] (fun i wr => ∃ k : Nat, k ≤ t.size ∧ i = .int .i64 k ∧ Hid (OnX wr mb db sb D (sn : Nat) (T ++ t.extract 0 k)) ∧ Hid (Mv w.heap.size [mb, db, sb] w wr)) (fun i _ => t.size - (intOf i).toNat)
  case atStart => exact ⟨0, by omega, rfl, H, Lib.hid (Mv.refl _ _ _)⟩
  case round =>
    obtain ⟨k, hk, rfl, HO, HX⟩ := hrel
    clear H
    obtain ⟨vd, hvd, ⟨rfl, h1, h2, h3⟩ | ⟨c, n, rfl, h1, h2⟩⟩ := HO.out
    · have c2 := h2.c2
      have c4 := h2.c4
      have z2 := h2.fr 2
      by_cases hlt : k < t.size
      · have e1 : decide (k < t.size) = true := by simpa using hlt
        have HT := Lib.hid (xtake_any (t.extract k (k + 1)) h2 h3 HA.out (by rw [ByteArray.size_extract]; omega) (by
          have := HZ.out
          rw [ByteArray.size_append, ByteArray.size_extract]
          omega))
        have HN : ∀ w1, Mv wr.heap.size [mb, db, sb] wr w1 → Mx w1 mb db sb (sn : Nat) (((T ++ t.extract 0 k).size : Int) + 1) (vdO (vrdB D (T ++ t.extract 0 k ++ t.extract k (k + 1)).data.toList)) (rsO (vrdB D (T ++ t.extract 0 k ++ t.extract k (k + 1)).data.toList)) → TwoX w1 db sb D (T ++ t.extract 0 k ++ t.extract k (k + 1)) → Hid (OnX w1 mb db sb D (sn : Nat) (T ++ t.extract 0 (k + 1))) ∧ Hid (Mv w.heap.size [mb, db, sb] w w1) := fun w1 g1 g2 g3 => by
          refine ⟨Lib.hid ?_, Lib.hid (mv_then HX.out g1 (by simp))⟩
          have hf := fst_step h1 (one_byte hlt)
          have hsz : (T ++ t.extract 0 k ++ t.extract k (k + 1)).size = (T ++ t.extract 0 k).size + 1 := by
            rw [ByteArray.size_append (b := t.extract k (k + 1)), ByteArray.size_extract]
            omega
          rw [one_more hlt] at hf hsz g2 g3
          unfold OnX vdF
          rw [hf]
          cases hv : vrdB D (T ++ t.extract 0 (k + 1)).data.toList with
          | none =>
            rw [hv] at g2
            refine ⟨0, rfl, Or.inl ⟨rfl, rfl, ?_, g3⟩⟩
            rw [hsz]
            exact g2
          | some c =>
            rw [hv] at g2
            exact ⟨vdV c, rfl, Or.inr ⟨c, _, rfl, rfl, g2⟩⟩
        have HN2 := Lib.hid HN
        obtain ⟨m, hm⟩ : ∃ m, m = k + 1 := ⟨_, rfl⟩
        have g : ((k : Nat) : Int) + 1 = (m : Int) := by omega
        have hms : m ≤ t.size := by omega
        have hkm : k ≤ m := by omega
        rw [← hm] at HT HN2
        have HMM := Lib.hid hm
        clear HN h1 h2 h3 hvd hm
        go_wp2_with (go_at_call 22; (with_reducible refine HT.out.mono ?_); rintro e w1 ⟨rfl, q1, q2, q3⟩; obtain ⟨HO1, HX1⟩ := HN2.out w1 q1 q2 q3; clear q1 q2 q3)
        go_roundw
        case rel => exact ⟨m, hms, by first | rfl | go_num, HO1, HX1⟩
        case measure => have := HMM.out; simp [intOf]; omega
      · obtain rfl : k = t.size := by omega
        have HY := HF2.out wr h1 h2 h3
        clear h1 h2 h3 hvd
        go_wp2
        go_ret
        exact ⟨by rw [HY.out.1]; rfl, mv_put HX.out (by simp) _ _, HY.out.2⟩
    · have c2 := h2.c2
      have c4 := h2.c4
      have z2 := h2.fr 2
      have t0 : (vdV c != 0) = true := by unfold bne; rw [vdV_ne]; rfl
      have HY := HE2.out wr c n k hk h1 h2
      clear h1 h2 hvd
      generalize vdV c = vc at *
      by_cases hlt : k < t.size
      · have e1 : decide (k < t.size) = true := by simpa using hlt
        go_wp2
        go_ret
        exact ⟨by rw [HY.out.1]; rfl, mv_put HX.out (by simp) _ _, HY.out.2⟩
      · obtain rfl : k = t.size := by omega
        go_wp2
        go_ret
        exact ⟨by rw [HY.out.1]; rfl, mv_put HX.out (by simp) _ _, HY.out.2⟩
end Go.Proofs.YtbojbkpplejdmaaGreat
namespace Go.Proofs.YtbojbkpplejdmaaGreat
open Go.RowKit

theorem empty_app29 (s : ByteArray) : (⟨#[]⟩ : ByteArray) ++ s = s := by apply ByteArray.ext; simp
/-- All bytes fed to a machine to which nothing came. -/
theorem xfeed_all {w : World} {mb db sb D : Nat} (s : ByteArray) (ha : Apart mb db sb) (m : Mx w mb db sb 0 0 0 ⟨#[]⟩) (t : TwoX w db sb D ⟨#[]⟩) (hs : s.size ≤ 1152921504606846976) :
    Calls Tryz.prog 10 #[mptr mb, .string s] w fun e w' => e = .returned (.int .i64 (vdF D s)) ∧ Mv w.heap.size [mb, db, sb] w w' ∧ StX w' mb db sb D (s.size : Nat) s := by
  have h := xfeed_any (sn := 0) (T := ⟨#[]⟩) s (stX_new m t) ha (by show 0 + s.size ≤ _; omega) (by omega)
  rw [empty_app29, Nat.zero_add] at h
  exact h
/-- A block from before, behind a machine's own doings. -/
theorem old_keep {w w1 w2 : World} {g mb db sb : Nat} {t : TypeId} {cs : Array Value} (h : Blk w1 g t cs) (hb : Below w.heap.size w w1) (hm : Mv w1.heap.size [mb, db, sb] w1 w2) (h1 : w.heap.size ≤ mb) (h2 : w.heap.size ≤ db) (h3 : w.heap.size ≤ sb) (hg : g < w.heap.size) : Blk w2 g t cs ∧ Below w.heap.size w w2 := by
  refine ⟨h.mv hm (Blk.lt h) ?_, hb.trans (hm.below hb.size ?_)⟩
  · intro hx
    simp only [List.mem_cons, List.not_mem_nil, or_false] at hx
    omega
  · intro x hx
    simp only [List.mem_cons, List.not_mem_nil, or_false] at hx
    omega
theorem max_nat (n : Nat) : max (0 : Int) (n : Int) = (n : Int) := by omega

set_option maxHeartbeats 8000000 in
set_option maxRecDepth 10000 in
theorem xwhole_any (s : ByteArray) (d : Nat) (ended : Bool) (w : World) (hs : s.size ≤ 1152921504606846976) :
    Calls Tryz.prog 6 #[.string s, .int .i64 (d : Nat), .bool ended] w fun e w' => e = .returned (jdgO (whoV (min d 200) s ended)) ∧ Below w.heap.size w w' := by
  obtain ⟨n, hn⟩ : ∃ n, n = min d 200 := ⟨_, rfl⟩
  rw [← hn]
  have hn200 : n ≤ 200 := by omega
  have hz4 := Tryz.zeroJudged
  have HN : Hid (∀ x : Int, x = (n : Nat) → ∀ W, Calls Tryz.prog 9 #[.int .i64 x] W fun e w' => ∃ v, e = .returned (.tuple #[v, .int .i64 0]) ∧ FreshX W w' n v) := Lib.hid fun x hx W => by
    subst hx
    exact xnew_ok n W hn200
  have hnd : ((n : Nat) : Int) = if (d : Int) < 200 then (d : Int) else 200 := by split <;> omega
  have HD := Lib.hid hnd
  obtain ⟨q, hq⟩ : ∃ q, q = whoV n s ended := ⟨_, rfl⟩
  rw [← hq]
  unfold whoV at hq
  have HB0 := Lib.hid (show Below w.heap.size w (w.alloc (.cells zeroJ4 24)) from (Below.refl _ _).alloc (Nat.le_refl _) _)
  have HR0 := Lib.hid (show Blk (w.alloc (.cells zeroJ4 24)) w.heap.size 24 zeroJ4 from Blk.new _ _ _)
  have hsz : (w.alloc (.cells zeroJ4 24)).heap.size = w.heap.size + 1 := by simp
  have HF : ∀ w1 v, FreshX (w.alloc (.cells zeroJ4 24)) w1 n v → ∃ mb, v = mptr mb ∧ Hid (Calls Tryz.prog 10 #[v, .string s] w1 fun e w2 => e = .returned (.int .i64 (vdF n s)) ∧ Hid (Blk w2 w.heap.size 24 zeroJ4) ∧ Hid (Below w.heap.size w w2) ∧ Hid (w.heap.size ≠ mb) ∧ Hid (∃ db sb, StX w2 mb db sb n (s.size : Nat) s ∧ w.heap.size ≤ mb)) := fun w1 v hv => by
    obtain ⟨mb, db, sb, rfl, ha, k1, k2, k3, hb, hm, ht⟩ := hv
    refine ⟨mb, rfl, Lib.hid ?_⟩
    refine (xfeed_all s ha hm ht hs).mono ?_
    rintro e w2 ⟨rfl, h1, h2⟩
    have hr1 := HR0.out.below hb (by omega)
    obtain ⟨g1, g2⟩ := old_keep hr1 hb h1 k1 k2 k3 (by omega)
    exact ⟨rfl, Lib.hid g1, Lib.hid (HB0.out.trans (g2.mono (by omega))), Lib.hid (by omega), Lib.hid ⟨db, sb, h2, by omega⟩⟩
  have HF2 := Lib.hid HF
  clear HF hnd hn hn200 HB0 HR0 hsz
  generalize vdF n s = vf at *
  cases hf : fstV n [] s.data.toList with
  | some r =>
    obtain ⟨c, k⟩ := r
    have HY : Hid (q = some (c, k)) := Lib.hid (by rw [hq, hf])
    have HVN := Lib.hid (vdV_ne c)
    have hk0 : 0 < k := by have := (fstV_some _ _ hf).1; simpa using this
    have k1 : decide ((0 : Int) < (k : Int)) = true := by rw [decide_eq_true_iff]; omega
    have k2 : decide (0 < k) = true := decide_eq_true hk0
    cases ended with
    | false =>
      clear hq
      go_enter Tryz.func6, Tryz.ntmps6
      go_wp2_with (first
        | (go_at_call 9; (with_reducible refine (HN.out _ (by have hx := HD.out; split at hx <;> omega) _).mono ?_); rintro e w1 ⟨v, rfl, hfr⟩; obtain ⟨mb, rfl, HFE⟩ := HF2.out w1 v hfr; clear hfr)
        | (go_at_call 10; (with_reducible refine HFE.out.mono ?_); rintro e w2 ⟨rfl, HR, HB, HNE, HST⟩
           obtain ⟨db, sb, hst, hmb⟩ := HST.out
           unfold StX at hst
           rw [hf] at hst
           have HM := Lib.hid hst
           have HVD := Lib.hid (xverdict_any HM.out)
           have HRE := Lib.hid (xreason_any HM.out)
           have HAT := Lib.hid (xat_any HM.out)
           rw [HVN.out, if_neg (by decide)] at HAT
           have r0 : w2.cell? ⟨w.heap.size, 0, none⟩ = some (.int .i64 0) := Blk.cell HR.out 0
           have r1 : w2.cell? ⟨w.heap.size, 1, none⟩ = some (.string ⟨#[]⟩) := Blk.cell HR.out 1
           have r2 : w2.cell? ⟨w.heap.size, 2, none⟩ = some (.int .i64 0) := Blk.cell HR.out 2
           have r3 : w2.cell? ⟨w.heap.size, 3, none⟩ = some (.bool false) := Blk.cell HR.out 3
           have z0 := Blk.frozen HR.out 0
           have z1 := Blk.frozen HR.out 1
           have z2 := Blk.frozen HR.out 2
           have z3 := Blk.frozen HR.out 3
           clear hst HST)
        | (go_at_call 11; (with_reducible refine HVD.out.mono ?_); rintro e wx ⟨rfl, rfl⟩)
        | (go_at_call 12; (with_reducible refine HRE.out.mono ?_); rintro e wx ⟨rfl, rfl⟩)
        | (go_at_call 13; (with_reducible refine HAT.out.mono ?_); rintro e wx ⟨rfl, rfl⟩))
      all_goals
        have HF := Lib.hid (Blk.set4 HR.out (.int .i64 (vdV c)) (.string (rsV c)) (.int .i64 (k : Nat)) (.bool false))
        have HFB := Lib.hid (below_set4 HB.out (Nat.le_refl _) (.int .i64 (vdV c)) (.string (rsV c)) (.int .i64 (k : Nat)) (.bool false))
        clear r0 r1 r2 r3 z0 z1 z2 z3
        generalize ((((w2.setCell ⟨w.heap.size, 0, none⟩ (.int .i64 (vdV c))).setCell ⟨w.heap.size, 1, none⟩ (.string (rsV c))).setCell ⟨w.heap.size, 2, none⟩ (.int .i64 (k : Nat))).setCell ⟨w.heap.size, 3, none⟩ (.bool false)) = w9 at *
        have q0 := Blk.cell HF.out 0
        have q1 := Blk.cell HF.out 1
        have q2 := Blk.cell HF.out 2
        have q3 := Blk.cell HF.out 3
        refine bodyPost_ret (v := jdgV (vdV c) (rsV c) (k : Nat)) (by unfold jdgV; simp [results, Tryz.results6, go_sem, q0, q1, q2, q3]; done) rfl ?_
        exact ⟨by rw [HY.out]; rfl, HFB.out⟩
    | true =>
      clear hq
      go_enter Tryz.func6, Tryz.ntmps6
      go_wp2_with (first
        | (go_at_call 9; (with_reducible refine (HN.out _ (by have hx := HD.out; split at hx <;> omega) _).mono ?_); rintro e w1 ⟨v, rfl, hfr⟩; obtain ⟨mb, rfl, HFE⟩ := HF2.out w1 v hfr; clear hfr)
        | (go_at_call 10; (with_reducible refine HFE.out.mono ?_); rintro e w2 ⟨rfl, HR, HB, HNE, HST⟩
           obtain ⟨db, sb, hst, hmb⟩ := HST.out
           unfold StX at hst
           rw [hf] at hst
           have HM := Lib.hid hst
           have HVD := Lib.hid (xverdict_any HM.out)
           have HRE := Lib.hid (xreason_any HM.out)
           have HAT := Lib.hid (xat_any HM.out)
           rw [HVN.out, if_neg (by decide)] at HAT
           have HEN := Lib.hid (xstop_told hst)
           have r0 : w2.cell? ⟨w.heap.size, 0, none⟩ = some (.int .i64 0) := Blk.cell HR.out 0
           have r1 : w2.cell? ⟨w.heap.size, 1, none⟩ = some (.string ⟨#[]⟩) := Blk.cell HR.out 1
           have r2 : w2.cell? ⟨w.heap.size, 2, none⟩ = some (.int .i64 0) := Blk.cell HR.out 2
           have r3 : w2.cell? ⟨w.heap.size, 3, none⟩ = some (.bool false) := Blk.cell HR.out 3
           have z0 := Blk.frozen HR.out 0
           have z1 := Blk.frozen HR.out 1
           have z2 := Blk.frozen HR.out 2
           have z3 := Blk.frozen HR.out 3
           clear hst HST)
        | (go_at_call 15; (with_reducible refine HEN.out.mono ?_); rintro e wx ⟨rfl, rfl⟩)
        | (go_at_call 11; (with_reducible refine HVD.out.mono ?_); rintro e wx ⟨rfl, rfl⟩)
        | (go_at_call 12; (with_reducible refine HRE.out.mono ?_); rintro e wx ⟨rfl, rfl⟩)
        | (go_at_call 13; (with_reducible refine HAT.out.mono ?_); rintro e wx ⟨rfl, rfl⟩))
      all_goals
        have HF := Lib.hid (Blk.set4 HR.out (.int .i64 (vdV c)) (.string (rsV c)) (.int .i64 (k : Nat)) (.bool false))
        have HFB := Lib.hid (below_set4 HB.out (Nat.le_refl _) (.int .i64 (vdV c)) (.string (rsV c)) (.int .i64 (k : Nat)) (.bool false))
        clear r0 r1 r2 r3 z0 z1 z2 z3
        generalize ((((w2.setCell ⟨w.heap.size, 0, none⟩ (.int .i64 (vdV c))).setCell ⟨w.heap.size, 1, none⟩ (.string (rsV c))).setCell ⟨w.heap.size, 2, none⟩ (.int .i64 (k : Nat))).setCell ⟨w.heap.size, 3, none⟩ (.bool false)) = w9 at *
        have q0 := Blk.cell HF.out 0
        have q1 := Blk.cell HF.out 1
        have q2 := Blk.cell HF.out 2
        have q3 := Blk.cell HF.out 3
        refine bodyPost_ret (v := jdgV (vdV c) (rsV c) (k : Nat)) (by unfold jdgV; simp [results, Tryz.results6, go_sem, q0, q1, q2, q3]; done) rfl ?_
        exact ⟨by rw [HY.out]; rfl, HFB.out⟩
  | none =>
    cases ended with
    | false =>
      have HY : Hid (q = none) := Lib.hid (by rw [hq, hf]; rfl)
      clear hq
      go_enter Tryz.func6, Tryz.ntmps6
      go_wp2_with (first
        | (go_at_call 9; (with_reducible refine (HN.out _ (by have hx := HD.out; split at hx <;> omega) _).mono ?_); rintro e w1 ⟨v, rfl, hfr⟩; obtain ⟨mb, rfl, HFE⟩ := HF2.out w1 v hfr; clear hfr)
        | (go_at_call 10; (with_reducible refine HFE.out.mono ?_); rintro e w2 ⟨rfl, HR, HB, HNE, HST⟩
           obtain ⟨db, sb, hst, hmb⟩ := HST.out
           unfold StX at hst
           rw [hf] at hst
           have HM := Lib.hid hst.1
           have HVD := Lib.hid (xverdict_any HM.out)
           have HRE := Lib.hid (xreason_any HM.out)
           have HAT := Lib.hid (xat_any HM.out)
           rw [show ((0 : Int) == 0) = true from rfl, if_pos rfl] at HAT
           have r0 : w2.cell? ⟨w.heap.size, 0, none⟩ = some (.int .i64 0) := Blk.cell HR.out 0
           have r1 : w2.cell? ⟨w.heap.size, 1, none⟩ = some (.string ⟨#[]⟩) := Blk.cell HR.out 1
           have r2 : w2.cell? ⟨w.heap.size, 2, none⟩ = some (.int .i64 0) := Blk.cell HR.out 2
           have r3 : w2.cell? ⟨w.heap.size, 3, none⟩ = some (.bool false) := Blk.cell HR.out 3
           have z0 := Blk.frozen HR.out 0
           have z1 := Blk.frozen HR.out 1
           have z2 := Blk.frozen HR.out 2
           have z3 := Blk.frozen HR.out 3
           clear hst HST)
        | (go_at_call 11; (with_reducible refine HVD.out.mono ?_); rintro e wx ⟨rfl, rfl⟩)
        | (go_at_call 12; (with_reducible refine HRE.out.mono ?_); rintro e wx ⟨rfl, rfl⟩)
        | (go_at_call 13; (with_reducible refine HAT.out.mono ?_); rintro e wx ⟨rfl, rfl⟩))
      all_goals
        have HF := Lib.hid (Blk.set4 HR.out (.int .i64 0) (.string ⟨#[]⟩) (.int .i64 0) (.bool false))
        have HFB := Lib.hid (below_set4 HB.out (Nat.le_refl _) (.int .i64 0) (.string ⟨#[]⟩) (.int .i64 0) (.bool false))
        clear r0 r1 r2 r3 z0 z1 z2 z3
        generalize ((((w2.setCell ⟨w.heap.size, 0, none⟩ (.int .i64 0)).setCell ⟨w.heap.size, 1, none⟩ (.string ⟨#[]⟩)).setCell ⟨w.heap.size, 2, none⟩ (.int .i64 0)).setCell ⟨w.heap.size, 3, none⟩ (.bool false)) = w9 at *
        have q0 := Blk.cell HF.out 0
        have q1 := Blk.cell HF.out 1
        have q2 := Blk.cell HF.out 2
        have q3 := Blk.cell HF.out 3
        refine bodyPost_ret (v := jdgV 0 ⟨#[]⟩ 0) (by unfold jdgV; simp [results, Tryz.results6, go_sem, q0, q1, q2, q3]; done) rfl ?_
        exact ⟨by rw [HY.out]; rfl, HFB.out⟩
    | true =>
      have HVN := Lib.hid (vdV_ne (endV n s))
      by_cases hs0 : s.size = 0
      · have HY : Hid (q = some (endV n s, 0)) := Lib.hid (by rw [hq, hf]; show some (endV n s, s.size) = _; rw [hs0])
        have HS0 := Lib.hid (show ((s.size : Nat) : Int) = 0 by omega)
        clear hs0
        clear hq
        go_enter Tryz.func6, Tryz.ntmps6
        go_wp2_with (first
          | (go_at_call 9; (with_reducible refine (HN.out _ (by have hx := HD.out; split at hx <;> omega) _).mono ?_); rintro e w1 ⟨v, rfl, hfr⟩; obtain ⟨mb, rfl, HFE⟩ := HF2.out w1 v hfr; clear hfr)
          | (go_at_call 10; (with_reducible refine HFE.out.mono ?_); rintro e w2 ⟨rfl, HR, HB, HNE, HST⟩
             obtain ⟨db, sb, hst, hmb⟩ := HST.out
             unfold StX at hst
             rw [hf] at hst
             have HEN := Lib.hid (xstop_wait hst.1 hst.2)
             clear hst HST)
          | (go_at_call 15; (with_reducible refine HEN.out.mono ?_); rintro e w3 ⟨rfl, h1, h2⟩
             have HR3 := Lib.hid (HR.out.mv h1 (Blk.lt HR.out) (by simpa using HNE.out))
             have HB3 := Lib.hid (HB.out.trans (h1.below HB.out.size (by simpa using hmb)))
             have HM := Lib.hid h2
             have HVD := Lib.hid (xverdict_any HM.out)
             have HRE := Lib.hid (xreason_any HM.out)
             have HAT := Lib.hid (xat_any HM.out)
             rw [HVN.out, if_neg (by decide)] at HAT
             rw [HS0.out] at HAT
             have r0 : w3.cell? ⟨w.heap.size, 0, none⟩ = some (.int .i64 0) := Blk.cell HR3.out 0
             have r1 : w3.cell? ⟨w.heap.size, 1, none⟩ = some (.string ⟨#[]⟩) := Blk.cell HR3.out 1
             have r2 : w3.cell? ⟨w.heap.size, 2, none⟩ = some (.int .i64 0) := Blk.cell HR3.out 2
             have r3 : w3.cell? ⟨w.heap.size, 3, none⟩ = some (.bool false) := Blk.cell HR3.out 3
             have z0 := Blk.frozen HR3.out 0
             have z1 := Blk.frozen HR3.out 1
             have z2 := Blk.frozen HR3.out 2
             have z3 := Blk.frozen HR3.out 3
             clear h1 h2)
          | (go_at_call 11; (with_reducible refine HVD.out.mono ?_); rintro e wx ⟨rfl, rfl⟩)
          | (go_at_call 12; (with_reducible refine HRE.out.mono ?_); rintro e wx ⟨rfl, rfl⟩)
          | (go_at_call 13; (with_reducible refine HAT.out.mono ?_); rintro e wx ⟨rfl, rfl⟩))
        all_goals
          have HF := Lib.hid (Blk.set4 HR3.out (.int .i64 (vdV (endV n s))) (.string (rsV (endV n s))) (.int .i64 0) (.bool false))
          have HFB := Lib.hid (below_set4 HB3.out (Nat.le_refl _) (.int .i64 (vdV (endV n s))) (.string (rsV (endV n s))) (.int .i64 0) (.bool false))
          clear r0 r1 r2 r3 z0 z1 z2 z3
          generalize ((((w3.setCell ⟨w.heap.size, 0, none⟩ (.int .i64 (vdV (endV n s)))).setCell ⟨w.heap.size, 1, none⟩ (.string (rsV (endV n s)))).setCell ⟨w.heap.size, 2, none⟩ (.int .i64 0)).setCell ⟨w.heap.size, 3, none⟩ (.bool false)) = w9 at *
          have q0 := Blk.cell HF.out 0
          have q1 := Blk.cell HF.out 1
          have q2 := Blk.cell HF.out 2
          have q3 := Blk.cell HF.out 3
          refine bodyPost_ret (v := jdgV (vdV (endV n s)) (rsV (endV n s)) 0) (by unfold jdgV; simp [results, Tryz.results6, go_sem, q0, q1, q2, q3]; done) rfl ?_
          exact ⟨by rw [HY.out]; rfl, HFB.out⟩
      · obtain ⟨z, hz⟩ : ∃ z, z = s.size := ⟨_, rfl⟩
        have HS0 := Lib.hid (show ((s.size : Nat) : Int) = (z : Int) by omega)
        have HY : Hid (q = some (endV n s, z)) := Lib.hid (by rw [hq, hf, hz]; rfl)
        have k1 : decide ((0 : Int) < (z : Int)) = true := by rw [decide_eq_true_iff]; omega
        have hz0 : 0 < z := by omega
        clear hs0 hz
        clear hq
        go_enter Tryz.func6, Tryz.ntmps6
        go_wp2_with (first
          | (go_at_call 9; (with_reducible refine (HN.out _ (by have hx := HD.out; split at hx <;> omega) _).mono ?_); rintro e w1 ⟨v, rfl, hfr⟩; obtain ⟨mb, rfl, HFE⟩ := HF2.out w1 v hfr; clear hfr)
          | (go_at_call 10; (with_reducible refine HFE.out.mono ?_); rintro e w2 ⟨rfl, HR, HB, HNE, HST⟩
             obtain ⟨db, sb, hst, hmb⟩ := HST.out
             unfold StX at hst
             rw [hf] at hst
             have HEN := Lib.hid (xstop_wait hst.1 hst.2)
             clear hst HST)
          | (go_at_call 15; (with_reducible refine HEN.out.mono ?_); rintro e w3 ⟨rfl, h1, h2⟩
             have HR3 := Lib.hid (HR.out.mv h1 (Blk.lt HR.out) (by simpa using HNE.out))
             have HB3 := Lib.hid (HB.out.trans (h1.below HB.out.size (by simpa using hmb)))
             have HM := Lib.hid h2
             have HVD := Lib.hid (xverdict_any HM.out)
             have HRE := Lib.hid (xreason_any HM.out)
             have HAT := Lib.hid (xat_any HM.out)
             rw [HVN.out, if_neg (by decide)] at HAT
             rw [HS0.out] at HAT
             have r0 : w3.cell? ⟨w.heap.size, 0, none⟩ = some (.int .i64 0) := Blk.cell HR3.out 0
             have r1 : w3.cell? ⟨w.heap.size, 1, none⟩ = some (.string ⟨#[]⟩) := Blk.cell HR3.out 1
             have r2 : w3.cell? ⟨w.heap.size, 2, none⟩ = some (.int .i64 0) := Blk.cell HR3.out 2
             have r3 : w3.cell? ⟨w.heap.size, 3, none⟩ = some (.bool false) := Blk.cell HR3.out 3
             have z0 := Blk.frozen HR3.out 0
             have z1 := Blk.frozen HR3.out 1
             have z2 := Blk.frozen HR3.out 2
             have z3 := Blk.frozen HR3.out 3
             clear h1 h2)
          | (go_at_call 11; (with_reducible refine HVD.out.mono ?_); rintro e wx ⟨rfl, rfl⟩)
          | (go_at_call 12; (with_reducible refine HRE.out.mono ?_); rintro e wx ⟨rfl, rfl⟩)
          | (go_at_call 13; (with_reducible refine HAT.out.mono ?_); rintro e wx ⟨rfl, rfl⟩))
        all_goals
          have HF := Lib.hid (Blk.set4 HR3.out (.int .i64 (vdV (endV n s))) (.string (rsV (endV n s))) (.int .i64 (z : Nat)) (.bool false))
          have HFB := Lib.hid (below_set4 HB3.out (Nat.le_refl _) (.int .i64 (vdV (endV n s))) (.string (rsV (endV n s))) (.int .i64 (z : Nat)) (.bool false))
          clear r0 r1 r2 r3 z0 z1 z2 z3
          generalize ((((w3.setCell ⟨w.heap.size, 0, none⟩ (.int .i64 (vdV (endV n s)))).setCell ⟨w.heap.size, 1, none⟩ (.string (rsV (endV n s)))).setCell ⟨w.heap.size, 2, none⟩ (.int .i64 (z : Nat))).setCell ⟨w.heap.size, 3, none⟩ (.bool false)) = w9 at *
          have q0 := Blk.cell HF.out 0
          have q1 := Blk.cell HF.out 1
          have q2 := Blk.cell HF.out 2
          have q3 := Blk.cell HF.out 3
          refine bodyPost_ret (v := jdgV (vdV (endV n s)) (rsV (endV n s)) (z : Nat)) (by unfold jdgV; simp [results, Tryz.results6, go_sem, q0, q1, q2, q3]; done) rfl ?_
          exact ⟨by rw [HY.out]; rfl, HFB.out⟩
end Go.Proofs.YtbojbkpplejdmaaGreat
namespace Go.Proofs.YtbojbkpplejdmaaGreat
open Go.RowKit

/-- What a machine tells at the end. -/
theorem xstop_any {w : World} {mb db sb D : Nat} {sn : Int} {T : ByteArray} (h : StX w mb db sb D sn T) : ∃ c k, whoV D T true = some (c, k) ∧
    Calls Tryz.prog 15 #[mptr mb] w fun e w' => e = .returned (.int .i64 (vdV c)) ∧ Mv w.heap.size [mb] w w' ∧ Mx w' mb db sb sn (k : Nat) (vdV c) (rsV c) := by
  unfold StX at h
  unfold whoV
  cases hf : fstV D [] T.data.toList with
  | none =>
    rw [hf] at h
    exact ⟨endV D T, T.size, rfl, xstop_wait h.1 h.2⟩
  | some r =>
    obtain ⟨c, k⟩ := r
    rw [hf] at h
    refine ⟨c, k, rfl, (xstop_told h).mono ?_⟩
    rintro e w' ⟨rfl, rfl⟩
    exact ⟨rfl, mv0 w mb, h⟩
/-- A machine that is fed, all else as it was. -/
structure FdX (w W : World) (mb db sb D sn : Nat) (T : ByteArray) : Prop where
  below : Below w.heap.size w W
  apart : Apart mb db sb
  hm : w.heap.size ≤ mb
  hd : w.heap.size ≤ db
  hs : w.heap.size ≤ sb
  st : StX W mb db sb D (sn : Nat) T
/-- A machine that is told. -/
structure EdX (w W : World) (mb db sb sn c k : Nat) : Prop where
  below : Below w.heap.size w W
  hm : w.heap.size ≤ mb
  m : Mx W mb db sb (sn : Nat) (k : Nat) (vdV c) (rsV c)
theorem StX.below {W W2 : World} {mb db sb D : Nat} {sn : Int} {T : ByteArray} (h : StX W mb db sb D sn T) (hb : Below W.heap.size W W2) : StX W2 mb db sb D sn T := by
  unfold StX at h ⊢
  cases hf : fstV D [] T.data.toList with
  | none =>
    rw [hf] at h
    exact ⟨Blk.below h.1 hb (Blk.lt h.1), h.2.same (hb.block _ h.2.js.block) (hb.block _ h.2.hs.block)⟩
  | some r =>
    obtain ⟨c, n⟩ := r
    rw [hf] at h
    exact Blk.below h hb (Blk.lt h)
theorem FdX.to {w W W2 : World} {mb db sb D sn : Nat} {T : ByteArray} (f : FdX w W mb db sb D sn T) (hb : Below W.heap.size W W2) : FdX w W2 mb db sb D sn T := ⟨below_on f.below hb, f.apart, f.hm, f.hd, f.hs, f.st.below hb⟩
theorem FdX.drew {w W : World} {mb db sb D sn : Nat} {T : ByteArray} (f : FdX w W mb db sb D sn T) : FdX w W.drew mb db sb D sn T := f.to (Below.drewN' (Below.refl _ _) 1)
theorem FdX.drewN {w W : World} {mb db sb D sn : Nat} {T : ByteArray} (f : FdX w W mb db sb D sn T) (n : Nat) : FdX w (W.drewN n) mb db sb D sn T := f.to (Below.drewN' (Below.refl _ _) n)
theorem EdX.to {w W W2 : World} {mb db sb sn c k : Nat} (f : EdX w W mb db sb sn c k) (hb : Below W.heap.size W W2) : EdX w W2 mb db sb sn c k := ⟨below_on f.below hb, f.hm, Blk.below f.m hb (Blk.lt f.m)⟩
theorem EdX.drew {w W : World} {mb db sb sn c k : Nat} (f : EdX w W mb db sb sn c k) : EdX w W.drew mb db sb sn c k := f.to (Below.drewN' (Below.refl _ _) 1)
theorem FdX.new {w w1 W : World} {D : Nat} {v : Value} (h : FreshX w1 W D v) (hb : Below w.heap.size w w1) : ∃ mb db sb, v = mptr mb ∧ FdX w W mb db sb D 0 ⟨#[]⟩ := by
  obtain ⟨mb, db, sb, rfl, ha, k1, k2, k3, hb2, hm, ht⟩ := h
  have hle := hb.size
  exact ⟨mb, db, sb, rfl, below_on hb hb2, ha, by omega, by omega, by omega, stX_new hm ht⟩
theorem three_in {w : World} {mb db sb : Nat} (h1 : w.heap.size ≤ mb) (h2 : w.heap.size ≤ db) (h3 : w.heap.size ≤ sb) : ∀ x ∈ [mb, db, sb], w.heap.size ≤ x := by
  intro x hx
  simp only [List.mem_cons, List.not_mem_nil, or_false] at hx
  omega
theorem fd_feed {w W : World} {mb db sb D sn : Nat} {T : ByteArray} (f : FdX w W mb db sb D sn T) (t : ByteArray) (hz : T.size + t.size ≤ 1152921504606846976) (hs : sn + t.size ≤ 4611686018427387904) :
    Calls Tryz.prog 10 #[mptr mb, .string t] W fun e w' => e = .returned (.int .i64 (vdF D (T ++ t))) ∧ FdX w w' mb db sb D (sn + t.size) (T ++ t) ∧ Mv W.heap.size [mb, db, sb] W w' := by
  refine (xfeed_any t f.st f.apart hz hs).mono ?_
  rintro e w' ⟨rfl, h1, h2⟩
  exact ⟨rfl, ⟨f.below.trans (h1.below f.below.size (three_in f.hm f.hd f.hs)), f.apart, f.hm, f.hd, f.hs, h2⟩, h1⟩
theorem fd_stop {w W : World} {mb db sb D sn : Nat} {T : ByteArray} (f : FdX w W mb db sb D sn T) {c k : Nat} (hc : whoV D T true = some (c, k)) :
    Calls Tryz.prog 15 #[mptr mb] W fun e w' => e = .returned (.int .i64 (vdV c)) ∧ EdX w w' mb db sb sn c k ∧ Mv W.heap.size [mb] W w' := by
  obtain ⟨c', k', hc', hcall⟩ := xstop_any f.st
  rw [hc] at hc'
  injection hc' with hc'
  injection hc' with h1 h2
  subst h1 h2
  refine hcall.mono ?_
  rintro e w' ⟨rfl, q1, q2⟩
  exact ⟨rfl, ⟨f.below.trans (q1.below f.below.size (fun x hx => by rw [List.mem_singleton.1 hx]; exact f.hm)), f.hm, q2⟩, q1⟩
set_option maxHeartbeats 1000000 in
theorem xfeed_told {w : World} {mb db sb c sn : Nat} {tk : Int} (m : Mx w mb db sb (sn : Nat) tk (vdV c) (rsV c)) (t : ByteArray) (ht : t.size ≤ 4611686018427387904) (hs : sn + t.size ≤ 4611686018427387904) :
    Calls Tryz.prog 10 #[mptr mb, .string t] w fun e w' => e = .returned (.int .i64 (vdV c)) ∧ Mv w.heap.size [mb] w w' ∧ Mx w' mb db sb ((sn + t.size : Nat) : Int) tk (vdV c) (rsV c) := by
  have c2 := m.c2
  have c4 := m.c4
  have z2 := m.fr 2
  have t0 : (vdV c != 0) = true := by unfold bne; rw [vdV_ne]; rfl
  have hsn : sn ≤ 4611686018427387904 := by omega
  have hst : (sn : Int) + (t.size : Int) ≤ 4611686018427387904 := by omega
  have e2 : ((sn + t.size : Nat) : Int) = (sn : Int) + (t.size : Int) := by omega
  rw [e2]
  have M := Lib.hid (m.s2 ((sn : Int) + (t.size : Int)))
  clear m e2
  generalize vdV c = vc at *
  by_cases h0 : 0 < t.size
  · have e1 : decide (0 < t.size) = true := by simpa using h0
    go_enter Tryz.func10, Tryz.ntmps10
    go_wp2
    go_loopw [10] (fun i wr => i = .int .i64 0 ∧ wr = w) (fun _ _ => 0)
    case atStart => exact ⟨rfl, rfl⟩
    case round =>
      obtain ⟨rfl, rfl⟩ := hrel
      go_wp2
      go_ret
      exact ⟨rfl, (mv0 _ mb).put1 _ _, M.out⟩
  · have e1 : decide (0 < t.size) = false := by simpa using h0
    clear h0
    go_enter Tryz.func10, Tryz.ntmps10
    go_wp2
    go_loopw [10] (fun i wr => i = .int .i64 0 ∧ wr = w) (fun _ _ => 0)
    case atStart => exact ⟨rfl, rfl⟩
    case round =>
      obtain ⟨rfl, rfl⟩ := hrel
      go_wp2
      go_ret
      exact ⟨rfl, (mv0 _ mb).put1 _ _, M.out⟩
theorem ed_feed {w W : World} {mb db sb sn c k : Nat} (f : EdX w W mb db sb sn c k) (t : ByteArray) (ht : t.size ≤ 4611686018427387904) (hs : sn + t.size ≤ 4611686018427387904) :
    Calls Tryz.prog 10 #[mptr mb, .string t] W fun e w' => e = .returned (.int .i64 (vdV c)) ∧ EdX w w' mb db sb (sn + t.size) c k ∧ Mv W.heap.size [mb] W w' := by
  refine (xfeed_told f.m t ht hs).mono ?_
  rintro e w' ⟨rfl, h1, h2⟩
  exact ⟨rfl, ⟨f.below.trans (h1.below f.below.size (fun x hx => by rw [List.mem_singleton.1 hx]; exact f.hm)), f.hm, h2⟩, h1⟩
end Go.Proofs.YtbojbkpplejdmaaGreat
