/-
  An argument that is a slice of texts, written out. No condition.
  The law LexerFeeds of layer 29 returns true of every input. Condition: the texts are as long as a length can be.
-/
import Derived.Test.YtbojbkpplejdmaaGreatZ25
import Derived.Deep.Slices
import Derived.Lib.SmallJoins
import Derived.ChangeMaps5
import Derived.OpenShut
import Derived.Test.YtbojbkpplejdmaaGreatZ24
import Derived.Deep.RegionHeld3
namespace Go.Proofs.YtbojbkpplejdmaaGreat
open Go.ChangeShapes Go.WideShapes Go.ChangeAt Go.RowKit Go.Joins Go.Deep

theorem Tryz.cellsTxt : Tryz.prog.cellsOf 9 = 1 := by kernel_rfl
theorem open_txt {H : Type} {enc : TypeId × Value → H} {W : World} {base : Nat} {spare : Nat → Bool} {held : Bool} {n : Nat} {v : Value} {y : DataW H × List MemPlace}
    (h : DataW.trod enc Tryz.prog W base spare held n 9 [v] = some y) : ∃ s : ByteArray, v = .string s ∧ s.size ≤ 9223372036854775807 := by
  obtain ⟨s, e, _, hs⟩ := DataW.trod_string Tryz.underlying9 h
  unfold maxLen at hs
  exact ⟨s, by simpa using e, hs⟩

set_option maxRecDepth 100000 in
theorem open_txs {H : Type} {enc : TypeId × Value → H} {W : World} {base : Nat} {v : Value} {d : DataW H} {p : List MemPlace}
    (hv : Value.okWide Tryz.prog W .any base 28 v) (h : DataW.Trod enc Tryz.prog W 0 (fun _ => true) true 28 v d p) :
    ∃ (A : Option Addr) (n c : Nat) (lp : Nat → ByteArray), v = .slice A n c ∧ n ≤ 9223372036854775807 ∧ TxCame W A n lp := by
  obtain ⟨fuel, hf⟩ := h
  obtain ⟨A, n, c, rfl⟩ := okWide_slice Tryz.underlying28 hv
  rcases open_slice Tryz.underlying28 hf with ⟨hc, _⟩ | ⟨a, len, cap, m, nn, D, Pl, hc, _, hl, hm, hmm, _, hi⟩
  · simp [Value.cells] at hc
    obtain ⟨rfl, rfl, rfl⟩ := hc
    exact ⟨none, 0, 0, fun _ => ⟨#[]⟩, rfl, by omega, fun i h => absurd h (by omega)⟩
  · simp [Value.cells] at hc
    obtain ⟨rfl, rfl, rfl⟩ := hc
    simp at hmm
    unfold maxLen at hm
    have key : ∀ i, i < n → ∃ s : ByteArray, a.block < W.heap.size ∧ W.cell? (a.add i) = some (.string s) ∧ s.size ≤ 9223372036854775807 := fun i hin => by
      obtain ⟨cs, hcs, ht⟩ := hi i (by omega)
      rw [Tryz.cellsTxt] at hcs
      obtain ⟨_, hlen, hat⟩ := World.cells?_some hcs
      match cs, hlen with
      | [v0], _ =>
        obtain ⟨s0, rfl, e0⟩ := open_txt ht
        have c0 : W.cell? (a.add i) = some (.string s0) := by
          have := hat 0 (by omega)
          simpa [Tryz.cellsTxt, Addr.add] using this
        have hblk := World.block_lt_of_cell? W _ c0
        have he : (a.add i).block = a.block := by unfold Addr.add; split <;> rfl
        rw [he] at hblk
        exact ⟨s0, hblk, c0, e0⟩
    refine ⟨some a, n, c, fun i => if hi : i < n then Classical.choose (key i hi) else ⟨#[]⟩, rfl, by omega, fun i hin => ?_⟩
    simp only [dif_pos hin]
    exact ⟨a, rfl, Classical.choose_spec (key i hin)⟩

end Go.Proofs.YtbojbkpplejdmaaGreat
namespace Go.Proofs.YtbojbkpplejdmaaGreat
open Go.RowKit

def rsF (D : Nat) (T : ByteArray) : ByteArray := match fstV D [] T.data.toList with
  | none => ⟨#[]⟩
  | some (c, _) => rsV c
def plF (D : Nat) (T : ByteArray) : Nat := match fstV D [] T.data.toList with
  | none => 0
  | some (_, n) => n
theorem jdgF (D : Nat) (T : ByteArray) : jdgO (whoV D T false) = .agg #[.int .i64 (vdF D T), .string (rsF D T), .int .i64 (plF D T : Nat), .bool false] := by
  unfold whoV vdF rsF plF
  cases fstV D [] T.data.toList with
  | none => rfl
  | some r => rfl
/-- What a machine that is fed tells. -/
theorem fd_tell {w W : World} {mb db sb D sn : Nat} {T : ByteArray} (f : FdX w W mb db sb D sn T) :
    (Calls Tryz.prog 11 #[mptr mb] W fun e w' => e = .returned (.int .i64 (vdF D T)) ∧ W = w') ∧
    (Calls Tryz.prog 12 #[mptr mb] W fun e w' => e = .returned (.string (rsF D T)) ∧ W = w') ∧
    (Calls Tryz.prog 13 #[mptr mb] W fun e w' => e = .returned (.int .i64 (if vdF D T == 0 then -1 else (plF D T : Nat))) ∧ W = w') ∧
    (Calls Tryz.prog 14 #[mptr mb] W fun e w' => e = .returned (.int .i64 (sn : Nat)) ∧ W = w') := by
  have h := f.st
  unfold StX at h
  unfold vdF rsF plF
  cases hf : fstV D [] T.data.toList with
  | none =>
    rw [hf] at h
    have h3 := xat_any h.1
    rw [show ((0 : Int) == 0) = true from rfl, if_pos rfl] at h3
    exact ⟨xverdict_any h.1, xreason_any h.1, h3, xseen_any h.1⟩
  | some r =>
    obtain ⟨c, n⟩ := r
    rw [hf] at h
    exact ⟨xverdict_any h, xreason_any h, xat_any h, xseen_any h⟩
theorem StX.lt {W : World} {mb db sb D : Nat} {sn : Int} {T : ByteArray} (h : StX W mb db sb D sn T) : mb < W.heap.size := by
  unfold StX at h
  cases hf : fstV D [] T.data.toList with
  | none => rw [hf] at h; exact Blk.lt h.1
  | some r => obtain ⟨c, n⟩ := r; rw [hf] at h; exact Blk.lt h
theorem JdW.step {w : World} {g mb : Nat} {v : Int} {r : ByteArray} {a : Int} {W W2 : World} (j : JdW w g v r a W) (hm : Mv W.heap.size [mb] W W2) (hb : Below w.heap.size w W2) (hne : g ≠ mb) : JdW w g v r a W2 := ⟨hb, Blk.mv j.own hm (Blk.lt j.own) (by simpa using hne)⟩

set_option maxHeartbeats 4000000 in
set_option maxRecDepth 10000 in
theorem lfeeds_out (A : Option Addr) (n c : Nat) (d : Int) (w : World) (h : d < 0 ∨ 200 < d) :
    Calls Tryz.prog 4 #[.slice A n c, .int .i64 d] w fun e w' => e = .returned (.bool true) ∧ Below w.heap.size w w' := by
  have HN := Lib.hid (fun W => xnew_bad d W h)
  have HL := Lib.hid xlives_any
  have hc : decide (d < 0) = true ∨ (decide (d < 0) = false ∧ decide ((200 : Int) < d) = true) := by
    rw [decide_eq_true_iff, decide_eq_false_iff_not, decide_eq_true_iff]
    omega
  clear h
  rcases hc with c1 | ⟨c1, c2⟩
  all_goals
    go_enter Tryz.func4, Tryz.ntmps4
    go_wp2_with (first
      | (go_at_call 9; (with_reducible refine (HN.out _).mono ?_); rintro e w1 ⟨rfl, rfl⟩)
      | (go_at_call 8; (with_reducible refine (HL.out _).mono ?_); rintro e w6 ⟨rfl, hb⟩))
    go_ret
    exact ⟨rfl, hb⟩

set_option maxHeartbeats 16000000 in
set_option maxRecDepth 100000 in
theorem lfeeds_in (A : Option Addr) (n c : Nat) (lp : Nat → ByteArray) (D : Nat) (w : World) (h : TxCame w A n lp) (hn : n ≤ 9223372036854775807) (hD : D ≤ 200) :
    Calls Tryz.prog 4 #[.slice A n c, .int .i64 (D : Nat)] w fun e w' => e = .returned (.bool true) ∧ Below w.heap.size w w' := by
  have HN := Lib.hid (xnew_ok D w hD)
  have HL := Lib.hid xlives_any
  have hz4 := Tryz.zeroJudged
  have HC := Lib.hid h
  have c1 : decide (((D : Nat) : Int) < 0) = false := by rw [decide_eq_false_iff_not]; omega
  have c2 : decide ((200 : Int) < ((D : Nat) : Int)) = false := by rw [decide_eq_false_iff_not]; omega
  have HD := Lib.hid hD
  clear h hD
  go_enter Tryz.func4, Tryz.ntmps4
  go_wp2_with (go_at_call 9; (with_reducible refine HN.out.mono ?_); rintro e w1 ⟨v, rfl, hf⟩; obtain ⟨mb, db, sb, rfl, hf2⟩ := FdX.new hf (Below.refl w.heap.size w); have F1 := Lib.hid hf2; clear hf hf2)
  go_loopw [7, 8] (fun S i wr => ∃ (k : Nat) (T : ByteArray), k ≤ n ∧ k ≤ 8 ∧ S = .string T ∧ i = .int .i64 k ∧ Hid (T.size ≤ 25 * k) ∧ Hid (FdX w wr mb db sb D T.size T)) (fun _ i _ => 8 - (intOf i).toNat)
  case atStart => exact ⟨0, ⟨#[]⟩, Nat.zero_le _, Nat.zero_le _, rfl, rfl, Lib.hid (Nat.le_refl _), F1⟩
  case round =>
    obtain ⟨k, T, hk, hk8, rfl, rfl, HT, HM⟩ := hrel
    have hT := HT.out
    clear F1
    by_cases hlt : k < n ∧ k < 8
    · obtain ⟨h1, h2⟩ := hlt
      obtain ⟨a, rfl, hab, e0, hsz⟩ := HC.out k h1
      have hab' : (a.add k).block < w.heap.size := by
        have : (a.add k).block = a.block := by unfold Addr.add; split <;> rfl
        rw [this]; exact hab
      have c0 := (HM.out.below.cell hab').trans e0
      have HCT : Hid (∀ W, Calls Tryz.prog 5 #[.string (lp k), .int .i64 25] W fun e w' => e = .returned (.string (cutB (lp k) 25)) ∧ W = w') := Lib.hid (fun W => cut_any (lp k) 25 W hsz)
      have hx := cutB_size (lp k) 25
      have d1 : decide ((k : Int) < (n : Int)) = true := by simp; omega
      have d2 : decide ((k : Int) < 8) = true := by simp; omega
      generalize cutB (lp k) 25 = x at HCT hx
      generalize lp k = y at *
      obtain ⟨U, hU⟩ : ∃ U, U = T ++ x := ⟨_, rfl⟩
      have hUs : U.size = T.size + x.size := by rw [hU, ByteArray.size_append]
      have HU25 := Lib.hid (show U.size ≤ 25 * (k + 1) by omega)
      have hTx : T.size + x.size ≤ 9223372036854775807 := by omega
      have HF := Lib.hid (fd_feed HM.out x (by omega) (by omega))
      rw [← hU, ← hUs] at HF
      have gU : T ++ x = U := hU.symm
      have HR := Lib.hid (fun W => rwhole29_any U D false W (by omega) HD.out)
      rw [jdgF] at HR
      have HTE := Lib.hid (fun W (f : FdX w W mb db sb D U.size U) => fd_tell f)
      have hU62 : U.size ≤ 4611686018427387904 := by omega
      clear e0 hab hab' hsz hU hUs hx hT HT
      generalize vdF D U = vd at *
      generalize rsF D U = rs at *
      generalize ((plF D U : Nat) : Int) = pl at *
      obtain ⟨at_, hat⟩ : ∃ at_ : Int, at_ = if vd == 0 then -1 else pl := ⟨_, rfl⟩
      rw [← hat] at HTE
      cases hv : (vd == 0)
      all_goals
        rw [hv] at hat
        have hat' := hat
        simp only [Bool.false_eq_true, if_false, if_true] at hat'
        rw [hat'] at HTE
        clear hat hat'
        go_wp2_with (first
          | (go_at_call 5; (with_reducible refine (HCT.out _).mono ?_); rintro e wx ⟨rfl, rfl⟩)
          | (go_at_call 10; (with_reducible refine HF.out.mono ?_); rintro e w2 ⟨rfl, hm, _⟩; have F2 := Lib.hid hm; clear hm)
          | (go_at_call 7; (with_reducible refine (HR.out _).mono ?_); rintro e w3 ⟨rfl, hb⟩
             have F3 := Lib.hid ((F2.out.to hb).to ((Below.refl w3.heap.size w3).alloc (Nat.le_refl _) (.cells #[.int .i64 vd, .string rs, .int .i64 pl, .bool false] 24)))
             have HV1 := Lib.hid (fun n => (HTE.out _ (F3.out.drewN n)).1)
             have HV2 := Lib.hid (fun n => (HTE.out _ (F3.out.drewN n)).2.1)
             have HV3 := Lib.hid (fun n => (HTE.out _ (F3.out.drewN n)).2.2.1)
             have HV4 := Lib.hid (fun n => (HTE.out _ (F3.out.drewN n)).2.2.2)
             clear hb))
        go_quiet (first
          | (go_at_call 11; exact Calls.quiet_of_same ((HV1.out _).mono fun _ _ h => ⟨h.1, h.2.symm⟩))
          | (go_at_call 12; exact Calls.quiet_of_same ((HV2.out _).mono fun _ _ h => ⟨h.1, h.2.symm⟩))
          | (go_at_call 13; exact Calls.quiet_of_same ((HV3.out _).mono fun _ _ h => ⟨h.1, h.2.symm⟩))
          | (go_at_call 14; exact Calls.quiet_of_same ((HV4.out _).mono fun _ _ h => ⟨h.1, h.2.symm⟩)))
        go_wp2
        go_roundw
        case rel => exact ⟨k + 1, U, by omega, by omega, rfl, by go_num, HU25, Lib.hid (F3.out.drewN _)⟩
        case measure => simp [intOf]; omega
    · have hT62 : T.size ≤ 4611686018427387904 := by omega
      obtain ⟨cc, kk, hcc, _⟩ := xstop_any HM.out.st
      have HR : Hid (∀ W, Calls Tryz.prog 7 #[.string T, .int .i64 (D : Nat), .bool true] W fun e w' => e = .returned (.agg #[.int .i64 (vdV cc), .string (rsV cc), .int .i64 (kk : Nat), .bool false]) ∧ Below W.heap.size W w') := Lib.hid (fun W => by
        have h := rwhole29_any T D true W (by omega) HD.out
        rw [hcc] at h
        exact h)
      have HS := Lib.hid (fun W (f : FdX w W mb db sb D T.size T) => fd_stop f hcc)
      have HE1 := Lib.hid (fun W sn (f : EdX w W mb db sb sn cc kk) => xreason_any f.m)
      have HE2 : Hid (∀ W sn, EdX w W mb db sb sn cc kk → Calls Tryz.prog 13 #[mptr mb] W fun e w' => e = .returned (.int .i64 (kk : Nat)) ∧ W = w') := Lib.hid (fun W sn f => by
        have h := xat_any f.m
        rw [vdV_ne, if_neg (by decide)] at h
        exact h)
      have HE3 := Lib.hid (fun W sn (f : EdX w W mb db sb sn cc kk) => xstop_told f.m)
      have hx5 : (⟨#[120, 59, 120, 32, 120]⟩ : ByteArray).size = 5 := rfl
      have HE4 : Hid (∀ W, EdX w W mb db sb T.size cc kk → Calls Tryz.prog 10 #[mptr mb, .string ⟨#[120, 59, 120, 32, 120]⟩] W fun e w' => e = .returned (.int .i64 (vdV cc)) ∧ EdX w w' mb db sb (T.size + 5) cc kk ∧ Mv W.heap.size [mb] W w') := Lib.hid (fun W f => ed_feed f ⟨#[120, 59, 120, 32, 120]⟩ (by decide) (by rw [hx5]; omega))
      have HE5 : Hid (∀ W, EdX w W mb db sb (T.size + 5) cc kk → Calls Tryz.prog 14 #[mptr mb] W fun e w' => e = .returned (.int .i64 ((T.size : Int) + 5)) ∧ W = w') := Lib.hid (fun W f => by
        have h := xseen_any f.m
        rw [show ((T.size + 5 : Nat) : Int) = (T.size : Int) + 5 by omega] at h
        exact h)
      have hw5 : IntKind.i64.wrap ((T.size : Int) + 5) = (T.size : Int) + 5 := IntWalk.i64_in _ (by omega)
      clear hx5 hcc hT HT
      generalize vdV cc = vd at *
      generalize rsV cc = rs at *
      generalize ((kk : Nat) : Int) = pl at *
      have hl : k = n ∨ (decide ((k : Int) < (n : Int)) = true ∧ decide (k < n) = true ∧ k = 8) := by
        by_cases h1 : k < n
        · exact Or.inr ⟨by rw [decide_eq_true_iff]; omega, by simpa using h1, by omega⟩
        · exact Or.inl (by omega)
      clear hlt hk8 hk
      rcases hl with rfl | ⟨d1, d2, rfl⟩
      · go_wp2_with fail
        refine (HR.out _).mono ?_
        rintro e w3 ⟨rfl, hb⟩
        have F3 := Lib.hid ((HM.out.to hb).to ((Below.refl w3.heap.size w3).alloc (Nat.le_refl _) (.cells #[.int .i64 vd, .string rs, .int .i64 pl, .bool false] 24)))
        have HJ := Lib.hid (show JdW w w3.heap.size vd rs pl (w3.alloc (.cells #[.int .i64 vd, .string rs, .int .i64 pl, .bool false] 24)) from ⟨F3.out.below, Blk.new _ _ _⟩)
        have HNE := Lib.hid (show w3.heap.size ≠ mb by have h1 := (HM.out.to hb).st.lt; omega)
        obtain ⟨e0, e1, e2, e3⟩ := HJ.out.keep
        clear hb
        go_wp2_with fail
        go_region_held2 (fun w' => w'.cell? ⟨w3.heap.size, 0, none⟩ = some (.int .i64 vd) ∧ w'.cell? ⟨w3.heap.size, 1, none⟩ = some (.string rs) ∧ w'.cell? ⟨w3.heap.size, 2, none⟩ = some (.int .i64 pl) ∧ w'.cell? ⟨w3.heap.size, 3, none⟩ = some (.bool false))
          (first | with_reducible exact HJ.out.keep | with_reducible exact HJ.out.drew.keep | go_keep)
          (first
            | (go_at_call 15; (with_reducible refine (HS.out _ (by first | exact F3.out | exact F3.out.drew)).mono ?_); rintro e w6 ⟨rfl, hE, hM⟩
               have HJ := Lib.hid (show JdW w w3.heap.size vd rs pl w6 from by first | exact HJ.out.step hM hE.below HNE.out | exact HJ.out.drew.step hM hE.below HNE.out)
               have E6 := Lib.hid hE
               clear hE hM)
            | (go_at_call 12; (with_reducible refine (HE1.out _ _ E6.out).mono ?_); rintro e wx ⟨rfl, rfl⟩)
            | (go_at_call 13; (with_reducible refine (HE2.out _ _ E6.out).mono ?_); rintro e wx ⟨rfl, rfl⟩))
        all_goals
          go_wp2
          go_region_held3 (fun w' => w'.cell? ⟨w3.heap.size, 0, none⟩ = some (.int .i64 vd) ∧ w'.cell? ⟨w3.heap.size, 1, none⟩ = some (.string rs) ∧ w'.cell? ⟨w3.heap.size, 2, none⟩ = some (.int .i64 pl) ∧ w'.cell? ⟨w3.heap.size, 3, none⟩ = some (.bool false))
            (first | with_reducible exact HJ.out.keep | with_reducible exact HJ.out.drew.keep | go_keep)
            (first
              | (go_at_call 10; (with_reducible refine (HE4.out _ (by first | exact E6.out | exact E6.out.drew)).mono ?_); rintro e w7 ⟨rfl, hE, hM⟩
                 have HJ := Lib.hid (show JdW w w3.heap.size vd rs pl w7 from by first | exact HJ.out.step hM hE.below HNE.out | exact HJ.out.drew.step hM hE.below HNE.out)
                 have E7 := Lib.hid hE
                 clear hE hM)
              | (go_at_call 15; (with_reducible refine (HE3.out _ _ E7.out).mono ?_); rintro e wx ⟨rfl, rfl⟩)
              | (go_at_call 13; (with_reducible refine (HE2.out _ _ E7.out).mono ?_); rintro e wx ⟨rfl, rfl⟩)
              | (go_at_call 14; (with_reducible refine (HE5.out _ E7.out).mono ?_); rintro e wx ⟨rfl, rfl⟩)
              | (go_at_call 8; (with_reducible refine (HL.out _).mono ?_); rintro e w8 ⟨rfl, b1⟩
                 have HJ := Lib.hid (HJ.out.to b1)
                 clear b1))
          all_goals
            go_wp2
            go_ret
            exact ⟨rfl, HJ.out.below⟩
      · have d4 : decide ((8 : Int) < (n : Int)) = true := d1
        have d5 : 8 < n := of_decide_eq_true d2
        clear d1
        go_wp2_with fail
        refine (HR.out _).mono ?_
        rintro e w3 ⟨rfl, hb⟩
        have F3 := Lib.hid ((HM.out.to hb).to ((Below.refl w3.heap.size w3).alloc (Nat.le_refl _) (.cells #[.int .i64 vd, .string rs, .int .i64 pl, .bool false] 24)))
        have HJ := Lib.hid (show JdW w w3.heap.size vd rs pl (w3.alloc (.cells #[.int .i64 vd, .string rs, .int .i64 pl, .bool false] 24)) from ⟨F3.out.below, Blk.new _ _ _⟩)
        have HNE := Lib.hid (show w3.heap.size ≠ mb by have h1 := (HM.out.to hb).st.lt; omega)
        obtain ⟨e0, e1, e2, e3⟩ := HJ.out.keep
        clear hb
        go_wp2_with fail
        go_region_held2 (fun w' => w'.cell? ⟨w3.heap.size, 0, none⟩ = some (.int .i64 vd) ∧ w'.cell? ⟨w3.heap.size, 1, none⟩ = some (.string rs) ∧ w'.cell? ⟨w3.heap.size, 2, none⟩ = some (.int .i64 pl) ∧ w'.cell? ⟨w3.heap.size, 3, none⟩ = some (.bool false))
          (first | with_reducible exact HJ.out.keep | with_reducible exact HJ.out.drew.keep | go_keep)
          (first
            | (go_at_call 15; (with_reducible refine (HS.out _ (by first | exact F3.out | exact F3.out.drew)).mono ?_); rintro e w6 ⟨rfl, hE, hM⟩
               have HJ := Lib.hid (show JdW w w3.heap.size vd rs pl w6 from by first | exact HJ.out.step hM hE.below HNE.out | exact HJ.out.drew.step hM hE.below HNE.out)
               have E6 := Lib.hid hE
               clear hE hM)
            | (go_at_call 12; (with_reducible refine (HE1.out _ _ E6.out).mono ?_); rintro e wx ⟨rfl, rfl⟩)
            | (go_at_call 13; (with_reducible refine (HE2.out _ _ E6.out).mono ?_); rintro e wx ⟨rfl, rfl⟩))
        all_goals
          go_wp2
          go_region_held3 (fun w' => w'.cell? ⟨w3.heap.size, 0, none⟩ = some (.int .i64 vd) ∧ w'.cell? ⟨w3.heap.size, 1, none⟩ = some (.string rs) ∧ w'.cell? ⟨w3.heap.size, 2, none⟩ = some (.int .i64 pl) ∧ w'.cell? ⟨w3.heap.size, 3, none⟩ = some (.bool false))
            (first | with_reducible exact HJ.out.keep | with_reducible exact HJ.out.drew.keep | go_keep)
            (first
              | (go_at_call 10; (with_reducible refine (HE4.out _ (by first | exact E6.out | exact E6.out.drew)).mono ?_); rintro e w7 ⟨rfl, hE, hM⟩
                 have HJ := Lib.hid (show JdW w w3.heap.size vd rs pl w7 from by first | exact HJ.out.step hM hE.below HNE.out | exact HJ.out.drew.step hM hE.below HNE.out)
                 have E7 := Lib.hid hE
                 clear hE hM)
              | (go_at_call 15; (with_reducible refine (HE3.out _ _ E7.out).mono ?_); rintro e wx ⟨rfl, rfl⟩)
              | (go_at_call 13; (with_reducible refine (HE2.out _ _ E7.out).mono ?_); rintro e wx ⟨rfl, rfl⟩)
              | (go_at_call 14; (with_reducible refine (HE5.out _ E7.out).mono ?_); rintro e wx ⟨rfl, rfl⟩)
              | (go_at_call 8; (with_reducible refine (HL.out _).mono ?_); rintro e w8 ⟨rfl, b1⟩
                 have HJ := Lib.hid (HJ.out.to b1)
                 clear b1))
          all_goals
            go_wp2
            go_ret
            exact ⟨rfl, HJ.out.below⟩
theorem lexerFeeds_any (A : Option Addr) (n c : Nat) (lp : Nat → ByteArray) (d : Int) (w : World) (h : TxCame w A n lp) (hn : n ≤ 9223372036854775807) :
    Calls Tryz.prog 4 #[.slice A n c, .int .i64 d] w fun e w' => e = .returned (.bool true) ∧ Below w.heap.size w w' := by
  by_cases h0 : d < 0 ∨ 200 < d
  · exact lfeeds_out A n c d w h0
  · obtain ⟨D, rfl⟩ : ∃ D : Nat, d = (D : Nat) := ⟨d.toNat, by omega⟩
    exact lfeeds_in A n c lp D w h hn (by omega)
end Go.Proofs.YtbojbkpplejdmaaGreat
