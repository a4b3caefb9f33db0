/-
  What the document's own Whole and Begun of layer 27 answer: the state and the place of all bytes (whoJ). Condition: the text is no longer than a length can be.
  lives of layer 29; the laws LexerJson and LexerNone return true of every input. Condition: the texts are as long as a length can be.
  From a walk to a law's statement: where a call returns true, and nothing older has turned, the row's post holds. Conditions: those of the lemma's hypotheses.
-/
import Derived.Test.YtbojbkpplejdmaaZ19
import Derived.Test.YtbojbkpplejdmaaZ17
import Derived.RegionTactic
import Derived.BigRegion
import Derived.Test.YtbojbkpplejdmaaRows
import Derived.ProofKit
import Derived.WideKeyArgs
import Derived.Carry
import Derived.Lib.SmallJoins
namespace Go.Proofs.Ytbojbkpplejdmaa
open Go.RowKit

theorem both27 {s : ByteArray} (hs : s.size ≤ 4611686018427387904) (f : Nat) : ValH s f ∧ LisH s f := by
  induction f using Nat.strongRecOn with
  | ind f ih =>
    refine ⟨?_, ?_⟩
    · cases f with
      | zero => intro k d W _ _ h; omega
      | succ f => exact value_step hs (ih f (Nat.lt_succ_self f)).2
    · intro k d named W hk hd hf
      cases named with
      | false => exact list_plain hs (fun g hg => (ih g hg).1) k d W hk hd hf
      | true => exact list_named hs (fun g hg => (ih g hg).1) k d W hk hd hf
theorem said_bd {s : ByteArray} {r : List UInt8} {f : Nat} {vs : Array Value} {w : World} (h : Calls Try.prog f vs w fun e w' => (∃ v, e = .returned v ∧ SaidE s (.bd r) v) ∧ Below w.heap.size w w') :
    Calls Try.prog f vs w fun e w' => e = .returned (sdV (s.size - r.length : Nat) 0) ∧ Below w.heap.size w w' ∧ Hid (r.length ≤ s.size) := by
  refine h.mono ?_
  rintro e w' ⟨⟨v, rfl, k, hk, rfl, rfl⟩, hb⟩
  rw [ll_len, show s.size - (s.size - k) = k from by omega]
  exact ⟨rfl, hb, Lib.hid (by omega)⟩
theorem said_dp {s : ByteArray} {r : List UInt8} {f : Nat} {vs : Array Value} {w : World} (h : Calls Try.prog f vs w fun e w' => (∃ v, e = .returned v ∧ SaidE s (.dp r) v) ∧ Below w.heap.size w w') :
    Calls Try.prog f vs w fun e w' => e = .returned (sdV (s.size - r.length : Nat) 3) ∧ Below w.heap.size w w' ∧ Hid (r.length ≤ s.size) := by
  refine h.mono ?_
  rintro e w' ⟨⟨v, rfl, k, hk, rfl, rfl⟩, hb⟩
  rw [ll_len, show s.size - (s.size - k) = k from by omega]
  exact ⟨rfl, hb, Lib.hid (by omega)⟩
theorem who_top (d : Nat) (s : ByteArray) : whoJ d s = match topE (dscE (2 * s.size + 1) none d (LL s 0)) with
    | (x, r) => (x, if x == 0 || x == 3 then (s.size : Int) - (r.length : Int) else -1) := by
  unfold whoJ
  rw [ans_top d s.data.toList (f := 2 * s.size + 1) (by simp), ll_zero]

set_option maxHeartbeats 4000000 in
set_option maxRecDepth 10000 in
theorem whole27_any (s : ByteArray) (d : Nat) (w : World) (hs : s.size ≤ 4611686018427387904) (hd : d ≤ 200) :
    Calls Try.prog 6 #[.string s, .int .i64 (d : Nat)] w fun e w' => e = .returned (.tuple #[.int .i64 (whoJ d s).1, .int .i64 (whoJ d s).2]) ∧ Below w.heap.size w w' := by
  have hV : ∀ W, Calls Try.prog 15 #[.string s, .int .i64 0, .int .i64 (d : Nat)] W fun e w' => (∃ v, e = .returned v ∧ SaidE s (dscE (2 * s.size + 1) none d (LL s 0)) v) ∧ Below W.heap.size W w' := fun W =>
    (both27 hs (2 * s.size + 1)).1 0 d W (Nat.zero_le _) hd (by omega)
  obtain ⟨x, hx⟩ : ∃ x, x = (whoJ d s).1 := ⟨_, rfl⟩
  obtain ⟨y, hy⟩ : ∃ y, y = (whoJ d s).2 := ⟨_, rfl⟩
  rw [← hx, ← hy]
  rw [who_top] at hx hy
  cases hE : dscE (2 * s.size + 1) none d (LL s 0) with
  | op =>
    rw [hE] at hV hx hy
    have ex : x = 1 := hx
    have ey : y = -1 := hy
    subst ex ey
    have HV := Lib.hid (fun W => (hV W).mono fun e w' h => show ∃ a : Int, e = .returned (sdV a 1) ∧ Below W.heap.size W w' by obtain ⟨⟨v, rfl, a, rfl⟩, hb⟩ := h; exact ⟨a, rfl, hb⟩)
    clear hV hx hy hE
    go_enter Try.func6, Try.ntmps6
    go_wp2_with (go_at_call 15; (with_reducible refine (HV.out _).mono ?_); rintro e w1 ⟨a, rfl, hb⟩; have HB := Lib.hid hb; clear hb)
    go_ret2
    exact ⟨rfl, HB.out.alloc HB.out.size _⟩
  | bd r =>
    rw [hE] at hV hx hy
    have ex : x = 0 := hx
    have HY := Lib.hid (show y = (s.size : Int) - (r.length : Int) from hy)
    subst ex
    have HV := Lib.hid (fun W => said_bd (hV W))
    clear hV hx hy hE
    obtain ⟨n, hn⟩ : ∃ n, n = s.size - r.length := ⟨_, rfl⟩
    rw [← hn] at HV
    have HN := Lib.hid hn
    clear hn
    go_enter Try.func6, Try.ntmps6
    go_wp2_with (go_at_call 15; (with_reducible refine (HV.out _).mono ?_); rintro e w1 ⟨rfl, hb, HL⟩; have HB := Lib.hid hb; clear hb)
    go_quiet (fail)
    go_wp2
    go_ret2
    refine ⟨?_, Below.drewN' (HB.out.alloc HB.out.size _) _⟩
    rw [HY.out, show (s.size : Int) - (r.length : Int) = (n : Int) from by have h1 := HN.out; have h2 := HL.out; omega]
    rfl
  | dp r =>
    rw [hE] at hV hx hy
    have ex : x = 3 := hx
    have HY := Lib.hid (show y = (s.size : Int) - (r.length : Int) from hy)
    subst ex
    have HV := Lib.hid (fun W => said_dp (hV W))
    clear hV hx hy hE
    obtain ⟨n, hn⟩ : ∃ n, n = s.size - r.length := ⟨_, rfl⟩
    rw [← hn] at HV
    have HN := Lib.hid hn
    clear hn
    go_enter Try.func6, Try.ntmps6
    go_wp2_with (go_at_call 15; (with_reducible refine (HV.out _).mono ?_); rintro e w1 ⟨rfl, hb, HL⟩; have HB := Lib.hid hb; clear hb)
    go_quiet (fail)
    go_wp2
    go_ret2
    refine ⟨?_, Below.drewN' (HB.out.alloc HB.out.size _) _⟩
    rw [HY.out, show (s.size : Int) - (r.length : Int) = (n : Int) from by have h1 := HN.out; have h2 := HL.out; omega]
    rfl
  | wl r =>
    rw [hE] at hV hx hy
    obtain ⟨j, hj⟩ : ∃ j, j = s.size - r.length := ⟨_, rfl⟩
    have HV := Lib.hid (fun W => said_go (hV W) hj)
    have lj : j ≤ s.size := by omega
    clear hV hE
    by_cases hr : r = LL s j
    · obtain ⟨hJ, hjk, lk⟩ := skP_is lj
      have HK := Lib.hid (fun W => skip27_at s j W lj hs)
      obtain ⟨k, hk⟩ : ∃ k, k = skP s j := ⟨_, rfl⟩
      rw [← hk] at HK hJ hjk lk
      rw [← hr] at hJ
      by_cases hlt : k < s.size
      · have hC := hJ.symm.trans (ll_cons hlt)
        have hT : topE (.wl r) = (0, LL s k) := by
          show (match r.dropWhile whiB with | [] => ((2 : Int), ([] : List UInt8)) | b :: r' => (0, b :: r')) = _
          rw [hC, ll_cons hlt]
        rw [hT] at hx hy
        have ex : x = 0 := hx
        have ey : y = (k : Int) := by
          have h : y = (s.size : Int) - ((LL s k).length : Int) := hy
          rw [h, ll_len]
          omega
        subst ex ey
        clear hC hT hx hy hJ hr hj hk
        go_enter Try.func6, Try.ntmps6
        go_wp2_with (first
          | (go_at_call 15; (with_reducible refine (HV.out _).mono ?_); rintro e w1 ⟨rfl, HRV, hb⟩; have HB := Lib.hid hb; clear hb)
          | (go_at_call 16; (with_reducible refine (HK.out _).mono ?_); rintro e w2 ⟨rfl, rfl⟩))
        go_ret2
        exact ⟨rfl, HB.out.alloc HB.out.size _⟩
      · obtain rfl : k = s.size := by omega
        have hC := hJ.symm.trans (ll_nil (Nat.le_refl _))
        have hT : topE (.wl r) = (2, []) := by
          show (match r.dropWhile whiB with | [] => ((2 : Int), ([] : List UInt8)) | b :: r' => (0, b :: r')) = _
          rw [hC]
        rw [hT] at hx hy
        have ex : x = 2 := hx
        have ey : y = -1 := hy
        subst ex ey
        clear hC hT hx hy hJ hr hj hk
        go_enter Try.func6, Try.ntmps6
        go_wp2_with (first
          | (go_at_call 15; (with_reducible refine (HV.out _).mono ?_); rintro e w1 ⟨rfl, HRV, hb⟩; have HB := Lib.hid hb; clear hb)
          | (go_at_call 16; (with_reducible refine (HK.out _).mono ?_); rintro e w2 ⟨rfl, rfl⟩))
        go_ret2
        exact ⟨rfl, HB.out.alloc HB.out.size _⟩
    · clear hx hy hj
      go_enter Try.func6, Try.ntmps6
      go_wp2_with (go_at_call 15; (with_reducible refine (HV.out _).mono ?_); rintro e w1 ⟨rfl, HRV, hb⟩; exact absurd HRV.out hr)

/-- Whether something came but what parts. -/
def bgnB (s : ByteArray) : Bool := !s.data.toList.all whiB
end Go.Proofs.Ytbojbkpplejdmaa
namespace Go.Proofs.Ytbojbkpplejdmaa
open Go.RowKit

def lexA : ByteArray := ⟨#[120, 61, 49, 59]⟩
def lexB : ByteArray := ⟨#[91, 49, 93]⟩
theorem lexA_who : jdgO (whoV 9 lexA false) = .agg #[.int .i64 1, .string ⟨#[115, 99, 114, 105, 112, 116]⟩, .int .i64 4, .bool false] := by kernel_rfl
theorem lexB_who : jdgO (whoV 9 lexB true) = .agg #[.int .i64 2, .string ⟨#[106, 115, 111, 110]⟩, .int .i64 3, .bool false] := by kernel_rfl
set_option maxHeartbeats 4000000 in
theorem xlives_any (w : World) : Calls Try.prog 7 #[] w fun e w' => e = .returned (.bool true) ∧ Below w.heap.size w w' := by
  have hz4 := Try.zeroJudged
  have HA : Hid (∀ W, Calls Try.prog 17 #[.string ⟨#[120, 61, 49, 59]⟩, .int .i64 9, .bool false] W fun e w' => e = .returned (.agg #[.int .i64 1, .string ⟨#[115, 99, 114, 105, 112, 116]⟩, .int .i64 4, .bool false]) ∧ Below W.heap.size W w') := Lib.hid fun W => by
    have h := xwhole_any lexA 9 false W (by decide)
    rw [show min 9 200 = 9 from rfl, lexA_who] at h
    exact h
  have HB : Hid (∀ W, Calls Try.prog 17 #[.string ⟨#[91, 49, 93]⟩, .int .i64 9, .bool true] W fun e w' => e = .returned (.agg #[.int .i64 2, .string ⟨#[106, 115, 111, 110]⟩, .int .i64 3, .bool false]) ∧ Below W.heap.size W w') := Lib.hid fun W => by
    have h := xwhole_any lexB 9 true W (by decide)
    rw [show min 9 200 = 9 from rfl, lexB_who] at h
    exact h
  go_enter Try.func7, Try.ntmps7
  go_wp2_with (first
    | (go_at_call 17; (with_reducible refine (HA.out _).mono ?_); rintro e w1 ⟨rfl, hb1⟩; have B1 := Lib.hid hb1; clear hb1)
    | (go_at_call 17; (with_reducible refine (HB.out _).mono ?_); rintro e w2 ⟨rfl, hb2⟩; have B2 := Lib.hid (below_on B1.out hb2); clear hb2))
  go_ret
  exact ⟨rfl, (B2.out.alloc B2.out.size _).alloc (Nat.le_trans B2.out.size (by simp)) _⟩

/-! What is JSON whole. -/
theorem vdF_json {D : Nat} {s x : ByteArray} {y : List UInt8} (h : (whoJ D s).1 = 2) (hl : s.data.toList = x.data.toList ++ y) : (vdF D x != 1) = true := by
  obtain ⟨q, hq⟩ := json_run h
  unfold vdF
  cases hf : fstV D [] x.data.toList with
  | none => rfl
  | some r =>
    obtain ⟨c, n⟩ := r
    have := json_first hq hl hf
    subst this
    rfl
theorem who_json {D c k : Nat} {s : ByteArray} (h : (whoJ D s).1 = 2) (hw : whoV D s true = some (c, k)) : vdV c = 2 := by
  unfold whoV at hw
  cases hf : fstV D [] s.data.toList with
  | none =>
    rw [hf] at hw
    injection hw with hw
    injection hw with h1 h2
    rw [← h1, json_end h]
    rfl
  | some r =>
    obtain ⟨c', n⟩ := r
    rw [hf] at hw
    injection hw with hw
    injection hw with h1 h2
    obtain ⟨q, hq⟩ := json_run h
    have := json_first (y := []) hq (List.append_nil _).symm hf
    rw [← h1, this]
    rfl
theorem cut_join {u : ByteArray} {k : Nat} (hk : k ≤ u.size) : u.extract 0 k ++ u.extract k u.size = u := by
  have := rest29 (T := ⟨#[]⟩) (t := u) hk
  rw [empty_app29, empty_app29] at this
  exact this.symm

set_option maxHeartbeats 8000000 in
set_option maxRecDepth 10000 in
theorem lexerJson_any (s : ByteArray) (n : Nat) (w : World) (hs : s.size ≤ 9223372036854775807) (hn : n ≤ 255) :
    Calls Try.prog 3 #[.string s, .int .u8 (n : Nat)] w fun e w' => e = .returned (.bool true) ∧ Below w.heap.size w w' := by
  have HC0 := Lib.hid (fun W => cut_any s 150 W hs)
  have hu := cutB_size s 150
  generalize cutB s 150 = u at *
  have HC : Hid (∀ W, Calls Try.prog 5 #[.string s, .int .i64 150] W fun e w' => e = .returned (.string u) ∧ W = w') := HC0
  have HR : Hid (∀ W, Calls Try.prog 6 #[.string u, .int .i64 200] W fun e w' => e = .returned (.tuple #[.int .i64 (whoJ 200 u).1, .int .i64 (whoJ 200 u).2]) ∧ Below W.heap.size W w') := Lib.hid (fun W => whole27_any u 200 W (by omega) (by omega))
  have HL := Lib.hid xlives_any
  clear HC0
  cases hj : ((whoJ 200 u).1 != 2) with
  | true =>
    generalize (whoJ 200 u).1 = a at *
    generalize (whoJ 200 u).2 = b at *
    go_enter Try.func3, Try.ntmps3
    go_wp2_with (first
      | (go_at_call 5; (with_reducible refine (HC.out _).mono ?_); rintro e w1 ⟨rfl, rfl⟩)
      | (go_at_call 6; (with_reducible refine (HR.out _).mono ?_); rintro e w2 ⟨rfl, hb⟩; have B2 := Lib.hid hb; clear hb)
      | (go_at_call 7; (with_reducible refine (HL.out _).mono ?_); rintro e w6 ⟨rfl, hb⟩; have B6 := Lib.hid (below_on B2.out hb); clear hb))
    go_ret
    exact ⟨rfl, B6.out⟩
  | false =>
    have hj2 : (whoJ 200 u).1 = 2 := by rw [bne_eq_false_iff_eq] at hj; exact hj
    rw [hj2] at HR
    obtain ⟨k, hk⟩ : ∃ k, k = n % (u.size + 1) := ⟨_, rfl⟩
    have gk : ((n : Nat) : Int) % ((u.size : Int) + 1) = (k : Int) := by
      have e : ((u.size : Int) + 1) = ((u.size + 1 : Nat) : Int) := by omega
      rw [e, hk]
      exact (Int.natCast_emod n (u.size + 1)).symm
    have hku : k ≤ u.size := by have := Nat.mod_lt n (show 0 < u.size + 1 by omega); omega
    have g0 : (((u.size : Int) + 1) == 0) = false := by rw [beq_eq_false_iff_ne]; omega
    have hus : u.size ≤ 9223372036854775806 := by omega
    have HN : Hid (∀ W, Calls Try.prog 8 #[.int .i64 200] W fun e w' => ∃ v, e = .returned (.tuple #[v, .int .i64 0]) ∧ FreshX W w' 200 v) := Lib.hid (fun W => xnew_ok 200 W (by omega))
    have ta := vdF_json (D := 200) (s := u) (x := u.extract 0 k) (y := (u.extract k u.size).data.toList) hj2 (by rw [← app_toList, cut_join hku])
    have tb := vdF_json (D := 200) (s := u) (x := u) (y := []) hj2 (List.append_nil _).symm
    have hx1 : (u.extract 0 k).size = k := by rw [ByteArray.size_extract]; omega
    have hx2 : (u.extract k u.size).size = u.size - k := by rw [ByteArray.size_extract]; omega
    have H1 : Hid (∀ mb db sb W, FdX w W mb db sb 200 0 ⟨#[]⟩ → Calls Try.prog 9 #[mptr mb, .string (u.extract 0 k)] W fun e w' => e = .returned (.int .i64 (vdF 200 (u.extract 0 k))) ∧ FdX w w' mb db sb 200 k (u.extract 0 k)) := Lib.hid fun mb db sb W f => by
      have h := fd_feed f (u.extract 0 k) (by show 0 + _ ≤ _; omega) (by omega)
      rw [empty_app29, Nat.zero_add, hx1] at h
      exact h.mono fun _ _ q => ⟨q.1, q.2.1⟩
    have H2 : Hid (∀ mb db sb W, FdX w W mb db sb 200 k (u.extract 0 k) → Calls Try.prog 9 #[mptr mb, .string (u.extract k u.size)] W fun e w' => e = .returned (.int .i64 (vdF 200 u)) ∧ FdX w w' mb db sb 200 u.size u) := Lib.hid fun mb db sb W f => by
      have h := fd_feed f (u.extract k u.size) (by omega) (by omega)
      rw [cut_join hku, hx2, show k + (u.size - k) = u.size from by omega] at h
      exact h.mono fun _ _ q => ⟨q.1, q.2.1⟩
    have H3 : Hid (∀ mb db sb W, FdX w W mb db sb 200 u.size u → Calls Try.prog 10 #[mptr mb] W fun e w' => e = .returned (.int .i64 2) ∧ Below w.heap.size w w') := Lib.hid fun mb db sb W f => by
      obtain ⟨c, k', hc, _⟩ := xstop_any f.st
      have h := fd_stop f hc
      rw [who_json hj2 hc] at h
      exact h.mono fun _ _ q => ⟨q.1, q.2.1.below⟩
    clear hk hj hj2 hx1 hx2
    generalize vdF 200 (u.extract 0 k) = va at *
    generalize vdF 200 u = vb at *
    generalize (whoJ 200 u).2 = b at *
    go_enter Try.func3, Try.ntmps3
    go_wp2_with (first
      | (go_at_call 5; (with_reducible refine (HC.out _).mono ?_); rintro e w1 ⟨rfl, rfl⟩)
      | (go_at_call 6; (with_reducible refine (HR.out _).mono ?_); rintro e w2 ⟨rfl, hb⟩; have B2 := Lib.hid hb; clear hb)
      | (go_at_call 8; (with_reducible refine (HN.out _).mono ?_); rintro e w3 ⟨v, rfl, hf⟩; obtain ⟨mb, db, sb, rfl, hf2⟩ := FdX.new hf B2.out; have F3 := Lib.hid hf2; clear hf hf2))
    go_region_with (first
      | (go_at_call 9; (with_reducible refine (H1.out _ _ _ _ (by first | exact F3.out | exact F3.out.drew)).mono ?_); rintro e w4 ⟨rfl, hf⟩; have F4 := Lib.hid hf; clear hf)
      | (go_at_call 9; (with_reducible refine (H2.out _ _ _ _ (by first | exact F4.out | exact F4.out.drew)).mono ?_); rintro e w5 ⟨rfl, hf⟩; have F5 := Lib.hid hf; clear hf))
    all_goals
      go_wp2_with (first
        | (go_at_call 10; (with_reducible refine (H3.out _ _ _ _ (by first | exact F5.out | exact F5.out.drew)).mono ?_); rintro e w6 ⟨rfl, hb⟩; have B6 := Lib.hid hb; clear hb)
        | (go_at_call 7; (with_reducible refine (HL.out _).mono ?_); rintro e w7 ⟨rfl, hb⟩; have B7 := Lib.hid (below_on B6.out hb); clear hb))
      go_ret
      exact ⟨rfl, B7.out⟩

set_option maxHeartbeats 4000000 in
theorem lexerNone_any (s : ByteArray) (w : World) :
    Calls Try.prog 4 #[.string s] w fun e w' => e = .returned (.bool true) ∧ Below w.heap.size w w' := by
  have HL := Lib.hid xlives_any
  have HF := Lib.hid (fun W => xfeed_nil s W)
  have HE := Lib.hid xend_nil
  have HV := Lib.hid xverdict_nil
  have HR := Lib.hid xreason_nil
  have HA := Lib.hid xat_nil
  have HS := Lib.hid xseen_nil
  go_enter Try.func4, Try.ntmps4
  go_wp2_with (first
    | (go_at_call 9; (with_reducible refine (HF.out _).mono ?_); rintro e w1 ⟨rfl, rfl⟩)
    | (go_at_call 10; (with_reducible refine (HE.out _).mono ?_); rintro e w1 ⟨rfl, rfl⟩)
    | (go_at_call 11; (with_reducible refine (HV.out _).mono ?_); rintro e w1 ⟨rfl, rfl⟩)
    | (go_at_call 12; (with_reducible refine (HR.out _).mono ?_); rintro e w1 ⟨rfl, rfl⟩)
    | (go_at_call 13; (with_reducible refine (HA.out _).mono ?_); rintro e w1 ⟨rfl, rfl⟩)
    | (go_at_call 14; (with_reducible refine (HS.out _).mono ?_); rintro e w1 ⟨rfl, rfl⟩)
    | (go_at_call 7; (with_reducible refine (HL.out _).mono ?_); rintro e w6 ⟨rfl, hb⟩))
  go_ret
  exact ⟨rfl, hb⟩
end Go.Proofs.Ytbojbkpplejdmaa
namespace Go.Proofs.Ytbojbkpplejdmaa
open Go.ChangeShapes Go.WideShapes Go.ChangeAt Go.RowKit Go.Joins

theorem trodAll_len {H : Type} {enc : TypeId × Value → H} {P : Program} {w : World} {base : Nat} {spare : Nat → Bool} {held : Bool} :
    ∀ (ts : List TypeId) (vs : List Value) (ds : List (DataW H)) (ps : List MemPlace), DataW.TrodAll enc P w base spare held ts vs ds ps → ds.length = ts.length
  | [], [], [], _, _ => rfl
  | _ :: ts, _ :: vs, _ :: ds, _, h => by
    obtain ⟨p, q, _, h2, _⟩ := h
    simpa using trodAll_len ts vs ds q h2
  | [], _ :: _, _, _, h => by cases h
  | [], [], _ :: _, _, h => by cases h
  | _ :: _, [], _, _, h => by cases h
  | _ :: _, _ :: _, [], _, h => by cases h

theorem trodAll_below {H : Type} {enc : TypeId × Value → H} {P : Program} (hl : laidOutB P = true) {W W' : World} (hb : Below W.heap.size W W') :
    ∀ (ts : List TypeId) (vs : List Value) (ds : List (DataW H)) (ps : List MemPlace), DataW.TrodAll enc P W 0 (fun _ => true) true ts vs ds ps →
      (∀ t ∈ ts, P.readableRec t = true ∧ t < P.types.size) → (∀ x ∈ ps, x.block < W.heap.size) →
      DataW.TrodAll enc P W' 0 (fun b => decide (b < W.heap.size)) true ts vs ds ps
  | [], [], [], _, h, _, _ => h
  | t :: ts, v :: vs, d :: ds, ps, h, hr, hlt => by
    obtain ⟨p, q, h1, h2, rfl⟩ := h
    exact ⟨p, q, Below.trod hl (hr t (by simp)).1 (hr t (by simp)).2 h1 hb (fun x hx => hlt x (by simp [hx])),
      trodAll_below hl hb ts vs ds q h2 (fun t ht => hr t (by simp [ht])) (fun x hx => hlt x (by simp [hx])), rfl⟩
  | [], _ :: _, _, _, h, _, _ => by cases h
  | [], [], _ :: _, _, h, _, _ => by cases h
  | _ :: _, [], _, _, h, _, _ => by cases h
  | _ :: _, _ :: _, [], _, h, _, _ => by cases h

theorem law_lifted {C : Checked} {os : Os} {f : FuncId} {fn : Func} {s : ChangeSpec} {tb : TypeId} {H : Type} {enc : TypeId × Value → H}
    (own : ownKnob C.prog.godebug = none) (started : os.Started) (noInit : C.prog.inits.idxOf? f = none) (hfn : C.prog.funcs[f]? = some fn) (hl : laidOutB C.prog = true)
    (hvars : s.vars = []) (hrt : fn.resultTypes = #[tb]) (htb : C.prog.underlying tb = some .bool)
    (hread : fn.params.toList.all (fun t => C.prog.readableRec t && decide (t < C.prog.types.size)) = true)
    (hs : ∀ ds : List (DataW H), ds.length = fn.params.toList.length → (s.fn H (ds ++ [])).results = [.lit (.bool true)] ∧ (s.fn H (ds ++ [])).args = ds ∧ (s.fn H (ds ++ [])).vars = [])
    (witness : ∃ (w : World) (tape : Tape) (i : Input), w.os = os ∧ (w.forCall tape i).Shaped C.prog ∧ i.vars = [] ∧ Input.okWide C.prog (w.forCall tape i) .any w.heap.size f i ∧
      s.pre6 enc C.prog fn [] false (w.forCall tape i).memory i.args ∧ ({} : Assume).holds C.prog (lone (Frame.enter C.prog f i.args .normal) [] (w.forCall tape i)))
    (hcall : ∀ (W : World) (base : Nat) (args : Array Value) (ds : List (DataW H)) (p : List MemPlace),
      (∀ (j : Nat) t v, fn.params[j]? = some t → args[j]? = some v → Value.okWide C.prog W .any base t v) →
      DataW.TrodAll enc C.prog W 0 (fun _ => true) true fn.params.toList args.toList ds p → (∀ x ∈ p, x.block < W.heap.size) →
      Calls C.prog f args W fun e W' => e = .returned (.bool true) ∧ Below W.heap.size W W') :
    ReturnsInHanded {} C os f .any (s.pre6 enc C.prog fn [] false) (s.post enc C.prog fn false true false false) := by
  refine returnsInHanded_of_change (C := C) own started noInit hfn witness ?_
  intro W base args ds gs before hval hW _ _
  have hW' := hW
  obtain ⟨p, q, hA, hV, rfl, hfz, hnd⟩ := hW
  rw [hvars] at hV
  obtain ⟨rfl, rfl⟩ := trodVars_none hV
  simp only [List.append_nil] at hW'
  have hlt : ∀ x ∈ p, x.block < W.heap.size := fun x hx => by simpa using hW'.lt x hx
  refine (hcall W base args ds p hval hA hlt).mono fun e W' ⟨he, hb⟩ => ?_
  subst he
  obtain ⟨e1, e2, e3⟩ := hs ds (trodAll_len _ _ _ _ hA)
  refine ⟨_, rfl, ds, [], p, [], p, [], hW', ?_, ?_, ?_, hb.frame _, fun h => by cases h⟩
  · rw [e1, hrt]
    exact trodAll_mk1 (shut_bool htb true)
  · rw [e2]
    simp only [List.all_eq_true, Bool.and_eq_true, decide_eq_true_eq] at hread
    exact trodAll_below hl hb _ _ _ _ hA (fun t ht => hread t ht) hlt
  · rw [e3, hvars]
    rfl

/-- A number that can be read as a byte is one's. -/
theorem byte_of {n : Int} (h : (Lit.int .u8 n).wf = true) : ∃ b : UInt8, n = (b.toNat : Int) := by
  have h' : 0 ≤ n ∧ n < 256 := by
    have e1 : IntKind.u8.min = 0 := by kernel_rfl
    have e2 : IntKind.u8.max = 255 := by kernel_rfl
    simp [Lit.wf, e1, e2] at h
    omega
  refine ⟨UInt8.ofNat n.toNat, ?_⟩
  rw [UInt8.toNat_ofNat']
  omega

theorem Try.own : ownKnob Try.prog.godebug = none := by kernel_rfl
theorem Try.laidOut : laidOutB Try.prog = true := by kernel_rfl

end Go.Proofs.Ytbojbkpplejdmaa
