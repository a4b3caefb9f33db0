/-
  What the document's own Whole and Begun of layer 27 answer: the state and the place of all bytes (whoJ). Condition: the text is no longer than a length can be.
  What the document's own Whole of layer 29 answers: the first place where it is told, or what is told at the end (whoV). Conditions: the text is no longer than a length can be; the depth is within its bounds.
  The walk of the document's own Whole of layer 29: the first place where it is told, or what is told at the end (whoV). Conditions: the text is no longer than a length can be; the depth is within its bounds.
-/
import Derived.Test.YtbojbkpplejdmaaGreatZ20
import Derived.Test.YtbojbkpplejdmaaGreatZ18
import Derived.Test.YtbojbkpplejdmaaGreatZ19
namespace Go.Proofs.YtbojbkpplejdmaaGreat
open Go.RowKit

theorem both27 {s : ByteArray} (hs : s.size ≤ 4611686018427387904) (f : Nat) : ValH s f ∧ LisH s f := by
  induction f using Nat.strongRecOn with
  | ind f ih =>
    refine ⟨?_, ?_⟩
    · cases f with
      | zero => intro k d W _ _ h; omega
      | succ f => exact value_step hs (ih f (Nat.lt_succ_self f)).2
    · intro k d named W hk hd hf
      cases named with
      | false => exact list_plain hs (fun g hg => (ih g hg).1) k d W hk hd hf
      | true => exact list_named hs (fun g hg => (ih g hg).1) k d W hk hd hf
theorem said_bd {s : ByteArray} {r : List UInt8} {f : Nat} {vs : Array Value} {w : World} (h : Calls Tryz.prog f vs w fun e w' => (∃ v, e = .returned v ∧ SaidE s (.bd r) v) ∧ Below w.heap.size w w') :
    Calls Tryz.prog f vs w fun e w' => e = .returned (sdV (s.size - r.length : Nat) 0) ∧ Below w.heap.size w w' ∧ Hid (r.length ≤ s.size) := by
  refine h.mono ?_
  rintro e w' ⟨⟨v, rfl, k, hk, rfl, rfl⟩, hb⟩
  rw [ll_len, show s.size - (s.size - k) = k from by omega]
  exact ⟨rfl, hb, Lib.hid (by omega)⟩
theorem said_dp {s : ByteArray} {r : List UInt8} {f : Nat} {vs : Array Value} {w : World} (h : Calls Tryz.prog f vs w fun e w' => (∃ v, e = .returned v ∧ SaidE s (.dp r) v) ∧ Below w.heap.size w w') :
    Calls Tryz.prog f vs w fun e w' => e = .returned (sdV (s.size - r.length : Nat) 3) ∧ Below w.heap.size w w' ∧ Hid (r.length ≤ s.size) := by
  refine h.mono ?_
  rintro e w' ⟨⟨v, rfl, k, hk, rfl, rfl⟩, hb⟩
  rw [ll_len, show s.size - (s.size - k) = k from by omega]
  exact ⟨rfl, hb, Lib.hid (by omega)⟩
theorem who_top (d : Nat) (s : ByteArray) : whoJ d s = match topE (dscE (2 * s.size + 1) none d (LL s 0)) with
    | (x, r) => (x, if x == 0 || x == 3 then (s.size : Int) - (r.length : Int) else -1) := by
  unfold whoJ
  rw [ans_top d s.data.toList (f := 2 * s.size + 1) (by simp), ll_zero]

set_option maxHeartbeats 4000000 in
set_option maxRecDepth 10000 in
theorem whole27_any (s : ByteArray) (d : Nat) (w : World) (hs : s.size ≤ 4611686018427387904) (hd : d ≤ 200) :
    Calls Tryz.prog 17 #[.string s, .int .i64 (d : Nat)] w fun e w' => e = .returned (.tuple #[.int .i64 (whoJ d s).1, .int .i64 (whoJ d s).2]) ∧ Below w.heap.size w w' := by
  have hV : ∀ W, Calls Tryz.prog 25 #[.string s, .int .i64 0, .int .i64 (d : Nat)] W fun e w' => (∃ v, e = .returned v ∧ SaidE s (dscE (2 * s.size + 1) none d (LL s 0)) v) ∧ Below W.heap.size W w' := fun W =>
    (both27 hs (2 * s.size + 1)).1 0 d W (Nat.zero_le _) hd (by omega)
  obtain ⟨x, hx⟩ : ∃ x, x = (whoJ d s).1 := ⟨_, rfl⟩
  obtain ⟨y, hy⟩ : ∃ y, y = (whoJ d s).2 := ⟨_, rfl⟩
  rw [← hx, ← hy]
  rw [who_top] at hx hy
  cases hE : dscE (2 * s.size + 1) none d (LL s 0) with
  | op =>
    rw [hE] at hV hx hy
    have ex : x = 1 := hx
    have ey : y = -1 := hy
    subst ex ey
    have HV := Lib.hid (fun W => (hV W).mono fun e w' h => show ∃ a : Int, e = .returned (sdV a 1) ∧ Below W.heap.size W w' by obtain ⟨⟨v, rfl, a, rfl⟩, hb⟩ := h; exact ⟨a, rfl, hb⟩)
    clear hV hx hy hE
    go_enter Tryz.func17, Tryz.ntmps17
    go_wp2_with (go_at_call 25; (with_reducible refine (HV.out _).mono ?_); rintro e w1 ⟨a, rfl, hb⟩; have HB := Lib.hid hb; clear hb)
    go_ret2
    exact ⟨rfl, HB.out.alloc HB.out.size _⟩
  | bd r =>
    rw [hE] at hV hx hy
    have ex : x = 0 := hx
    have HY := Lib.hid (show y = (s.size : Int) - (r.length : Int) from hy)
    subst ex
    have HV := Lib.hid (fun W => said_bd (hV W))
    clear hV hx hy hE
    obtain ⟨n, hn⟩ : ∃ n, n = s.size - r.length := ⟨_, rfl⟩
    rw [← hn] at HV
    have HN := Lib.hid hn
    clear hn
    go_enter Tryz.func17, Tryz.ntmps17
    go_wp2_with (go_at_call 25; (with_reducible refine (HV.out _).mono ?_); rintro e w1 ⟨rfl, hb, HL⟩; have HB := Lib.hid hb; clear hb)
    go_quiet (fail)
    go_wp2
    go_ret2
    refine ⟨?_, Below.drewN' (HB.out.alloc HB.out.size _) _⟩
    rw [HY.out, show (s.size : Int) - (r.length : Int) = (n : Int) from by have h1 := HN.out; have h2 := HL.out; omega]
    rfl
  | dp r =>
    rw [hE] at hV hx hy
    have ex : x = 3 := hx
    have HY := Lib.hid (show y = (s.size : Int) - (r.length : Int) from hy)
    subst ex
    have HV := Lib.hid (fun W => said_dp (hV W))
    clear hV hx hy hE
    obtain ⟨n, hn⟩ : ∃ n, n = s.size - r.length := ⟨_, rfl⟩
    rw [← hn] at HV
    have HN := Lib.hid hn
    clear hn
    go_enter Tryz.func17, Tryz.ntmps17
    go_wp2_with (go_at_call 25; (with_reducible refine (HV.out _).mono ?_); rintro e w1 ⟨rfl, hb, HL⟩; have HB := Lib.hid hb; clear hb)
    go_quiet (fail)
    go_wp2
    go_ret2
    refine ⟨?_, Below.drewN' (HB.out.alloc HB.out.size _) _⟩
    rw [HY.out, show (s.size : Int) - (r.length : Int) = (n : Int) from by have h1 := HN.out; have h2 := HL.out; omega]
    rfl
  | wl r =>
    rw [hE] at hV hx hy
    obtain ⟨j, hj⟩ : ∃ j, j = s.size - r.length := ⟨_, rfl⟩
    have HV := Lib.hid (fun W => said_go (hV W) hj)
    have lj : j ≤ s.size := by omega
    clear hV hE
    by_cases hr : r = LL s j
    · obtain ⟨hJ, hjk, lk⟩ := skP_is lj
      have HK := Lib.hid (fun W => skip27_at s j W lj hs)
      obtain ⟨k, hk⟩ : ∃ k, k = skP s j := ⟨_, rfl⟩
      rw [← hk] at HK hJ hjk lk
      rw [← hr] at hJ
      by_cases hlt : k < s.size
      · have hC := hJ.symm.trans (ll_cons hlt)
        have hT : topE (.wl r) = (0, LL s k) := by
          show (match r.dropWhile whiB with | [] => ((2 : Int), ([] : List UInt8)) | b :: r' => (0, b :: r')) = _
          rw [hC, ll_cons hlt]
        rw [hT] at hx hy
        have ex : x = 0 := hx
        have ey : y = (k : Int) := by
          have h : y = (s.size : Int) - ((LL s k).length : Int) := hy
          rw [h, ll_len]
          omega
        subst ex ey
        clear hC hT hx hy hJ hr hj hk
        go_enter Tryz.func17, Tryz.ntmps17
        go_wp2_with (first
          | (go_at_call 25; (with_reducible refine (HV.out _).mono ?_); rintro e w1 ⟨rfl, HRV, hb⟩; have HB := Lib.hid hb; clear hb)
          | (go_at_call 26; (with_reducible refine (HK.out _).mono ?_); rintro e w2 ⟨rfl, rfl⟩))
        go_ret2
        exact ⟨rfl, HB.out.alloc HB.out.size _⟩
      · obtain rfl : k = s.size := by omega
        have hC := hJ.symm.trans (ll_nil (Nat.le_refl _))
        have hT : topE (.wl r) = (2, []) := by
          show (match r.dropWhile whiB with | [] => ((2 : Int), ([] : List UInt8)) | b :: r' => (0, b :: r')) = _
          rw [hC]
        rw [hT] at hx hy
        have ex : x = 2 := hx
        have ey : y = -1 := hy
        subst ex ey
        clear hC hT hx hy hJ hr hj hk
        go_enter Tryz.func17, Tryz.ntmps17
        go_wp2_with (first
          | (go_at_call 25; (with_reducible refine (HV.out _).mono ?_); rintro e w1 ⟨rfl, HRV, hb⟩; have HB := Lib.hid hb; clear hb)
          | (go_at_call 26; (with_reducible refine (HK.out _).mono ?_); rintro e w2 ⟨rfl, rfl⟩))
        go_ret2
        exact ⟨rfl, HB.out.alloc HB.out.size _⟩
    · clear hx hy hj
      go_enter Tryz.func17, Tryz.ntmps17
      go_wp2_with (go_at_call 25; (with_reducible refine (HV.out _).mono ?_); rintro e w1 ⟨rfl, HRV, hb⟩; exact absurd HRV.out hr)

/-- Whether something came but what parts. -/
def bgnB (s : ByteArray) : Bool := !s.data.toList.all whiB
theorem drop_all27 : ∀ l : List UInt8, (l.dropWhile whiB = []) ↔ l.all whiB = true
  | [] => ⟨fun _ => rfl, fun _ => rfl⟩
  | b :: l => by
    rw [List.dropWhile_cons, List.all_cons]
    cases h : whiB b with
    | true =>
      rw [if_pos rfl, Bool.true_and]
      exact drop_all27 l
    | false =>
      rw [if_neg (by decide), Bool.false_and]
      exact ⟨fun h => (by cases h), fun h => (by cases h)⟩
theorem bgn_is (s : ByteArray) : decide (skP s 0 < s.size) = bgnB s := by
  obtain ⟨h1, _, h2⟩ := skP_is (s := s) (k := 0) (Nat.zero_le _)
  unfold bgnB
  cases ha : s.data.toList.all whiB with
  | true =>
    have h3 := (drop_all27 _).2 ha
    rw [← ll_zero, ← h1] at h3
    have h4 := congrArg List.length h3
    rw [ll_len, List.length_nil] at h4
    exact decide_eq_false (by omega)
  | false =>
    refine decide_eq_true ?_
    rcases Nat.lt_or_ge (skP s 0) s.size with h | h
    · exact h
    · rw [ll_nil h, ll_zero] at h1
      rw [(drop_all27 _).1 h1.symm] at ha
      cases ha
set_option maxHeartbeats 1000000 in
theorem begun27_any (s : ByteArray) (w : World) (hs : s.size ≤ 4611686018427387904) :
    Calls Tryz.prog 18 #[.string s] w fun e w' => e = .returned (.bool (bgnB s)) ∧ w = w' := by
  have HK : Hid (∀ W, Calls Tryz.prog 26 #[.string s, .int .i64 0] W fun e w' => e = .returned (.int .i64 (skP s 0 : Nat)) ∧ W = w') := Lib.hid fun W => skip27_at s 0 W (Nat.zero_le _) hs
  have HE := Lib.hid (bgn_is s)
  generalize skP s 0 = k at *
  go_enter Tryz.func18, Tryz.ntmps18
  go_wp2_with (go_at_call 26; (with_reducible refine (HK.out _).mono ?_); rintro e w2 ⟨rfl, rfl⟩)
  go_ret
  refine ⟨?_, rfl⟩
  rw [← HE.out]
  first | done | rfl | (congr 2; simp)
end Go.Proofs.YtbojbkpplejdmaaGreat
namespace Go.Proofs.YtbojbkpplejdmaaGreat
open Go.RowKit

theorem tel_some {x : Th} {bad : Int} {win : Bool} {h : Hs} (t : TelS x bad win h) : decide (0 ≤ bad) = x.1.isSome := by
  unfold TelS at t
  cases hx : x.1 with
  | some r => rw [hx] at t; exact decide_eq_true t
  | none =>
    rw [hx] at t
    have t1 : bad = -1 := t.1
    rw [t1]
    rfl
theorem tel_en {x : Th} {bad : Int} {win : Bool} {h : Hs} (t : TelS x bad win h) (hx : x.1.isSome = false) : h.en = x.2.2.2.2 := by
  unfold TelS at t
  cases hy : x.1 with
  | some r => rw [hy] at hx; cases hx
  | none => rw [hy] at t; exact t.2.2.2
theorem tel_sta {x : Th} {bad : Int} {win : Bool} {h : Hs} (t : TelS x bad win h) : (if 0 ≤ bad then (0 : Int) else if win || !h.op.isEmpty then 1 else 2) = staH x := by
  unfold TelS at t
  rw [said_state]
  cases hy : x.1 with
  | some r => rw [hy] at t; rw [if_pos t]; rfl
  | none =>
    rw [hy] at t
    obtain ⟨t1, t2, t3, _⟩ := t
    rw [t1, t2, t3]
    rfl
/-- What the loop's own tests tell of a beginning. -/
theorem vrd_ways {D n : Nat} {s : ByteArray} {bad : Int} {win : Bool} {h : Hs} (t : TelS (tolH D (s.extract 0 n)) bad win h) :
    (((whoJ D (s.extract 0 n)).1 == 3) = true ∧ vrdB D (s.data.toList.take n) = some 0)
    ∨ (((whoJ D (s.extract 0 n)).1 == 3) = false ∧ decide (0 ≤ bad) = true ∧ vrdB D (s.data.toList.take n) = some 1)
    ∨ (((whoJ D (s.extract 0 n)).1 == 3) = false ∧ decide (0 ≤ bad) = false ∧ ((whoJ D (s.extract 0 n)).1 == 0) = true ∧ decide ((0 : Int) < (h.en : Nat)) = true ∧ vrdB D (s.data.toList.take n) = some 2)
    ∨ (((whoJ D (s.extract 0 n)).1 == 3) = false ∧ decide (0 ≤ bad) = false ∧ ((whoJ D (s.extract 0 n)).1 == 0) = true ∧ decide ((0 : Int) < (h.en : Nat)) = false ∧ vrdB D (s.data.toList.take n) = none)
    ∨ (((whoJ D (s.extract 0 n)).1 == 3) = false ∧ decide (0 ≤ bad) = false ∧ ((whoJ D (s.extract 0 n)).1 == 0) = false ∧ vrdB D (s.data.toList.take n) = none) := by
  have e : s.data.toList.take n = (s.extract 0 n).data.toList := by rw [ll_extract, ll_zero, Nat.sub_zero]
  rw [e, vrd_doc, tel_some t]
  cases h3 : ((whoJ D (s.extract 0 n)).1 == 3) with
  | true => exact Or.inl ⟨rfl, rfl⟩
  | false =>
    cases hs : (tolH D (s.extract 0 n)).1.isSome with
    | true => exact Or.inr (Or.inl ⟨rfl, rfl, rfl⟩)
    | false =>
      have hen := tel_en t hs
      have hd : decide ((0 : Int) < (h.en : Nat)) = decide (0 < (tolH D (s.extract 0 n)).2.2.2.2) := by rw [← hen, decide_eq_decide]; omega
      rw [hd]
      cases h0 : ((whoJ D (s.extract 0 n)).1 == 0) with
      | false => exact Or.inr (Or.inr (Or.inr (Or.inr ⟨rfl, rfl, rfl, rfl⟩)))
      | true =>
        cases decide (0 < (tolH D (s.extract 0 n)).2.2.2.2) with
        | true => exact Or.inr (Or.inr (Or.inl ⟨rfl, rfl, rfl, rfl, rfl⟩))
        | false => exact Or.inr (Or.inr (Or.inr (Or.inl ⟨rfl, rfl, rfl, rfl, rfl⟩)))
end Go.Proofs.YtbojbkpplejdmaaGreat
namespace Go.Proofs.YtbojbkpplejdmaaGreat
open Go.RowKit

theorem ext29_size {s : ByteArray} {n : Nat} (h : n ≤ s.size) : (s.extract 0 n).size = n := by
  rw [ByteArray.size_extract]
  omega
theorem ext_full (s : ByteArray) : s.extract 0 s.size = s := by
  apply ByteArray.ext
  apply Array.toList_inj.1
  rw [ll_extract, ll_zero, Nat.sub_zero, List.take_of_length_le (by simp)]
theorem sread_ext {s : ByteArray} {D n : Nat} (W : World) (hn : n ≤ s.size) (hs : s.size ≤ 1152921504606846976) (hD : D ≤ 200) :
    Calls Tryz.prog 16 #[.string (s.extract 0 n), .int .i64 (D : Nat)] W fun e w' => ∃ (bad : Int) (win : Bool) (x : ByteArray) (pc : Int) (en : Nat) (la : Int) (br : Bool), e = .returned (.agg #[.int .i64 bad, .bool win, .string x, .int .i64 pc, .int .i64 (en : Nat), .int .i64 la, .bool br, .int .i64 (D : Nat)]) ∧ Hid (∃ h, TelS (tolH D (s.extract 0 n)) bad win h ∧ en = h.en) ∧ Hid (Below W.heap.size W w') := by
  refine (sread_any (s.extract 0 n) D W (by rw [ext29_size hn]; omega) hD).mono ?_
  rintro e w' ⟨⟨bad, win, h, rfl, ht⟩, hb⟩
  exact ⟨bad, win, opT h.op, h.pc, h.en, h.last, h.br, rfl, Lib.hid ⟨h, ht, rfl⟩, Lib.hid hb⟩
theorem sread_state {s : ByteArray} {D : Nat} (W : World) (hs : s.size ≤ 1152921504606846976) (hD : D ≤ 200) :
    Calls Tryz.prog 16 #[.string s, .int .i64 (D : Nat)] W fun e w' => ∃ (v : Value), e = .returned v ∧ Hid (Below W.heap.size W w') ∧ Hid (∀ W2, Calls Tryz.prog 19 #[v] W2 fun e w2 => e = .returned (.int .i64 (staH (tolH D s))) ∧ Below W2.heap.size W2 w2) := by
  refine (sread_any s D W hs hD).mono ?_
  rintro e w' ⟨⟨bad, win, h, rfl, ht⟩, hb⟩
  refine ⟨_, rfl, Lib.hid hb, Lib.hid fun W2 => ?_⟩
  have := sstate_any D bad win h W2
  rw [tel_sta ht] at this
  exact this
/-- Where looking for the first place stands. -/
def FstAt (D : Nat) (l : List UInt8) (k : Nat) : Prop := fstV D [] l = fstV D (l.take k) (l.drop k) ∧ vrdB D (l.take k) = none
theorem fstAt_zero {D : Nat} {l : List UInt8} : FstAt D l 0 := ⟨rfl, rfl⟩
theorem fstAt_go {D k : Nat} {s : ByteArray} (h : FstAt D s.data.toList k) (hk : k < s.size) (hv : vrdB D (s.data.toList.take (k + 1)) = none) : FstAt D s.data.toList (k + 1) := ⟨h.1.trans (fst_go (by simpa using hk) hv), hv⟩
theorem fstAt_hit {D k c : Nat} {s : ByteArray} (h : FstAt D s.data.toList k) (hk : k < s.size) (hv : vrdB D (s.data.toList.take (k + 1)) = some c) (ended : Bool) : whoV D s ended = some (c, k + 1) := by
  unfold whoV
  rw [h.1.trans (fst_hit (by simpa using hk) hv)]
theorem fstAt_skip {D k : Nat} {s : ByteArray} (h : FstAt D s.data.toList (k + 1)) (hk : k + 1 < s.size) (h1 : s[k + 1] = 32) (h2 : s[k] = 32) : FstAt D s.data.toList (k + 1 + 1) :=
  fstAt_go h hk (fst_skip (l := s.data.toList) (by simpa using hk) h1 h2 h.2)
theorem fstAt_end {D : Nat} {s : ByteArray} (h : FstAt D s.data.toList s.size) (ended : Bool) : whoV D s ended = if ended then some (endV D s, s.size) else none := by
  unfold whoV
  have e : fstV D [] s.data.toList = none := by
    rw [h.1, List.drop_eq_nil_of_le (by simp)]
    rfl
  rw [e]

set_option maxHeartbeats 16000000 in
set_option maxRecDepth 10000 in
theorem rwhole29_any (s : ByteArray) (D : Nat) (ended : Bool) (w : World) (hs : s.size ≤ 1152921504606846976) (hD : D ≤ 200) :
    Calls Tryz.prog 7 #[.string s, .int .i64 (D : Nat), .bool ended] w fun e w' => e = .returned (jdgO (whoV D s ended)) ∧ Below w.heap.size w w' := by
  have hz8 := Tryz.zeroSaid28
  have hz4 := Tryz.zeroJudged
  have hs62 : s.size ≤ 4611686018427387904 := by omega
  obtain ⟨q, hq⟩ : ∃ q, q = whoV D s ended := ⟨_, rfl⟩
  rw [← hq]
  have HQ := Lib.hid hq
  clear hq
  have HB0 := Lib.hid (show Below w.heap.size w (w.alloc (.cells zeroJ4 24)) from (Below.refl _ _).alloc (Nat.le_refl _) _)
  have HR0 := Lib.hid (show Blk (w.alloc (.cells zeroJ4 24)) w.heap.size 24 zeroJ4 from Blk.new _ _ _)
  have HDD := Lib.hid hD
  have HSS := Lib.hid hs
  have HRD := Lib.hid (fun n W hn => sread_ext (s := s) (D := D) (n := n) W hn hs hD)
  have HRS := Lib.hid (fun W => sread_state (s := s) (D := D) W hs hD)
  have HJW := Lib.hid (fun n (hn : n ≤ s.size) W => whole27_any (s.extract 0 n) D W (by rw [ext29_size hn]; omega) hD)
  have HJS := Lib.hid (fun W => whole27_any s D W hs62 hD)
  have HBG := Lib.hid (fun W => begun27_any s W hs62)
  go_enter Tryz.func7, Tryz.ntmps7
  go_wp2
  go_loopw [7] (fun i wr => ∃ n : Nat, 1 ≤ n ∧ n ≤ s.size + 1 ∧ i = .int .i64 n ∧ Hid (Blk wr w.heap.size 24 zeroJ4) ∧ Hid (Below w.heap.size w wr) ∧ Hid (FstAt D s.data.toList (n - 1))) (fun i _ => s.size + 1 - (intOf i).toNat)
  case atStart => exact ⟨1, Nat.le_refl _, by omega, rfl, HR0, HB0, Lib.hid fstAt_zero⟩
  case round =>
    obtain ⟨n, hn1, hn, rfl, HR, HB, HA⟩ := hrel
    clear HR0 HB0
    by_cases hlt : n ≤ s.size
    · have e1 : decide (((n : Nat) : Int) ≤ ((s.size : Nat) : Int)) = true := by rw [decide_eq_true_iff]; omega
      obtain ⟨k, hk⟩ : ∃ k, k = n - 1 := ⟨_, rfl⟩
      have g1 : ((n : Nat) : Int) - 1 = (k : Int) := by omega
      have hks : k < s.size := by omega
      have hn' : n = k + 1 := by omega
      rw [← hk] at HA
      have HAN : vrdB D (s.data.toList.take n) = none → Hid (FstAt D s.data.toList (n + 1 - 1)) := fun hv => Lib.hid (by rw [hn'] at hv ⊢; exact fstAt_go HA.out hks hv)
      have HAH : ∀ c, vrdB D (s.data.toList.take n) = some c → Hid (q = some (c, n)) := fun c hv => Lib.hid (by rw [HQ.out]; rw [hn'] at hv ⊢; exact fstAt_hit HA.out hks hv ended)
      have e32 : (s[k] == 32) = ((s[k].toNat : Int) == 32) := bE s[k] 32
      have hways : (∃ j : Nat, ∃ hj : j < s.size, ((n : Nat) : Int) - 2 = (j : Int) ∧ decide ((1 : Int) < (n : Int)) = true ∧ ((s[k].toNat : Int) == 32) = true ∧ ((s[j].toNat : Int) == 32) = true ∧ Hid (FstAt D s.data.toList (n + 1 - 1)))
          ∨ (decide ((1 : Int) < (n : Int)) = false)
          ∨ (decide ((1 : Int) < (n : Int)) = true ∧ ((s[k].toNat : Int) == 32) = false)
          ∨ (∃ j : Nat, ∃ hj : j < s.size, ((n : Nat) : Int) - 2 = (j : Int) ∧ decide ((1 : Int) < (n : Int)) = true ∧ ((s[k].toNat : Int) == 32) = true ∧ ((s[j].toNat : Int) == 32) = false) := by
        by_cases h1 : 1 < n
        · have d1 : decide ((1 : Int) < (n : Int)) = true := by rw [decide_eq_true_iff]; omega
          obtain ⟨j, hj⟩ : ∃ j, j = n - 2 := ⟨_, rfl⟩
          have hjs : j < s.size := by omega
          have hkj : k = j + 1 := by omega
          subst hkj
          have e33 : (s[j] == 32) = ((s[j].toNat : Int) == 32) := bE s[j] 32
          rw [← e32]
          cases hb1 : (s[j + 1] == 32) with
          | false => exact Or.inr (Or.inr (Or.inl ⟨d1, rfl⟩))
          | true =>
            cases hb2 : (s[j] == 32) with
            | false => exact Or.inr (Or.inr (Or.inr ⟨j, hjs, by omega, d1, rfl, by rw [← e33]; exact hb2⟩))
            | true => exact Or.inl ⟨j, hjs, by omega, d1, rfl, by rw [← e33]; exact hb2, Lib.hid (by rw [hn']; exact fstAt_skip HA.out hks (eq_of_beq hb1) (eq_of_beq hb2))⟩
        · exact Or.inr (Or.inl (by rw [decide_eq_false_iff_not]; omega))
      have HRN := Lib.hid (fun W => HRD.out n W hlt)
      have HJN := Lib.hid (fun W => HJW.out n hlt W)
      have HVW := Lib.hid (fun bad win h t => vrd_ways (D := D) (n := n) (s := s) (bad := bad) (win := win) (h := h) t)
      clear HA hn' hk e32 HRD HJW HQ HRS HJS HBG
      generalize (whoJ D (s.extract 0 n)).1 = a at *
      generalize (whoJ D (s.extract 0 n)).2 = a2 at *
      rcases hways with ⟨j, hj, g2, d1, t1, t2, HAS⟩ | hrest
      · clear HRN HJN HVW
        go_wp2
        go_roundw
        case rel => exact ⟨n + 1, by omega, by omega, by go_num, HR, HB, HAS⟩
        case measure => simp [intOf]; omega
      · rcases hrest with d1 | ⟨d1, t1⟩ | ⟨j, hj, g2, d1, t1, t2⟩
        all_goals
          go_wp2_with fail
          refine (HRN.out _).mono ?_
          rintro e w1 ⟨bad, win, x, pc, en, la, br, rfl, HT, HB1⟩
          have hv : ((a == 3) = true ∧ Hid (q = some (0, n))) ∨ ((a == 3) = false ∧ decide (0 ≤ bad) = true ∧ Hid (q = some (1, n))) ∨ ((a == 3) = false ∧ decide (0 ≤ bad) = false ∧ (a == 0) = true ∧ decide ((0 : Int) < (en : Nat)) = true ∧ Hid (q = some (2, n))) ∨ ((a == 3) = false ∧ decide (0 ≤ bad) = false ∧ (a == 0) = true ∧ decide ((0 : Int) < (en : Nat)) = false ∧ Hid (FstAt D s.data.toList (n + 1 - 1))) ∨ ((a == 3) = false ∧ decide (0 ≤ bad) = false ∧ (a == 0) = false ∧ Hid (FstAt D s.data.toList (n + 1 - 1))) := by
            obtain ⟨h, ht, hen⟩ := HT.out
            rw [hen]
            rcases HVW.out bad win h ht with ⟨v1, v2⟩ | ⟨v1, v2, v3⟩ | ⟨v1, v2, v3, v4, v5⟩ | ⟨v1, v2, v3, v4, v5⟩ | ⟨v1, v2, v3, v4⟩
            · exact Or.inl ⟨v1, HAH 0 v2⟩
            · exact Or.inr (Or.inl ⟨v1, v2, HAH 1 v3⟩)
            · exact Or.inr (Or.inr (Or.inl ⟨v1, v2, v3, v4, HAH 2 v5⟩))
            · exact Or.inr (Or.inr (Or.inr (Or.inl ⟨v1, v2, v3, v4, HAN v5⟩)))
            · exact Or.inr (Or.inr (Or.inr (Or.inr ⟨v1, v2, v3, HAN v4⟩)))
          have HX1 := Lib.hid (Blk.new w1 38 #[.int .i64 bad, .bool win, .string x, .int .i64 pc, .int .i64 (en : Nat), .int .i64 la, .bool br, .int .i64 (D : Nat)])
          have HN1 := Lib.hid (HB1.out.alloc HB1.out.size (.cells #[.int .i64 bad, .bool win, .string x, .int .i64 pc, .int .i64 (en : Nat), .int .i64 la, .bool br, .int .i64 (D : Nat)] 38))
          clear HT HRN HAN HAH HVW
          generalize ((en : Nat) : Int) = en' at *
          go_wp2_with fail
          refine (HJN.out _).mono ?_
          rintro e w3 ⟨rfl, hb⟩
          have c0 := (HX1.out.below hb (Blk.lt HX1.out)).cell 0
          have c4 := (HX1.out.below hb (Blk.lt HX1.out)).cell 4
          have HB3 := Lib.hid (below_on HB.out (below_on HN1.out hb))
          have HR3 := Lib.hid (HR.out.below (below_on HN1.out hb) (Blk.lt HR.out))
          have r0 : w3.cell? ⟨w.heap.size, 0, none⟩ = some (.int .i64 0) := Blk.cell HR3.out 0
          have r1 : w3.cell? ⟨w.heap.size, 1, none⟩ = some (.string ⟨#[]⟩) := Blk.cell HR3.out 1
          have r2 : w3.cell? ⟨w.heap.size, 2, none⟩ = some (.int .i64 0) := Blk.cell HR3.out 2
          have r3 : w3.cell? ⟨w.heap.size, 3, none⟩ = some (.bool false) := Blk.cell HR3.out 3
          have z0 := Blk.frozen HR3.out 0
          have z1 := Blk.frozen HR3.out 1
          have z2 := Blk.frozen HR3.out 2
          have z3 := Blk.frozen HR3.out 3
          clear hb HX1 HN1 HB1 HB HR
          rcases hv with ⟨v1, HY⟩ | ⟨v1, v2, HY⟩ | ⟨v1, v2, v3, v4, HY⟩ | ⟨v1, v2, v3, v4, HY⟩ | ⟨v1, v2, v3, HY⟩
          · go_wp2
            have HF := Lib.hid (Blk.set4 HR3.out (.int .i64 2) (.string ⟨#[100, 101, 101, 112]⟩) (.int .i64 (n : Nat)) (.bool false))
            have HFB := Lib.hid (below_set4 HB3.out (Nat.le_refl _) (.int .i64 2) (.string ⟨#[100, 101, 101, 112]⟩) (.int .i64 (n : Nat)) (.bool false))
            clear r0 r1 r2 r3 z0 z1 z2 z3
            generalize ((((w3.setCell ⟨w.heap.size, 0, none⟩ (.int .i64 2)).setCell ⟨w.heap.size, 1, none⟩ (.string ⟨#[100, 101, 101, 112]⟩)).setCell ⟨w.heap.size, 2, none⟩ (.int .i64 (n : Nat))).setCell ⟨w.heap.size, 3, none⟩ (.bool false)) = w9 at *
            have q0 := Blk.cell HF.out 0
            have q1 := Blk.cell HF.out 1
            have q2 := Blk.cell HF.out 2
            have q3 := Blk.cell HF.out 3
            refine bodyPost_ret (v := jdgV 2 ⟨#[100, 101, 101, 112]⟩ (n : Nat)) (by unfold jdgV; simp [results, Tryz.results7, go_sem, q0, q1, q2, q3]; done) rfl ?_
            exact ⟨by rw [HY.out]; rfl, HFB.out⟩
          · go_wp2
            have HF := Lib.hid (Blk.set4 HR3.out (.int .i64 2) (.string ⟨#[110, 111, 32, 115, 99, 114, 105, 112, 116]⟩) (.int .i64 (n : Nat)) (.bool false))
            have HFB := Lib.hid (below_set4 HB3.out (Nat.le_refl _) (.int .i64 2) (.string ⟨#[110, 111, 32, 115, 99, 114, 105, 112, 116]⟩) (.int .i64 (n : Nat)) (.bool false))
            clear r0 r1 r2 r3 z0 z1 z2 z3
            generalize ((((w3.setCell ⟨w.heap.size, 0, none⟩ (.int .i64 2)).setCell ⟨w.heap.size, 1, none⟩ (.string ⟨#[110, 111, 32, 115, 99, 114, 105, 112, 116]⟩)).setCell ⟨w.heap.size, 2, none⟩ (.int .i64 (n : Nat))).setCell ⟨w.heap.size, 3, none⟩ (.bool false)) = w9 at *
            have q0 := Blk.cell HF.out 0
            have q1 := Blk.cell HF.out 1
            have q2 := Blk.cell HF.out 2
            have q3 := Blk.cell HF.out 3
            refine bodyPost_ret (v := jdgV 2 ⟨#[110, 111, 32, 115, 99, 114, 105, 112, 116]⟩ (n : Nat)) (by unfold jdgV; simp [results, Tryz.results7, go_sem, q0, q1, q2, q3]; done) rfl ?_
            exact ⟨by rw [HY.out]; rfl, HFB.out⟩
          · go_wp2
            have HF := Lib.hid (Blk.set4 HR3.out (.int .i64 1) (.string ⟨#[115, 99, 114, 105, 112, 116]⟩) (.int .i64 (n : Nat)) (.bool false))
            have HFB := Lib.hid (below_set4 HB3.out (Nat.le_refl _) (.int .i64 1) (.string ⟨#[115, 99, 114, 105, 112, 116]⟩) (.int .i64 (n : Nat)) (.bool false))
            clear r0 r1 r2 r3 z0 z1 z2 z3
            generalize ((((w3.setCell ⟨w.heap.size, 0, none⟩ (.int .i64 1)).setCell ⟨w.heap.size, 1, none⟩ (.string ⟨#[115, 99, 114, 105, 112, 116]⟩)).setCell ⟨w.heap.size, 2, none⟩ (.int .i64 (n : Nat))).setCell ⟨w.heap.size, 3, none⟩ (.bool false)) = w9 at *
            have q0 := Blk.cell HF.out 0
            have q1 := Blk.cell HF.out 1
            have q2 := Blk.cell HF.out 2
            have q3 := Blk.cell HF.out 3
            refine bodyPost_ret (v := jdgV 1 ⟨#[115, 99, 114, 105, 112, 116]⟩ (n : Nat)) (by unfold jdgV; simp [results, Tryz.results7, go_sem, q0, q1, q2, q3]; done) rfl ?_
            exact ⟨by rw [HY.out]; rfl, HFB.out⟩
          · go_wp2
            go_roundw
            case rel => exact ⟨n + 1, by omega, by omega, by go_num, HR3, HB3, HY⟩
            case measure => simp [intOf]; omega
          · go_wp2
            go_roundw
            case rel => exact ⟨n + 1, by omega, by omega, by go_num, HR3, HB3, HY⟩
            case measure => simp [intOf]; omega
    · obtain rfl : n = s.size + 1 := by omega
      have e1 : decide (((s.size + 1 : Nat) : Int) ≤ ((s.size : Nat) : Int)) = false := by rw [decide_eq_false_iff_not]; omega
      have HE := Lib.hid (HQ.out.trans (fstAt_end (by have := HA.out; rwa [Nat.add_sub_cancel] at this) ended))
      clear HA HQ HRD HJW
      cases ended with
      | false =>
        have r0 : wr.cell? ⟨w.heap.size, 0, none⟩ = some (.int .i64 0) := Blk.cell HR.out 0
        have r1 : wr.cell? ⟨w.heap.size, 1, none⟩ = some (.string ⟨#[]⟩) := Blk.cell HR.out 1
        have r2 : wr.cell? ⟨w.heap.size, 2, none⟩ = some (.int .i64 0) := Blk.cell HR.out 2
        have r3 : wr.cell? ⟨w.heap.size, 3, none⟩ = some (.bool false) := Blk.cell HR.out 3
        have z0 := Blk.frozen HR.out 0
        have z1 := Blk.frozen HR.out 1
        have z2 := Blk.frozen HR.out 2
        have z3 := Blk.frozen HR.out 3
        go_wp2
        have HF := Lib.hid (Blk.set4 HR.out (.int .i64 0) (.string ⟨#[]⟩) (.int .i64 0) (.bool false))
        have HFB := Lib.hid (below_set4 HB.out (Nat.le_refl _) (.int .i64 0) (.string ⟨#[]⟩) (.int .i64 0) (.bool false))
        clear r0 r1 r2 r3 z0 z1 z2 z3
        generalize ((((wr.setCell ⟨w.heap.size, 0, none⟩ (.int .i64 0)).setCell ⟨w.heap.size, 1, none⟩ (.string ⟨#[]⟩)).setCell ⟨w.heap.size, 2, none⟩ (.int .i64 0)).setCell ⟨w.heap.size, 3, none⟩ (.bool false)) = w9 at *
        have q0 := Blk.cell HF.out 0
        have q1 := Blk.cell HF.out 1
        have q2 := Blk.cell HF.out 2
        have q3 := Blk.cell HF.out 3
        refine bodyPost_ret (v := jdgV 0 ⟨#[]⟩ 0) (by unfold jdgV; simp [results, Tryz.results7, go_sem, q0, q1, q2, q3]; done) rfl ?_
        exact ⟨by rw [HE.out]; rfl, HFB.out⟩
      | true =>
        have HE2 := Lib.hid (show q = some (endV D s, s.size) from HE.out)
        unfold endV at HE2
        unfold bgnB at HBG
        cases hw : s.data.toList.all whiB with
        | true =>
          rw [hw] at HBG
          have HY : Hid (q = some (3, s.size)) := Lib.hid (by rw [HE2.out, hw]; rfl)
          clear hw HE HE2
          generalize (whoJ D s).1 = a at *
          generalize (whoJ D s).2 = a2 at *
          go_wp2_with (first
            | (go_at_call 17; (with_reducible refine (HJS.out _).mono ?_); rintro e w3 ⟨rfl, hb⟩
               have HB3 := Lib.hid (below_on HB.out hb)
               have HR3 := Lib.hid (HR.out.below hb (Blk.lt HR.out))
               have r0 : w3.cell? ⟨w.heap.size, 0, none⟩ = some (.int .i64 0) := Blk.cell HR3.out 0
               have r1 : w3.cell? ⟨w.heap.size, 1, none⟩ = some (.string ⟨#[]⟩) := Blk.cell HR3.out 1
               have r2 : w3.cell? ⟨w.heap.size, 2, none⟩ = some (.int .i64 0) := Blk.cell HR3.out 2
               have r3 : w3.cell? ⟨w.heap.size, 3, none⟩ = some (.bool false) := Blk.cell HR3.out 3
               have z0 := Blk.frozen HR3.out 0
               have z1 := Blk.frozen HR3.out 1
               have z2 := Blk.frozen HR3.out 2
               have z3 := Blk.frozen HR3.out 3
               clear hb)
            | (go_at_call 18; (with_reducible refine (HBG.out _).mono ?_); rintro e w4 ⟨rfl, rfl⟩))
          have HF := Lib.hid (Blk.set4 HR3.out (.int .i64 1) (.string ⟨#[98, 108, 97, 110, 107]⟩) (.int .i64 (s.size : Nat)) (.bool false))
          have HFB := Lib.hid (below_set4 HB3.out (Nat.le_refl _) (.int .i64 1) (.string ⟨#[98, 108, 97, 110, 107]⟩) (.int .i64 (s.size : Nat)) (.bool false))
          clear r0 r1 r2 r3 z0 z1 z2 z3
          generalize ((((w3.setCell ⟨w.heap.size, 0, none⟩ (.int .i64 1)).setCell ⟨w.heap.size, 1, none⟩ (.string ⟨#[98, 108, 97, 110, 107]⟩)).setCell ⟨w.heap.size, 2, none⟩ (.int .i64 (s.size : Nat))).setCell ⟨w.heap.size, 3, none⟩ (.bool false)) = w9 at *
          have q0 := Blk.cell HF.out 0
          have q1 := Blk.cell HF.out 1
          have q2 := Blk.cell HF.out 2
          have q3 := Blk.cell HF.out 3
          refine bodyPost_ret (v := jdgV 1 ⟨#[98, 108, 97, 110, 107]⟩ (s.size : Nat)) (by unfold jdgV; simp [results, Tryz.results7, go_sem, q0, q1, q2, q3]; done) rfl ?_
          exact ⟨by rw [HY.out]; rfl, HFB.out⟩
        | false =>
          rw [hw] at HBG
          cases ha : ((whoJ D s).1 != 0) with
          | true =>
            have HY : Hid (q = some (4, s.size)) := Lib.hid (by rw [HE2.out, hw, ha]; rfl)
            clear hw HE HE2
            generalize (whoJ D s).1 = a at *
            generalize (whoJ D s).2 = a2 at *
            go_wp2_with (first
              | (go_at_call 17; (with_reducible refine (HJS.out _).mono ?_); rintro e w3 ⟨rfl, hb⟩
                 have HB3 := Lib.hid (below_on HB.out hb)
                 have HR3 := Lib.hid (HR.out.below hb (Blk.lt HR.out))
                 have r0 : w3.cell? ⟨w.heap.size, 0, none⟩ = some (.int .i64 0) := Blk.cell HR3.out 0
                 have r1 : w3.cell? ⟨w.heap.size, 1, none⟩ = some (.string ⟨#[]⟩) := Blk.cell HR3.out 1
                 have r2 : w3.cell? ⟨w.heap.size, 2, none⟩ = some (.int .i64 0) := Blk.cell HR3.out 2
                 have r3 : w3.cell? ⟨w.heap.size, 3, none⟩ = some (.bool false) := Blk.cell HR3.out 3
                 have z0 := Blk.frozen HR3.out 0
                 have z1 := Blk.frozen HR3.out 1
                 have z2 := Blk.frozen HR3.out 2
                 have z3 := Blk.frozen HR3.out 3
                 clear hb)
              | (go_at_call 18; (with_reducible refine (HBG.out _).mono ?_); rintro e w4 ⟨rfl, rfl⟩))
            have HF := Lib.hid (Blk.set4 HR3.out (.int .i64 2) (.string ⟨#[106, 115, 111, 110]⟩) (.int .i64 (s.size : Nat)) (.bool false))
            have HFB := Lib.hid (below_set4 HB3.out (Nat.le_refl _) (.int .i64 2) (.string ⟨#[106, 115, 111, 110]⟩) (.int .i64 (s.size : Nat)) (.bool false))
            clear r0 r1 r2 r3 z0 z1 z2 z3
            generalize ((((w3.setCell ⟨w.heap.size, 0, none⟩ (.int .i64 2)).setCell ⟨w.heap.size, 1, none⟩ (.string ⟨#[106, 115, 111, 110]⟩)).setCell ⟨w.heap.size, 2, none⟩ (.int .i64 (s.size : Nat))).setCell ⟨w.heap.size, 3, none⟩ (.bool false)) = w9 at *
            have q0 := Blk.cell HF.out 0
            have q1 := Blk.cell HF.out 1
            have q2 := Blk.cell HF.out 2
            have q3 := Blk.cell HF.out 3
            refine bodyPost_ret (v := jdgV 2 ⟨#[106, 115, 111, 110]⟩ (s.size : Nat)) (by unfold jdgV; simp [results, Tryz.results7, go_sem, q0, q1, q2, q3]; done) rfl ?_
            exact ⟨by rw [HY.out]; rfl, HFB.out⟩
          | false =>
            cases hst : (staH (tolH D s) == 2) with
            | true =>
              have HY : Hid (q = some (5, s.size)) := Lib.hid (by rw [HE2.out, hw, ha, hst]; rfl)
              clear hw HE HE2
              generalize (whoJ D s).1 = a at *
              generalize (whoJ D s).2 = a2 at *
              generalize staH (tolH D s) = st at *
              go_wp2_with (first
                | (go_at_call 17; (with_reducible refine (HJS.out _).mono ?_); rintro e w3 ⟨rfl, hb⟩; have HB3 := Lib.hid (below_on HB.out hb); have HR3 := Lib.hid (HR.out.below hb (Blk.lt HR.out)); clear hb)
                | (go_at_call 18; (with_reducible refine (HBG.out _).mono ?_); rintro e w4 ⟨rfl, rfl⟩)
                | (go_at_call 16; (with_reducible refine (HRS.out _).mono ?_); rintro e w5 ⟨v, rfl, hb, HST⟩; have HB5 := Lib.hid (below_on HB3.out hb.out); have HR5 := Lib.hid (HR3.out.below hb.out (Blk.lt HR3.out)); clear hb)
                | (go_at_call 19; (with_reducible refine (HST.out _).mono ?_); rintro e w6 ⟨rfl, hb⟩
                   have HB6 := Lib.hid (below_on HB5.out hb)
                   have HR6 := Lib.hid (HR5.out.below hb (Blk.lt HR5.out))
                   have r0 : w6.cell? ⟨w.heap.size, 0, none⟩ = some (.int .i64 0) := Blk.cell HR6.out 0
                   have r1 : w6.cell? ⟨w.heap.size, 1, none⟩ = some (.string ⟨#[]⟩) := Blk.cell HR6.out 1
                   have r2 : w6.cell? ⟨w.heap.size, 2, none⟩ = some (.int .i64 0) := Blk.cell HR6.out 2
                   have r3 : w6.cell? ⟨w.heap.size, 3, none⟩ = some (.bool false) := Blk.cell HR6.out 3
                   have z0 := Blk.frozen HR6.out 0
                   have z1 := Blk.frozen HR6.out 1
                   have z2 := Blk.frozen HR6.out 2
                   have z3 := Blk.frozen HR6.out 3
                   clear hb))
              have HF := Lib.hid (Blk.set4 HR6.out (.int .i64 1) (.string ⟨#[115, 99, 114, 105, 112, 116]⟩) (.int .i64 (s.size : Nat)) (.bool false))
              have HFB := Lib.hid (below_set4 HB6.out (Nat.le_refl _) (.int .i64 1) (.string ⟨#[115, 99, 114, 105, 112, 116]⟩) (.int .i64 (s.size : Nat)) (.bool false))
              clear r0 r1 r2 r3 z0 z1 z2 z3
              generalize ((((w6.setCell ⟨w.heap.size, 0, none⟩ (.int .i64 1)).setCell ⟨w.heap.size, 1, none⟩ (.string ⟨#[115, 99, 114, 105, 112, 116]⟩)).setCell ⟨w.heap.size, 2, none⟩ (.int .i64 (s.size : Nat))).setCell ⟨w.heap.size, 3, none⟩ (.bool false)) = w9 at *
              have q0 := Blk.cell HF.out 0
              have q1 := Blk.cell HF.out 1
              have q2 := Blk.cell HF.out 2
              have q3 := Blk.cell HF.out 3
              refine bodyPost_ret (v := jdgV 1 ⟨#[115, 99, 114, 105, 112, 116]⟩ (s.size : Nat)) (by unfold jdgV; simp [results, Tryz.results7, go_sem, q0, q1, q2, q3]; done) rfl ?_
              exact ⟨by rw [HY.out]; rfl, HFB.out⟩
            | false =>
              have HY : Hid (q = some (6, s.size)) := Lib.hid (by rw [HE2.out, hw, ha, hst]; rfl)
              clear hw HE HE2
              generalize (whoJ D s).1 = a at *
              generalize (whoJ D s).2 = a2 at *
              generalize staH (tolH D s) = st at *
              go_wp2_with (first
                | (go_at_call 17; (with_reducible refine (HJS.out _).mono ?_); rintro e w3 ⟨rfl, hb⟩; have HB3 := Lib.hid (below_on HB.out hb); have HR3 := Lib.hid (HR.out.below hb (Blk.lt HR.out)); clear hb)
                | (go_at_call 18; (with_reducible refine (HBG.out _).mono ?_); rintro e w4 ⟨rfl, rfl⟩)
                | (go_at_call 16; (with_reducible refine (HRS.out _).mono ?_); rintro e w5 ⟨v, rfl, hb, HST⟩; have HB5 := Lib.hid (below_on HB3.out hb.out); have HR5 := Lib.hid (HR3.out.below hb.out (Blk.lt HR3.out)); clear hb)
                | (go_at_call 19; (with_reducible refine (HST.out _).mono ?_); rintro e w6 ⟨rfl, hb⟩
                   have HB6 := Lib.hid (below_on HB5.out hb)
                   have HR6 := Lib.hid (HR5.out.below hb (Blk.lt HR5.out))
                   have r0 : w6.cell? ⟨w.heap.size, 0, none⟩ = some (.int .i64 0) := Blk.cell HR6.out 0
                   have r1 : w6.cell? ⟨w.heap.size, 1, none⟩ = some (.string ⟨#[]⟩) := Blk.cell HR6.out 1
                   have r2 : w6.cell? ⟨w.heap.size, 2, none⟩ = some (.int .i64 0) := Blk.cell HR6.out 2
                   have r3 : w6.cell? ⟨w.heap.size, 3, none⟩ = some (.bool false) := Blk.cell HR6.out 3
                   have z0 := Blk.frozen HR6.out 0
                   have z1 := Blk.frozen HR6.out 1
                   have z2 := Blk.frozen HR6.out 2
                   have z3 := Blk.frozen HR6.out 3
                   clear hb))
              have HF := Lib.hid (Blk.set4 HR6.out (.int .i64 2) (.string ⟨#[99, 117, 116, 32, 111, 102, 102]⟩) (.int .i64 (s.size : Nat)) (.bool false))
              have HFB := Lib.hid (below_set4 HB6.out (Nat.le_refl _) (.int .i64 2) (.string ⟨#[99, 117, 116, 32, 111, 102, 102]⟩) (.int .i64 (s.size : Nat)) (.bool false))
              clear r0 r1 r2 r3 z0 z1 z2 z3
              generalize ((((w6.setCell ⟨w.heap.size, 0, none⟩ (.int .i64 2)).setCell ⟨w.heap.size, 1, none⟩ (.string ⟨#[99, 117, 116, 32, 111, 102, 102]⟩)).setCell ⟨w.heap.size, 2, none⟩ (.int .i64 (s.size : Nat))).setCell ⟨w.heap.size, 3, none⟩ (.bool false)) = w9 at *
              have q0 := Blk.cell HF.out 0
              have q1 := Blk.cell HF.out 1
              have q2 := Blk.cell HF.out 2
              have q3 := Blk.cell HF.out 3
              refine bodyPost_ret (v := jdgV 2 ⟨#[99, 117, 116, 32, 111, 102, 102]⟩ (s.size : Nat)) (by unfold jdgV; simp [results, Tryz.results7, go_sem, q0, q1, q2, q3]; done) rfl ?_
              exact ⟨by rw [HY.out]; rfl, HFB.out⟩
end Go.Proofs.YtbojbkpplejdmaaGreat
