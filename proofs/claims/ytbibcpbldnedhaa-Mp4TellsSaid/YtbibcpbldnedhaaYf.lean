/-
  What package mp4's Boxes answers. Condition: the text takes at most 2^40 bytes.
-/
import Derived.Test.YtbibcpbldnedhaaYe
import Derived.Test.YtbibcpbldnedhaaAttemptBBox
import Derived.Test.YtbibcpbldnedhaaSplit
import Derived.Test.YtbibcpbldnedhaaMFLaw
import Derived.OwnWalk
import Derived.Laws.OwnMore
import Derived.BigQuiet
import Derived.Outline
namespace Go.Proofs.Ytbibcpbldnedhaa
open Go.RowKit

set_option maxHeartbeats 1000000 in
theorem boxes1_ok (pb cb k : Nat) (s : ByteArray) (w : World) (h : Cur w cb s k) (hp : Blk w pb 47 #[cptr cb]) (hs : s.size ≤ 9223372036854775807) (hb : boxO s k) :
    Calls Try.prog 28 #[.pointer (some ⟨pb, 0, none⟩)] w fun e w' => e = .returned (bxV (s.extract (k + 4) (k + 8)) (fourB s k : Nat)) ∧ Mv w.heap.size [cb] w w' ∧ Cur w' cb s (k + fourB s k) := by
  have hlc := h.lt
  obtain ⟨w0, hw0⟩ : ∃ w0, w0 = w.alloc (.cells #[.string ⟨#[]⟩, .int .i64 0] 45) := ⟨_, rfl⟩
  have HK0 := Lib.hid (show Blk w0 w.heap.size 45 #[.string ⟨#[]⟩, .int .i64 0] from by rw [hw0]; exact Blk.new _ _ _)
  have HM0 := Lib.hid (show Mv w.heap.size [cb] w w0 from by rw [hw0]; exact (Mv.refl _ _ _).alloc (Nat.le_refl _) _)
  have HT := Lib.hid (takeBox_ok cb k s w0 (by rw [hw0]; exact h.alloc _) hs hb)
  have cp : w.cell? ⟨pb, 0, none⟩ = some (cptr cb) := hp.cell 0
  have pl := hp.lt
  generalize s.extract (k + 4) (k + 8) = nm at *
  generalize fourB s k = n at *
  clear h hp
  go_enter Try.func28, Try.ntmps28
  go_wp2_with fail
  rw [← hw0]
  clear hw0
  refine HT.out.mono ?_
  rintro e w1 ⟨rfl, m1, c1⟩
  have HM1 := Lib.hid (HM0.out.chain m1 (Nat.le_refl _))
  have HK1 := Lib.hid (HK0.out.mv m1 HK0.out.lt (by simp; omega))
  have HC1 := Lib.hid c1
  clear m1 c1 cp
  have c0 : w1.cell? ⟨w.heap.size, 0, none⟩ = some (.string ⟨#[]⟩) := HK1.out.cell 0
  have c1 : w1.cell? ⟨w.heap.size, 1, none⟩ = some (.int .i64 0) := HK1.out.cell 1
  have z0 := HK1.out.frozen 0
  have z1 := HK1.out.frozen 1
  go_wp2
  have hk := (HK1.out.set_ 0 (.string nm)).set_ 1 (.int .i64 (n : Nat))
  have k0 : _ = some (.string nm : Value) := hk.cell 0
  have k1 : _ = some (.int .i64 (n : Nat) : Value) := hk.cell 1
  refine bodyPost_ret (v := bxV nm (n : Nat)) (by simp [results, Try.results28, go_sem, k0, k1]) rfl ⟨rfl, (HM1.out.setCell (.inr (by simp)) _).setCell (.inr (by simp)) _, (Blk.far HC1.out (by simp; omega) _).far (by simp; omega) _⟩

set_option maxHeartbeats 1000000 in
theorem boxes1_no (pb cb k : Nat) (s : ByteArray) (a c : Int) (w : World) (h : Cur w cb s k) (hp : Blk w pb 47 #[cptr cb])
    (ht : ∀ w, Cur w cb s k → Calls Try.prog 29 #[cptr cb] w fun e w' => e = pnc a c ∧ Mv w.heap.size [cb] w w') :
    Calls Try.prog 28 #[.pointer (some ⟨pb, 0, none⟩)] w fun e w' => e = pnc a c ∧ Mv w.heap.size [cb] w w' := by
  obtain ⟨w0, hw0⟩ : ∃ w0, w0 = w.alloc (.cells #[.string ⟨#[]⟩, .int .i64 0] 45) := ⟨_, rfl⟩
  have HM0 := Lib.hid (show Mv w.heap.size [cb] w w0 from by rw [hw0]; exact (Mv.refl _ _ _).alloc (Nat.le_refl _) _)
  have HT := Lib.hid (ht w0 (by rw [hw0]; exact h.alloc _))
  have cp : w.cell? ⟨pb, 0, none⟩ = some (cptr cb) := hp.cell 0
  have pl := hp.lt
  clear h hp ht
  go_enter Try.func28, Try.ntmps28
  go_wp2_with fail
  rw [← hw0]
  clear hw0
  refine HT.out.mono ?_
  rintro e w1 ⟨rfl, m1⟩
  exact ⟨rfl, rfl, HM0.out.chain m1 (Nat.le_refl _)⟩

theorem boxes1_enter (a : Value) (w : World) : (callFunc 28 (#[] ++ #[a])).run Try.prog w = .ok (.enter 28 (#[] ++ #[a])) w := by simp [go_sem]

theorem valueBoxes_ok (pb cb k : Nat) (s : ByteArray) (w : World) (h : Cur w cb s k) (hp : Blk w pb 47 #[cptr cb]) (hs : s.size ≤ 9223372036854775807) (hb : boxO s k) :
    Calls Try.prog 27 #[.func (.func 28) #[] #[.pointer (some ⟨pb, 0, none⟩)]] w fun e w' => e = .returned (.tuple #[bxV (s.extract (k + 4) (k + 8)) (fourB s k : Nat), flt 0 0]) ∧ Mv w.heap.size [cb] w w' ∧ Cur w' cb s (k + fourB s k) :=
  valuebBox_returns 28 #[] #[.pointer (some ⟨pb, 0, none⟩)] (s.extract (k + 4) (k + 8)) (fourB s k : Nat) w [cb] (fun W => Cur W cb s (k + fourB s k)) (one_lt h.lt) (cur_stable h.lt) (boxes1_enter _)
    fun W hW => boxes1_ok pb cb k s W (h.below hW h.lt) (hp.below hW hp.lt) hs hb
theorem valueBoxes_no (pb cb k : Nat) (s : ByteArray) (a c : Int) (w : World) (h : Cur w cb s k) (hp : Blk w pb 47 #[cptr cb])
    (ht : ∀ w, Cur w cb s k → Calls Try.prog 29 #[cptr cb] w fun e w' => e = pnc a c ∧ Mv w.heap.size [cb] w w') :
    Calls Try.prog 27 #[.func (.func 28) #[] #[.pointer (some ⟨pb, 0, none⟩)]] w fun e w' => e = .returned (.tuple #[bxV ⟨#[]⟩ 0, flt a c]) ∧ Mv w.heap.size [cb] w w' :=
  (valuebBox_throws 28 #[] #[.pointer (some ⟨pb, 0, none⟩)] a c w [cb] (fun _ => True) (one_lt h.lt) (true_stable _) (boxes1_enter _)
    fun W hW => (boxes1_no pb cb k s a c W (h.below hW h.lt) (hp.below hW hp.lt) ht).mono fun _ _ ⟨h1, h2⟩ => ⟨h1, h2, trivial⟩).mono fun _ _ ⟨h1, h2, _⟩ => ⟨h1, h2⟩

theorem own_off {w : World} {B size : Nat} {e T : TypeId} {v : Value} {n : Nat} {xs : List Value} {b : Nat} {cs : Array Value} (hown : w.ownsRow B e size v n xs) (hb : Blk w b T cs) (hTe : T ≠ e) : v.ownBlock ≠ some b := by
  rcases hown.2 with ⟨rfl, _⟩ | ⟨g, cap, cur, rfl, _, hg, _⟩
  · intro h; cases h
  · intro h
    cases h
    have h2 : w.heap[g]? = _ := hb
    rw [hg] at h2
    injection h2 with h2
    injection h2 with _ h9
    exact hTe h9.symm

/-- Boxes as cells. -/
def bxL (l : List Bx) : List Value := l.flatMap fun b => [.string b.nm, .int .i64 (b.n : Nat)]
theorem bxL_snoc (l : List Bx) (b : Bx) : bxL (l ++ [b]) = bxL l ++ [.string b.nm, .int .i64 (b.n : Nat)] := by simp [bxL]
theorem Try.infoBox : (Try.prog.info? 45).map (fun i => (i.zero, i.size, i.bytes)) = some (some (.agg #[.string ⟨#[]⟩, .int .i64 0]), 2, 24) := by kernel_rfl
/-- A slice of new memory that holds these boxes, and how many bytes they have. -/
def NewBxs (l : List Bx × Nat) (w : World) (e : Ending) (w' : World) : Prop := ∃ v, e = .returned (.tuple #[v, .int .i64 (l.2 : Nat)]) ∧ w'.ownsRow w.heap.size 45 2 v l.1.length (bxL l.1) ∧ Below w.heap.size w w'

set_option maxHeartbeats 4000000 in
set_option maxRecDepth 100000 in
theorem mp4Boxes_any (s : ByteArray) (w : World) (hs : s.size ≤ 1099511627776) :
    Calls Try.prog 19 #[.string s] w (NewBxs (boxG s) w) := by
  have hs' : s.size ≤ 9223372036854775807 := by omega
  have hmf := make_func
  obtain ⟨i0, hi, hz0, hz1, hz2⟩ := info_parts Try.infoBox
  rw [← boxF_all s]
  obtain ⟨w1, hw1⟩ : ∃ w1, w1 = (w.alloc (.cells #[.string s, .int .i64 0] 60)).alloc (.cells #[cptr w.heap.size] 47) := ⟨_, rfl⟩
  have HC1 := Lib.hid (show Cur w1 w.heap.size s 0 from by rw [hw1]; exact (Blk.new w 60 #[.string s, .int .i64 0]).alloc _)
  have HP1 := Lib.hid (show Blk w1 (w.heap.size + 1) 47 #[cptr w.heap.size] from by
    have := Blk.new (w.alloc (.cells #[.string s, .int .i64 0] 60)) 47 #[cptr w.heap.size]
    rw [hw1]
    simpa using this)
  have HB1 := Lib.hid (show Below w.heap.size w w1 from by rw [hw1]; exact ((Below.refl _ _).alloc (Nat.le_refl _) _).alloc (by simp) _)
  go_enter Try.func19, Try.ntmps19
  go_wp2_with (go_at_call 26; (with_reducible refine (new_any s _).mono ?_); rintro e wx ⟨rfl, rfl⟩)
  rw [← hw1]
  clear hw1
  go_loopw [4, 5] (fun v i wr => ∃ (k : Nat) (l : List Bx), k ≤ s.size ∧ l.length ≤ k ∧ i = .int .i64 (k : Nat) ∧ wr.ownsRow w.heap.size 45 2 v l.length (bxL l) ∧ Cur wr w.heap.size s k ∧ Blk wr (w.heap.size + 1) 47 #[cptr w.heap.size] ∧ Below w.heap.size w wr ∧ l ++ (boxF s k).1 = (boxF s 0).1 ∧ k + (boxF s k).2 = (boxF s 0).2) (fun _ i _ => s.size - (intOf i).toNat)
  case atStart => exact ⟨0, [], Nat.zero_le _, Nat.zero_le _, rfl, World.ownsRow_nil _ _ _ _, HC1.out, HP1.out, HB1.out, rfl, Nat.zero_add _⟩
  case round =>
    obtain ⟨k, l, hk, hl, rfl, hown, hc, hp, hm, ht, hn⟩ := hrel
    have HC := Lib.hid hc
    have HP := Lib.hid hp
    have HM := Lib.hid hm
    have hne := own_off hown hc (by decide)
    have hne2 := own_off hown hp (by decide)
    have HNE := Lib.hid hne
    have HNE2 := Lib.hid hne2
    have HO := Lib.hid hown
    obtain ⟨ao, n', cap, rfl⟩ := own_slice hown
    clear hc hp hm hown hne hne2 HC1 HP1 HB1
    by_cases hb : boxO s k
    · have HV := Lib.hid (fun W (h : Cur W w.heap.size s k) (hp : Blk W (w.heap.size + 1) 47 #[cptr w.heap.size]) => valueBoxes_ok (w.heap.size + 1) w.heap.size k s W h hp hs' hb)
      have hmore := boxF_more hb
      obtain ⟨hb0, hb1, hb2⟩ := hb
      obtain ⟨x, hx⟩ : ∃ x : Bx, x = ⟨s.extract (k + 4) (k + 8), fourB s k⟩ := ⟨_, rfl⟩
      have hx1 : x.nm = s.extract (k + 4) (k + 8) := by rw [hx]
      have hx2 : x.n = fourB s k := by rw [hx]
      rw [← hx, ← hx2] at hmore
      rw [← hx1, ← hx2] at HV
      rw [← hx2] at hb1 hb2
      have HT := Lib.hid (show (l ++ [x]) ++ (boxF s (k + x.n)).1 = (boxF s 0).1 from by rw [← ht, hmore]; simp)
      have HN := Lib.hid (show k + x.n + (boxF s (k + x.n)).2 = (boxF s 0).2 from by rw [← hn, hmore]; simp only; omega)
      clear hmore hx1 hx2 hx ht hn
      obtain ⟨nm, n⟩ := x
      simp only at HV HT HN hb1 hb2
      go_wp2_with fail
      refine (HV.out _ HC.out HP.out).mono ?_
      rintro e w2 ⟨rfl, m2, c2⟩
      have HO2 := Lib.hid (own_mv HO.out m2 (by simpa using HNE.out))
      have HP2 := Lib.hid (HP.out.mv m2 HP.out.lt (by simp))
      have HM2 := Lib.hid (HM.out.trans ((m2.mono (B' := w.heap.size) HM.out.size (fun x hx => .inl hx)).below (Nat.le_refl _) (by simp)))
      have HC2 := Lib.hid c2
      clear m2 c2
      go_wp2_with (at_builtin; refine wpList_append_own _ rfl _ _ 35 rfl w.heap.size 45 i0 _ 2 24 Try.underlying35 hi hz0 hz1 hz2 rfl (by decide) _ _ _ rfl (((HO2.out.alloc _).alloc _).alloc _) ⟨w2.heap.size + 1 + 1, 0, none⟩ 1 1 [.string nm, .int .i64 (n : Nat)] rfl rfl ?c1 ?c2 ?c3 ?c4 ?c5 ?_)
      case c1 =>
        intro j u hj
        have hcb := Blk.new ((w2.alloc (.cells #[.string nm, .int .i64 (n : Nat)] 45)).alloc (.cells #[.int .i64 0, .int .i64 0] 51)) 45 #[.string nm, .int .i64 (n : Nat)]
        have e : (⟨w2.heap.size + 1 + 1, 0, none⟩ : Addr).add j = ⟨w2.heap.size + 1 + 1, j, none⟩ := by cases j <;> simp [Addr.add]
        have e2 : ((w2.alloc (.cells #[.string nm, .int .i64 (n : Nat)] 45)).alloc (.cells #[.int .i64 0, .int .i64 0] 51)).heap.size = w2.heap.size + 1 + 1 := by simp
        rw [e2] at hcb
        rw [e, hcb.cell]
        simpa using hj
      case c2 =>
        intro u hu
        simp at hu
        rcases hu with rfl | rfl <;> rfl
      case c3 => unfold maxLen; omega
      case c4 => omega
      case c5 => have := HM2.out.size; simp; omega
      intro v' w3 hown' hgrow _
      have HO3 := Lib.hid (show w3.ownsRow w.heap.size 45 2 v' (l ++ [(⟨nm, n⟩ : Bx)]).length (bxL (l ++ [(⟨nm, n⟩ : Bx)])) from by rw [bxL_snoc]; simpa using hown')
      have hs2 := HM2.out.size
      have K7 : Blk (((w2.alloc (.cells #[.string nm, .int .i64 (n : Nat)] 45)).alloc (.cells #[.int .i64 0, .int .i64 0] 51)).alloc (.cells #[.string nm, .int .i64 (n : Nat)] 45)) w2.heap.size 45 #[.string nm, .int .i64 (n : Nat)] := ((Blk.new w2 _ _).alloc _).alloc _
      have HK7 := Lib.hid (show Blk w3 w2.heap.size 45 #[.string nm, .int .i64 (n : Nat)] from (hgrow.block w2.heap.size (by simp; omega) (fun e => Nat.lt_irrefl _ (HO2.out.lt w2.heap.size e.symm).2)).trans K7)
      have c7 : w3.cell? ⟨w2.heap.size, 1, none⟩ = some (.int .i64 (n : Nat)) := HK7.out.cell 1
      have HC3 : Hid (Cur w3 w.heap.size s (k + n)) := (hgrow.block w.heap.size (by have := Blk.lt HC2.out; simp; omega) (fun e => HNE.out e.symm)).trans (Blk.alloc (Blk.alloc (Blk.alloc HC2.out _) _) _)
      have HP3 : Hid (Blk w3 (w.heap.size + 1) 47 #[cptr w.heap.size]) := (hgrow.block (w.heap.size + 1) (by have := Blk.lt HP2.out; simp; omega) (fun e => HNE2.out e.symm)).trans (Blk.alloc (Blk.alloc (Blk.alloc HP2.out _) _) _)
      have HM3 := Lib.hid (Below.grown (((HM2.out.alloc HM2.out.size (.cells #[.string nm, .int .i64 (n : Nat)] 45)).alloc (by simp; omega) (.cells #[.int .i64 0, .int .i64 0] 51)).alloc (by simp; omega) (.cells #[.string nm, .int .i64 (n : Nat)] 45)) hgrow (by simp; omega) (fun g hg => (HO2.out.lt g hg).1))
      obtain ⟨ao', n2, cap', rfl⟩ := own_slice hown'
      clear hown' hgrow K7 HK7 HO2 HM2 HC2 HP2
      go_wp2
      go_roundw
      case rel => exact ⟨k + n, l ++ [⟨nm, n⟩], by omega, by simp; omega, by go_num, HO3.out, HC3.out, HP3.out, HM3.out, HT.out, HN.out⟩
      case measure => simp [intOf]; omega
    · have hnone := boxF_none hk hb
      rw [hnone] at ht hn
      obtain ⟨a, c, hc0, hno⟩ := takeBox_no w.heap.size k s hk hs' hb
      have HV := Lib.hid (fun W (h : Cur W w.heap.size s k) (hp : Blk W (w.heap.size + 1) 47 #[cptr w.heap.size]) => valueBoxes_no (w.heap.size + 1) w.heap.size k s a c W h hp hno)
      have HT := Lib.hid (show l = (boxF s 0).1 from by rw [← ht]; simp)
      have HN := Lib.hid (show k = (boxF s 0).2 from by rw [← hn]; simp)
      clear ht hn hnone hno hb
      go_wp2_with fail
      refine (HV.out _ HC.out HP.out).mono ?_
      rintro e w2 ⟨rfl, m2⟩
      have HO2 := Lib.hid (own_mv HO.out m2 (by simpa using HNE.out))
      have HM2 := Lib.hid (HM.out.trans ((m2.mono (B' := w.heap.size) HM.out.size (fun x hx => .inl hx)).below (Nat.le_refl _) (by simp)))
      have hs2 := HM2.out.size
      clear m2
      go_wp2
      refine bodyPost_ret (v := .tuple #[.slice ao n' cap, .int .i64 (k : Nat)]) (by simp [results, Try.results19, go_sem]) rfl ⟨_, by rw [← HN.out], ?_, ?_⟩
      · rw [← HT.out]
        exact own_below (own_below HO2.out ((Below.refl _ _).alloc (Nat.le_refl _) _)) ((Below.refl _ _).alloc (Nat.le_refl _) _)
      · exact (HM2.out.alloc hs2 _).alloc (by simp; omega) _

end Go.Proofs.Ytbibcpbldnedhaa
