/-
  What takePiece does to a cursor, and what layer 4's Split answers. Condition: the text takes at most 2^45 bytes.
-/
import Derived.Test.YtmepnfkgfbbkiaaCollect
import Derived.Test.YtmepnfkgfbbkiaaWhiletab
import Derived.Test.YtmepnfkgfbbkiaaClass2
import Derived.OwnWalk
import Derived.Laws.OwnMore
namespace Go.Proofs.Ytmepnfkgfbbkiaa
open Go.RowKit

theorem peek0_ok (cb k : Nat) (s : ByteArray) (w : World) (h : Cur w cb s k) (hs : s.size ≤ 9223372036854775807) (hk : k < s.size) :
    Calls Try.prog 72 #[cptr cb, .int .i64 0] w fun e w' => e = .returned (.tuple #[.int .u8 (s[k].toNat : Int), .bool true]) ∧ ∃ m, w' = w.drewN m := by
  have := peek_ok cb k 0 s w h hs (by omega)
  simpa using this
theorem peek0_far (cb k : Nat) (s : ByteArray) (w : World) (h : Cur w cb s k) (hk : k = s.size) (hs : s.size ≤ 9223372036854775807) :
    Calls Try.prog 72 #[cptr cb, .int .i64 0] w fun e w' => e = .returned (.tuple #[.int .u8 0, .bool false]) ∧ ∃ m, w' = w.drewN m :=
  peek_far cb k s 0 w h (by omega) hs (by omega) (by omega)

theorem bytes_join {s : ByteArray} {a b c : Nat} (h1 : a ≤ b) (h2 : b ≤ c) : (s.extract a b).data.toList ++ (s.extract b c).data.toList = (s.extract a c).data.toList := by
  rw [← ByteArray.toList_data_append]
  rw [ByteArray.extract_append_extract, Nat.min_eq_left h1, Nat.max_eq_right h2]
theorem bytes_back (s : ByteArray) : (⟨s.data.toList.toArray⟩ : ByteArray) = s := by
  cases s; simp

set_option maxHeartbeats 2000000 in
theorem takePiece_any (cb k1 : Nat) (s : ByteArray) (w : World) (h : Cur w cb s k1) (hk1 : k1 ≤ s.size) (hs : s.size ≤ 35184372088832) :
    Calls Try.prog 58 #[cptr cb] w fun e w' => e = .returned (.string (piece s k1)) ∧ Mv w.heap.size [cb] w w' ∧ Cur w' cb s (pTo s k1) := by
  have hs' : s.size ≤ 9223372036854775807 := by omega
  have lc := h.lt
  have HW : Hid (Calls Try.prog 69 #[cptr cb, fn_tab] w fun e w' => e = .returned (.string (s.extract k1 (pFrom s k1))) ∧ Mv w.heap.size [cb] w w' ∧ Cur w' cb s (pFrom s k1)) := while_tab cb k1 s w h hk1 hs'
  have hf := pFrom_le hk1
  have HP := Lib.hid (show pTo s k1 = pEnd s (pFrom s k1) from rfl)
  have HQ := Lib.hid (show piece s k1 = cutP tabB (s.extract (pFrom s k1) (pEnd s (pFrom s k1))) from rfl)
  obtain ⟨k0, hk0⟩ : ∃ k0, k0 = pFrom s k1 := ⟨_, rfl⟩
  rw [← hk0] at HW hf HP HQ
  clear h hk0
  go_enter Try.func58, Try.ntmps58
  go_wp2_with fail
  refine HW.out.mono ?_
  rintro e w1 ⟨rfl, m1, c1⟩
  have HN := Lib.hid (Bld.new w1)
  have hz := m1.size
  have lc1 : cb < w1.heap.size := by omega
  have HM1 := Lib.hid m1
  have HC1 := Lib.hid c1
  clear m1 c1 HW hz
  go_wp2
  go_loopw [8] (fun _ wr => ∃ (k : Nat), k0 ≤ k ∧ k ≤ s.size ∧ Cur wr cb s k ∧ Bld w1.heap.size w1.heap.size (s.extract k0 k).data.toList wr ∧ Mv w.heap.size [cb] w wr ∧ w1.heap.size ≤ wr.heap.size ∧ pEnd s k = pEnd s k0) (fun _ wr => s.size - curAt wr cb)
  case atStart => exact ⟨k0, Nat.le_refl _, hf, HC1.out.alloc _, by rw [bytes_extract_none]; exact HN.out, HM1.out.alloc HM1.out.size _, by simp, rfl⟩
  case round =>
    obtain ⟨k, hk0, hk, hc, hb, hm, hz, hp⟩ := hrel
    have hge := runP_ge s k
    have hle := runP_le s k hk
    have HU : Hid (Calls Try.prog 47 #[cptr cb, .string ⟨#[34, 44]⟩] wr fun e w' => e = .returned (.string (s.extract k (runP s k))) ∧ Mv wr.heap.size [cb] wr w' ∧ Cur w' cb s (runP s k)) := until_any cb k s stopP wr hc hk hs' (by rw [stopP_size]; omega)
    obtain ⟨j, hj⟩ : ∃ j, j = runP s k := ⟨_, rfl⟩
    have HJ := Lib.hid (fun h : runP s k < s.size => runP_at hk h)
    have HE1 := Lib.hid (fun h : runP s k = s.size => (pEnd_end hk h).symm.trans hp)
    have HE2 := Lib.hid (fun (h : runP s k < s.size) (e : s[runP s k].toNat = 44) => (pEnd_comma hk h e).symm.trans hp)
    have HE3 := Lib.hid (fun (h : runP s k < s.size) (e : s[runP s k].toNat = 34) => (pEnd_quote hk h e).symm.trans hp)
    rw [← hj] at hge hle HU HJ HE1 HE2 HE3
    clear hj hp
    have hx : (s.extract k0 k).data.toList.length + (s.extract k j).size ≤ 140737488355328 := by simp; omega
    have HWS := Lib.hid (fun W h1 h2 => writeString_any w1.heap.size w1.heap.size (s.extract k0 k).data.toList (s.extract k j) W h1 hx h2)
    rw [bytes_join hk0 hge] at HWS
    have HX := Lib.hid (show (s.extract k0 j).data.toList.length ≤ s.size from by simp; omega)
    have HBK := Lib.hid (bytes_back (s.extract k0 j))
    have HJN := Lib.hid (fun c (h : j ≤ c) => bytes_join (s := s) (a := k0) (b := j) (c := c) (by omega) h)
    obtain ⟨l2, hl2⟩ : ∃ l2, l2 = (s.extract k0 j).data.toList := ⟨_, rfl⟩
    rw [← hl2] at HWS HX HBK HJN
    obtain ⟨x, hxx⟩ : ∃ x, x = s.extract k j := ⟨_, rfl⟩
    rw [← hxx] at HU HWS
    have HM := Lib.hid hm
    have HB := Lib.hid hb
    have HA := Lib.hid (curAt_of hc)
    have HZ := Lib.hid hz
    clear hx hb hm hc hl2 hxx hz
    go_wp2_with fail
    refine HU.out.mono ?_
    rintro e w2 ⟨rfl, m2, c2⟩
    have HB2 := Lib.hid (HB.out.mv m2 (by simpa using lc1))
    have HM2 := Lib.hid (HM.out.chain m2 (Nat.le_refl _))
    have HZ2 := Lib.hid (Nat.le_trans HZ.out m2.size)
    have HC2 := Lib.hid c2
    clear m2 c2
    go_wp2_with fail
    refine (HWS.out _ HB2.out HZ2.out).mono ?_
    rintro e w3 ⟨rfl, b3, m3⟩
    have HB3 := Lib.hid b3
    have HM3 := Lib.hid (HM2.out.trans (Mv.of_below (m3.mono (B' := w.heap.size) (by have := HM1.out.size; omega)) [cb]))
    have HZ3 := Lib.hid (Nat.le_trans HZ2.out m3.size)
    have HC3 := Lib.hid (Blk.below HC2.out m3 lc1)
    have HEN : Hid (∀ W, Calls Try.prog 73 #[.string ⟨l2.toArray⟩] W fun e w' => e = .returned (.string (cutP tabB (s.extract k0 j))) ∧ W = w') := fun W => by
      rw [HBK.out]
      exact ends_any (s.extract k0 j) W (by simp; omega)
    clear b3 m3 HB2 HM2 HC2 HU HWS HBK
    by_cases hjs : j = s.size
    · have HQ1 := hjs.trans (HE1.out hjs)
      have HPC := Lib.hid (show piece s k1 = cutP tabB (s.extract k0 j) from by rw [HQ.out, ← HQ1])
      have HPT := Lib.hid (show pTo s k1 = j from by rw [HP.out, ← HQ1])
      clear HQ1
      have HK := Lib.hid (fun W (hW : Cur W cb s j) => peek0_far cb j s W hW hjs hs')
      clear hjs
      go_wp2_with fail
      refine (HK.out _ HC3.out).mono ?_
      rintro e w4 ⟨rfl, i4⟩
      have m4 : Mv w3.heap.size [cb] w3 w4 := Mv.idle i4
      have HB4 := Lib.hid (HB3.out.mv m4 (by simpa using lc1))
      have HM4 := Lib.hid (HM3.out.chain m4 (Nat.le_refl _))
      have HZ4 := Lib.hid (Nat.le_trans HZ3.out m4.size)
      have HC4 : Hid (Cur w4 cb s j) := by obtain ⟨n, rfl⟩ := i4; exact Blk.drewN HC3.out n
      clear i4 m4
      go_wp2_with fail
      refine (string_any _ _ l2 _ HB4.out HZ4.out).mono ?_
      rintro e w5 ⟨rfl, _, m5⟩
      have HM5 := Lib.hid (HM4.out.trans (Mv.of_below (m5.mono (B' := w.heap.size) (by have := HM1.out.size; omega)) [cb]))
      have HC5 := Lib.hid (Blk.below HC4.out m5 lc1)
      clear m5
      go_wp2_with fail
      refine (HEN.out _).mono ?_
      rintro e w6 ⟨rfl, rfl⟩
      go_wp2
      go_ret
      exact ⟨by rw [HPC.out]; rfl, HM5.out, by rw [HPT.out]; exact HC5.out⟩
    · have hlt : j < s.size := by omega
      have HK := Lib.hid (fun W (hW : Cur W cb s j) => peek0_ok cb j s W hW hs' hlt)
      clear hjs
      by_cases hq : s[j].toNat = 44
      · have HQ1 := HE2.out hlt hq
        have HPC := Lib.hid (show piece s k1 = cutP tabB (s.extract k0 j) from by rw [HQ.out, ← HQ1])
        have HPT := Lib.hid (show pTo s k1 = j from by rw [HP.out, ← HQ1])
        clear HQ1
        have d1 : ((s[j].toNat : Int) == 44) = true := by rw [hq]; rfl
        clear hq
        go_wp2_with fail
        refine (HK.out _ HC3.out).mono ?_
        rintro e w4 ⟨rfl, i4⟩
        have m4 : Mv w3.heap.size [cb] w3 w4 := Mv.idle i4
        have HB4 := Lib.hid (HB3.out.mv m4 (by simpa using lc1))
        have HM4 := Lib.hid (HM3.out.chain m4 (Nat.le_refl _))
        have HZ4 := Lib.hid (Nat.le_trans HZ3.out m4.size)
        have HC4 : Hid (Cur w4 cb s j) := by obtain ⟨n, rfl⟩ := i4; exact Blk.drewN HC3.out n
        clear i4 m4
        go_wp2_with fail
        refine (string_any _ _ l2 _ HB4.out HZ4.out).mono ?_
        rintro e w5 ⟨rfl, _, m5⟩
        have HM5 := Lib.hid (HM4.out.trans (Mv.of_below (m5.mono (B' := w.heap.size) (by have := HM1.out.size; omega)) [cb]))
        have HC5 := Lib.hid (Blk.below HC4.out m5 lc1)
        clear m5
        go_wp2_with fail
        refine (HEN.out _).mono ?_
        rintro e w6 ⟨rfl, rfl⟩
        go_wp2
        go_ret
        exact ⟨by rw [HPC.out]; rfl, HM5.out, by rw [HPT.out]; exact HC5.out⟩
      · have hs34 : s[j].toNat = 34 := by rcases HJ.out hlt with h | h; exact h; exact absurd h hq
        have d1 : ((s[j].toNat : Int) == 44) = false := by rw [hs34]; rfl
        have HQ1 := Lib.hid (HE3.out hlt hs34)
        have HCO := Lib.hid (fun W (hW : Cur W cb s j) => collect_all cb j s W hW hlt hs34 (by omega))
        have hqle := quoS_le (s := s) (k := j + 1) (by omega)
        obtain ⟨m, hm⟩ : ∃ m, m = j + 1 + (quoS s (j + 1)).2 := ⟨_, rfl⟩
        rw [← hm] at HQ1 HCO hqle
        have hjm : j < m := by omega
        have HJ2 := Lib.hid (HJN.out m (by omega))
        have HZZ := Lib.hid (show (s.extract j m).size = m - j from by simp; omega)
        have HL2 := Lib.hid (show l2.length + (s.extract j m).size ≤ 140737488355328 from by have := HX.out; simp; omega)
        obtain ⟨y, hy⟩ : ∃ y, y = s.extract j m := ⟨_, rfl⟩
        rw [← hy] at HCO HJ2 HL2
        clear hq hs34 hm hy
        go_wp2_with fail
        refine (HK.out _ HC3.out).mono ?_
        rintro e w4 ⟨rfl, i4⟩
        have m4 : Mv w3.heap.size [cb] w3 w4 := Mv.idle i4
        have HB4 := Lib.hid (HB3.out.mv m4 (by simpa using lc1))
        have HM4 := Lib.hid (HM3.out.chain m4 (Nat.le_refl _))
        have HZ4 := Lib.hid (Nat.le_trans HZ3.out m4.size)
        have HC4 : Hid (Cur w4 cb s j) := by obtain ⟨n, rfl⟩ := i4; exact Blk.drewN HC3.out n
        clear i4 m4
        go_wp2_with fail
        refine (HCO.out _ HC4.out).mono ?_
        rintro e w5 ⟨rfl, m5, c5⟩
        have HB5 := Lib.hid (HB4.out.mv m5 (by simpa using lc1))
        have HM5 := Lib.hid (HM4.out.chain m5 (Nat.le_refl _))
        have HZ5 := Lib.hid (Nat.le_trans HZ4.out m5.size)
        have HC5 := Lib.hid c5
        clear m5 c5
        go_wp2_with fail
        refine (writeString_any _ _ l2 y _ HB5.out HL2.out HZ5.out).mono ?_
        rintro e w6 ⟨rfl, b6, m6⟩
        have HB6 := Lib.hid b6
        have HM6 := Lib.hid (HM5.out.trans (Mv.of_below (m6.mono (B' := w.heap.size) (by have := HM1.out.size; omega)) [cb]))
        have HZ6 := Lib.hid (Nat.le_trans HZ5.out m6.size)
        have HC6 := Lib.hid (Blk.below HC5.out m6 lc1)
        clear b6 m6
        go_wp2
        go_roundw
        case rel => exact ⟨m, by omega, hqle, HC6.out, by rw [← HJ2.out]; exact HB6.out, HM6.out, HZ6.out, HQ1.out⟩
        case measure => rw [HA.out, curAt_of HC6.out]; omega

theorem own_mv {W W' : World} {base : Nat} {e : TypeId} {size : Nat} {v : Value} {n : Nat} {xs : List Value} {r : List Nat} (h : W.ownsRow base e size v n xs) (hm : Mv W.heap.size r W W') (hr : ∀ x ∈ r, v.ownBlock ≠ some x) : W'.ownsRow base e size v n xs := by
  refine ⟨h.1, ?_⟩
  rcases h.2 with hn | ⟨g, cap, cur, rfl, hb, hg, rest⟩
  · exact .inl hn
  · exact .inr ⟨g, cap, cur, rfl, hb, (hm.block g (Array.getElem?_eq_some_iff.1 hg).1 (fun hx => hr g hx rfl)).trans hg, rest⟩
theorem own_slice {W : World} {base : Nat} {e : TypeId} {size : Nat} {v : Value} {n : Nat} {xs : List Value} (h : W.ownsRow base e size v n xs) : ∃ ao n' cap, v = .slice ao n' cap := by
  rcases h.2 with ⟨hv, _⟩ | ⟨g, cap, cur, hv, _⟩
  · exact ⟨_, _, _, hv⟩
  · exact ⟨_, _, _, hv⟩

theorem Try.info9 : (Try.prog.info? 9).map (fun i => (i.zero, i.size, i.bytes)) = some (some (.string ⟨#[]⟩), 1, 16) := by kernel_rfl

/-- Texts as cells. -/
def strs (l : List ByteArray) : List Value := l.map Value.string
/-- A slice of new memory that holds these texts. -/
def NewStrs (l : List ByteArray) (w : World) (e : Ending) (w' : World) : Prop := ∃ v, e = .returned v ∧ w'.ownsRow w.heap.size 9 1 v l.length (strs l) ∧ Below w.heap.size w w'

theorem skip_comma_yes (cb k : Nat) (s : ByteArray) (w : World) (h : Cur w cb s k) (hk : k < s.size) (hq : s[k].toNat = 44) (hs : s.size ≤ 9223372036854775807) :
    Calls Try.prog 48 #[cptr cb, .string ⟨#[44]⟩] w fun e w' => e = .returned (.bool true) ∧ ∃ m, w' = (w.drewN m).setCell ⟨cb, 1, none⟩ (.int .i64 (k + 1 : Nat)) :=
  skip_yes cb k s ⟨#[44]⟩ w h (by omega) hs (by show 1 ≤ _; omega) (by rw [prefB_one hk, hq]; rfl) (by show k + 1 ≤ _; omega)
theorem skip_comma_no (cb k : Nat) (s : ByteArray) (w : World) (h : Cur w cb s k) (hk : k = s.size) (hs : s.size ≤ 9223372036854775807) :
    Calls Try.prog 48 #[cptr cb, .string ⟨#[44]⟩] w fun e w' => e = .returned (.bool false) ∧ ∃ m, w' = w.drewN m :=
  skip_no cb k s ⟨#[44]⟩ w h (by omega) hs (by show 1 ≤ _; omega) (prefB_none (by omega) _)

set_option maxHeartbeats 2000000 in
theorem split_any (s : ByteArray) (w : World) (hs : s.size ≤ 1099511627776) :
    Calls Try.prog 43 #[.string s] w (NewStrs (splitL s 0) w) := by
  have hs' : s.size ≤ 9223372036854775807 := by omega
  obtain ⟨i0, hi, hz0, hz1, hz2⟩ := info_parts Try.info9
  have HC0 := Lib.hid (show Cur (w.alloc (.cells #[.string s, .int .i64 0] 79)) w.heap.size s 0 from Blk.new w 79 #[.string s, .int .i64 0])
  go_enter Try.func43, Try.ntmps43
  go_wp2_with fail
  refine (new_any s w).mono ?_
  rintro e w1 ⟨rfl, rfl⟩
  go_wp2
  go_loopw [3] (fun v wr => ∃ (k : Nat) (ps : List ByteArray), k ≤ s.size ∧ ps.length ≤ k ∧ wr.ownsRow w.heap.size 9 1 v ps.length (strs ps) ∧ Cur wr w.heap.size s k ∧ Below w.heap.size w wr ∧ ps ++ splitL s k = splitL s 0) (fun _ wr => s.size - curAt wr w.heap.size)
  case atStart => exact ⟨0, [], Nat.zero_le _, Nat.zero_le _, World.ownsRow_nil _ _ _ _, HC0.out, (Below.refl _ _).alloc (Nat.le_refl _) _, rfl⟩
  case round =>
    obtain ⟨k, ps, hk, hl, hown, hc, hm, ht⟩ := hrel
    have hto := pTo_le hk
    have htg := pTo_ge hk
    have HTP := Lib.hid (fun W (hW : Cur W w.heap.size s k) => takePiece_any w.heap.size k s W hW hk (by omega))
    have HA := Lib.hid (curAt_of hc)
    have HAT := Lib.hid (fun h : pTo s k < s.size => pEnd_at (pFrom_le hk) h)
    have HMO := Lib.hid (fun h : pTo s k < s.size => splitL_more hk h)
    have HLA := Lib.hid (fun h : pTo s k = s.size => splitL_last hk h)
    have HAT2 : Hid (∀ h : pTo s k < s.size, s[pTo s k].toNat = 44) := HAT.out
    obtain ⟨j, hj⟩ : ∃ j, j = pTo s k := ⟨_, rfl⟩
    obtain ⟨x, hx⟩ : ∃ x, x = piece s k := ⟨_, rfl⟩
    rw [← hj] at hto htg HTP HMO HLA HAT2
    rw [← hx] at HTP HMO HLA
    have hne := Lib.ownBlock_ne hown hc (by decide)
    have HO := Lib.hid hown
    have HC := Lib.hid hc
    have HM := Lib.hid hm
    have HT := Lib.hid ht
    obtain ⟨ao, n', cap, rfl⟩ := own_slice hown
    have HNE := Lib.hid hne
    clear hown hc hm ht hj hx HAT hne
    go_wp2_with fail
    refine (HTP.out _ HC.out).mono ?_
    rintro e w2 ⟨rfl, m2, c2⟩
    have HO2 := Lib.hid (own_mv HO.out m2 (by simpa using HNE.out))
    have HM2 := Lib.hid ((HM.out.trans ((m2.mono (B' := w.heap.size) HM.out.size (fun x hx => .inl hx)).below (Nat.le_refl _) (by simp))))
    have HC2 := Lib.hid c2
    clear m2 c2
    go_wp2_with (at_builtin; refine wpList_append_own _ rfl _ _ 47 rfl w.heap.size 9 i0 (.string ⟨#[]⟩) 1 16 Try.underlying47 hi hz0 hz1 hz2 rfl (by decide) _ _ _ rfl (HO2.out.alloc _) ⟨w2.heap.size, 0, none⟩ 1 1 [.string x] rfl rfl ?c1 ?c2 ?c3 ?c4 ?c5 ?_)
    case c1 =>
      intro j u hj
      match j, hj with
      | 0, hj => simp at hj; subst hj; simp [Addr.add]
    case c2 => intro u hu; simp at hu; subst hu; rfl
    case c3 => unfold maxLen; omega
    case c4 => omega
    case c5 => have := HM2.out.size; simp; omega
    intro v' w3 hown' hgrow _
    have HO3 := Lib.hid (show w3.ownsRow w.heap.size 9 1 v' (ps ++ [x]).length (strs (ps ++ [x])) from by simpa [strs] using hown')
    have HM3 := Lib.hid (Below.grown (HM2.out.alloc HM2.out.size _) hgrow (by have := HM2.out.size; simp; omega) (fun g hg => (HO2.out.lt g hg).1))
    have HC3 : Hid (Cur w3 w.heap.size s j) := (hgrow.block w.heap.size (by have := Blk.lt HC2.out; simp; omega) (fun e => HNE.out e.symm)).trans (Blk.alloc HC2.out _)
    obtain ⟨ao', n2, cap', rfl⟩ := own_slice hown'
    clear hown' hgrow HO2 HM2 HC2
    by_cases hjs : j = s.size
    · have HS := Lib.hid (fun W (hW : Cur W w.heap.size s j) => skip_comma_no w.heap.size j s W hW hjs hs')
      have HL := Lib.hid (show ps ++ [x] = splitL s 0 from by rw [← HT.out, HLA.out hjs])
      clear hjs
      go_wp2_with fail
      refine (HS.out _ HC3.out).mono ?_
      rintro e w4 ⟨rfl, i4⟩
      have m4 : Mv w3.heap.size [] w3 w4 := Mv.idle i4
      have HO4 := Lib.hid (own_mv HO3.out m4 (by simp))
      have HM4 := Lib.hid (HM3.out.trans ((m4.mono (B' := w.heap.size) HM3.out.size (fun x hx => .inl hx)).below (Nat.le_refl _) (by simp)))
      clear i4 m4
      go_wp2
      go_ret
      exact ⟨_, rfl, by rw [← HL.out]; exact HO4.out, HM4.out⟩
    · have hlt : j < s.size := by omega
      have HS := Lib.hid (fun W (hW : Cur W w.heap.size s j) (e : s[j].toNat = 44) => skip_comma_yes w.heap.size j s W hW hlt e hs')
      have HL := Lib.hid (show (ps ++ [x]) ++ splitL s (j + 1) = splitL s 0 from by rw [← HT.out, HMO.out hlt]; simp)
      clear hjs
      go_wp2_with fail
      refine (HS.out _ HC3.out (HAT2.out hlt)).mono ?_
      rintro e w4 ⟨rfl, i4⟩
      obtain ⟨m4, c4⟩ := Mv.put HC3.out i4
      have hne3 := Lib.ownBlock_ne HO3.out HC3.out (by decide)
      have HO4 := Lib.hid (own_mv HO3.out m4 (by simpa using hne3))
      have HM4 := Lib.hid (HM3.out.trans ((m4.mono (B' := w.heap.size) HM3.out.size (fun x hx => .inl hx)).below (Nat.le_refl _) (by simp)))
      have HC4 := Lib.hid c4
      clear i4 m4 c4 hne3
      go_wp2
      go_roundw
      case rel => exact ⟨j + 1, ps ++ [x], by omega, by simp; omega, HO4.out, HC4.out, HM4.out, HL.out⟩
      case measure => rw [HA.out, curAt_of HC4.out]; omega

end Go.Proofs.Ytmepnfkgfbbkiaa
