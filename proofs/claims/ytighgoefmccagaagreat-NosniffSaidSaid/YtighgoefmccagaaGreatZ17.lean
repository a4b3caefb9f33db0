/-
  What takePiece does to a cursor, and what layer 4's Split answers. Condition: the text takes at most 2^45 bytes.
  What the builder's grow of the library does at this translation.
  A slice of texts; what Join of the library answers, with a comma and a blank between each two; the same of package combine. Condition: a thousand texts of a thousand bytes.
-/
import Derived.Test.YtighgoefmccagaaGreatZ7
import Derived.Test.YtighgoefmccagaaGreatZ16
import Derived.Test.YtighgoefmccagaaGreatZ9
import Derived.OwnWalk
import Derived.Laws.OwnMore
import Derived.Shelf.Strings.Builder2
import Derived.Test.YtighgoefmccagaaGreatZ2
import Derived.WalkKit
import Derived.Test.YtighgoefmccagaaGreatZ11
import Derived.BigQuiet
namespace Go.Proofs.YtighgoefmccagaaGreat
open Go.RowKit

theorem peek0_ok (cb k : Nat) (s : ByteArray) (w : World) (h : Cur w cb s k) (hs : s.size ≤ 9223372036854775807) (hk : k < s.size) :
    Calls Tryz.prog 76 #[cptr cb, .int .i64 0] w fun e w' => e = .returned (.tuple #[.int .u8 (s[k].toNat : Int), .bool true]) ∧ ∃ m, w' = w.drewN m := by
  have := peek_ok cb k 0 s w h hs (by omega)
  simpa using this
theorem peek0_far (cb k : Nat) (s : ByteArray) (w : World) (h : Cur w cb s k) (hk : k = s.size) (hs : s.size ≤ 9223372036854775807) :
    Calls Tryz.prog 76 #[cptr cb, .int .i64 0] w fun e w' => e = .returned (.tuple #[.int .u8 0, .bool false]) ∧ ∃ m, w' = w.drewN m :=
  peek_far cb k s 0 w h (by omega) hs (by omega) (by omega)

theorem bytes_join {s : ByteArray} {a b c : Nat} (h1 : a ≤ b) (h2 : b ≤ c) : (s.extract a b).data.toList ++ (s.extract b c).data.toList = (s.extract a c).data.toList := by
  rw [← ByteArray.toList_data_append]
  rw [ByteArray.extract_append_extract, Nat.min_eq_left h1, Nat.max_eq_right h2]
theorem bytes_back (s : ByteArray) : (⟨s.data.toList.toArray⟩ : ByteArray) = s := by
  cases s; simp

set_option maxHeartbeats 2000000 in
theorem takePiece_any (cb k1 : Nat) (s : ByteArray) (w : World) (h : Cur w cb s k1) (hk1 : k1 ≤ s.size) (hs : s.size ≤ 35184372088832) :
    Calls Tryz.prog 50 #[cptr cb] w fun e w' => e = .returned (.string (piece s k1)) ∧ Mv w.heap.size [cb] w w' ∧ Cur w' cb s (pTo s k1) := by
  have hs' : s.size ≤ 9223372036854775807 := by omega
  have lc := h.lt
  have HW : Hid (Calls Tryz.prog 73 #[cptr cb, fn_tab] w fun e w' => e = .returned (.string (s.extract k1 (pFrom s k1))) ∧ Mv w.heap.size [cb] w w' ∧ Cur w' cb s (pFrom s k1)) := while_tab cb k1 s w h hk1 hs'
  have hf := pFrom_le hk1
  have HP := Lib.hid (show pTo s k1 = pEnd s (pFrom s k1) from rfl)
  have HQ := Lib.hid (show piece s k1 = cutP tabB (s.extract (pFrom s k1) (pEnd s (pFrom s k1))) from rfl)
  obtain ⟨k0, hk0⟩ : ∃ k0, k0 = pFrom s k1 := ⟨_, rfl⟩
  rw [← hk0] at HW hf HP HQ
  clear h hk0
  go_enter Tryz.func50, Tryz.ntmps50
  go_wp2_with fail
  refine HW.out.mono ?_
  rintro e w1 ⟨rfl, m1, c1⟩
  have HN := Lib.hid (Bld.new w1)
  have hz := m1.size
  have lc1 : cb < w1.heap.size := by omega
  have HM1 := Lib.hid m1
  have HC1 := Lib.hid c1
  clear m1 c1 HW hz
  go_wp2
  go_loopw [8] (fun _ wr => ∃ (k : Nat), k0 ≤ k ∧ k ≤ s.size ∧ Cur wr cb s k ∧ Bld w1.heap.size w1.heap.size (s.extract k0 k).data.toList wr ∧ Mv w.heap.size [cb] w wr ∧ w1.heap.size ≤ wr.heap.size ∧ pEnd s k = pEnd s k0) (fun _ wr => s.size - curAt wr cb)
  case atStart => exact ⟨k0, Nat.le_refl _, hf, HC1.out.alloc _, by rw [bytes_extract_none]; exact HN.out, HM1.out.alloc HM1.out.size _, by simp, rfl⟩
  case round =>
    obtain ⟨k, hk0, hk, hc, hb, hm, hz, hp⟩ := hrel
    have hge := runP_ge s k
    have hle := runP_le s k hk
    have HU : Hid (Calls Tryz.prog 62 #[cptr cb, .string ⟨#[34, 44]⟩] wr fun e w' => e = .returned (.string (s.extract k (runP s k))) ∧ Mv wr.heap.size [cb] wr w' ∧ Cur w' cb s (runP s k)) := until_any cb k s stopP wr hc hk hs' (by rw [stopP_size]; omega)
    obtain ⟨j, hj⟩ : ∃ j, j = runP s k := ⟨_, rfl⟩
    have HJ := Lib.hid (fun h : runP s k < s.size => runP_at hk h)
    have HE1 := Lib.hid (fun h : runP s k = s.size => (pEnd_end hk h).symm.trans hp)
    have HE2 := Lib.hid (fun (h : runP s k < s.size) (e : s[runP s k].toNat = 44) => (pEnd_comma hk h e).symm.trans hp)
    have HE3 := Lib.hid (fun (h : runP s k < s.size) (e : s[runP s k].toNat = 34) => (pEnd_quote hk h e).symm.trans hp)
    rw [← hj] at hge hle HU HJ HE1 HE2 HE3
    clear hj hp
    have hx : (s.extract k0 k).data.toList.length + (s.extract k j).size ≤ 140737488355328 := by simp; omega
    have HWS := Lib.hid (fun W h1 h2 => writeString_any w1.heap.size w1.heap.size (s.extract k0 k).data.toList (s.extract k j) W h1 hx h2)
    rw [bytes_join hk0 hge] at HWS
    have HX := Lib.hid (show (s.extract k0 j).data.toList.length ≤ s.size from by simp; omega)
    have HBK := Lib.hid (bytes_back (s.extract k0 j))
    have HJN := Lib.hid (fun c (h : j ≤ c) => bytes_join (s := s) (a := k0) (b := j) (c := c) (by omega) h)
    obtain ⟨l2, hl2⟩ : ∃ l2, l2 = (s.extract k0 j).data.toList := ⟨_, rfl⟩
    rw [← hl2] at HWS HX HBK HJN
    obtain ⟨x, hxx⟩ : ∃ x, x = s.extract k j := ⟨_, rfl⟩
    rw [← hxx] at HU HWS
    have HM := Lib.hid hm
    have HB := Lib.hid hb
    have HA := Lib.hid (curAt_of hc)
    have HZ := Lib.hid hz
    clear hx hb hm hc hl2 hxx hz
    go_wp2_with fail
    refine HU.out.mono ?_
    rintro e w2 ⟨rfl, m2, c2⟩
    have HB2 := Lib.hid (HB.out.mv m2 (by simpa using lc1))
    have HM2 := Lib.hid (HM.out.chain m2 (Nat.le_refl _))
    have HZ2 := Lib.hid (Nat.le_trans HZ.out m2.size)
    have HC2 := Lib.hid c2
    clear m2 c2
    go_wp2_with fail
    refine (HWS.out _ HB2.out HZ2.out).mono ?_
    rintro e w3 ⟨rfl, b3, m3⟩
    have HB3 := Lib.hid b3
    have HM3 := Lib.hid (HM2.out.trans (Mv.of_below (m3.mono (B' := w.heap.size) (by have := HM1.out.size; omega)) [cb]))
    have HZ3 := Lib.hid (Nat.le_trans HZ2.out m3.size)
    have HC3 := Lib.hid (Blk.below HC2.out m3 lc1)
    have HEN : Hid (∀ W, Calls Tryz.prog 77 #[.string ⟨l2.toArray⟩] W fun e w' => e = .returned (.string (cutP tabB (s.extract k0 j))) ∧ W = w') := fun W => by
      rw [HBK.out]
      exact ends_any (s.extract k0 j) W (by simp; omega)
    clear b3 m3 HB2 HM2 HC2 HU HWS HBK
    by_cases hjs : j = s.size
    · have HQ1 := hjs.trans (HE1.out hjs)
      have HPC := Lib.hid (show piece s k1 = cutP tabB (s.extract k0 j) from by rw [HQ.out, ← HQ1])
      have HPT := Lib.hid (show pTo s k1 = j from by rw [HP.out, ← HQ1])
      clear HQ1
      have HK := Lib.hid (fun W (hW : Cur W cb s j) => peek0_far cb j s W hW hjs hs')
      clear hjs
      go_wp2_with fail
      refine (HK.out _ HC3.out).mono ?_
      rintro e w4 ⟨rfl, i4⟩
      have m4 : Mv w3.heap.size [cb] w3 w4 := Mv.idle i4
      have HB4 := Lib.hid (HB3.out.mv m4 (by simpa using lc1))
      have HM4 := Lib.hid (HM3.out.chain m4 (Nat.le_refl _))
      have HZ4 := Lib.hid (Nat.le_trans HZ3.out m4.size)
      have HC4 : Hid (Cur w4 cb s j) := by obtain ⟨n, rfl⟩ := i4; exact Blk.drewN HC3.out n
      clear i4 m4
      go_wp2_with fail
      refine (string_any _ _ l2 _ HB4.out HZ4.out).mono ?_
      rintro e w5 ⟨rfl, _, m5⟩
      have HM5 := Lib.hid (HM4.out.trans (Mv.of_below (m5.mono (B' := w.heap.size) (by have := HM1.out.size; omega)) [cb]))
      have HC5 := Lib.hid (Blk.below HC4.out m5 lc1)
      clear m5
      go_wp2_with fail
      refine (HEN.out _).mono ?_
      rintro e w6 ⟨rfl, rfl⟩
      go_wp2
      go_ret
      exact ⟨by rw [HPC.out]; rfl, HM5.out, by rw [HPT.out]; exact HC5.out⟩
    · have hlt : j < s.size := by omega
      have HK := Lib.hid (fun W (hW : Cur W cb s j) => peek0_ok cb j s W hW hs' hlt)
      clear hjs
      by_cases hq : s[j].toNat = 44
      · have HQ1 := HE2.out hlt hq
        have HPC := Lib.hid (show piece s k1 = cutP tabB (s.extract k0 j) from by rw [HQ.out, ← HQ1])
        have HPT := Lib.hid (show pTo s k1 = j from by rw [HP.out, ← HQ1])
        clear HQ1
        have d1 : ((s[j].toNat : Int) == 44) = true := by rw [hq]; rfl
        clear hq
        go_wp2_with fail
        refine (HK.out _ HC3.out).mono ?_
        rintro e w4 ⟨rfl, i4⟩
        have m4 : Mv w3.heap.size [cb] w3 w4 := Mv.idle i4
        have HB4 := Lib.hid (HB3.out.mv m4 (by simpa using lc1))
        have HM4 := Lib.hid (HM3.out.chain m4 (Nat.le_refl _))
        have HZ4 := Lib.hid (Nat.le_trans HZ3.out m4.size)
        have HC4 : Hid (Cur w4 cb s j) := by obtain ⟨n, rfl⟩ := i4; exact Blk.drewN HC3.out n
        clear i4 m4
        go_wp2_with fail
        refine (string_any _ _ l2 _ HB4.out HZ4.out).mono ?_
        rintro e w5 ⟨rfl, _, m5⟩
        have HM5 := Lib.hid (HM4.out.trans (Mv.of_below (m5.mono (B' := w.heap.size) (by have := HM1.out.size; omega)) [cb]))
        have HC5 := Lib.hid (Blk.below HC4.out m5 lc1)
        clear m5
        go_wp2_with fail
        refine (HEN.out _).mono ?_
        rintro e w6 ⟨rfl, rfl⟩
        go_wp2
        go_ret
        exact ⟨by rw [HPC.out]; rfl, HM5.out, by rw [HPT.out]; exact HC5.out⟩
      · have hs34 : s[j].toNat = 34 := by rcases HJ.out hlt with h | h; exact h; exact absurd h hq
        have d1 : ((s[j].toNat : Int) == 44) = false := by rw [hs34]; rfl
        have HQ1 := Lib.hid (HE3.out hlt hs34)
        have HCO := Lib.hid (fun W (hW : Cur W cb s j) => collect_all cb j s W hW hlt hs34 (by omega))
        have hqle := quoS_le (s := s) (k := j + 1) (by omega)
        obtain ⟨m, hm⟩ : ∃ m, m = j + 1 + (quoS s (j + 1)).2 := ⟨_, rfl⟩
        rw [← hm] at HQ1 HCO hqle
        have hjm : j < m := by omega
        have HJ2 := Lib.hid (HJN.out m (by omega))
        have HZZ := Lib.hid (show (s.extract j m).size = m - j from by simp; omega)
        have HL2 := Lib.hid (show l2.length + (s.extract j m).size ≤ 140737488355328 from by have := HX.out; simp; omega)
        obtain ⟨y, hy⟩ : ∃ y, y = s.extract j m := ⟨_, rfl⟩
        rw [← hy] at HCO HJ2 HL2
        clear hq hs34 hm hy
        go_wp2_with fail
        refine (HK.out _ HC3.out).mono ?_
        rintro e w4 ⟨rfl, i4⟩
        have m4 : Mv w3.heap.size [cb] w3 w4 := Mv.idle i4
        have HB4 := Lib.hid (HB3.out.mv m4 (by simpa using lc1))
        have HM4 := Lib.hid (HM3.out.chain m4 (Nat.le_refl _))
        have HZ4 := Lib.hid (Nat.le_trans HZ3.out m4.size)
        have HC4 : Hid (Cur w4 cb s j) := by obtain ⟨n, rfl⟩ := i4; exact Blk.drewN HC3.out n
        clear i4 m4
        go_wp2_with fail
        refine (HCO.out _ HC4.out).mono ?_
        rintro e w5 ⟨rfl, m5, c5⟩
        have HB5 := Lib.hid (HB4.out.mv m5 (by simpa using lc1))
        have HM5 := Lib.hid (HM4.out.chain m5 (Nat.le_refl _))
        have HZ5 := Lib.hid (Nat.le_trans HZ4.out m5.size)
        have HC5 := Lib.hid c5
        clear m5 c5
        go_wp2_with fail
        refine (writeString_any _ _ l2 y _ HB5.out HL2.out HZ5.out).mono ?_
        rintro e w6 ⟨rfl, b6, m6⟩
        have HB6 := Lib.hid b6
        have HM6 := Lib.hid (HM5.out.trans (Mv.of_below (m6.mono (B' := w.heap.size) (by have := HM1.out.size; omega)) [cb]))
        have HZ6 := Lib.hid (Nat.le_trans HZ5.out m6.size)
        have HC6 := Lib.hid (Blk.below HC5.out m6 lc1)
        clear b6 m6
        go_wp2
        go_roundw
        case rel => exact ⟨m, by omega, hqle, HC6.out, by rw [← HJ2.out]; exact HB6.out, HM6.out, HZ6.out, HQ1.out⟩
        case measure => rw [HA.out, curAt_of HC6.out]; omega

theorem own_mv {W W' : World} {base : Nat} {e : TypeId} {size : Nat} {v : Value} {n : Nat} {xs : List Value} {r : List Nat} (h : W.ownsRow base e size v n xs) (hm : Mv W.heap.size r W W') (hr : ∀ x ∈ r, v.ownBlock ≠ some x) : W'.ownsRow base e size v n xs := by
  refine ⟨h.1, ?_⟩
  rcases h.2 with hn | ⟨g, cap, cur, rfl, hb, hg, rest⟩
  · exact .inl hn
  · exact .inr ⟨g, cap, cur, rfl, hb, (hm.block g (Array.getElem?_eq_some_iff.1 hg).1 (fun hx => hr g hx rfl)).trans hg, rest⟩
theorem own_slice {W : World} {base : Nat} {e : TypeId} {size : Nat} {v : Value} {n : Nat} {xs : List Value} (h : W.ownsRow base e size v n xs) : ∃ ao n' cap, v = .slice ao n' cap := by
  rcases h.2 with ⟨hv, _⟩ | ⟨g, cap, cur, hv, _⟩
  · exact ⟨_, _, _, hv⟩
  · exact ⟨_, _, _, hv⟩

theorem Tryz.info9 : (Tryz.prog.info? 9).map (fun i => (i.zero, i.size, i.bytes)) = some (some (.string ⟨#[]⟩), 1, 16) := by kernel_rfl

/-- Texts as cells. -/
def strs (l : List ByteArray) : List Value := l.map Value.string
/-- A slice of new memory that holds these texts. -/
def NewStrs (l : List ByteArray) (w : World) (e : Ending) (w' : World) : Prop := ∃ v, e = .returned v ∧ w'.ownsRow w.heap.size 9 1 v l.length (strs l) ∧ Below w.heap.size w w'

theorem skip_comma_yes (cb k : Nat) (s : ByteArray) (w : World) (h : Cur w cb s k) (hk : k < s.size) (hq : s[k].toNat = 44) (hs : s.size ≤ 9223372036854775807) :
    Calls Tryz.prog 51 #[cptr cb, .string ⟨#[44]⟩] w fun e w' => e = .returned (.bool true) ∧ ∃ m, w' = (w.drewN m).setCell ⟨cb, 1, none⟩ (.int .i64 (k + 1 : Nat)) :=
  skip_yes cb k s ⟨#[44]⟩ w h (by omega) hs (by show 1 ≤ _; omega) (by rw [prefB_one hk, hq]; rfl) (by show k + 1 ≤ _; omega)
theorem skip_comma_no (cb k : Nat) (s : ByteArray) (w : World) (h : Cur w cb s k) (hk : k = s.size) (hs : s.size ≤ 9223372036854775807) :
    Calls Tryz.prog 51 #[cptr cb, .string ⟨#[44]⟩] w fun e w' => e = .returned (.bool false) ∧ ∃ m, w' = w.drewN m :=
  skip_no cb k s ⟨#[44]⟩ w h (by omega) hs (by show 1 ≤ _; omega) (prefB_none (by omega) _)

set_option maxHeartbeats 2000000 in
theorem split_any (s : ByteArray) (w : World) (hs : s.size ≤ 1099511627776) :
    Calls Tryz.prog 32 #[.string s] w (NewStrs (splitL s 0) w) := by
  have hs' : s.size ≤ 9223372036854775807 := by omega
  obtain ⟨i0, hi, hz0, hz1, hz2⟩ := info_parts Tryz.info9
  have HC0 := Lib.hid (show Cur (w.alloc (.cells #[.string s, .int .i64 0] 95)) w.heap.size s 0 from Blk.new w 95 #[.string s, .int .i64 0])
  go_enter Tryz.func32, Tryz.ntmps32
  go_wp2_with fail
  refine (new_any s w).mono ?_
  rintro e w1 ⟨rfl, rfl⟩
  go_wp2
  go_loopw [3] (fun v wr => ∃ (k : Nat) (ps : List ByteArray), k ≤ s.size ∧ ps.length ≤ k ∧ wr.ownsRow w.heap.size 9 1 v ps.length (strs ps) ∧ Cur wr w.heap.size s k ∧ Below w.heap.size w wr ∧ ps ++ splitL s k = splitL s 0) (fun _ wr => s.size - curAt wr w.heap.size)
  case atStart => exact ⟨0, [], Nat.zero_le _, Nat.zero_le _, World.ownsRow_nil _ _ _ _, HC0.out, (Below.refl _ _).alloc (Nat.le_refl _) _, rfl⟩
  case round =>
    obtain ⟨k, ps, hk, hl, hown, hc, hm, ht⟩ := hrel
    have hto := pTo_le hk
    have htg := pTo_ge hk
    have HTP := Lib.hid (fun W (hW : Cur W w.heap.size s k) => takePiece_any w.heap.size k s W hW hk (by omega))
    have HA := Lib.hid (curAt_of hc)
    have HAT := Lib.hid (fun h : pTo s k < s.size => pEnd_at (pFrom_le hk) h)
    have HMO := Lib.hid (fun h : pTo s k < s.size => splitL_more hk h)
    have HLA := Lib.hid (fun h : pTo s k = s.size => splitL_last hk h)
    have HAT2 : Hid (∀ h : pTo s k < s.size, s[pTo s k].toNat = 44) := HAT.out
    obtain ⟨j, hj⟩ : ∃ j, j = pTo s k := ⟨_, rfl⟩
    obtain ⟨x, hx⟩ : ∃ x, x = piece s k := ⟨_, rfl⟩
    rw [← hj] at hto htg HTP HMO HLA HAT2
    rw [← hx] at HTP HMO HLA
    have hne := Lib.ownBlock_ne hown hc (by decide)
    have HO := Lib.hid hown
    have HC := Lib.hid hc
    have HM := Lib.hid hm
    have HT := Lib.hid ht
    obtain ⟨ao, n', cap, rfl⟩ := own_slice hown
    have HNE := Lib.hid hne
    clear hown hc hm ht hj hx HAT hne
    go_wp2_with fail
    refine (HTP.out _ HC.out).mono ?_
    rintro e w2 ⟨rfl, m2, c2⟩
    have HO2 := Lib.hid (own_mv HO.out m2 (by simpa using HNE.out))
    have HM2 := Lib.hid ((HM.out.trans ((m2.mono (B' := w.heap.size) HM.out.size (fun x hx => .inl hx)).below (Nat.le_refl _) (by simp))))
    have HC2 := Lib.hid c2
    clear m2 c2
    go_wp2_with (at_builtin; refine wpList_append_own _ rfl _ _ 47 rfl w.heap.size 9 i0 (.string ⟨#[]⟩) 1 16 Tryz.underlying47 hi hz0 hz1 hz2 rfl (by decide) _ _ _ rfl (HO2.out.alloc _) ⟨w2.heap.size, 0, none⟩ 1 1 [.string x] rfl rfl ?c1 ?c2 ?c3 ?c4 ?c5 ?_)
    case c1 =>
      intro j u hj
      match j, hj with
      | 0, hj => simp at hj; subst hj; simp [Addr.add]
    case c2 => intro u hu; simp at hu; subst hu; rfl
    case c3 => unfold maxLen; omega
    case c4 => omega
    case c5 => have := HM2.out.size; simp; omega
    intro v' w3 hown' hgrow _
    have HO3 := Lib.hid (show w3.ownsRow w.heap.size 9 1 v' (ps ++ [x]).length (strs (ps ++ [x])) from by simpa [strs] using hown')
    have HM3 := Lib.hid (Below.grown (HM2.out.alloc HM2.out.size _) hgrow (by have := HM2.out.size; simp; omega) (fun g hg => (HO2.out.lt g hg).1))
    have HC3 : Hid (Cur w3 w.heap.size s j) := (hgrow.block w.heap.size (by have := Blk.lt HC2.out; simp; omega) (fun e => HNE.out e.symm)).trans (Blk.alloc HC2.out _)
    obtain ⟨ao', n2, cap', rfl⟩ := own_slice hown'
    clear hown' hgrow HO2 HM2 HC2
    by_cases hjs : j = s.size
    · have HS := Lib.hid (fun W (hW : Cur W w.heap.size s j) => skip_comma_no w.heap.size j s W hW hjs hs')
      have HL := Lib.hid (show ps ++ [x] = splitL s 0 from by rw [← HT.out, HLA.out hjs])
      clear hjs
      go_wp2_with fail
      refine (HS.out _ HC3.out).mono ?_
      rintro e w4 ⟨rfl, i4⟩
      have m4 : Mv w3.heap.size [] w3 w4 := Mv.idle i4
      have HO4 := Lib.hid (own_mv HO3.out m4 (by simp))
      have HM4 := Lib.hid (HM3.out.trans ((m4.mono (B' := w.heap.size) HM3.out.size (fun x hx => .inl hx)).below (Nat.le_refl _) (by simp)))
      clear i4 m4
      go_wp2
      go_ret
      exact ⟨_, rfl, by rw [← HL.out]; exact HO4.out, HM4.out⟩
    · have hlt : j < s.size := by omega
      have HS := Lib.hid (fun W (hW : Cur W w.heap.size s j) (e : s[j].toNat = 44) => skip_comma_yes w.heap.size j s W hW hlt e hs')
      have HL := Lib.hid (show (ps ++ [x]) ++ splitL s (j + 1) = splitL s 0 from by rw [← HT.out, HMO.out hlt]; simp)
      clear hjs
      go_wp2_with fail
      refine (HS.out _ HC3.out (HAT2.out hlt)).mono ?_
      rintro e w4 ⟨rfl, i4⟩
      obtain ⟨m4, c4⟩ := Mv.put HC3.out i4
      have hne3 := Lib.ownBlock_ne HO3.out HC3.out (by decide)
      have HO4 := Lib.hid (own_mv HO3.out m4 (by simpa using hne3))
      have HM4 := Lib.hid (HM3.out.trans ((m4.mono (B' := w.heap.size) HM3.out.size (fun x hx => .inl hx)).below (Nat.le_refl _) (by simp)))
      have HC4 := Lib.hid c4
      clear i4 m4 c4 hne3
      go_wp2
      go_roundw
      case rel => exact ⟨j + 1, ps ++ [x], by omega, by simp; omega, HO4.out, HC4.out, HM4.out, HL.out⟩
      case measure => rw [HA.out, curAt_of HC4.out]; omega

end Go.Proofs.YtighgoefmccagaaGreat
namespace Go.Proofs.YtighgoefmccagaaGreat
open Go.RowKit Go.Shelf

def lays241_ren : Go.Shelf.Ren := ⟨fun | 241 => 119 | 277 => 127 | n => n, fun | 70 => 97 | 3 => 3 | 0 => 0 | 72 => 99 | 37 => 73 | 5 => 5 | n => n, fun | n => n⟩

theorem lays241 : Go.Proofs.Lays.n241 Tryz.prog lays241_ren := {
  mixed := by kernel_rfl
  f241 := Tryz.func119.trans (congrArg some (by kernel_rfl))
  f277 := Tryz.func127.trans (congrArg some (by kernel_rfl))
  t0 := Tryz.underlying0
  a0 := Tryz.isAgg0
  z0 := Tryz.sizeOf0
  v0 := Tryz.zeroValue0
  t3 := Tryz.underlying3
  a3 := Tryz.isAgg3
  z3 := Tryz.sizeOf3
  v3 := Tryz.zeroValue3
  t37 := Tryz.underlying73
  a37 := Tryz.isAgg73
  z37 := Tryz.sizeOf73
  v37 := Tryz.zeroValue73
  t70 := Tryz.underlying97
  a70 := Tryz.isAgg97
  z70 := Tryz.sizeOf97
  v70 := Tryz.zeroValue97
  t72 := Tryz.underlying99
  a72 := Tryz.isAgg99
  z72 := Tryz.sizeOf99
  v72 := Tryz.zeroValue99 }

theorem Builder_Extra_241 : Builder.Extra Tryz.prog lays241_ren := {
  sizeBuilder := by kernel_rfl
  liesBuilder := by kernel_rfl
  t5 := Tryz.underlying5
  a5 := Tryz.isAgg5
  z5 := Tryz.sizeOf5
  v5 := Tryz.zeroValue5
  infoByte := by kernel_rfl
  cellsByte := by kernel_rfl
  sizeByte := by kernel_rfl
  neB5 := by decide }

open Go.RowKit in
theorem Builder_grow_fresh (B b n : Nat) (w : World) (hB : B ≤ b) (hbk : w.heap[b]? = some (.cells #[.pointer (some ⟨b, 0, none⟩), .slice none 0 0] 99 (0, 0))) (hBw : B ≤ w.heap.size) (hn : n ≤ 281474976710656) :
    Calls Tryz.prog 119 #[.pointer (some ⟨b, 0, none⟩), .int .i64 n] w fun e w' => e = .returned (.tuple #[]) ∧ (Lib.BuilderAt 99 5 B b (.pointer (some ⟨b, 0, none⟩)) [] w' ∧ Below B w w') := Any.Builder_grow_fresh lays241 Builder_Extra_241 B b n w hB hbk hBw hn

theorem bgrow_any (b n : Nat) (w : World) (hbk : w.heap[b]? = some (.cells #[.pointer (some ⟨b, 0, none⟩), .slice none 0 0] 99 (0, 0))) (hn : n ≤ 281474976710656) :
    Calls Tryz.prog 119 #[.pointer (some ⟨b, 0, none⟩), .int .i64 n] w fun e w' => e = .returned (.tuple #[]) ∧ Bld b b [] w' ∧ Below b w w' :=
  (Builder_grow_fresh b b n w (Nat.le_refl _) hbk (Nat.le_of_lt (Array.getElem?_eq_some_iff.1 hbk).1) hn).mono fun _ _ h => ⟨h.1, Lib.IsBuilderF.of (Or.inr h.2.1), h.2.2⟩

end Go.Proofs.YtighgoefmccagaaGreat
namespace Go.Proofs.YtighgoefmccagaaGreat
open Go.RowKit

/-- These texts lie behind A. -/
def TxIn (w : World) (A : Option Addr) (xs : List ByteArray) : Prop := ∀ i (h : i < xs.length), ∃ g, A = some ⟨g, 0, none⟩ ∧ g < w.heap.size ∧ w.cell? ⟨g, i, none⟩ = some (.string xs[i])
theorem TxIn.below {w w' : World} {A : Option Addr} {xs : List ByteArray} (h : TxIn w A xs) (hb : Below w.heap.size w w') : TxIn w' A xs := fun i hi => by
  obtain ⟨g, e, hl, hc⟩ := h i hi
  exact ⟨g, e, Nat.lt_of_lt_of_le hl hb.size, (hb.cell (p := ⟨g, i, none⟩) hl).trans hc⟩
theorem TxIn.nil (w : World) (A : Option Addr) : TxIn w A [] := fun i h => absurd h (by simp)
theorem TxIn.of_own {w : World} {base : Nat} {v : Value} {xs : List ByteArray} (h : w.ownsRow base 9 1 v xs.length (strs xs)) : ∃ A c, v = .slice A xs.length c ∧ TxIn w A xs ∧ xs.length ≤ c := by
  rcases h.2 with ⟨hv, hn⟩ | ⟨g, cap, cur, hv, hb, hg, hc, _⟩
  · refine ⟨none, 0, by rw [hv, hn], fun i hi => absurd hi (by omega), by omega⟩
  · refine ⟨_, cap, hv, fun i hi => ?_, hc⟩
    subst hv
    have h1 := h.cellAt i (by omega)
    refine ⟨g, rfl, (Array.getElem?_eq_some_iff.1 hg).1, h1.trans ?_⟩
    simp [strs, hi]

theorem empty_append (y : ByteArray) : (⟨#[]⟩ : ByteArray) ++ y = y := by
  apply ByteArray.ext
  rw [ByteArray.data_append]
  simp

theorem join_none (A : Option Addr) (c : Nat) (s : ByteArray) (w : World) :
    Calls Tryz.prog 72 #[.slice A 0 c, .string s] w fun e w' => e = .returned (.string ⟨#[]⟩) ∧ w = w' := by
  go_enter Tryz.func72, Tryz.ntmps72
  go_wp2
  go_ret
  exact ⟨rfl, rfl⟩
theorem join_one (g c : Nat) (x s : ByteArray) (w : World) (h : w.cell? ⟨g, 0, none⟩ = some (.string x)) :
    Calls Tryz.prog 72 #[.slice (some ⟨g, 0, none⟩) 1 c, .string s] w fun e w' => e = .returned (.string x) ∧ w = w' := by
  go_enter Tryz.func72, Tryz.ntmps72
  go_wp2
  go_ret
  exact ⟨rfl, rfl⟩

set_option maxHeartbeats 1000000 in
set_option maxRecDepth 100000 in
theorem bGrow_any (b n : Nat) (w : World) (hbk : w.heap[b]? = some (.cells #[.pointer none, .slice none 0 0] 99 (0, 0))) (hn0 : 0 < n) (hn : n ≤ 281474976710656) :
    Calls Tryz.prog 99 #[.pointer (some ⟨b, 0, none⟩), .int .i64 n] w fun e w' => e = .returned (.tuple #[]) ∧ Bld b b [] w' ∧ Below b w w' := by
  obtain ⟨w1, hw1⟩ : ∃ w1, w1 = w.setCell ⟨b, 0, none⟩ (.pointer (some ⟨b, 0, none⟩)) := ⟨_, rfl⟩
  have hlt : b < w.heap.size := (Array.getElem?_eq_some_iff.1 hbk).1
  have hbk1 : w1.heap[b]? = some (.cells #[.pointer (some ⟨b, 0, none⟩), .slice none 0 0] 99 (0, 0)) := by
    rw [hw1]; simp [World.setCell, Array.getElem?_modify, hbk]
  have c1 : w1.cell? ⟨b, 1, none⟩ = some (.slice none 0 0) := by rw [Lib.cell_of_heap hbk1]; rfl
  have HB := Lib.hid (show Below b w w1 from by rw [hw1]; exact (Below.refl b w).setCell (p := ⟨b, 0, none⟩) (Nat.le_refl _) _)
  have hlt1 : b < w1.heap.size := Nat.lt_of_lt_of_le hlt HB.out.size
  have HC := Lib.hid (copyCheck_fresh b w (by rw [Lib.cell_of_heap hbk]; rfl) (by simp [World.shape?, hbk]) (Lib.frozen_of_heap hbk 0))
  have HG := Lib.hid (fun W (hW : W.heap[b]? = some (.cells #[.pointer (some ⟨b, 0, none⟩), .slice none 0 0] 99 (0, 0))) => bgrow_any b n W hW hn)
  have HK := Lib.hid hbk1
  have g1 : ¬ (n : Int) < 0 := by omega
  have g2 : (0 : Int) < (n : Int) := by omega
  clear hbk1
  go_enter Tryz.func99, Tryz.ntmps99
  go_wp2_with fail
  refine HC.out.mono ?_
  rintro e w2 ⟨rfl, rfl⟩
  rw [← hw1]
  clear hw1
  go_wp2_with fail
  go_quiet (fail)
  go_wp2_with fail
  refine (HG.out (w1.drewN _) HK.out).mono ?_
  rintro e w3 ⟨rfl, h3, b3⟩
  have H3 := Lib.hid h3
  have HB3 := Lib.hid ((Below.drewN' HB.out _).trans b3)
  clear h3 b3
  go_wp2
  go_end0
  exact ⟨rfl, H3.out, HB3.out⟩

set_option maxHeartbeats 4000000 in
set_option maxRecDepth 100000 in
theorem join_many (g c : Nat) (xs : List ByteArray) (w : World) (h : TxIn w (some ⟨g, 0, none⟩) xs) (h2 : 2 ≤ xs.length) (hn : xs.length ≤ 1000) (hx : ∀ y ∈ xs, y.size ≤ 1000) (hc : xs.length ≤ c) :
    Calls Tryz.prog 72 #[.slice (some ⟨g, 0, none⟩) xs.length c, .string sepS] w fun e w' => e = .returned (.string (joinS xs)) ∧ Below w.heap.size w w' := by
  obtain ⟨z, hz⟩ : ∃ z, z = joinS xs := ⟨_, rfl⟩
  have HZ := Lib.hid hz
  rw [← hz]
  clear hz
  have HH := Lib.hid h
  have HX := Lib.hid (fun i (hi : i < xs.length) => hx xs[i] (List.getElem_mem hi))
  have HJ := Lib.hid (fun k (hk : k ≤ xs.length) => show (joinS (xs.take k)).size ≤ k * 1002 from by
    have := joinS_size (xs := xs.take k) (m := 1000) (fun y hy => hx y (List.mem_of_mem_take hy))
    rw [List.length_take, Nat.min_eq_left hk] at this
    exact this)
  obtain ⟨g', hg', hgl, hc0⟩ := h 0 (by omega)
  cases hg'
  have HC0 := Lib.hid hc0
  have hne0 : ((xs.length : Int) == 0) = false := beq_eq_false_iff_ne.2 (by omega)
  have hne1 : ((xs.length : Int) == 1) = false := beq_eq_false_iff_ne.2 (by omega)
  obtain ⟨sp, hsp⟩ : ∃ sp : ByteArray, sp = sepS := ⟨_, rfl⟩
  have HSP := Lib.hid hsp
  have hss : sp.size = 2 := by rw [hsp]; rfl
  have hdv : ¬ (9223372036854775807 / ((xs.length : Int) - 1) ≤ 2) := by
    have : (3 : Int) ≤ 9223372036854775807 / ((xs.length : Int) - 1) := by
      rw [Int.le_ediv_iff_mul_le (by omega)]; omega
    omega
  rw [← hsp]
  clear h hx hc0 hsp
  go_enter Tryz.func72, Tryz.ntmps72
  go_wp2_with fail
  go_loop [5, 41] (fun n i => ∃ k m : Nat, k ≤ xs.length ∧ m ≤ 2000 + k * 1000 ∧ 0 < m ∧ i = .int .i64 k ∧ n = .int .i64 m) (fun _ i => xs.length - (intOf i).toNat)
  case atStart => exact ⟨0, 2 * (xs.length - 1), Nat.zero_le _, by omega, by omega, rfl, by go_num⟩
  case round =>
    obtain ⟨k, m, hk, hm, hm0, rfl, rfl⟩ := hrel
    by_cases hlt : k < xs.length
    · obtain ⟨g', hg', _, hck⟩ := HH.out k hlt
      cases hg'
      have hyk := HX.out k hlt
      generalize xs[k] = y at hck hyk
      go_wp2
      go_round
      case rel => exact ⟨k + 1, m + y.size, by omega, by omega, by omega, by go_num, by go_num⟩
      case measure => simp [intOf]; omega
    · obtain rfl : k = xs.length := by omega
      clear hdv hlt
      have HB0 := Lib.hid (heap_alloc_new w (.cells #[.pointer none, .slice none 0 0] 99))
      obtain ⟨w0, hw0⟩ : ∃ w0, w0 = w.alloc (.cells #[.pointer none, .slice none 0 0] 99) := ⟨_, rfl⟩
      rw [← hw0] at HB0
      have HL0 := Lib.hid (show Below w.heap.size w w0 from by rw [hw0]; exact (Below.refl w.heap.size w).alloc (Nat.le_refl _) _)
      go_wp2_with fail
      rw [← hw0]
      clear hw0
      refine (bGrow_any w.heap.size m w0 HB0.out hm0 (by omega)).mono ?_
      rintro e w1 ⟨rfl, h1, b1⟩
      have H1 := Lib.hid h1
      have HL1 := Lib.hid (HL0.out.trans b1)
      have hw1 : w.heap.size ≤ w1.heap.size := HL1.out.size
      have hc1 := (HL1.out.cell (p := ⟨g, 0, none⟩) hgl).trans HC0.out
      have hx0 := HX.out 0 (by omega)
      have HS1 := Lib.hid (joinS_step0 (xs := xs) (by omega))
      clear h1 b1 HL0 HB0
      generalize xs[0] = y at hc1 hx0 HS1
      go_wp2_with fail
      refine (writeString_any w.heap.size w.heap.size [] y w1 H1.out (by simp; omega) hw1).mono ?_
      rintro e w2 ⟨rfl, h2', b2⟩
      have H2 := Lib.hid (show Bld w.heap.size w.heap.size (joinS (xs.take 1)).data.toList w2 from by rw [HS1.out]; exact h2')
      have HL2 := Lib.hid (HL1.out.trans b2)
      clear h2' b2 H1 HL1 hw1 hc1 hx0
      go_wp2_with fail
      go_loopw [65] (fun i wr => ∃ k : Nat, k + 1 ≤ xs.length ∧ i = .int .i64 k ∧ Bld w.heap.size w.heap.size (joinS (xs.take (k + 1))).data.toList wr ∧ Below w.heap.size w wr) (fun i _ => xs.length - (intOf i).toNat)
      case atStart => exact ⟨0, by omega, rfl, H2.out, HL2.out⟩
      case round =>
        obtain ⟨k, hk, rfl, hb, hl⟩ := hrel
        have HB := Lib.hid hb
        have HL := Lib.hid hl
        have hwr : w.heap.size ≤ wr.heap.size := HL.out.size
        clear hb hl
        by_cases hlt : k + 1 < xs.length
        · obtain ⟨g', hg', _, hck⟩ := HH.out (k + 1) hlt
          cases hg'
          have hyk := HX.out (k + 1) hlt
          have hck' := (HL.out.cell (p := ⟨g, k + 1, none⟩) hgl).trans hck
          have hck2 : wr.cell? ⟨g, 1 + k, none⟩ = some (.string xs[k + 1]) := by rw [Nat.add_comm]; exact hck'
          have HST := Lib.hid (joinS_step hlt (by omega))
          have hj1 := HJ.out (k + 1) (by omega)
          clear hck
          generalize xs[k + 1] = y at hck' hck2 hyk HST
          generalize joinS (xs.take (k + 1)) = a at HB HST hj1
          go_wp2_with fail
          refine (writeString_any w.heap.size w.heap.size a.data.toList sp wr HB.out (by rw [hss]; simp; omega) hwr).mono ?_
          rintro e w3 ⟨rfl, h3, b3⟩
          have H3 := Lib.hid h3
          have HL3 := Lib.hid (HL.out.trans b3)
          have hw3 : w.heap.size ≤ w3.heap.size := HL3.out.size
          clear h3 b3 HB HL hck' hck2
          go_wp2_with fail
          refine (writeString_any w.heap.size w.heap.size (a.data.toList ++ sp.data.toList) y w3 H3.out (by simp; omega) hw3).mono ?_
          rintro e w4 ⟨rfl, h4, b4⟩
          have H4 := Lib.hid (show Bld w.heap.size w.heap.size (joinS (xs.take (k + 1 + 1))).data.toList w4 from by
            rw [HST.out, ByteArray.toList_data_append, ByteArray.toList_data_append, ← HSP.out]; exact h4)
          have HL4 := Lib.hid (HL3.out.trans b4)
          clear h4 b4 H3 HL3 hw3
          go_wp2
          go_roundw
          case rel => exact ⟨k + 1, by omega, by go_num, H4.out, HL4.out⟩
          case measure => simp [intOf]; omega
        · obtain hke : k + 1 = xs.length := by omega
          have HE := Lib.hid (show Bld w.heap.size w.heap.size z.data.toList wr from by
            have := HB.out
            rw [hke, joinS_all, ← HZ.out] at this
            exact this)
          go_wp2_with fail
          refine (string_any _ _ z.data.toList _ HE.out hwr).mono ?_
          rintro e w5 ⟨rfl, _, b5⟩
          have HL5 := Lib.hid (HL.out.trans b5)
          clear b5
          go_wp2
          go_ret
          exact ⟨by rw [bytes_back]; rfl, HL5.out⟩

theorem sjoin_any (A : Option Addr) (c : Nat) (xs : List ByteArray) (w : World) (h : TxIn w A xs) (hn : xs.length ≤ 1000) (hx : ∀ y ∈ xs, y.size ≤ 1000) (hc : xs.length ≤ c) :
    Calls Tryz.prog 72 #[.slice A xs.length c, .string sepS] w fun e w' => e = .returned (.string (joinS xs)) ∧ Below w.heap.size w w' := by
  rcases Nat.lt_or_ge xs.length 2 with h2 | h2
  · match xs, h2, h with
    | [], _, _ => exact (join_none A c sepS w).mono fun _ _ hh => ⟨hh.1, hh.2 ▸ Below.refl _ _⟩
    | [x], _, h =>
      obtain ⟨g, rfl, _, hc0⟩ := h 0 (by simp)
      exact (join_one g c x sepS w hc0).mono fun _ _ hh => ⟨hh.1, hh.2 ▸ Below.refl _ _⟩
  · obtain ⟨g, rfl, _, _⟩ := h 0 (by omega)
    exact join_many g c xs w h h2 hn hx hc

set_option maxHeartbeats 1000000 in
theorem cjoin_any (A : Option Addr) (c : Nat) (xs : List ByteArray) (w : World) (h : TxIn w A xs) (hn : xs.length ≤ 1000) (hx : ∀ y ∈ xs, y.size ≤ 1000) (hc : xs.length ≤ c) :
    Calls Tryz.prog 48 #[.slice A xs.length c] w fun e w' => e = .returned (.string (joinS xs)) ∧ Below w.heap.size w w' := by
  have HJ := Lib.hid (sjoin_any A c xs w h hn hx hc)
  generalize joinS xs = z at HJ ⊢
  clear h hx
  go_enter Tryz.func48, Tryz.ntmps48
  go_wp2_with fail
  refine HJ.out.mono ?_
  rintro e w1 ⟨rfl, b1⟩
  have HB := Lib.hid b1
  clear b1
  go_wp2
  go_ret
  exact ⟨rfl, HB.out⟩

set_option maxHeartbeats 2000000 in
theorem rjoin_any (A : Option Addr) (c : Nat) (xs : List ByteArray) (w : World) (h : TxIn w A xs) (hn : xs.length ≤ 1000) (hx : ∀ y ∈ xs, y.size ≤ 1000) :
    Calls Tryz.prog 39 #[.slice A xs.length c] w fun e w' => e = .returned (.string (joinS xs)) ∧ w = w' := by
  obtain ⟨z, hz⟩ : ∃ z, z = joinS xs := ⟨_, rfl⟩
  have HZ := Lib.hid hz
  rw [← hz]
  clear hz
  have HH := Lib.hid h
  have HX := Lib.hid (fun i (hi : i < xs.length) => hx xs[i] (List.getElem_mem hi))
  have HJ := Lib.hid (fun k (hk : k ≤ xs.length) => show (joinS (xs.take k)).size ≤ k * 1002 from by
    have := joinS_size (xs := xs.take k) (m := 1000) (fun y hy => hx y (List.mem_of_mem_take hy))
    rw [List.length_take, Nat.min_eq_left hk] at this
    exact this)
  clear h hx
  go_enter Tryz.func39, Tryz.ntmps39
  go_wp2
  go_loop [3, 4] (fun s i => ∃ k : Nat, k ≤ xs.length ∧ i = .int .i64 k ∧ s = .string (joinS (xs.take k))) (fun _ i => xs.length - (intOf i).toNat)
  case atStart => exact ⟨0, Nat.zero_le _, rfl, rfl⟩
  case round =>
    obtain ⟨k, hk, rfl, rfl⟩ := hrel
    by_cases hlt : k < xs.length
    · obtain ⟨g, rfl, _, hck⟩ := HH.out k hlt
      have hyk := HX.out k hlt
      have hj := HJ.out k hk
      by_cases hk0 : k = 0
      · subst hk0
        have HST := Lib.hid (joinS_step0 (xs := xs) hlt)
        have HE := Lib.hid (show joinS (xs.take 0) = ⟨#[]⟩ from rfl)
        generalize joinS (xs.take 0) = a at HE hj ⊢
        have ha : a = ⟨#[]⟩ := HE.out
        subst ha
        generalize xs[0] = y at hck hyk HST
        go_wp2
        go_round
        case rel => exact ⟨1, by omega, by go_num, by rw [HST.out, empty_append]⟩
        case measure => simp [intOf]; omega
      · have HST := Lib.hid (joinS_step hlt (by omega))
        generalize joinS (xs.take k) = a at HST hj ⊢
        generalize xs[k] = y at hck hyk HST
        go_wp2
        go_round
        case rel => exact ⟨k + 1, by omega, by go_num, by rw [HST.out]⟩
        case measure => simp [intOf]; omega
    · obtain rfl : k = xs.length := by omega
      have HE := Lib.hid (joinS_all xs)
      generalize joinS (xs.take xs.length) = a at HE ⊢
      go_wp2
      go_ret
      exact ⟨by rw [HE.out, ← HZ.out]; rfl, rfl⟩

end Go.Proofs.YtighgoefmccagaaGreat
