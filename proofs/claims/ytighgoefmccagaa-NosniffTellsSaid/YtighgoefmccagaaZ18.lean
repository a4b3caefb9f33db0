/-
  What Clone of the library does with parameters, and what copied of package combine answers. Condition: parameters are as many as a mebibyte has bytes.
  What the document's trim, Split and Same of layer 4 answer. Condition: the text takes at most 2^40 bytes.
  What the document's Split and Same of layer 4 answer; the pieces of some values, the program's and the document's. Condition: a thousand values of a thousand bytes.
-/
import Derived.Test.YtighgoefmccagaaZ11
import Derived.Test.YtighgoefmccagaaZ12
import Derived.Test.YtighgoefmccagaaZ16
import Derived.Lib.SliceRun
import Derived.Test.YtighgoefmccagaaZ17
import Derived.Test.YtighgoefmccagaaZ15
import Derived.Test.YtighgoefmccagaaZ9
namespace Go.Proofs.Ytighgoefmccagaa
open Go.RowKit

theorem own_ne {w : World} {B size : Nat} {e T : TypeId} {v : Value} {n : Nat} {xs : List Value} {b : Nat} {cs : Array Value} (hown : w.ownsRow B e size v n xs) (hb : Blk w b T cs) (hTe : T ≠ e) : v.ownBlock ≠ some b := by
  rcases hown.2 with ⟨rfl, _⟩ | ⟨g, cap, cur, rfl, _, hg, _⟩
  · intro h; cases h
  · intro h
    cases h
    have h2 : w.heap[g]? = _ := hb
    rw [hg] at h2
    injection h2 with h2
    injection h2 with _ h9
    exact hTe h9.symm
/-- Parameters stay while a type's box is written. -/
theorem OwnPs.set {w : World} {base c b : Nat} {A : Option Addr} {ps : List Prm} {cs : Array Value} (h : OwnPs w base A c ps) (hb : Blk w b 36 cs) (i : Nat) (v : Value) : OwnPs (w.setCell ⟨b, i, none⟩ v) base A c ps := by
  have hne := own_ne h hb (by decide)
  exact own_mv h ((Mv.refl _ [b] _).setCell (.inl (by simp)) _) (by simpa using hne)
theorem OwnPs.set3 {w : World} {base c b : Nat} {A : Option Addr} {ps : List Prm} {x0 x1 x2 : Value} (h : OwnPs w base A c ps) (hb : Blk w b 36 #[x0, x1, x2]) (y0 y1 y2 : Value) :
    OwnPs (((w.setCell ⟨b, 0, none⟩ y0).setCell ⟨b, 1, none⟩ y1).setCell ⟨b, 2, none⟩ y2) base A c ps :=
  ((h.set hb 0 y0).set (hb.set_ 0 y0) 1 y1).set ((hb.set_ 0 y0).set_ 1 y1) 2 y2

set_option maxHeartbeats 1000000 in
theorem clone_any (A : Option Addr) (c : Nat) (ps : List Prm) (w : World) (h : PsIn w A ps) (hn : ps.length ≤ 1048576) :
    Calls Try.prog 87 #[.slice A ps.length c] w fun e w' => ∃ A' c', e = .returned (.slice A' ps.length c') ∧ OwnPs w' w.heap.size A' c' ps ∧ Below w.heap.size w w' := by
  obtain ⟨i0, hi, hz0, hz1, hz2⟩ := info_parts Try.infoPrm
  have hq : ∀ (w : World) (a : Option Addr) (l c : Nat), (binOp .eql 34 (.slice a l c) (.slice none 0 0)).run Try.prog w = .ok (.bool a.isNone) w := fun w a l c => Lib.run_eql_slice_nil w _ _ a l c 0 0 Try.underlying34
  have HP := Lib.hid h
  clear h
  cases A with
  | none =>
    have hps : ps = [] := by
      cases ps with
      | nil => rfl
      | cons q r =>
        obtain ⟨g, e, _⟩ := HP.out 0 (by simp)
        cases e
    subst hps
    go_enter Try.func87, Try.ntmps87
    go_wp2
    go_ret
    exact ⟨none, 0, rfl, World.ownsRow_nil _ _ _ _, Below.refl _ _⟩
  | some a =>
    go_enter Try.func87, Try.ntmps87
    go_wp2_with (at_builtin; refine wpList_append_own _ rfl _ _ 34 rfl w.heap.size 55 i0 _ 2 32 Try.underlying34 hi hz0 hz1 hz2 rfl (by decide) _ _ _ rfl (World.ownsRow_made w #[] 0 (Nat.le_refl _) (Nat.zero_le _) rfl) a ps.length c (prmL ps) rfl (by rw [prmL_len]) (HP.out.below ((Below.refl _ _).alloc (Nat.le_refl _) _)).cells (prmL_one ps) ?_ ?_ ?_ ?_)
    · unfold maxLen; omega
    · omega
    · simp
    · intro v' w1 hown hgrow _
      have ho : w1.ownsRow w.heap.size 55 2 v' ps.length (prmL ps) := by simpa using hown
      obtain ⟨A', c', rfl⟩ := own_slc ho
      have HO := Lib.hid ho
      have HB := Lib.hid (((Below.refl w.heap.size w).alloc (Nat.le_refl _) _).grown hgrow (by simp) (fun g hg => by simp [Value.ownBlock] at hg; omega))
      clear ho hown hgrow
      go_wp2
      go_ret
      exact ⟨A', c', rfl, HO.out, HB.out⟩

set_option maxHeartbeats 1000000 in
theorem copied_any (t u : ByteArray) (A : Option Addr) (c : Nat) (ps : List Prm) (w : World) (h : PsIn w A ps) (hn : ps.length ≤ 1048576) :
    Calls Try.prog 71 #[mimV t u A ps.length c] w fun e w' => ∃ A' c', e = .returned (mimV t u A' ps.length c') ∧ OwnPs w' w.heap.size A' c' ps ∧ Below w.heap.size w w' := by
  obtain ⟨w0, hw0⟩ : ∃ w0, w0 = (w.alloc (.cells #[.string t, .string u, .slice A ps.length c] 36)).alloc (.cells #[.string ⟨#[]⟩, .string ⟨#[]⟩, .slice none 0 0] 36) := ⟨_, rfl⟩
  have HB0 := Lib.hid (show Below w.heap.size w w0 from by rw [hw0]; exact ((Below.refl w.heap.size w).alloc (Nat.le_refl _) _).alloc (by simp) _)
  have HP0 := Lib.hid (show Blk w0 w.heap.size 36 #[.string t, .string u, .slice A ps.length c] from by rw [hw0]; exact (Blk.new _ _ _).alloc _)
  have HR0 := Lib.hid (show Blk w0 (w.heap.size + 1) 36 #[.string ⟨#[]⟩, .string ⟨#[]⟩, .slice none 0 0] from by
    have := Blk.new (w.alloc (.cells #[.string t, .string u, .slice A ps.length c] 36)) 36 #[.string ⟨#[]⟩, .string ⟨#[]⟩, .slice none 0 0]
    rw [hw0]
    simpa using this)
  have HC := Lib.hid (clone_any A c ps w0 (h.below HB0.out) hn)
  have hlt0 : w.heap.size + 1 < w0.heap.size := HR0.out.lt
  clear h
  have c0 := HP0.out.cell 0
  have c1 := HP0.out.cell 1
  have c2 := HP0.out.cell 2
  go_enter Try.func71, Try.ntmps71
  go_wp2_with fail
  rw [← hw0]
  clear hw0
  refine HC.out.mono ?_
  rintro e w1 ⟨A', c', rfl, ho1, b1⟩
  have HO1 := Lib.hid ho1
  have HB1 := Lib.hid (below_on HB0.out b1)
  have HP1 := Lib.hid (HP0.out.below b1 HP0.out.lt)
  have HR1 := Lib.hid (HR0.out.below b1 HR0.out.lt)
  clear ho1 b1 HB0 HP0 HR0 c0 c1 c2 HC
  have c0 := HP1.out.cell 0
  have c1 := HP1.out.cell 1
  have c2 := HP1.out.cell 2
  have z2 := HP1.out.frozen 2
  have d0 := HR1.out.cell 0
  have d1 := HR1.out.cell 1
  have d2 := HR1.out.cell 2
  have y0 := HR1.out.frozen 0
  have y1 := HR1.out.frozen 1
  have y2 := HR1.out.frozen 2
  go_wp2
  refine bodyPost_ret (v := mimV t u A' ps.length c') (by simp [results, Try.results71, go_sem, d0, d1, d2]; done) rfl ?_
  have hm : Mv w1.heap.size [w.heap.size, w.heap.size + 1] w1 ((((w1.setCell ⟨w.heap.size, 2, none⟩ (.slice A' ps.length c')).setCell ⟨w.heap.size + 1, 0, none⟩ (.string t)).setCell ⟨w.heap.size + 1, 1, none⟩ (.string u)).setCell ⟨w.heap.size + 1, 2, none⟩ (.slice A' ps.length c')) := ((((Mv.refl _ _ _).setCell (.inl (by simp)) _).setCell (.inl (by simp)) _).setCell (.inl (by simp)) _).setCell (.inl (by simp)) _
  refine ⟨A', c', rfl, own_base (own_keep HO1.out hm (by simp; omega)) (by omega), ?_⟩
  exact (((HB1.out.setCell (by exact Nat.le_refl _) _).setCell (by show w.heap.size ≤ w.heap.size + 1; omega) _).setCell (by show w.heap.size ≤ w.heap.size + 1; omega) _).setCell (by show w.heap.size ≤ w.heap.size + 1; omega) _

end Go.Proofs.Ytighgoefmccagaa
namespace Go.Proofs.Ytighgoefmccagaa
open Go.RowKit

theorem run_all {p : UInt8 → Bool} {s : ByteArray} : ∀ (n i j : Nat), j = i + n → j < scan p s i → (hj : j < s.size) → p s[j] = true
  | 0, i, j, e, h, hj => by
    obtain rfl : j = i := by omega
    cases hp : p s[j]
    · rw [scan_stop hj hp] at h; omega
    · rfl
  | n + 1, i, j, e, h, hj => by
    have hi : i < s.size := by omega
    cases hp : p s[i]
    · rw [scan_stop hi hp] at h; omega
    · exact run_all n (i + 1) j (by omega) (by rw [scan_step hi hp]; exact h) hj
theorem run_is {p : UInt8 → Bool} {s : ByteArray} : ∀ (n i j : Nat), j = i + n → j ≤ s.size → (∀ k (hk : k < s.size), i ≤ k → k < j → p s[k] = true) → (∀ h : j < s.size, p s[j] = false) → scan p s i = j
  | 0, i, j, e, hj, _, h2 => by
    obtain rfl : j = i := by omega
    rcases Nat.lt_or_ge j s.size with h | h
    · exact scan_stop h (h2 h)
    · exact scan_end (by omega)
  | n + 1, i, j, e, hj, h1, h2 => by
    have hi : i < s.size := by omega
    rw [← scan_step hi (h1 i hi (Nat.le_refl _) (by omega))]
    exact run_is n (i + 1) j (by omega) hj (fun k hk a b => h1 k hk (by omega) b) h2
/-- Bytes that may be passed over anyhow. -/
theorem run_over {p : UInt8 → Bool} {s : ByteArray} : ∀ (n i j : Nat), j = i + n → j ≤ s.size → (∀ k (hk : k < s.size), i ≤ k → k < j → p s[k] = true) → scan p s i = scan p s j
  | 0, i, j, e, _, _ => by obtain rfl : j = i := by omega
                           rfl
  | n + 1, i, j, e, hj, h1 => by
    have hi : i < s.size := by omega
    rw [← scan_step hi (h1 i hi (Nat.le_refl _) (by omega))]
    exact run_over n (i + 1) j (by omega) hj (fun k hk a b => h1 k hk (by omega) b)
theorem back_is {p : UInt8 → Bool} {s : ByteArray} : ∀ (k m : Nat), k ≤ s.size → m ≤ k → (m = 0 ∨ ∃ h : m - 1 < s.size, p s[m - 1] = false) → (∀ i (hi : i < s.size), m ≤ i → i < k → p s[i] = true) → backN p s k = m
  | 0, m, _, hm, _, _ => by obtain rfl : m = 0 := by omega
                            rfl
  | k + 1, m, hk, hm, h1, h2 => by
    have hks : k < s.size := by omega
    rcases Nat.lt_or_ge m (k + 1) with h | h
    · rw [backN_step hks (h2 k hks (by omega) (by omega))]
      exact back_is k m (by omega) (by omega) h1 (fun i hi a b => h2 i hi a (by omega))
    · obtain rfl : m = k + 1 := by omega
      rcases h1 with h1 | ⟨h3, h1⟩
      · omega
      · exact backN_stop hks h1
theorem back_all {p : UInt8 → Bool} {s : ByteArray} : ∀ (k i : Nat), k ≤ s.size → backN p s k ≤ i → i < k → (hi : i < s.size) → p s[i] = true
  | k + 1, i, hk, h1, h2, hi => by
    have hks : k < s.size := by omega
    cases hp : p s[k]
    · rw [backN_stop hks hp] at h1; omega
    · rw [backN_step hks hp] at h1
      rcases Nat.lt_or_ge i k with h | h
      · exact back_all k i (by omega) h1 h hi
      · obtain rfl : i = k := by omega
        exact hp

theorem ext_get {s : ByteArray} {a b i : Nat} (h : i < (s.extract a b).size) (h2 : a + i < s.size) : (s.extract a b)[i] = s[a + i] := by
  rw [← getElem!_pos _ i h, ← getElem!_pos s (a + i) h2, extract_at h]
theorem ext_size (s : ByteArray) {a b : Nat} (h : b ≤ s.size) : (s.extract a b).size = b - a := by simp; omega

/-- A text without what may go at its front. -/
def frontP (p : UInt8 → Bool) (s : ByteArray) : ByteArray := s.extract (scan p s 0) s.size
theorem front_get {p : UInt8 → Bool} {s : ByteArray} {i : Nat} (h : i < (frontP p s).size) (h2 : scan p s 0 + i < s.size) : (frontP p s)[i] = s[scan p s 0 + i] := ext_get (s := s) (a := scan p s 0) (b := s.size) h h2
/-- Where what may go at the front ends, in a part of a text. -/
theorem run_part {p : UInt8 → Bool} {s : ByteArray} {f i : Nat} (hf : f ≤ i) (hi : i ≤ s.size) (h : scan p s f ≤ i) : scan p (s.extract f i) 0 = scan p s f - f := by
  have hz := ext_size s (a := f) hi
  have hg := scan_ge p s f
  refine run_is (scan p s f - f) 0 _ (by omega) (by omega) (fun k hk _ h2 => ?_) (fun hl => ?_)
  · rw [ext_get hk (by omega)]
    exact run_all k f (f + k) rfl (by omega) (by omega)
  · rw [ext_get hl (by omega)]
    have e : f + (scan p s f - f) = scan p s f := by omega
    simp only [e]
    exact scan_at (by omega) (by omega)
theorem none_eq {a b : ByteArray} (h : a.size = 0) (h' : b.size = 0) : a = b := by
  apply ByteArray.ext
  rw [Array.eq_empty_of_size_eq_zero (show a.data.size = 0 from h), Array.eq_empty_of_size_eq_zero (show b.data.size = 0 from h')]
theorem front_cut (p : UInt8 → Bool) (x : ByteArray) : frontP p (cutP p x) = cutP p (frontP p x) := by
  have hb := backN_le p x x.size
  have hle := scan_le p x 0 (Nat.zero_le _)
  have hzc := cutP_size p x
  have hzf : (frontP p x).size = x.size - scan p x 0 := ext_size x (Nat.le_refl _)
  rcases Nat.lt_or_ge (scan p x 0) x.size with h | h
  · have hat := scan_at (p := p) (Nat.zero_le _) h
    -- the cut lies behind the first byte that stays
    have hab : scan p x 0 < backN p x x.size := by
      rcases Nat.lt_or_ge (scan p x 0) (backN p x x.size) with h2 | h2
      · exact h2
      · rw [back_all x.size _ (Nat.le_refl _) h2 h h] at hat; cases hat
    have e1 : scan p (cutP p x) 0 = scan p x 0 := run_part (Nat.zero_le _) hb (by omega)
    have e2 : backN p (frontP p x) (frontP p x).size = backN p x x.size - scan p x 0 := by
      refine back_is _ _ (Nat.le_refl _) (by omega) (.inr ?_) (fun i hi h1 h2 => ?_)
      · have hl : backN p x x.size - scan p x 0 - 1 < (frontP p x).size := by omega
        refine ⟨hl, ?_⟩
        rw [front_get hl (by omega)]
        have e : scan p x 0 + (backN p x x.size - scan p x 0 - 1) = backN p x x.size - 1 := by omega
        simp only [e]
        rcases backN_at p x x.size with h3 | h3
        · omega
        · rw [getElem!_pos x _ (by omega)] at h3
          exact h3
      · rw [front_get hi (by omega)]
        exact back_all x.size _ (Nat.le_refl _) (by omega) (by omega) (by omega)
    have l1 : frontP p (cutP p x) = (cutP p x).extract (scan p x 0) (backN p x x.size) := by
      unfold frontP
      rw [e1, hzc]
    have r1 : cutP p (frontP p x) = (frontP p x).extract 0 (backN p x x.size - scan p x 0) := by
      rw [← e2]; rfl
    rw [l1, r1]
    have l2 : (cutP p x).extract (scan p x 0) (backN p x x.size) = x.extract (scan p x 0) (backN p x x.size) := by
      have h1 : cutP p x = x.extract 0 (backN p x x.size) := rfl
      rw [h1, ByteArray.extract_extract, Nat.zero_add, Nat.zero_add, Nat.min_self]
    have r2 : (frontP p x).extract 0 (backN p x x.size - scan p x 0) = x.extract (scan p x 0) (backN p x x.size) := by
      have h1 : frontP p x = x.extract (scan p x 0) x.size := rfl
      have h2 : scan p x 0 + (backN p x x.size - scan p x 0) = backN p x x.size := by omega
      rw [h1, ByteArray.extract_extract, Nat.add_zero, h2, Nat.min_eq_left hb]
    rw [l2, r2]
  · have e0 : backN p x x.size = 0 := back_is _ _ (Nat.le_refl _) (Nat.zero_le _) (.inl rfl) (fun i hi _ _ => run_all i 0 i (by omega) (by omega) hi)
    have z1 : (frontP p (cutP p x)).size = 0 := by
      unfold frontP
      have := scan_le p (cutP p x) 0 (Nat.zero_le _)
      rw [ext_size _ (Nat.le_refl _)]; omega
    have z2 : (cutP p (frontP p x)).size = 0 := by
      have := cutP_le p (frontP p x)
      omega
    exact none_eq z1 z2

theorem tab_goes (b : UInt8) : (!tabB b || !hasB stopP b) = true := bytes_all (p := fun b => !tabB b || !hasB stopP b) (by kernel_rfl) b
theorem pEnd_run {s : ByteArray} {k j : Nat} (hk : k ≤ s.size) (hj : j ≤ s.size) (h : runP s k = runP s j) : pEnd s k = pEnd s j := by
  rw [pEnd_step hk, pEnd_step hj, h]
theorem pEnd_from {s : ByteArray} {k : Nat} (hk : k ≤ s.size) : pEnd s (pFrom s k) = pEnd s k := by
  have h1 := pFrom_ge s k
  have h2 := pFrom_le hk
  refine (pEnd_run hk h2 ?_).symm
  refine run_over (pFrom s k - k) k (pFrom s k) (by omega) h2 (fun i hi a b => ?_)
  have h3 := run_all (p := tabB) (i - k) k i (by omega) b hi
  have h4 := tab_goes s[i]
  rw [h3] at h4
  simpa using h4
theorem pTo_is {s : ByteArray} {k : Nat} (hk : k ≤ s.size) : pTo s k = pEnd s k := pEnd_from hk
theorem piece_is {s : ByteArray} {k : Nat} (hk : k ≤ s.size) : piece s k = frontP tabB (cutP tabB (s.extract k (pEnd s k))) := by
  rw [front_cut]
  have h1 := pFrom_ge s k
  have h2 := pEnd_ge (pFrom_le hk)
  rw [pEnd_from hk] at h2
  have h3 := pEnd_le hk
  unfold piece frontP
  rw [pTo_is hk, run_part (by omega) h3 h2, ext_size s h3, ByteArray.extract_extract]
  congr 2 <;> (show _ = _) <;> first | (show pFrom s k = _; unfold pFrom at h1 ⊢; omega) | omega
theorem pEnd_over {s : ByteArray} {k : Nat} (h : k < s.size) (h1 : s[k].toNat ≠ 34) (h2 : s[k].toNat ≠ 44) : pEnd s (k + 1) = pEnd s k := by
  refine pEnd_run h (Nat.le_of_lt h) (scan_step h ?_)
  rw [stopP_has]
  simp [h1, h2]
theorem runP_here {s : ByteArray} {k : Nat} (h : k < s.size) (h1 : s[k].toNat = 34 ∨ s[k].toNat = 44) : runP s k = k := by
  refine scan_stop h ?_
  rw [stopP_has]
  rcases h1 with h1 | h1 <;> simp [h1]
theorem pEnd_here {s : ByteArray} {k : Nat} (h : k < s.size) (h1 : s[k].toNat = 44) : pEnd s k = k := by
  have e := runP_here h (.inr h1)
  have := pEnd_comma (Nat.le_of_lt h) (by rw [e]; exact h) (by simp only [e]; exact h1)
  rw [this, e]
theorem pEnd_read {s : ByteArray} {k : Nat} (h : k < s.size) (h1 : s[k].toNat = 34) : pEnd s (k + 1 + (quoS s (k + 1)).2) = pEnd s k := by
  have e := runP_here h (.inl h1)
  have := pEnd_quote (Nat.le_of_lt h) (by rw [e]; exact h) (by simp only [e]; exact h1)
  rw [this, e]
theorem pEnd_stop (s : ByteArray) : pEnd s s.size = s.size := pEnd_end (Nat.le_refl _) (scan_end rfl)

set_option maxHeartbeats 2000000 in
theorem rtrim_any (s : ByteArray) (w : World) (hs : s.size ≤ 9223372036854775807) :
    Calls Try.prog 33 #[.string s] w fun e w' => e = .returned (.string (frontP tabB (cutP tabB s))) ∧ w = w' := by
  have HE := Lib.hid (refEnds_any s w hs)
  have hz := cutP_le tabB s
  obtain ⟨e, he⟩ : ∃ e, e = cutP tabB s := ⟨_, rfl⟩
  rw [← he] at HE hz ⊢
  clear he
  obtain ⟨z, hZ⟩ : ∃ z, z = frontP tabB e := ⟨_, rfl⟩
  rw [← hZ]
  have HZ := Lib.hid hZ
  clear hZ
  go_enter Try.func33, Try.ntmps33
  go_wp2_with fail
  refine HE.out.mono ?_
  rintro e' w' ⟨rfl, rfl⟩
  go_wp2
  go_loop [0] (fun i => ∃ (k : Nat) (x : ByteArray), k ≤ e.size ∧ i = .string x ∧ x = e.extract k e.size ∧ scan tabB e k = scan tabB e 0) (fun i => strLen i)
  case atStart => exact ⟨0, e, Nat.zero_le _, rfl, (extract_all e).symm, rfl⟩
  case round =>
    obtain ⟨k, x, hk, rfl, hx, hb⟩ := hrel
    have HB := Lib.hid hb
    have HX := Lib.hid hx
    clear hb
    have hzx : x.size = e.size - k := by rw [hx]; simp
    have hzs : x.size ≤ 9223372036854775807 := by omega
    clear hx
    by_cases hlt : k < e.size
    · have hx0 : 0 < x.size := by omega
      have HZZ := Lib.hid hzx
      clear hzx
      have g1 : (0 : Int) < (x.size : Int) := by omega
      have HA := Lib.hid (show x[0] = e[k] from by
        rw [← getElem!_pos x 0 hx0, ← getElem!_pos e k hlt, HX.out, extract_at (by rw [← HX.out]; exact hx0), Nat.add_zero])
      have HL := Lib.hid (fun W => refTab_any x[0] W)
      cases hb : tabB x[0]
      · have HT := Lib.hid (show z = x from by rw [HZ.out]; unfold frontP; rw [← HB.out, scan_stop hlt (by rw [← HA.out]; exact hb), HX.out])
        have HL2 : Hid (∀ W, Calls Try.prog 48 #[.int .u8 (x[0].toNat : Int)] W fun e w' => e = .returned (.bool false) ∧ W = w') := fun W => by have := HL.out W; rwa [hb] at this
        clear HL hb
        go_wp2_with (go_at_call 48; refine (HL2.out _).mono ?_; rintro e w' ⟨rfl, rfl⟩)
        go_ret
        exact ⟨by rw [HT.out]; rfl, rfl⟩
      · have HN := Lib.hid (scan_step hlt (by rw [← HA.out]; exact hb))
        have HL2 : Hid (∀ W, Calls Try.prog 48 #[.int .u8 (x[0].toNat : Int)] W fun e w' => e = .returned (.bool true) ∧ W = w') := fun W => by have := HL.out W; rwa [hb] at this
        have HTL := Lib.hid (show x.extract 1 x.size = e.extract (k + 1) e.size from by rw [HX.out]; exact extract_tail hlt)
        have hzt : (x.extract 1 x.size).size = x.size - 1 := ext_size x (Nat.le_refl _)
        clear HL hb
        go_wp2_with (go_at_call 48; refine (HL2.out _).mono ?_; rintro e w' ⟨rfl, rfl⟩)
        go_round
        case rel => exact ⟨k + 1, _, by omega, rfl, HTL.out, by rw [HN.out, HB.out]⟩
        case measure => simp [strLen]; omega
    · have HT := Lib.hid (show z = x from by
        have hke : k = e.size := by omega
        rw [HZ.out]; unfold frontP
        have := HX.out
        rw [← HB.out, scan_end hke, this])
      have hx0 : ¬ 0 < x.size := by omega
      have g1 : ¬ (0 : Int) < (x.size : Int) := by omega
      go_wp2
      go_ret
      exact ⟨by rw [HT.out]; rfl, rfl⟩

end Go.Proofs.Ytighgoefmccagaa
namespace Go.Proofs.Ytighgoefmccagaa
open Go.RowKit

theorem piece_end {s : ByteArray} {f i : Nat} (hf : f ≤ s.size) (h : pEnd s f = i) : frontP tabB (cutP tabB (s.extract f i)) = piece s f := by
  rw [piece_is hf, h]
theorem tail_read {s : ByteArray} {i : Nat} (_h : i ≤ s.size) (k : Nat) : quoS (s.extract i s.size) k = quoS s (i + k) := by
  unfold quoS
  rw [bytes_extract]
  have e : s.data.toList.take s.size = s.data.toList := List.take_of_length_le (by show s.data.toList.length ≤ s.data.size; simp)
  rw [e, List.drop_drop]

set_option maxHeartbeats 4000000 in
set_option maxRecDepth 100000 in
theorem rsplit_any (s : ByteArray) (w : World) (hs : s.size ≤ 1099511627776) :
    Calls Try.prog 20 #[.string s] w (NewStrs (splitL s 0) w) := by
  have hs' : s.size ≤ 9223372036854775807 := by omega
  obtain ⟨i0, hi, hz0, hz1, hz2⟩ := info_parts Try.info9
  obtain ⟨L, hL⟩ : ∃ L, L = splitL s 0 := ⟨_, rfl⟩
  rw [← hL]
  have HL := Lib.hid hL
  clear hL
  go_enter Try.func20, Try.ntmps20
  go_wp2
  go_loopw [3, 4, 5] (fun v f i wr => ∃ (a k : Nat) (ps : List ByteArray), a ≤ k ∧ k ≤ s.size ∧ ps.length ≤ a ∧ f = .int .i64 a ∧ i = .int .i64 k ∧ wr.ownsRow w.heap.size 9 1 v ps.length (strs ps) ∧ Below w.heap.size w wr ∧ pEnd s k = pEnd s a ∧ ps ++ splitL s a = L) (fun _ _ i _ => s.size - (intOf i).toNat)
  case atStart => exact ⟨0, 0, [], Nat.le_refl _, Nat.zero_le _, Nat.zero_le _, rfl, rfl, World.ownsRow_made w #[] 0 (Nat.le_refl _) (Nat.zero_le _) rfl, (Below.refl _ _).alloc (Nat.le_refl _) _, rfl, HL.out.symm⟩
  case round =>
    obtain ⟨a, k, ps, hak, hk, hl, rfl, rfl, hown, hm, hpe, ht⟩ := hrel
    have HO := Lib.hid hown
    have HM := Lib.hid hm
    have HP := Lib.hid hpe
    have HT := Lib.hid ht
    clear hown hm hpe ht
    by_cases hlt : k < s.size
    · by_cases hq : s[k].toNat = 34
      · have d1 : ((s[k].toNat : Int) == 34) = true := by rw [hq]; rfl
        have HRD := Lib.hid (fun W => refRead_any (s.extract k s.size) W (by rw [ext_size s (Nat.le_refl _)]; omega) (by rw [ext_size s (Nat.le_refl _)]; omega))
        rw [tail_read hk] at HRD
        have HPR := Lib.hid ((pEnd_read hlt hq).trans HP.out)
        have hqle := quoS_le (s := s) (k := k + 1) (by omega)
        obtain ⟨q, hqq⟩ : ∃ q : ByteArray, q = ⟨(quoS s (k + 1)).1.toArray⟩ := ⟨_, rfl⟩
        obtain ⟨n, hnn⟩ : ∃ n : Nat, n = 1 + (quoS s (k + 1)).2 := ⟨_, rfl⟩
        rw [← hqq, ← hnn] at HRD
        have e9 : k + 1 + (quoS s (k + 1)).2 = k + n := by omega
        rw [e9] at hqle HPR
        have hn1 : 0 < n := by omega
        clear hq hqq hnn e9
        go_wp2_with fail
        refine (HRD.out _).mono ?_
        rintro e w1 ⟨rfl, b1⟩
        have HO1 := Lib.hid (own_mv HO.out (Mv.of_below b1 []) (by simp))
        have HM1 := Lib.hid (below_on HM.out b1)
        clear b1 HO HM
        go_wp2
        go_roundw
        case rel => exact ⟨a, k + n, ps, by omega, by omega, hl, rfl, by go_num, HO1.out, HM1.out, HPR.out, HT.out⟩
        case measure => simp [intOf]; omega
      · have d1 : ((s[k].toNat : Int) == 34) = false := by simp; omega
        by_cases hc : s[k].toNat = 44
        · have d2 : ((s[k].toNat : Int) == 44) = true := by rw [hc]; rfl
          have HPA := Lib.hid (show pEnd s a = k from by rw [← HP.out, pEnd_here hlt hc])
          have HTR := Lib.hid (fun W => rtrim_any (s.extract a k) W (by rw [ext_size s hk]; omega))
          have HPC := Lib.hid (piece_end (by omega) HPA.out)
          rw [HPC.out] at HTR
          have HMO := Lib.hid (show splitL s a = piece s a :: splitL s (k + 1) from by
            have := splitL_more (s := s) (k := a) (by omega) (by rw [pTo_is (by omega), HPA.out]; exact hlt)
            rw [pTo_is (by omega), HPA.out] at this
            exact this)
          generalize piece s a = x at HTR HMO
          obtain ⟨ao, n', cap, rfl⟩ := own_slice HO.out
          clear hq hc HPC HPA
          go_wp2_with fail
          refine (HTR.out _).mono ?_
          rintro e wx ⟨rfl, rfl⟩
          go_wp2_with (at_builtin; refine wpList_append_own _ rfl _ _ 25 rfl w.heap.size 9 i0 (.string ⟨#[]⟩) 1 16 Try.underlying25 hi hz0 hz1 hz2 rfl (by decide) _ _ _ rfl (HO.out.alloc _) ⟨wr.heap.size, 0, none⟩ 1 1 [.string x] rfl rfl ?c1 ?c2 ?c3 ?c4 ?c5 ?_)
          case c1 =>
            intro j u hj
            match j, hj with
            | 0, hj => simp at hj; subst hj; simp [Addr.add]
          case c2 => intro u hu; simp at hu; subst hu; rfl
          case c3 => unfold maxLen; omega
          case c4 => omega
          case c5 => have := HM.out.size; simp; omega
          intro v' w3 hown' hgrow _
          have HO3 := Lib.hid (show w3.ownsRow w.heap.size 9 1 v' (ps ++ [x]).length (strs (ps ++ [x])) from by simpa [strs] using hown')
          have HM3 := Lib.hid (Below.grown (HM.out.alloc HM.out.size _) hgrow (by have := HM.out.size; simp; omega) (fun g hg => (HO.out.lt g hg).1))
          clear hown' hgrow HO HM
          go_wp2
          go_roundw
          case rel => exact ⟨k + 1, k + 1, ps ++ [x], Nat.le_refl _, by omega, by simp; omega, by go_num, by go_num, HO3.out, HM3.out, rfl, by rw [← HT.out, HMO.out]; simp⟩
          case measure => simp [intOf]; omega
        · have d2 : ((s[k].toNat : Int) == 44) = false := by simp; omega
          have HPO := Lib.hid ((pEnd_over hlt hq hc).trans HP.out)
          clear hq hc
          go_wp2
          go_roundw
          case rel => exact ⟨a, k + 1, ps, by omega, by omega, hl, rfl, by go_num, HO.out, HM.out, HPO.out, HT.out⟩
          case measure => simp [intOf]; omega
    · obtain rfl : k = s.size := by omega
      have HPA := Lib.hid (show pEnd s a = s.size from by rw [← HP.out, pEnd_stop])
      have HTR := Lib.hid (fun W => rtrim_any (s.extract a s.size) W (by rw [ext_size s hk]; omega))
      have HPC := Lib.hid (piece_end hak HPA.out)
      rw [HPC.out] at HTR
      have HLA := Lib.hid (show splitL s a = [piece s a] from splitL_last hak (by rw [pTo_is hak, HPA.out]))
      generalize piece s a = x at HTR HLA
      obtain ⟨ao, n', cap, rfl⟩ := own_slice HO.out
      clear HPC HPA hlt
      go_wp2_with fail
      refine (HTR.out _).mono ?_
      rintro e wx ⟨rfl, rfl⟩
      go_wp2_with (at_builtin; refine wpList_append_own _ rfl _ _ 25 rfl w.heap.size 9 i0 (.string ⟨#[]⟩) 1 16 Try.underlying25 hi hz0 hz1 hz2 rfl (by decide) _ _ _ rfl (HO.out.alloc _) ⟨wr.heap.size, 0, none⟩ 1 1 [.string x] rfl rfl ?c1 ?c2 ?c3 ?c4 ?c5 ?_)
      case c1 =>
        intro j u hj
        match j, hj with
        | 0, hj => simp at hj; subst hj; simp [Addr.add]
      case c2 => intro u hu; simp at hu; subst hu; rfl
      case c3 => unfold maxLen; omega
      case c4 => omega
      case c5 => have := HM.out.size; simp; omega
      intro v' w3 hown' hgrow _
      have HO3 := Lib.hid (show w3.ownsRow w.heap.size 9 1 v' (ps ++ [x]).length (strs (ps ++ [x])) from by simpa [strs] using hown')
      have HM3 := Lib.hid (Below.grown (HM.out.alloc HM.out.size _) hgrow (by have := HM.out.size; simp; omega) (fun g hg => (HO.out.lt g hg).1))
      have HE := Lib.hid (show ps ++ [x] = L from by rw [← HT.out, HLA.out])
      clear hown' hgrow HO HM
      go_wp2
      go_ret
      exact ⟨v', rfl, by rw [← HE.out]; exact HO3.out, HM3.out⟩

set_option maxHeartbeats 2000000 in
theorem rsame4_any (A B : Option Addr) (c d : Nat) (xs : List ByteArray) (w : World) (h : TxIn w A xs) (h' : TxIn w B xs) (hn : xs.length ≤ 1048576) :
    Calls Try.prog 6 #[.slice A xs.length c, .slice B xs.length d] w fun e w' => e = .returned (.bool true) ∧ Below w.heap.size w w' := by
  have HA := Lib.hid h
  have HB := Lib.hid h'
  clear h h'
  go_enter Try.func6, Try.ntmps6
  go_wp2
  go_loopw [5] (fun i wr => ∃ k : Nat, k ≤ xs.length ∧ i = .int .i64 k ∧ Below w.heap.size w wr) (fun i _ => xs.length - (intOf i).toNat)
  case atStart => exact ⟨0, Nat.zero_le _, rfl, Below.refl _ _⟩
  case round =>
    obtain ⟨k, hk, rfl, hw⟩ := hrel
    have HW := Lib.hid hw
    clear hw
    by_cases hlt : k < xs.length
    · obtain ⟨g, rfl, hg, hc⟩ := HA.out k hlt
      obtain ⟨g', rfl, hg', hc'⟩ := HB.out k hlt
      have c0 := (HW.out.cell (p := ⟨g, k, none⟩) hg).trans hc
      have c1 := (HW.out.cell (p := ⟨g', k, none⟩) hg').trans hc'
      clear hc hc'
      generalize xs[k] = y at *
      go_wp2_with fail
      go_quiet (fail)
      go_wp2
      go_roundw
      case rel => exact ⟨k + 1, by omega, by go_num, Below.drewN' HW.out _⟩
      case measure => simp [intOf]; omega
    · obtain rfl : k = xs.length := by omega
      go_wp2
      go_ret
      exact ⟨rfl, HW.out⟩

/-- What a call of the program's or the document's Values gives. -/
theorem vals_nil (w : World) (xs : List ByteArray) (h : xs.length = 0) : w.ownsRow w.heap.size 9 1 (.slice none 0 0) (valsL xs).length (strs (valsL xs)) := by
  unfold valsL
  rw [if_pos h]
  exact World.ownsRow_nil _ _ _ _

set_option maxHeartbeats 1000000 in
theorem values_any (A : Option Addr) (c : Nat) (xs : List ByteArray) (w : World) (h : TxIn w A xs) (hn : xs.length ≤ 1000) (hx : ∀ y ∈ xs, y.size ≤ 1000) (hc : xs.length ≤ c) :
    Calls Try.prog 67 #[.slice A xs.length c] w (NewStrs (valsL xs) w) := by
  have hj := joinS_size hx
  have HJ := Lib.hid (cjoin_any A c xs w h hn hx hc)
  have hnb : xs.length * (1000 + 2) ≤ 1000 * 1002 := Nat.mul_le_mul hn (Nat.le_refl _)
  have HS := Lib.hid (fun W => split_any (joinS xs) W (by omega))
  by_cases h0 : xs.length = 0
  · have HN := Lib.hid (fun W => vals_nil W xs h0)
    have d0 : ((xs.length : Int) == 0) = true := beq_iff_eq.2 (by omega)
    generalize valsL xs = L at *
    clear HJ HS h hx hj hnb h0
    go_enter Try.func67, Try.ntmps67
    go_wp2
    go_ret
    exact ⟨_, rfl, HN.out _, Below.refl _ _⟩
  · have d0 : ((xs.length : Int) == 0) = false := beq_eq_false_iff_ne.2 (by omega)
    have e : valsL xs = splitL (joinS xs) 0 := by unfold valsL; rw [if_neg h0]
    rw [e]
    clear e
    generalize splitL (joinS xs) 0 = L at HS ⊢
    generalize joinS xs = z at HJ HS
    clear h hx hj hnb h0
    go_enter Try.func67, Try.ntmps67
    go_wp2_with fail
    refine HJ.out.mono ?_
    rintro e w1 ⟨rfl, b1⟩
    have HB := Lib.hid b1
    clear b1
    go_wp2_with fail
    refine (HS.out _).mono ?_
    rintro e w2 ⟨v, rfl, ho, b2⟩
    have HO := Lib.hid (own_base ho HB.out.size)
    have HB2 := Lib.hid (below_on HB.out b2)
    clear ho b2
    go_wp2
    go_ret
    exact ⟨v, rfl, HO.out, HB2.out⟩

end Go.Proofs.Ytighgoefmccagaa
