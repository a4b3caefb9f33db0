/-
  Plain facts on what headers say of sniffing: names in small and great letters, headers without those of another name, the first piece and the last value. No condition.
  What Same and Serial of package mime answer of types. Condition: texts are as long as a mebibyte, and parameters as many.
  What Grow, Concat (of the library) and With of package mime answer. Condition: parameters are as many as a mebibyte has bytes.
-/
import Derived.Test.YtighgoefmccagaaGreatZ10
import Derived.Test.YtighgoefmccagaaGreatZ11
import Derived.StillTailTactics
import Derived.Deep.RegionWith
import Derived.Lib.AppendZeros
import Derived.Lib.AppendZerosOnto
namespace Go.Proofs.YtighgoefmccagaaGreat

/-- x-content-type-options, content-type, nosniff. -/
def xctS : ByteArray := ⟨#[120, 45, 99, 111, 110, 116, 101, 110, 116, 45, 116, 121, 112, 101, 45, 111, 112, 116, 105, 111, 110, 115]⟩
def ctS : ByteArray := ⟨#[99, 111, 110, 116, 101, 110, 116, 45, 116, 121, 112, 101]⟩
def nosS : ByteArray := ⟨#[110, 111, 115, 110, 105, 102, 102]⟩
/-- X-Content-Type-Options, Content-Type. -/
def xctG : ByteArray := ⟨#[88, 45, 67, 111, 110, 116, 101, 110, 116, 45, 84, 121, 112, 101, 45, 79, 112, 116, 105, 111, 110, 115]⟩
def ctG : ByteArray := ⟨#[67, 111, 110, 116, 101, 110, 116, 45, 84, 121, 112, 101]⟩
theorem hasN_low {x y : ByteArray} (h : lowS x = lowS y) (p : Prm) : hasN x p = hasN y p := by
  unfold hasN sameB
  rw [h]
theorem getN_low {x y : ByteArray} (h : lowS x = lowS y) (l : List Prm) : getN x l = getN y l := by
  unfold getN
  have : hasN x = hasN y := funext fun p => hasN_low h p
  rw [this]
theorem xct_low : lowS xctG = lowS xctS := by kernel_rfl
theorem ct_low : lowS ctG = lowS ctS := by kernel_rfl
/-- Headers of another name change nothing of what is got. -/
theorem getN_cut {x name : ByteArray} (h : sameB name x = false) (l : List Prm) : getN x (cutN name l) = getN x l := by
  unfold getN cutN
  rw [List.filter_filter]
  congr 1
  apply List.filter_congr
  intro p _
  cases e : hasN x p
  · rfl
  · cases e2 : hasN name p
    · rfl
    · exfalso
      unfold hasN sameB at e e2
      unfold sameB at h
      rw [beq_iff_eq] at e e2
      rw [beq_eq_false_iff_ne] at h
      exact h (e2.symm.trans e)
/-- What is said of sniffing: the pieces, and whether the first is nosniff. -/
def nosV (l : List Prm) : List ByteArray := valsL (getN xctS l)
def nosB (l : List Prm) : Bool := match nosV l with
  | [] => false
  | p :: _ => (lowS p).toList == nosS.toList
/-- The last value of a type. -/
def rawB (l : List Prm) : ByteArray := (getN ctS l).getLastD ⟨#[]⟩
def hasT (l : List Prm) : Bool := decide (0 < (getN ctS l).length)
theorem nosV_cut {name : ByteArray} (h : sameB name xctS = false) (l : List Prm) : nosV (cutN name l) = nosV l := by unfold nosV; rw [getN_cut h]
theorem nosB_cut {name : ByteArray} (h : sameB name xctS = false) (l : List Prm) : nosB (cutN name l) = nosB l := by unfold nosB; rw [nosV_cut h]
theorem rawB_cut {name : ByteArray} (h : sameB name ctS = false) (l : List Prm) : rawB (cutN name l) = rawB l := by unfold rawB; rw [getN_cut h]
theorem rawB_none {l : List Prm} (h : (getN ctS l).length = 0) : rawB l = ⟨#[]⟩ := by
  unfold rawB
  rw [List.length_eq_zero_iff.1 h]
  rfl
theorem rawB_last {l : List Prm} (h : 0 < (getN ctS l).length) : rawB l = (getN ctS l)[(getN ctS l).length - 1] := by
  unfold rawB
  rw [List.getLastD_eq_getLast?, List.getLast?_eq_getElem?, List.getElem?_eq_getElem (by omega)]
  rfl
theorem nosB_none {l : List Prm} (h : (nosV l).length = 0) : nosB l = false := by
  unfold nosB
  rw [List.length_eq_zero_iff.1 h]
theorem nosB_first {l : List Prm} (h : 0 < (nosV l).length) : nosB l = ((lowS (nosV l)[0]).toList == nosS.toList) := by
  obtain ⟨p, r, e⟩ := List.exists_cons_of_length_pos h
  unfold nosB
  simp only [e, List.getElem_cons_zero]
theorem nos_low : lowS nosS = nosS := by kernel_rfl
theorem nosB_same {l : List Prm} (h : 0 < (nosV l).length) : nosB l = sameB (nosV l)[0] nosS := by
  rw [nosB_first h]
  unfold sameB
  rw [nos_low]
theorem nosV_none {l : List Prm} (h : (getN xctS l).length = 0) : nosV l = [] := by unfold nosV valsL; rw [if_pos h]
theorem nosV_some {l : List Prm} (h : ¬ (getN xctS l).length = 0) : nosV l = splitL (joinS (getN xctS l)) 0 := by unfold nosV valsL; rw [if_neg h]

end Go.Proofs.YtighgoefmccagaaGreat
namespace Go.Proofs.YtighgoefmccagaaGreat
open Go.RowKit Go.Maps

theorem below_on {a w w' : World} (h : Below a.heap.size a w) (hb : Below w.heap.size w w') : Below a.heap.size a w' := h.trans (hb.mono h.size)

end Go.Proofs.YtighgoefmccagaaGreat
namespace Go.Proofs.YtighgoefmccagaaGreat
open Go.RowKit Go.Maps

theorem PsIn.cells {w : World} {a : Addr} {ps : List Prm} (h : PsIn w (some a) ps) : ∀ j u, (prmL ps)[j]? = some u → w.cell? (a.add j) = some u := fun j u hj => by
  have hjl : j < (prmL ps).length := (List.getElem?_eq_some_iff.1 hj).1
  rw [prmL_len] at hjl
  obtain ⟨i, hi⟩ : ∃ i, i = j / 2 := ⟨_, rfl⟩
  have hil : i < ps.length := by omega
  obtain ⟨g, e, _, h0, h1⟩ := h i hil
  cases e
  have ea : (⟨g, 0, none⟩ : Addr).add j = ⟨g, j, none⟩ := by cases j <;> simp [Addr.add]
  rw [ea]
  rcases (by omega : j = i * 2 ∨ j = i * 2 + 1) with e2 | e2
  · rw [e2] at hj ⊢
    rw [(prmL_at ps i hil).1] at hj
    rw [h0]; exact hj
  · rw [e2] at hj ⊢
    rw [(prmL_at ps i hil).2] at hj
    rw [h1]; exact hj
theorem prmL_one (ps : List Prm) : ∀ u ∈ prmL ps, u.oneCell' = true := fun u hu => by
  unfold prmL at hu
  rw [List.mem_flatMap] at hu
  obtain ⟨p, _, hp⟩ := hu
  simp at hp
  rcases hp with rfl | rfl <;> rfl

theorem own_slc {W : World} {base : Nat} {e : TypeId} {size n : Nat} {v : Value} {xs : List Value} (h : W.ownsRow base e size v n xs) : ∃ A c, v = .slice A n c := by
  rcases h.2 with ⟨h1, h2⟩ | ⟨g, cap, cur, h1, _⟩
  · exact ⟨none, 0, by rw [h1, h2]⟩
  · exact ⟨_, _, h1⟩

theorem append_none (b G c : Nat) (ty : TypeId) (w : World) : (Builtin.append_ #[24, 24] ty #[.slice (some ⟨b, 0, none⟩) 0 G, .slice none 0 c]).run Tryz.prog w = .ok (.slice (some ⟨b, 0, none⟩) 0 G) w := by
  obtain ⟨i0, hi, hz0, hz1, hz2⟩ := info_parts Tryz.infoPrm
  simp [Builtin.append_, run_underlying Tryz.underlying24, sizeOf, typeInfo, zeroValue, hi, hz0, hz2, asInt, asIntOf, Builtin.lenOf, run_firstCells_none, storeCells]

set_option maxHeartbeats 1000000 in
set_option maxRecDepth 100000 in
theorem grow_any (n : Nat) (w : World) (h0 : 0 < n) (hn : n ≤ 1048577) :
    Calls Tryz.prog 98 #[.slice none 0 0, .int .i64 n] w fun e w' => ∃ G, e = .returned (.slice (some ⟨w.heap.size, 0, none⟩) 0 G) ∧ w'.ownsRow w.heap.size 51 2 (.slice (some ⟨w.heap.size, 0, none⟩) 0 G) 0 [] ∧ Below w.heap.size w w' := by
  obtain ⟨i0, hi, hz0, hz1, hz2⟩ := info_parts Tryz.infoPrm
  obtain ⟨G, hG⟩ : ∃ G, G = grownCap w n 0 51 := ⟨_, rfl⟩
  have hGn : n ≤ G := by rw [hG]; exact grownCap_ge w _ _ _
  have hG63 : G ≤ maxLen := by
    rw [hG]; exact grownCap_le_maxLen w n 0 51 (by unfold maxLen; omega)
  have hr : ∀ ty, (Builtin.append_ #[24, 3] ty #[.slice none 0 0, .int .i64 n]).run Tryz.prog w =
      .ok (.slice (some ⟨w.heap.size, 0, none⟩) n G) (w.drew.alloc (.cells (Builtin.zeroCells (Value.agg #[.string ⟨#[]⟩, .string ⟨#[]⟩]).cells n ++ Builtin.zeroCells (Value.agg #[.string ⟨#[]⟩, .string ⟨#[]⟩]).cells (G - n)) 51)) := fun ty => by
    have h := Lib.run_append_nil_zeros w 24 3 ty 51 i0 _ .i64 .i64 Tryz.underlying24 Tryz.underlying3 hi hz0 n h0 (by omega) (by omega) (by rw [hz2]; omega)
    rw [← hG] at h
    exact h
  have hzl : ∀ k, (Builtin.zeroCells (Value.agg #[.string ⟨#[]⟩, .string ⟨#[]⟩]).cells k).size = k * 2 := fun k => by
    simp [Builtin.zeroCells]
    exact rfl
  have hsz : (Builtin.zeroCells (Value.agg #[.string ⟨#[]⟩, .string ⟨#[]⟩]).cells n ++ Builtin.zeroCells (Value.agg #[.string ⟨#[]⟩, .string ⟨#[]⟩]).cells (G - n)).size = G * 2 := by
    rw [Array.size_append, hzl, hzl]; omega
  generalize (Builtin.zeroCells (Value.agg #[.string ⟨#[]⟩, .string ⟨#[]⟩]).cells n ++ Builtin.zeroCells (Value.agg #[.string ⟨#[]⟩, .string ⟨#[]⟩]).cells (G - n)) = Z at *
  have hG64 : G ≤ 9223372036854775807 := by unfold maxLen at hG63; exact hG63
  clear hG hzl
  have g1 : (0 : Int) < (n : Int) := by omega
  go_enter Tryz.func98, Tryz.ntmps98
  go_wp2_with (at_builtin; refine Lib.wpList_append_run _ rfl _ _ _ _ rfl _ _ rfl rfl _ _ (hr _) ?_)
  go_ret
  refine ⟨G, rfl, ⟨rfl, .inr ⟨w.heap.size, G, Z, rfl, Nat.le_refl _, Blk.new w.drew _ _, Nat.zero_le _, hG63, hsz, by simp⟩⟩, ?_⟩
  exact ((Below.refl w.heap.size w).drew.alloc (Nat.le_refl _) _)

set_option maxHeartbeats 2000000 in
set_option maxRecDepth 100000 in
theorem concat_any (sb pb c : Nat) (A : Option Addr) (ps : List Prm) (p : Prm) (w : World) (hp : PsIn w A ps) (hn : ps.length ≤ 1048576)
    (hs : Blk w sb 24 #[.slice A ps.length c, .slice (some ⟨pb, 0, none⟩) 1 1]) (hb : Blk w pb 51 #[.string p.n, .string p.v]) :
    Calls Tryz.prog 70 #[.slice (some ⟨sb, 0, none⟩) 2 2] w fun e w' => ∃ A' c', e = .returned (.slice A' (ps ++ [p]).length c') ∧ w'.ownsRow w.heap.size 51 2 (.slice A' (ps ++ [p]).length c') (ps ++ [p]).length (prmL (ps ++ [p])) ∧ Below w.heap.size w w' := by
  obtain ⟨i0, hi, hz0, hz1, hz2⟩ := info_parts Tryz.infoPrm
  have HP := Lib.hid hp
  have HS := Lib.hid hs
  have HB := Lib.hid hb
  have s0 := hs.cell 0
  have s1 := hs.cell 1
  have HG : Hid (Calls Tryz.prog 98 #[.slice none 0 0, .int .i64 ((ps.length : Int) + 1)] w fun e w' => ∃ G, e = .returned (.slice (some ⟨w.heap.size, 0, none⟩) 0 G) ∧ w'.ownsRow w.heap.size 51 2 (.slice (some ⟨w.heap.size, 0, none⟩) 0 G) 0 [] ∧ Below w.heap.size w w') := grow_any (ps.length + 1) w (by omega) (by omega)
  have hw : IntKind.i64.wrap ((ps.length : Int) + 1) = (ps.length : Int) + 1 := IntWalk.i64_in _ (by omega)
  clear hp hs hb
  go_enter Tryz.func70, Tryz.ntmps70
  go_wp2
  refine wp_loop_rounds 3 ?_
  rw [rounds_succ]
  go_wp2
  rw [rounds_succ]
  go_wp2
  rw [rounds_succ]
  go_wp2_with fail
  refine HG.out.mono ?_
  rintro e w2 ⟨G, rfl, ho, b2⟩
  have HO2 := Lib.hid ho
  have HP2 := Lib.hid (HP.out.below b2)
  have HS2 := Lib.hid (HS.out.below b2 HS.out.lt)
  have HB2 := Lib.hid (HB.out.below b2 HB.out.lt)
  have HW2 := Lib.hid b2
  have hsb := HS.out.lt
  have hpb := HB.out.lt
  clear ho b2 HG HP HS HB s0 s1 hw
  have s0 := HS2.out.cell 0
  have s1 := HS2.out.cell 1
  generalize hbs : w.heap.size = bs at *
  go_wp2
  refine wp_loop_rounds 3 ?_
  rw [rounds_succ]
  cases A with
  | none =>
    have hps : ps = [] := by
      cases ps with
      | nil => rfl
      | cons q r =>
        obtain ⟨g, e, _⟩ := HP2.out 0 (by simp)
        cases e
    subst hps
    go_wp2_with (at_builtin; refine Lib.wpList_append_run _ rfl _ _ _ _ rfl _ _ rfl rfl _ _ (append_none bs G c _ _) ?_)
    rw [rounds_succ]
    go_wp2_with (at_builtin; refine wpList_append_own _ rfl _ _ 24 rfl bs 51 i0 _ 2 32 Tryz.underlying24 hi hz0 hz1 hz2 rfl (by decide) _ _ _ rfl HO2.out ⟨pb, 0, none⟩ 1 1 [.string p.n, .string p.v] rfl rfl ?_ ?_ ?_ ?_ ?_ ?_)
    · intro j u hj
      have e : (⟨pb, 0, none⟩ : Addr).add j = ⟨pb, j, none⟩ := by cases j <;> simp [Addr.add]
      rw [e, HB2.out.cell]
      simpa using hj
    · intro u hu
      simp at hu
      rcases hu with rfl | rfl <;> rfl
    · unfold maxLen; omega
    · omega
    · have := HW2.out.size; omega
    · intro v' w7 hown' hgrow hnil
      have hown2 : w7.ownsRow bs 51 2 v' ([p] : List Prm).length (prmL [p]) := hown'
      have HW7 := Lib.hid (HW2.out.grown hgrow (by have := HW2.out.size; omega) (fun g hg => (HO2.out.lt g hg).1))
      obtain ⟨A', c', rfl⟩ := own_slc hown2
      have HP7 := Lib.hid hown2
      clear hown2 hown' hgrow hnil
      go_wp2
      rw [rounds_succ]
      go_wp2
      go_ret
      exact ⟨A', c', rfl, by rw [hbs]; exact HP7.out, by rw [hbs]; exact HW7.out⟩
  | some a =>
    go_wp2_with (at_builtin; refine wpList_append_own _ rfl _ _ 24 rfl bs 51 i0 _ 2 32 Tryz.underlying24 hi hz0 hz1 hz2 rfl (by decide) _ _ _ rfl HO2.out a ps.length c (prmL ps) rfl (by rw [prmL_len]) HP2.out.cells (prmL_one ps) ?_ ?_ ?_ ?_)
    · unfold maxLen; omega
    · omega
    · have := HW2.out.size; omega
    · intro v6 w6 hown6 hgrow6 hnil6
      have hown6' : w6.ownsRow bs 51 2 v6 ps.length (prmL ps) := by
        simpa using hown6
      have hrows : ∀ g, (Value.slice (some ⟨bs, 0, none⟩) 0 G).ownBlock = some g → bs ≤ g := fun g hg => (HO2.out.lt g hg).1
      have HW6 := Lib.hid (HW2.out.grown hgrow6 (by have := HW2.out.size; omega) hrows)
      have hm6 : Below bs w2 w6 := (Below.refl bs w2).grown hgrow6 (by have := HW2.out.size; omega) hrows
      have HO6 := Lib.hid hown6'
      have HB6 := Lib.hid (HB2.out.below hm6 (by omega))
      have HS6 := Lib.hid (HS2.out.below hm6 (by omega))
      have hs6 := hgrow6.size
      clear hown6 hown6' hgrow6 hnil6 hm6 s0 s1 hrows
      have s0 := HS6.out.cell 0
      have s1 := HS6.out.cell 1
      go_wp2
      rw [rounds_succ]
      go_wp2_with (at_builtin; refine wpList_append_own _ rfl _ _ 24 rfl bs 51 i0 _ 2 32 Tryz.underlying24 hi hz0 hz1 hz2 rfl (by decide) _ _ _ rfl HO6.out ⟨pb, 0, none⟩ 1 1 [.string p.n, .string p.v] rfl rfl ?_ ?_ ?_ ?_ ?_ ?_)
      · intro j u hj
        have e : (⟨pb, 0, none⟩ : Addr).add j = ⟨pb, j, none⟩ := by cases j <;> simp [Addr.add]
        rw [e, HB6.out.cell]
        simpa using hj
      · intro u hu
        simp at hu
        rcases hu with rfl | rfl <;> rfl
      · unfold maxLen; omega
      · omega
      · have := HW2.out.size; omega
      · intro v' w7 hown' hgrow hnil
        have hown2 : w7.ownsRow bs 51 2 v' (ps ++ [p] : List Prm).length (prmL (ps ++ [p])) := by rw [prmL_snoc, List.length_append]; exact hown'
        have HW7 := Lib.hid (HW6.out.grown hgrow (by have := HW2.out.size; omega) (fun g hg => (HO6.out.lt g hg).1))
        obtain ⟨A', c', rfl⟩ := own_slc hown2
        have HP7 := Lib.hid hown2
        clear hown2 hown' hgrow hnil
        generalize hln : (ps ++ [p] : List Prm).length = ln at *
        have HLN := Lib.hid hln
        clear hln
        go_wp2
        rw [rounds_succ]
        go_wp2
        go_ret
        exact ⟨A', c', by rw [HLN.out]; rfl, by rw [HLN.out, hbs]; exact HP7.out, by rw [hbs]; exact HW7.out⟩

/-- What With answers. -/
def withOk (t u : ByteArray) (ps : List Prm) (p : Prm) : Bool := goodM t u ps && prmB p

theorem good_snoc (t u : ByteArray) (ps : List Prm) (p : Prm) : goodM t u (ps ++ [p]) = (withOk t u ps p && !seenB ps p.n) := by
  unfold withOk goodM
  rw [goodL_append]
  simp only [goodL, List.nil_append, Bool.and_true]
  cases nameB t <;> cases nameB u <;> cases goodL [] ps <;> simp

set_option maxHeartbeats 2000000 in
set_option maxRecDepth 100000 in
theorem with_own (t u : ByteArray) (A : Option Addr) (ps : List Prm) (c : Nat) (p : Prm) (w : World) (h : MimIn w t u A ps) (hpn : p.n.size ≤ 1048576) (hpv : p.v.size ≤ 1048576) :
    Calls Tryz.prog 45 #[mimV t u A ps.length c, .string p.n, .string p.v] w fun e w' =>
      (withOk t u ps p = false → e = .returned (.tuple #[mimV ⟨#[]⟩ ⟨#[]⟩ none 0 0, .int .i64 2])) ∧
      (withOk t u ps p = true → seenB ps p.n = true → e = .returned (.tuple #[mimV ⟨#[]⟩ ⟨#[]⟩ none 0 0, .int .i64 7])) ∧
      (withOk t u ps p = true → seenB ps p.n = false → ∃ A' c', e = .returned (.tuple #[mimV t u A' (ps ++ [p]).length c', .int .i64 0]) ∧ OwnPs w' w.heap.size A' c' (ps ++ [p])) ∧ Below w.heap.size w w' := by
  obtain ⟨n, v⟩ := p
  simp only at hpn hpv
  obtain ⟨w0, hw0⟩ : ∃ w0, w0 = ((w.alloc (.cells #[.string t, .string u, .slice A ps.length c] 26)).alloc (.cells #[.string ⟨#[]⟩, .string ⟨#[]⟩, .slice none 0 0] 26)).alloc (.cells #[.string n, .string v] 51) := ⟨_, rfl⟩
  have HB0 := Lib.hid (show Below w.heap.size w w0 from by rw [hw0]; exact (((Below.refl w.heap.size w).alloc (Nat.le_refl _) _).alloc (by simp) _).alloc (by simp; omega) _)
  have HP0 := Lib.hid (show Blk w0 w.heap.size 26 #[.string t, .string u, .slice A ps.length c] from by rw [hw0]; exact ((Blk.new _ _ _).alloc _).alloc _)
  have HR0 := Lib.hid (show Blk w0 (w.heap.size + 1) 26 #[.string ⟨#[]⟩, .string ⟨#[]⟩, .slice none 0 0] from by
    have := Blk.new (w.alloc (.cells #[.string t, .string u, .slice A ps.length c] 26)) 26 #[.string ⟨#[]⟩, .string ⟨#[]⟩, .slice none 0 0]
    rw [hw0]
    exact (show Blk _ (w.heap.size + 1) _ _ from by simpa using this).alloc _)
  have HQ0 := Lib.hid (show Blk w0 (w.heap.size + 1 + 1) 51 #[.string n, .string v] from by
    have := Blk.new ((w.alloc (.cells #[.string t, .string u, .slice A ps.length c] 26)).alloc (.cells #[.string ⟨#[]⟩, .string ⟨#[]⟩, .slice none 0 0] 26)) 51 #[.string n, .string v]
    rw [hw0]
    simpa using this)
  have HS := Lib.hid h
  have c0 := HP0.out.cell 0
  have c1 := HP0.out.cell 1
  have c2 := HP0.out.cell 2
  have HG := Lib.hid (fun W (hW : MimIn W t u A ps) => mgood_any t u A ps c W hW)
  have HGP := Lib.hid (fun W => isGood_any ⟨n, v⟩ W (by simp only; omega) (by simp only; omega))
  unfold withOk
  simp only
  go_enter Tryz.func45, Tryz.ntmps45
  go_wp2_with fail
  rw [← hw0]
  clear hw0
  refine (HG.out _ (HS.out.below HB0.out)).mono ?_
  rintro e w1 ⟨rfl, b1⟩
  have HB1 := Lib.hid (below_on HB0.out b1)
  have HP1 := Lib.hid (HP0.out.below b1 HP0.out.lt)
  have HR1 := Lib.hid (HR0.out.below b1 HR0.out.lt)
  have HQ1 := Lib.hid (HQ0.out.below b1 HQ0.out.lt)
  clear b1 HB0 HP0 HR0 HQ0 c0 c1 c2
  cases hg : goodM t u ps
  · have d0 := HR1.out.cell 0
    have d1 := HR1.out.cell 1
    have d2 := HR1.out.cell 2
    have z0 := HR1.out.frozen 0
    have z1 := HR1.out.frozen 1
    have z2 := HR1.out.frozen 2
    go_wp2
    refine bodyPost_ret (v := .tuple #[mimV ⟨#[]⟩ ⟨#[]⟩ none 0 0, .int .i64 2]) (by simp [results, Tryz.results45, go_sem, d0, d1, d2]; done) rfl ?_
    refine ⟨fun _ => rfl, fun h => (by rw [hg] at h; cases h), fun h => (by rw [hg] at h; cases h), ?_⟩
    exact ((HB1.out.setCell (by show w.heap.size ≤ w.heap.size + 1; omega) _).setCell (by show w.heap.size ≤ w.heap.size + 1; omega) _).setCell (by show w.heap.size ≤ w.heap.size + 1; omega) _
  · have q0 := HQ1.out.cell 0
    have q1 := HQ1.out.cell 1
    go_wp2_with fail
    refine (HGP.out _).mono ?_
    rintro e w2 ⟨rfl, b2⟩
    have HB2 := Lib.hid (below_on HB1.out b2)
    have HP2 := Lib.hid (HP1.out.below b2 HP1.out.lt)
    have HR2 := Lib.hid (HR1.out.below b2 HR1.out.lt)
    have HQ2 := Lib.hid (HQ1.out.below b2 HQ1.out.lt)
    clear b2 HB1 HP1 HR1 HQ1
    clear q0 q1
    cases hpg : prmB ⟨n, v⟩
    · skip
      have d0 := HR2.out.cell 0
      have d1 := HR2.out.cell 1
      have d2 := HR2.out.cell 2
      have z0 := HR2.out.frozen 0
      have z1 := HR2.out.frozen 1
      have z2 := HR2.out.frozen 2
      go_wp2
      refine bodyPost_ret (v := .tuple #[mimV ⟨#[]⟩ ⟨#[]⟩ none 0 0, .int .i64 2]) (by simp [results, Tryz.results45, go_sem, d0, d1, d2]; done) rfl ?_
      refine ⟨fun _ => rfl, fun h => (by rw [hg, hpg] at h; cases h), fun h => (by rw [hg, hpg] at h; cases h), ?_⟩
      exact ((HB2.out.setCell (by show w.heap.size ≤ w.heap.size + 1; omega) _).setCell (by show w.heap.size ≤ w.heap.size + 1; omega) _).setCell (by show w.heap.size ≤ w.heap.size + 1; omega) _
    · have p0 := HP2.out.cell 0
      have p1 := HP2.out.cell 1
      have p2 := HP2.out.cell 2
      go_wp2_with fail
      refine (param_any t u A ps c n _ (HS.out.lie.below HB2.out) HS.out.n).mono ?_
      rintro e w3 ⟨rfl, b3⟩
      have HB3 := Lib.hid (below_on HB2.out b3)
      have HP3 := Lib.hid (HP2.out.below b3 HP2.out.lt)
      have HR3 := Lib.hid (HR2.out.below b3 HR2.out.lt)
      have HQ3 := Lib.hid (HQ2.out.below b3 HQ2.out.lt)
      clear b3 HB2 HP2 HR2 HQ2
      clear p0 p1 p2
      cases hse : seenB ps n
      · have p0 := HP3.out.cell 0
        have p1 := HP3.out.cell 1
        have p2 := HP3.out.cell 2
        have q0 := HQ3.out.cell 0
        have q1 := HQ3.out.cell 1
        obtain ⟨w4, hw4⟩ : ∃ w4, w4 = (w3.alloc (.cells #[.string n, .string v] 51)).alloc (.cells #[.slice A ps.length c, .slice (some ⟨w3.heap.size, 0, none⟩) 1 1] 24) := ⟨_, rfl⟩
        have HB4 := Lib.hid (show Below w.heap.size w w4 from by rw [hw4]; exact (HB3.out.alloc HB3.out.size _).alloc (by have := HB3.out.size; simp; omega) _)
        have HP4 := Lib.hid (show Blk w4 w.heap.size 26 _ from by rw [hw4]; exact (HP3.out.alloc _).alloc _)
        have HR4 := Lib.hid (show Blk w4 (w.heap.size + 1) 26 _ from by rw [hw4]; exact (HR3.out.alloc _).alloc _)
        have HE4 := Lib.hid (show Blk w4 w3.heap.size 51 #[.string n, .string v] from by rw [hw4]; exact (Blk.new _ _ _).alloc _)
        have HS4 := Lib.hid (show Blk w4 (w3.heap.size + 1) 24 #[.slice A ps.length c, .slice (some ⟨w3.heap.size, 0, none⟩) 1 1] from by
          have := Blk.new (w3.alloc (.cells #[.string n, .string v] 51)) 24 #[.slice A ps.length c, .slice (some ⟨w3.heap.size, 0, none⟩) 1 1]
          rw [hw4]
          simpa using this)
        have HCC := Lib.hid (concat_any (w3.heap.size + 1) w3.heap.size c A ps ⟨n, v⟩ w4 (HS.out.lie.below HB4.out) HS.out.n HS4.out HE4.out)
        go_wp2_with fail
        rw [← hw4]
        clear hw4 p0 p1 p2 q0 q1
        refine HCC.out.mono ?_
        rintro e w5 ⟨A', c', rfl, ho5, b5⟩
        have HB5 := Lib.hid (below_on HB4.out b5)
        have HP5 := Lib.hid (HP4.out.below b5 HP4.out.lt)
        have HR5 := Lib.hid (HR4.out.below b5 HR4.out.lt)
        have HPS := Lib.hid ho5
        have hw4s := HR4.out.lt
        clear b5 ho5 HB4 HP4 HR4 HCC
        have p0 := HP5.out.cell 0
        have p1 := HP5.out.cell 1
        generalize hln : (ps ++ [⟨n, v⟩] : List Prm).length = ln at *
        have HLN := Lib.hid hln
        clear hln
        have d0 := HR5.out.cell 0
        have d1 := HR5.out.cell 1
        have d2 := HR5.out.cell 2
        have z0 := HR5.out.frozen 0
        have z1 := HR5.out.frozen 1
        have z2 := HR5.out.frozen 2
        go_wp2
        refine bodyPost_ret (v := .tuple #[mimV t u A' ln c', .int .i64 0]) (by simp [results, Tryz.results45, go_sem, d0, d1, d2]; done) rfl ?_
        have hm : Mv w5.heap.size [w.heap.size + 1] w5 (((w5.setCell ⟨w.heap.size + 1, 0, none⟩ (.string t)).setCell ⟨w.heap.size + 1, 1, none⟩ (.string u)).setCell ⟨w.heap.size + 1, 2, none⟩ (.slice A' ln c')) := (((Mv.refl _ _ _).setCell (.inl (by simp)) _).setCell (.inl (by simp)) _).setCell (.inl (by simp)) _
        have hp : OwnPs (((w5.setCell ⟨w.heap.size + 1, 0, none⟩ (.string t)).setCell ⟨w.heap.size + 1, 1, none⟩ (.string u)).setCell ⟨w.heap.size + 1, 2, none⟩ (.slice A' ln c')) w.heap.size A' c' (ps ++ [⟨n, v⟩]) := by
          unfold OwnPs
          rw [HLN.out]
          exact own_base (own_keep HPS.out hm (by simp; omega)) (by omega)
        refine ⟨fun h => (by rw [hg, hpg] at h; cases h), fun _ h => (by rw [hse] at h; cases h), fun _ _ => ⟨A', c', by rw [HLN.out], hp⟩, ?_⟩
        exact ((HB5.out.setCell (by show w.heap.size ≤ w.heap.size + 1; omega) _).setCell (by show w.heap.size ≤ w.heap.size + 1; omega) _).setCell (by show w.heap.size ≤ w.heap.size + 1; omega) _
      · skip
        have d0 := HR3.out.cell 0
        have d1 := HR3.out.cell 1
        have d2 := HR3.out.cell 2
        have z0 := HR3.out.frozen 0
        have z1 := HR3.out.frozen 1
        have z2 := HR3.out.frozen 2
        go_wp2
        refine bodyPost_ret (v := .tuple #[mimV ⟨#[]⟩ ⟨#[]⟩ none 0 0, .int .i64 7]) (by simp [results, Tryz.results45, go_sem, d0, d1, d2]; done) rfl ?_
        refine ⟨fun h => (by rw [hg, hpg] at h; cases h), fun _ _ => rfl, fun _ h => (by rw [hse] at h; cases h), ?_⟩
        exact ((HB3.out.setCell (by show w.heap.size ≤ w.heap.size + 1; omega) _).setCell (by show w.heap.size ≤ w.heap.size + 1; omega) _).setCell (by show w.heap.size ≤ w.heap.size + 1; omega) _

end Go.Proofs.YtighgoefmccagaaGreat
