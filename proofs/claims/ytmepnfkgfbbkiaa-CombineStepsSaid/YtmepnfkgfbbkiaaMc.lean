/-
  What takeParams answers of a cursor: a slice of new parameters. Condition: the text is as long as a mebibyte.
-/
import Derived.Test.YtmepnfkgfbbkiaaMb
namespace Go.Proofs.Ytmepnfkgfbbkiaa
open Go.RowKit Go.Maps

/-- The cells of some parameters. -/
def prmL (ps : List Prm) : List Value := ps.flatMap fun p => [.string p.n, .string p.v]
theorem prmL_snoc (ps : List Prm) (p : Prm) : prmL (ps ++ [p]) = prmL ps ++ [.string p.n, .string p.v] := by simp [prmL]
theorem prmL_len (ps : List Prm) : (prmL ps).length = ps.length * 2 := by
  induction ps with
  | nil => rfl
  | cons p r ih => simp [prmL] at ih ⊢; omega
theorem prmL_at : ∀ (ps : List Prm) (i : Nat) (h : i < ps.length), (prmL ps)[i * 2]? = some (.string ps[i].n) ∧ (prmL ps)[i * 2 + 1]? = some (.string ps[i].v)
  | [], i, h => absurd h (by simp)
  | p :: r, 0, _ => ⟨rfl, rfl⟩
  | p :: r, i + 1, h => by
    have ih := prmL_at r i (by simpa using h)
    have e : prmL (p :: r) = .string p.n :: .string p.v :: prmL r := by simp [prmL]
    rw [e]
    have e1 : (i + 1) * 2 = i * 2 + 1 + 1 := by omega
    have e2 : (i + 1) * 2 + 1 = i * 2 + 1 + 1 + 1 := by omega
    rw [e1, List.getElem?_cons_succ, List.getElem?_cons_succ]
    refine ⟨ih.1, ?_⟩
    rw [List.getElem?_cons_succ, List.getElem?_cons_succ]
    exact ih.2

/-- Parameters that lie behind A. -/
def PsIn (w : World) (A : Option Addr) (ps : List Prm) : Prop := ∀ i (h : i < ps.length), ∃ g, A = some ⟨g, 0, none⟩ ∧ g < w.heap.size ∧ w.cell? ⟨g, i * 2, none⟩ = some (.string ps[i].n) ∧ w.cell? ⟨g, i * 2 + 1, none⟩ = some (.string ps[i].v)
theorem PsIn.below {w w' : World} {A : Option Addr} {ps : List Prm} (h : PsIn w A ps) (hb : Below w.heap.size w w') : PsIn w' A ps := fun i hi => by
  obtain ⟨g, h1, h2, h3, h4⟩ := h i hi
  have e := fun o => hb.cell (p := ⟨g, o, none⟩) h2
  exact ⟨g, h1, by have := hb.size; omega, (e _).trans h3, (e _).trans h4⟩
theorem PsIn.nil (w : World) (A : Option Addr) : PsIn w A [] := fun i h => absurd h (by simp)
theorem PsIn.of_own {w : World} {base : Nat} {v : Value} {ps : List Prm} (h : w.ownsRow base 33 2 v ps.length (prmL ps)) : ∃ A c, v = .slice A ps.length c ∧ PsIn w A ps := by
  rcases h.2 with ⟨h1, h2⟩ | ⟨g, cap, cur, h1, _⟩
  · have e : ps = [] := by
      have h3 := prmL_len ps
      rw [h2] at h3
      exact List.length_eq_zero_iff.1 (by simp at h3; omega)
    subst e
    exact ⟨none, 0, h1, PsIn.nil _ _⟩
  · subst h1
    refine ⟨some ⟨g, 0, none⟩, cap, rfl, fun i hi => ⟨g, rfl, (h.lt g rfl).2, ?_, ?_⟩⟩
    · have := (prmL_at ps i hi).1
      exact (h.cellAt _ (by omega)).trans this
    · have := (prmL_at ps i hi).2
      exact (h.cellAt _ (by omega)).trans this

theorem own_keep {w w' : World} {base : Nat} {e : TypeId} {size n : Nat} {v : Value} {xs : List Value} {r : List Nat} (h : w.ownsRow base e size v n xs) (hm : Mv w.heap.size r w w') (hr : ∀ x ∈ r, x < base) : w'.ownsRow base e size v n xs := by
  refine ⟨h.1, ?_⟩
  rcases h.2 with h2 | ⟨g, cap, cur, e1, e2, e3, e4⟩
  · exact .inl h2
  · have hl := h.lt g (by rw [e1]; rfl)
    exact .inr ⟨g, cap, cur, e1, e2, (hm.block g hl.2 (fun hx => by have := hr g hx; omega)).trans e3, e4⟩

theorem own_base {w : World} {base b : Nat} {e : TypeId} {size n : Nat} {v : Value} {xs : List Value} (h : w.ownsRow base e size v n xs) (hb : b ≤ base) : w.ownsRow b e size v n xs := by
  refine ⟨h.1, ?_⟩
  rcases h.2 with h2 | ⟨g, cap, cur, e1, e2, e3, e4⟩
  · exact .inl h2
  · exact .inr ⟨g, cap, cur, e1, by omega, e3, e4⟩
/-- Parameters that lie in a row of the call's own. -/
def OwnPs (w : World) (base : Nat) (A : Option Addr) (c : Nat) (ps : List Prm) : Prop := w.ownsRow base 33 2 (.slice A ps.length c) ps.length (prmL ps)
theorem OwnPs.ps {w : World} {base c : Nat} {A : Option Addr} {ps : List Prm} (h : OwnPs w base A c ps) : PsIn w A ps := by
  obtain ⟨A', c', e, hp⟩ := PsIn.of_own h
  cases e
  exact hp

theorem Try.infoPrm : (Try.prog.info? 33).map (fun i => (i.zero, i.size, i.bytes)) = some (some (.agg #[.string ⟨#[]⟩, .string ⟨#[]⟩]), 2, 32) := by kernel_rfl

/-- All texts are short enough. -/
def AllIn (n : Nat) (ps : List Prm) : Prop := ∀ p ∈ ps, p.n.size ≤ n ∧ p.v.size ≤ n
theorem AllIn.snoc {n : Nat} {ps : List Prm} {p : Prm} (h : AllIn n ps) (h1 : p.n.size ≤ n) (h2 : p.v.size ≤ n) : AllIn n (ps ++ [p]) := fun q hq => by
  rcases List.mem_append.1 hq with h3 | h3
  · exact h q h3
  · obtain rfl := List.mem_singleton.1 h3
    exact ⟨h1, h2⟩
theorem AllIn.at_ {n : Nat} {ps : List Prm} (h : AllIn n ps) {i : Nat} (hi : i < ps.length) : ps[i].n.size ≤ n ∧ ps[i].v.size ≤ n := h _ (List.getElem_mem hi)

/-- What the set of names knows is what is there. -/
def Known (xs : List ByteArray) (ps : List Prm) : Prop := ∀ x, (xs.any fun y => eqS y x) = seenB ps x
theorem Known.old {xs : List ByteArray} {ps : List Prm} (h : Known xs ps) {x : ByteArray} (hx : seenB ps x = true) : Known (xs ++ [x]) ps := fun y => by
  rw [List.any_append, h y]
  cases e : seenB ps y
  · simp only [List.any_cons, List.any_nil, Bool.or_false, Bool.false_or]
    cases e2 : eqS x y
    · rfl
    · rw [eqS_eq e2, e] at hx; cases hx
  · rfl
theorem Known.new {xs : List ByteArray} {ps : List Prm} (h : Known xs ps) (p : Prm) : Known (xs ++ [p.n]) (ps ++ [p]) := fun y => by
  rw [List.any_append, h y, seenB_snoc]
  simp

theorem enter_news1 (a b : Value) (w : World) : (callFunc 38 (#[] ++ #[a, b])).run Try.prog w = .ok (.enter 38 (#[] ++ #[a, b])) w := by simp [go_sem]

set_option maxHeartbeats 4000000 in
set_option maxRecDepth 100000 in
theorem takeParams_any (cb k0 : Nat) (s : ByteArray) (w : World) (h : Cur w cb s k0) (hk0 : k0 ≤ s.size) (h59 : ∀ h : k0 < s.size, s[k0].toNat = 59) (hs : s.size ≤ 1048576) :
    Calls Try.prog 50 #[cptr cb] w fun e w' => ∃ v, e = .returned v ∧ w'.ownsRow (w.heap.size + 2) 33 2 v (parS s k0 []).length (prmL (parS s k0 [])) ∧ AllIn s.size (parS s k0 []) ∧ Mv w.heap.size [cb] w w' := by
  obtain ⟨i0, hi, hz0, hz1, hz2⟩ := info_parts Try.infoPrm
  have HC := Lib.hid h
  have hltw := h.lt
  have hs' : s.size ≤ 9223372036854775807 := by omega
  obtain ⟨R, hR⟩ : ∃ R, R = parS s k0 [] := ⟨_, rfl⟩
  rw [← hR]
  clear h
  go_enter Try.func50, Try.ntmps50
  go_wp2_with fail
  refine (news_any _).mono ?_
  rintro e w1 ⟨rfl, hb1, ha1⟩
  have hsz : w.heap.size + 2 ≤ w1.heap.size := by have := ha1.1.lt; omega
  have HC1 := Lib.hid (HC.out.below hb1 hltw)
  have HA1 := Lib.hid ha1
  have HM1 := Lib.hid (Mv.of_below hb1 [cb])
  clear hb1 ha1 HC
  generalize hB : w.heap.size + 2 = base at *
  generalize hmb : w.heap.size = mb at *
  go_wp2_with fail
  go_loopw [3] (fun v wr => ∃ (k : Nat) (acc : List Prm) (xs : List ByteArray), k ≤ s.size ∧ (∀ h : k < s.size, s[k].toNat = 59) ∧ parS s k acc = R ∧ AllIn s.size acc ∧ acc.length ≤ k ∧ xs.length ≤ k ∧ Known xs acc ∧
      wr.ownsRow base 33 2 v acc.length (prmL acc) ∧ Asked wr (mb + 1) mb xs ∧ Cur wr cb s k ∧ Mv mb [cb] w wr ∧ base ≤ wr.heap.size) (fun _ wr => s.size - curAt wr cb)
  case atStart => exact ⟨k0, [], [], hk0, h59, hR.symm, fun _ h => (by cases h), Nat.zero_le _, Nat.zero_le _, fun _ => rfl, World.ownsRow_nil _ _ _ _, HA1.out, HC1.out, HM1.out, hsz⟩
  case round =>
    obtain ⟨k, acc, xs, hk, h59', hpar, hall, hal, hxl, hkn, hown, hask, hcur, hmv, hbs⟩ := hrel
    have HO := Lib.hid hown
    have HA := Lib.hid hask
    have HC := Lib.hid hcur
    have HM := Lib.hid hmv
    have HL := Lib.hid hall
    have HKN := Lib.hid hkn
    have hcb : ∀ x ∈ [cb], x < base := by simp; omega
    have hcm : mb ∉ [cb] := by simp; omega
    have hcn : mb + 1 ∉ [cb] := by simp; omega
    have hbm : mb + 1 < base := by omega
    have HME := Lib.hid (curAt_of hcur)
    clear hown hask hcur hmv hall hkn HC1 HA1 HM1
    by_cases hlt : k < s.size
    · have HE := Lib.hid (fun W (hW : Cur W cb s k) => end_any cb k s W hW hk hs')
      rw [decide_eq_false (by omega)] at HE
      have HT := Lib.hid (fun W (hW : Cur W cb s k) => takeParam_any cb k s W hW hlt (h59' hlt) (by omega))
      have hE := stepE_bounds hlt
      have H59 := Lib.hid (fun h => stepE_at hlt h)
      have HP := Lib.hid (show R = parS s (stepE s k) (putO acc (stepP s k)) from by rw [← parS_step acc hlt, hpar])
      clear h59' hpar h59
      go_wp2_with fail
      refine (HE.out _ HC.out).mono ?_
      rintro e w2 ⟨rfl, i2⟩
      have m2 : Mv wr.heap.size [cb] wr w2 := Mv.idle i2
      have HO2 := Lib.hid (own_keep HO.out m2 hcb)
      have HA2 := Lib.hid (HA.out.mv m2 (by omega) (by omega) hcn hcm)
      have HC2 := Lib.hid (show Cur w2 cb s k from by obtain ⟨n, rfl⟩ := i2; exact HC.out.drewN n)
      have HM2 := Lib.hid (HM.out.chain m2 (by omega))
      have hb2 : base ≤ w2.heap.size := Nat.le_trans hbs m2.size
      clear i2 m2 HO HA HC HM
      go_wp2_with fail
      refine (HT.out _ HC2.out).mono ?_
      rintro e w3 ⟨p, b, rfl, hst, m3, c3⟩
      have HO3 := Lib.hid (own_keep HO2.out m3 hcb)
      have HA3 := Lib.hid (HA2.out.mv m3 (by omega) (by omega) hcn hcm)
      have HC3 := Lib.hid c3
      have HM3 := Lib.hid (HM2.out.chain m3 (by omega))
      have hb3 : base ≤ w3.heap.size := Nat.le_trans hb2 m3.size
      obtain ⟨hst, hpn, hpv⟩ := hst
      clear m3 c3 HO2 HA2 HC2 HM2
      obtain ⟨pn, pv⟩ := p
      simp only at hpn hpv
      obtain ⟨w4, hw4⟩ : ∃ w4, w4 = w3.alloc (.cells #[.string pn, .string pv] 33) := ⟨_, rfl⟩
      have HO4 := Lib.hid (HO3.out.alloc (.cells #[.string pn, .string pv] 33))
      rw [← hw4] at HO4
      have m4 : Mv w3.heap.size [] w3 w4 := by rw [hw4]; exact (Mv.refl _ _ _).alloc (Nat.le_refl _) _
      have HA4 := Lib.hid (HA3.out.mv m4 (by omega) (by omega) (by simp) (by simp))
      have HC4 := Lib.hid (show Cur w4 cb s (stepE s k) from HC3.out.mv m4 HC3.out.lt (by simp))
      have HM4 := Lib.hid (HM3.out.chain (m4.mono (r' := [cb]) (Nat.le_refl _) (by simp)) (by omega))
      have HB4 := Lib.hid (show Blk w4 w3.heap.size 33 #[.string pn, .string pv] from by rw [hw4]; exact Blk.new _ _ _)
      have hb4 : base ≤ w4.heap.size := Nat.le_trans hb3 m4.size
      clear m4 HO3 HA3 HC3 HM3
      cases b
      · have HP2 := Lib.hid (show parS s (stepE s k) acc = R from by have := HP.out; rw [hst] at this; exact this.symm)
        clear hst HP
        generalize stepE s k = k' at *
        go_wp2_with fail
        rw [← hw4]
        clear hw4
        go_wp2
        go_roundw
        case rel => exact ⟨k', acc, xs, by omega, H59.out, HP2.out, HL.out, by omega, by omega, HKN.out, HO4.out, HA4.out, HC4.out, HM4.out, hb4⟩
        case measure => rw [HME.out, curAt_of HC4.out]; omega
      · have c0 := HB4.out.cell 0
        have c1 := HB4.out.cell 1
        have HG := Lib.hid (fun W => isGood_any ⟨pn, pv⟩ W (by simp only; omega) (by simp only; omega))
        have HP1 := Lib.hid (show parS s (stepE s k) (putL acc ⟨pn, pv⟩) = R from by have := HP.out; rw [hst] at this; exact this.symm)
        clear hst HP
        generalize stepE s k = k' at *
        cases hg : prmB ⟨pn, pv⟩
        · rw [hg] at HG
          have HP2 := Lib.hid (show parS s k' acc = R from by have := HP1.out; unfold putL at this; rw [hg] at this; exact this)
          clear hg HP1
          go_wp2_with fail
          rw [← hw4]
          clear hw4
          go_wp2_with (go_at_call 19; (with_reducible refine (HG.out _).mono ?_); rintro e w5 ⟨rfl, b5⟩; have B5 := Lib.hid b5; clear b5 c0 c1)
          have m5 := Mv.of_below B5.out [cb]
          go_roundw
          case rel => exact ⟨k', acc, xs, by omega, H59.out, HP2.out, HL.out, by omega, by omega, HKN.out, own_keep HO4.out m5 hcb, HA4.out.mv m5 (by omega) (by omega) hcn hcm, HC4.out.below B5.out HC4.out.lt, HM4.out.chain m5 (by omega), Nat.le_trans hb4 B5.out.size⟩
          case measure => rw [HME.out, curAt_of (HC4.out.below B5.out HC4.out.lt)]; omega
        · rw [hg] at HG
          have HN := Lib.hid (fun W (hW : Asked W (mb + 1) mb xs) => news1_any (mb + 1) mb pn xs W hW (by omega) (by omega))
          rw [HKN.out pn] at HN
          have h45 : ∀ {w5 : World}, Below w4.heap.size w4 w5 → True := fun _ => trivial
          cases hse : seenB acc pn
          · rw [hse] at HN
            have HP2 := Lib.hid (show parS s k' (acc ++ [⟨pn, pv⟩]) = R from by have := HP1.out; unfold putL at this; rw [hg, hse] at this; exact this)
            clear hg HP1 hse h45
            go_wp2_with fail
            rw [← hw4]
            clear hw4
            go_wp2_with fail
            refine (HG.out _).mono ?_
            rintro e w5 ⟨rfl, b5⟩
            have m5 := Mv.of_below b5 [cb]
            have HO5 := Lib.hid (own_keep HO4.out m5 hcb)
            have HA5 := Lib.hid (HA4.out.mv m5 (by omega) (by omega) hcn hcm)
            have HC5 := Lib.hid (HC4.out.below b5 HC4.out.lt)
            have HM5 := Lib.hid (HM4.out.chain m5 (by omega))
            have HB5 := Lib.hid (HB4.out.below b5 HB4.out.lt)
            have hb5 : base ≤ w5.heap.size := Nat.le_trans hb4 m5.size
            clear b5 m5 HO4 HA4 HC4 HM4 HB4 c0 c1
            have c0 := HB5.out.cell 0
            go_wp2_with fail
            refine (HN.out _ HA5.out).mono ?_
            rintro e w6 ⟨rfl, m6, a6⟩
            have hrm : ∀ x ∈ [mb], x < base := by simp; omega
            have HO6 := Lib.hid (own_keep HO5.out m6 hrm)
            have HA6 := Lib.hid a6
            have HC6 := Lib.hid (show Cur w6 cb s k' from HC5.out.mv m6 HC5.out.lt (by simp; omega))
            have HM6 := Lib.hid (HM5.out.trans (m6.mono (B' := mb) (r' := [cb]) (by omega) (fun x hx => .inr (by simp at hx; omega))))
            have HB6 := Lib.hid (HB5.out.mv m6 HB5.out.lt (by simp; omega))
            have hb6 : base ≤ w6.heap.size := Nat.le_trans hb5 m6.size
            clear m6 a6 HO5 HA5 HC5 HM5 HB5 c0
            have c0 := HB6.out.cell 0
            have c1 := HB6.out.cell 1
            go_wp2_with (at_builtin; refine wpList_append_own _ rfl _ _ 22 rfl base 33 i0 _ 2 32 Try.underlying22 hi hz0 hz1 hz2 rfl (by decide) _ _ _ rfl (HO6.out.alloc _) ⟨w6.heap.size, 0, none⟩ 1 1 [.string pn, .string pv] rfl rfl ?_ ?_ ?_ ?_ ?_ ?_)
            · intro j u hj
              have hcb := Blk.new w6 33 #[.string pn, .string pv]
              have e : (⟨w6.heap.size, 0, none⟩ : Addr).add j = ⟨w6.heap.size, j, none⟩ := by cases j <;> simp [Addr.add]
              rw [e, hcb.cell]
              simpa using hj
            · intro u hu
              simp at hu
              rcases hu with rfl | rfl <;> rfl
            · unfold maxLen; omega
            · omega
            · simp; omega
            · intro v' w7 hown' hgrow hnil
              have hown2 : w7.ownsRow base 33 2 v' (acc ++ [⟨pn, pv⟩] : List Prm).length (prmL (acc ++ [⟨pn, pv⟩])) := by rw [prmL_snoc, List.length_append]; exact hown'
              have HO7 := Lib.hid hown2
              have HB7 := Lib.hid (Below.grown (((Below.refl base w6).alloc hb6 (.cells #[.string pn, .string pv] 33))) hgrow (by simp; omega) (fun g hg => (HO6.out.lt g hg).1))
              have m7 := Mv.of_below HB7.out [cb]
              clear hown2 hown' hgrow hnil
              go_wp2
              go_roundw
              case rel => exact ⟨k', acc ++ [⟨pn, pv⟩], xs ++ [pn], by omega, H59.out, HP2.out, HL.out.snoc hpn hpv, by simp; omega, by simp; omega, HKN.out.new ⟨pn, pv⟩, HO7.out, HA6.out.mv m7 (by omega) (by omega) hcn hcm, HC6.out.below HB7.out (by omega), HM6.out.trans (m7.mono (by omega) (fun x hx => .inl hx)), Nat.le_trans hb6 m7.size⟩
              case measure => rw [HME.out, curAt_of (HC6.out.below HB7.out (by omega))]; omega
          · rw [hse] at HN
            have HP2 := Lib.hid (show parS s k' acc = R from by have := HP1.out; unfold putL at this; rw [hg, hse] at this; exact this)
            have HK2 := Lib.hid (HKN.out.old hse)
            clear hg HP1 hse h45
            go_wp2_with fail
            rw [← hw4]
            clear hw4
            go_wp2_with fail
            refine (HG.out _).mono ?_
            rintro e w5 ⟨rfl, b5⟩
            have m5 := Mv.of_below b5 [cb]
            have HO5 := Lib.hid (own_keep HO4.out m5 hcb)
            have HA5 := Lib.hid (HA4.out.mv m5 (by omega) (by omega) hcn hcm)
            have HC5 := Lib.hid (HC4.out.below b5 HC4.out.lt)
            have HM5 := Lib.hid (HM4.out.chain m5 (by omega))
            have HB5 := Lib.hid (HB4.out.below b5 HB4.out.lt)
            have hb5 : base ≤ w5.heap.size := Nat.le_trans hb4 m5.size
            clear b5 m5 HO4 HA4 HC4 HM4 HB4 c0 c1
            have c0 := HB5.out.cell 0
            go_wp2_with fail
            refine (HN.out _ HA5.out).mono ?_
            rintro e w6 ⟨rfl, m6, a6⟩
            have hrm : ∀ x ∈ [mb], x < base := by simp; omega
            have HO6 := Lib.hid (own_keep HO5.out m6 hrm)
            have HA6 := Lib.hid a6
            have HC6 := Lib.hid (show Cur w6 cb s k' from HC5.out.mv m6 HC5.out.lt (by simp; omega))
            have HM6 := Lib.hid (HM5.out.trans (m6.mono (B' := mb) (r' := [cb]) (by omega) (fun x hx => .inr (by simp at hx; omega))))
            have hb6 : base ≤ w6.heap.size := Nat.le_trans hb5 m6.size
            clear m6 a6 HO5 HA5 HC5 HM5 HB5 c0
            go_wp2
            go_roundw
            case rel => exact ⟨k', acc, xs ++ [pn], by omega, H59.out, HP2.out, HL.out, by omega, by simp; omega, HK2.out, HO6.out, HA6.out, HC6.out, HM6.out, hb6⟩
            case measure => rw [HME.out, curAt_of HC6.out]; omega
    · obtain rfl : k = s.size := by omega
      have HE := Lib.hid (fun W (hW : Cur W cb s s.size) => end_any cb s.size s W hW hk hs')
      rw [decide_eq_true rfl] at HE
      have HP := Lib.hid (show acc = R from by rw [← hpar, parS_end acc (Nat.le_refl _)])
      clear h59' hpar h59
      go_wp2_with fail
      refine (HE.out _ HC.out).mono ?_
      rintro e w2 ⟨rfl, i2⟩
      have m2 : Mv wr.heap.size [cb] wr w2 := Mv.idle i2
      have HO2 := Lib.hid (own_keep HO.out m2 hcb)
      have HM2 := Lib.hid (HM.out.chain m2 (by omega))
      clear i2 m2
      go_wp2
      go_ret
      exact ⟨_, rfl, by rw [← HP.out, hmb, hB]; exact HO2.out, by rw [← HP.out]; exact HL.out, by rw [hmb]; exact HM2.out⟩

end Go.Proofs.Ytmepnfkgfbbkiaa
