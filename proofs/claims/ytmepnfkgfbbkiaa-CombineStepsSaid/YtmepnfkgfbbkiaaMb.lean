/-
  What takeValue, takeParam and takeParams answer of a cursor. Condition: the text is as long as a slice of bytes can be.
-/
import Derived.Test.YtmepnfkgfbbkiaaMa
import Derived.Test.YtmepnfkgfbbkiaaCollect
import Derived.Test.YtmepnfkgfbbkiaaWhilewhite
import Derived.Laws.OwnMore
import Derived.Laws.AppendOwn
namespace Go.Proofs.Ytmepnfkgfbbkiaa
open Go.RowKit Go.Maps

/-- What takeValue tells. -/
def valStr (s : ByteArray) (j : Nat) : ByteArray := if isAt s j 34 then ⟨(quoS s (j + 1)).1.toArray⟩ else valRaw s j
def valOk (s : ByteArray) (j : Nat) : Bool := isAt s j 34 || !((valRaw s j).toList == [])
theorem valOf_eq (s : ByteArray) (j : Nat) : valOf s j = if valOk s j then some (valStr s j) else none := by
  unfold valOf valOk valStr
  cases isAt s j 34
  · cases (valRaw s j).toList == [] <;> simp
  · simp
theorem cutP_le (p : UInt8 → Bool) (s : ByteArray) : (cutP p s).size ≤ s.size := by
  rw [cutP_size]; exact backN_le _ _ _
theorem quoS_size {s : ByteArray} {k : Nat} (h : k ≤ s.size) : (⟨(quoS s k).1.toArray⟩ : ByteArray).size ≤ s.size := by
  have h1 := quoS_len s k
  have h2 := quoS_le h
  show (quoS s k).1.toArray.size ≤ _
  simp
  omega
theorem valRaw_size (s : ByteArray) (j : Nat) : (valRaw s j).size ≤ s.size := by
  unfold valRaw
  have := cutP_le whiB (s.extract j (scan (stp sSe) s j))
  have h2 : (s.extract j (scan (stp sSe) s j)).size ≤ s.size := by simp; omega
  omega
theorem valStr_size {s : ByteArray} {j : Nat} (_h : j ≤ s.size) : (valStr s j).size ≤ s.size := by
  unfold valStr
  split
  · rename_i h2
    exact quoS_size (by have := isAt_lt h2; omega)
  · exact valRaw_size s j
theorem nmOf_size (s : ByteArray) (k : Nat) : (nmOf s k).size ≤ s.size := by
  unfold nmOf
  rw [lowS_size]
  simp
  omega

theorem peek_is (cb k : Nat) (s : ByteArray) (c : Nat) (hk : k ≤ s.size) (hs : s.size ≤ 9223372036854775807) (h : isAt s k c = false) (hc : c ≠ 0) :
    ∃ (b : Int) (o : Bool), (b == (c : Int)) = false ∧ Hid (∀ W, Cur W cb s k → Calls Try.prog 72 #[cptr cb, .int .i64 0] W fun e w' => e = .returned (.tuple #[.int .u8 b, .bool o]) ∧ ∃ m, w' = W.drewN m) := by
  by_cases h2 : k < s.size
  · rw [isAt_yes h2] at h
    have h3 : s[k].toNat ≠ c := by simpa using h
    exact ⟨s[k].toNat, true, by simp; omega, fun W hW => peek_ok cb k 0 s W hW hs (by omega)⟩
  · exact ⟨0, false, by simp; omega, fun W hW => peek_far cb k s 0 W hW hk hs (by omega) (by omega)⟩

set_option maxHeartbeats 1000000 in
theorem takeValue_any (cb k : Nat) (s : ByteArray) (w : World) (h : Cur w cb s k) (hk : k ≤ s.size) (hs : s.size ≤ 140737488355328) :
    Calls Try.prog 79 #[cptr cb] w fun e w' => e = .returned (.tuple #[.string (valStr s k), .bool (valOk s k)]) ∧ Mv w.heap.size [cb] w w' ∧ Cur w' cb s (valTo s k) := by
  have hs' : s.size ≤ 9223372036854775807 := by omega
  have HC := Lib.hid h
  cases hq : isAt s k 34
  · obtain ⟨b, o, hb, HP⟩ := peek_is cb k s 34 hk hs' hq (by omega)
    have hb' : (b == 34) = false := hb
    have HU := Lib.hid (fun W (hW : Cur W cb s k) => until_any cb k s sSe W hW hk hs' (by show 1 ≤ _; omega))
    have HK := Lib.hid (fun W => mcut_any (s.extract k (scan (stp sSe) s k)) W (by simp; omega))
    have e1 : valStr s k = valRaw s k := by unfold valStr; rw [hq]; rfl
    have e2 : valOk s k = !((valRaw s k).toList == []) := by unfold valOk; rw [hq]; rfl
    have e3 : valTo s k = scan (stp sSe) s k := by unfold valTo; rw [hq]; rfl
    have e4 : cutP whiB (s.extract k (scan (stp sSe) s k)) = valRaw s k := rfl
    rw [e1, e2, e3]
    rw [e4] at HK
    generalize valRaw s k = x at *
    clear e1 e2 e3 e4 hb h
    cases hx : (x.toList == [])
    all_goals
      go_enter Try.func79, Try.ntmps79
      go_wp2_with fail
      refine (HP.out _ HC.out).mono ?_
      rintro e w1 ⟨rfl, m1⟩
      have HM1 := Lib.hid (Mv.idle (B := w.heap.size) (r := [cb]) m1)
      have HC1 := Lib.hid (show Cur w1 cb s k from by obtain ⟨n, rfl⟩ := m1; exact HC.out.drewN n)
      clear m1
      go_wp2_with fail
      refine (HU.out _ HC1.out).mono ?_
      rintro e w2 ⟨rfl, m2, c2⟩
      have HM2 := Lib.hid (HM1.out.chain m2 (Nat.le_refl _))
      have HC2 := Lib.hid c2
      clear m2 c2
      go_wp2_with fail
      refine (HK.out _).mono ?_
      rintro e w3 ⟨rfl, rfl⟩
      go_wp2
      go_ret2
      exact ⟨rfl, HM2.out, HC2.out⟩
  · have hlt := isAt_lt hq
    have h34 : s[k].toNat = 34 := by rw [isAt_yes hlt] at hq; simpa using hq
    have hql := quoS_le (s := s) (k := k + 1) (by omega)
    have HP := Lib.hid (fun W (hW : Cur W cb s k) => peek_ok cb k 0 s W hW hs' (by omega))
    rw [show ((s[k + 0]'(by omega)).toNat : Int) = 34 from by show ((s[k]'(by omega)).toNat : Int) = 34; rw [h34]; rfl] at HP
    have HO := Lib.hid (fun W (hW : Cur W cb s k) => collect_said cb k s W hW hlt h34 hs)
    have HU := Lib.hid (fun W (hW : Cur W cb s (k + 1 + (quoS s (k + 1)).2)) => until_any cb _ s sSe W hW hql hs' (by show 1 ≤ _; omega))
    have e1 : valStr s k = ⟨(quoS s (k + 1)).1.toArray⟩ := by unfold valStr; rw [hq]; rfl
    have e2 : valOk s k = true := by unfold valOk; rw [hq]; rfl
    have e3 : valTo s k = scan (stp sSe) s (k + 1 + (quoS s (k + 1)).2) := by unfold valTo; rw [hq]; rfl
    rw [e1, e2, e3]
    clear e1 e2 e3 h34 hq
    generalize (quoS s (k + 1)).2 = q at *
    generalize (⟨(quoS s (k + 1)).1.toArray⟩ : ByteArray) = x at *
    go_enter Try.func79, Try.ntmps79
    go_wp2_with fail
    refine (HP.out _ HC.out).mono ?_
    rintro e w1 ⟨rfl, m1⟩
    have HM1 := Lib.hid (Mv.idle (B := w.heap.size) (r := [cb]) m1)
    have HC1 := Lib.hid (show Cur w1 cb s k from by obtain ⟨n, rfl⟩ := m1; exact HC.out.drewN n)
    clear m1
    go_wp2_with fail
    refine (HO.out _ HC1.out).mono ?_
    rintro e w2 ⟨rfl, m2, c2⟩
    have HM2 := Lib.hid (HM1.out.chain m2 (Nat.le_refl _))
    have HC2 := Lib.hid c2
    clear m2 c2
    go_wp2_with fail
    refine (HU.out _ HC2.out).mono ?_
    rintro e w3 ⟨rfl, m3, c3⟩
    have HM3 := Lib.hid (HM2.out.chain m3 (Nat.le_refl _))
    have HC3 := Lib.hid c3
    clear m3 c3
    go_wp2
    go_ret2
    exact ⟨rfl, HM3.out, HC3.out⟩

/-- p and b are what the step at k tells. -/
def StepIs (s : ByteArray) (k : Nat) (p : Prm) (b : Bool) : Prop := stepP s k = (if b then some p else none) ∧ p.n.size ≤ s.size ∧ p.v.size ≤ s.size

set_option maxHeartbeats 1000000 in
theorem takeParam_any (cb k : Nat) (s : ByteArray) (w : World) (h : Cur w cb s k) (hk : k < s.size) (h59 : s[k].toNat = 59) (hs : s.size ≤ 140737488355328) :
    Calls Try.prog 65 #[cptr cb] w fun e w' => ∃ (p : Prm) (b : Bool), e = .returned (.tuple #[prmV p, .bool b]) ∧ StepIs s k p b ∧ Mv w.heap.size [cb] w w' ∧ Cur w' cb s (stepE s k) := by
  have hs' : s.size ≤ 9223372036854775807 := by omega
  have hfr := nmFr_le hk
  have hto := nmTo_le hk
  have HC := Lib.hid h
  have HS := Lib.hid (fun W (hW : Cur W cb s k) => skip_yes cb k s sSe W hW (by omega) hs' (by show 1 ≤ _; omega) (by rw [prefB_one hk, h59]; rfl) (by show k + 1 ≤ _; omega))
  have HW := Lib.hid (fun W (hW : Cur W cb s (k + 1)) => while_white cb (k + 1) s W hW (by omega) hs')
  have HU := Lib.hid (fun W (hW : Cur W cb s (nmFr s k)) => until_any cb _ s sSq W hW hfr hs' (by show 2 ≤ _; omega))
  have HL := Lib.hid (fun W => lowerS_any (s.extract (nmFr s k) (nmTo s k)) W (by simp; omega))
  have e1 : scan whiB s (k + 1) = nmFr s k := rfl
  have e2 : scan (fun b => !hasB sSq b) s (nmFr s k) = nmTo s k := rfl
  have e3 : lowS (s.extract (nmFr s k) (nmTo s k)) = nmOf s k := rfl
  have hns := nmOf_size s k
  rw [e1] at HW
  rw [e2] at HU
  rw [e3] at HL
  clear h h59 e1 e2 e3
  have hltw := HC.out.lt
  obtain ⟨w0, hw0⟩ : ∃ w0, w0 = w.alloc (.cells #[.string ⟨#[]⟩, .string ⟨#[]⟩] 33) := ⟨_, rfl⟩
  have HM0 := Lib.hid (show Mv w.heap.size [cb] w w0 from by rw [hw0]; exact (Mv.refl _ _ _).alloc (Nat.le_refl _) _)
  have HR0 := Lib.hid (show Blk w0 w.heap.size 33 #[.string ⟨#[]⟩, .string ⟨#[]⟩] from by rw [hw0]; exact Blk.new _ _ _)
  have HC0 := Lib.hid (show Cur w0 cb s k from by rw [hw0]; exact HC.out.alloc _)
  have hnr : w.heap.size ∉ [cb] := by simp; omega
  cases hq : isAt s (nmTo s k) 61
  · have eP : stepP s k = none := by unfold stepP; rw [hq]; rfl
    have eE : stepE s k = nmTo s k := by unfold stepE; rw [hq]; rfl
    have hpre : prefB (s.extract (nmTo s k) s.size) ⟨#[61]⟩ = false := by
      by_cases h2 : nmTo s k < s.size
      · rw [prefB_one h2]; rw [isAt_yes h2] at hq; exact hq
      · exact prefB_none (by omega) _
    have HK := Lib.hid (fun W (hW : Cur W cb s (nmTo s k)) => skip_no cb _ s ⟨#[61]⟩ W hW hto hs' (by show 1 ≤ _; omega) hpre)
    rw [eE]
    have HP := Lib.hid (show StepIs s k ⟨⟨#[]⟩, ⟨#[]⟩⟩ false from ⟨eP, by show 0 ≤ _; omega, by show 0 ≤ _; omega⟩)
    clear eP eE hpre hq
    generalize nmTo s k = t at *
    generalize nmFr s k = f at *
    generalize nmOf s k = nm at *
    go_enter Try.func65, Try.ntmps65
    go_wp2_with fail
    rw [← hw0]
    clear hw0
    refine (HS.out _ HC0.out).mono ?_
    rintro e w1 ⟨rfl, i1⟩
    obtain ⟨m1, c1⟩ := Mv.put (j := k + 1) HC0.out i1
    have HM1 := Lib.hid (HM0.out.chain m1 (Nat.le_refl _))
    have HC1 := Lib.hid c1
    have HR1 := Lib.hid (HR0.out.mv m1 HR0.out.lt hnr)
    clear i1 m1 c1 HM0 HC0 HR0
    go_wp2_with fail
    refine (HW.out _ HC1.out).mono ?_
    rintro e w2 ⟨rfl, m2, c2⟩
    have HM2 := Lib.hid (HM1.out.chain m2 (Nat.le_refl _))
    have HC2 := Lib.hid c2
    have HR2 := Lib.hid (HR1.out.mv m2 HR1.out.lt hnr)
    clear m2 c2 HM1 HC1 HR1
    go_wp2_with fail
    refine (HU.out _ HC2.out).mono ?_
    rintro e w3 ⟨rfl, m3, c3⟩
    have HM3 := Lib.hid (HM2.out.chain m3 (Nat.le_refl _))
    have HC3 := Lib.hid c3
    have HR3 := Lib.hid (HR2.out.mv m3 HR2.out.lt hnr)
    clear m3 c3 HM2 HC2 HR2
    go_wp2_with fail
    refine (HL.out _).mono ?_
    rintro e w4 ⟨rfl, b4⟩
    have HM4 := Lib.hid (HM3.out.chain (Mv.of_below b4 [cb]) (Nat.le_refl _))
    have HC4 := Lib.hid (HC3.out.below b4 HC3.out.lt)
    have HR4 := Lib.hid (HR3.out.below b4 HR3.out.lt)
    clear b4 HM3 HC3 HR3
    go_wp2_with fail
    refine (HK.out _ HC4.out).mono ?_
    rintro e w5 ⟨rfl, m5⟩
    have HM5 := Lib.hid (HM4.out.chain (Mv.idle m5) (Nat.le_refl _))
    have HC5 := Lib.hid (show Cur w5 cb s t from by obtain ⟨n, rfl⟩ := m5; exact HC4.out.drewN n)
    have HR5 := Lib.hid (show Blk w5 w.heap.size 33 _ from by obtain ⟨n, rfl⟩ := m5; exact HR4.out.drewN n)
    clear m5 HM4 HC4 HR4
    have c0 := HR5.out.cell 0
    have c1 := HR5.out.cell 1
    have z0 := HR5.out.frozen 0
    have z1 := HR5.out.frozen 1
    go_wp2
    refine bodyPost_ret (v := .tuple #[.agg #[.string ⟨#[]⟩, .string ⟨#[]⟩], .bool false]) (by simp [results, Try.results65, go_sem, c0, c1]; done) rfl ?_
    refine ⟨⟨⟨#[]⟩, ⟨#[]⟩⟩, false, rfl, HP.out, ?_, ?_⟩
    · exact (HM5.out.setCell (.inr (Nat.le_refl _)) _).setCell (.inr (Nat.le_refl _)) _
    · exact (HC5.out.far (by show cb ≠ w.heap.size; omega) _).far (by show cb ≠ w.heap.size; omega) _
  · have hltq := isAt_lt hq
    have h61 : s[nmTo s k].toNat = 61 := by rw [isAt_yes hltq] at hq; simpa using hq
    have eP : stepP s k = (if valOk s (nmTo s k + 1) then some ⟨nmOf s k, valStr s (nmTo s k + 1)⟩ else none) := by
      unfold stepP
      rw [hq, if_pos rfl, valOf_eq]
      cases valOk s (nmTo s k + 1) <;> rfl
    have eE : stepE s k = valTo s (nmTo s k + 1) := by unfold stepE; rw [hq]; rfl
    have HK := Lib.hid (fun W (hW : Cur W cb s (nmTo s k)) => skip_yes cb _ s ⟨#[61]⟩ W hW hto hs' (by show 1 ≤ _; omega) (by rw [prefB_one hltq, h61]; rfl) (by show nmTo s k + 1 ≤ _; omega))
    have HV := Lib.hid (fun W (hW : Cur W cb s (nmTo s k + 1)) => takeValue_any cb _ s W hW (by omega) hs)
    have hvs := valStr_size (s := s) (j := nmTo s k + 1) (by omega)
    rw [eE]
    have HP := Lib.hid (show StepIs s k ⟨nmOf s k, valStr s (nmTo s k + 1)⟩ (valOk s (nmTo s k + 1)) from ⟨eP, hns, hvs⟩)
    clear eP eE hq h61
    generalize valStr s (nmTo s k + 1) = vs at *
    generalize valOk s (nmTo s k + 1) = vo at *
    generalize valTo s (nmTo s k + 1) = ve at *
    generalize nmTo s k = t at *
    generalize nmFr s k = f at *
    generalize nmOf s k = nm at *
    go_enter Try.func65, Try.ntmps65
    go_wp2_with fail
    rw [← hw0]
    clear hw0
    refine (HS.out _ HC0.out).mono ?_
    rintro e w1 ⟨rfl, i1⟩
    obtain ⟨m1, c1⟩ := Mv.put (j := k + 1) HC0.out i1
    have HM1 := Lib.hid (HM0.out.chain m1 (Nat.le_refl _))
    have HC1 := Lib.hid c1
    have HR1 := Lib.hid (HR0.out.mv m1 HR0.out.lt hnr)
    clear i1 m1 c1 HM0 HC0 HR0
    go_wp2_with fail
    refine (HW.out _ HC1.out).mono ?_
    rintro e w2 ⟨rfl, m2, c2⟩
    have HM2 := Lib.hid (HM1.out.chain m2 (Nat.le_refl _))
    have HC2 := Lib.hid c2
    have HR2 := Lib.hid (HR1.out.mv m2 HR1.out.lt hnr)
    clear m2 c2 HM1 HC1 HR1
    go_wp2_with fail
    refine (HU.out _ HC2.out).mono ?_
    rintro e w3 ⟨rfl, m3, c3⟩
    have HM3 := Lib.hid (HM2.out.chain m3 (Nat.le_refl _))
    have HC3 := Lib.hid c3
    have HR3 := Lib.hid (HR2.out.mv m3 HR2.out.lt hnr)
    clear m3 c3 HM2 HC2 HR2
    go_wp2_with fail
    refine (HL.out _).mono ?_
    rintro e w4 ⟨rfl, b4⟩
    have HM4 := Lib.hid (HM3.out.chain (Mv.of_below b4 [cb]) (Nat.le_refl _))
    have HC4 := Lib.hid (HC3.out.below b4 HC3.out.lt)
    have HR4 := Lib.hid (HR3.out.below b4 HR3.out.lt)
    clear b4 HM3 HC3 HR3
    go_wp2_with fail
    refine (HK.out _ HC4.out).mono ?_
    rintro e w5 ⟨rfl, i5⟩
    obtain ⟨m5, c5⟩ := Mv.put (j := t + 1) HC4.out i5
    have HM5 := Lib.hid (HM4.out.chain m5 (Nat.le_refl _))
    have HC5 := Lib.hid c5
    have HR5 := Lib.hid (HR4.out.mv m5 HR4.out.lt hnr)
    clear i5 m5 c5 HM4 HC4 HR4
    go_wp2_with fail
    refine (HV.out _ HC5.out).mono ?_
    rintro e w6 ⟨rfl, m6, c6⟩
    have HM6 := Lib.hid (HM5.out.chain m6 (Nat.le_refl _))
    have HC6 := Lib.hid c6
    have HR6 := Lib.hid (HR5.out.mv m6 HR5.out.lt hnr)
    clear m6 c6 HM5 HC5 HR5
    have c0 := HR6.out.cell 0
    have c1 := HR6.out.cell 1
    have z0 := HR6.out.frozen 0
    have z1 := HR6.out.frozen 1
    go_wp2
    refine bodyPost_ret (v := .tuple #[.agg #[.string nm, .string vs], .bool vo]) (by simp [results, Try.results65, go_sem, c0, c1]; done) rfl ?_
    refine ⟨⟨nm, vs⟩, vo, rfl, HP.out, ?_, ?_⟩
    · exact (HM6.out.setCell (.inr (Nat.le_refl _)) _).setCell (.inr (Nat.le_refl _)) _
    · exact (HC6.out.far (by show cb ≠ w.heap.size; omega) _).far (by show cb ≠ w.heap.size; omega) _

end Go.Proofs.Ytmepnfkgfbbkiaa
