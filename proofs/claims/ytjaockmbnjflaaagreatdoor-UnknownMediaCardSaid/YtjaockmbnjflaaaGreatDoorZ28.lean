/-
  What textOrNot, scripted, Media, signed and Type of package unknown answer, and the document's own Media and Type. Condition: the text takes at most 2^40 bytes (Type: it is not longer than memory).
  What the document's Type of layer 20 answers. Condition: the text is not longer than memory.
  The laws UnknownTypes, UnknownTexts and UnknownMedia. Condition: lengths as they can be.
-/
import Derived.Test.YtjaockmbnjflaaaGreatDoorZ11
import Derived.Test.YtjaockmbnjflaaaGreatDoorZ12
import Derived.Test.YtjaockmbnjflaaaGreatDoorZ14
import Derived.Test.YtjaockmbnjflaaaGreatDoorZ15
import Derived.Test.YtjaockmbnjflaaaGreatDoorZ17
import Derived.Test.YtjaockmbnjflaaaGreatDoorZ16
import Derived.Test.YtjaockmbnjflaaaGreatDoorZ20
import Derived.Test.YtjaockmbnjflaaaGreatDoorZ22
import Derived.Test.YtjaockmbnjflaaaGreatDoorZ23
import Derived.Test.YtjaockmbnjflaaaGreatDoorZ26
import Derived.Test.YtjaockmbnjflaaaGreatDoorZ27
import Derived.Test.YtjaockmbnjflaaaGreatDoorZ13
namespace Go.Proofs.YtjaockmbnjflaaaGreatDoor
open Go.RowKit

/-- Whether a body has a binary byte. -/
def hasBin (s : ByteArray) : Bool := decide (binF s < s.size)
/-- Whether a text is empty, in the walks' two words. -/
theorem em_says {t : ByteArray} {b : Bool} (h : emB t = b) : (t.toList == ([] : List UInt8)) = b ∧ t.toList.isEmpty = b := by
  have e : (t.toList == ([] : List UInt8)) = b := h
  refine ⟨e, ?_⟩
  rw [← e]
  cases t.toList <;> rfl

set_option maxHeartbeats 400000 in
theorem utext_any (s : ByteArray) (w : World) (hs : s.size ≤ 9223372036854775807) :
    Calls Tryz.prog 27 #[.string s] w fun e w' => e = .returned (.string (lsA (hasBin s))) ∧ w = w' := by
  have HF : Hid (∀ W, Calls Tryz.prog 54 #[.string s] W fun e w' => e = .returned (.tuple #[.int .i64 (fstN s : Nat), .bool (hasBin s)]) ∧ W = w') := Lib.hid (fun W => bfirst_any s W hs)
  have HV : Hid (lsA (hasBin s) = if hasBin s then octY else plaY) := Lib.hid rfl
  generalize lsA (hasBin s) = v at *
  generalize hasBin s = o at *
  cases o
  · rw [if_neg (by simp)] at HV
    go_enter Tryz.func27, Tryz.ntmps27
    go_wp2_with (first
      | (go_at_call 54; (with_reducible refine (HF.out _).mono ?_); rintro e w1 ⟨rfl, rfl⟩))
    go_ret
    exact ⟨by rw [HV.out]; first | done | rfl, rfl⟩
  · rw [if_pos rfl] at HV
    go_enter Tryz.func27, Tryz.ntmps27
    go_wp2_with (first
      | (go_at_call 54; (with_reducible refine (HF.out _).mono ?_); rintro e w1 ⟨rfl, rfl⟩))
    go_ret
    exact ⟨by rw [HV.out]; first | done | rfl, rfl⟩

set_option maxHeartbeats 1000000 in
theorem uscripted_any (s : ByteArray) (w : World) (hs : s.size ≤ 140737488351232) :
    Calls Tryz.prog 25 #[.string s] w fun e w' => e = .returned (.string (scA (htmB s) (xmlB s) (prefB s pdfS))) ∧ Below w.heap.size w w' := by
  have H1 := Lib.hid (fun W => uhtml_any s W hs)
  have H2 := Lib.hid (fun W => uxml_any s W hs)
  have H3 := Lib.hid (fun W => updf_any s W hs)
  obtain ⟨v, hv⟩ : ∃ v, v = scA (htmB s) (xmlB s) (prefB s pdfS) := ⟨_, rfl⟩
  rw [← hv]
  have HV := Lib.hid hv
  clear hv
  generalize htmB s = h at *
  generalize xmlB s = x at *
  generalize prefB s pdfS = p at *
  have HB := Lib.hid (Below.refl w.heap.size w)
  cases h <;> cases x <;> cases p
  all_goals
    go_enter Tryz.func25, Tryz.ntmps25
    go_wp2_with (first
      | (go_at_call 11; (with_reducible refine (H1.out _).mono ?_); rintro e w1 ⟨rfl, b1⟩; have HB := Lib.hid (HB.out.trans (b1.mono HB.out.size)); clear b1)
      | (go_at_call 13; (with_reducible refine (H2.out _).mono ?_); rintro e w1 ⟨rfl, b1⟩; have HB := Lib.hid (HB.out.trans (b1.mono HB.out.size)); clear b1)
      | (go_at_call 15; (with_reducible refine (H3.out _).mono ?_); rintro e w1 ⟨rfl, rfl⟩))
    go_ret
    exact ⟨by rw [HV.out]; first | done | rfl, HB.out⟩

set_option maxHeartbeats 4000000 in
theorem umedia_any (s : ByteArray) (r : Int) (w : World) (hs : s.size ≤ 1099511627776) (hr : IsFirst s medP 6 r) :
    Calls Tryz.prog 16 #[.string s] w fun e w' => e = .returned (.string (mdA (typeOf medP r) (filmB s) (filW s) (isO s))) ∧ Below w.heap.size w w' := by
  have H0 := Lib.hid (fun W => medType_any s r W (by omega) hr)
  have H1 := Lib.hid (fun W => mp4Is_any s W hs)
  have H2 := Lib.hid (fun W => wis_any s W (by omega))
  have H3 := Lib.hid (fun W => mis_any s W (by omega))
  obtain ⟨v, hv⟩ : ∃ v, v = mdA (typeOf medP r) (filmB s) (filW s) (isO s) := ⟨_, rfl⟩
  rw [← hv]
  clear hr
  generalize typeOf medP r = t at *
  generalize filmB s = a at *
  generalize filW s = b at *
  generalize isO s = c at *
  have HB := Lib.hid (Below.refl w.heap.size w)
  unfold mdA at hv
  cases he : emB t
  · rw [he, if_pos rfl] at hv
    have HV := Lib.hid hv
    obtain ⟨e1, e2⟩ := em_says he
    clear hv he
    go_enter Tryz.func16, Tryz.ntmps16
    go_wp2_with (first
      | (go_at_call 41; (with_reducible refine (H0.out _).mono ?_); rintro e w1 ⟨rfl, b1⟩; have HB := Lib.hid (HB.out.trans (b1.mono HB.out.size)); clear b1)
      | (go_at_call 42; (with_reducible refine (H1.out _).mono ?_); rintro e w1 ⟨rfl, b1⟩; have HB := Lib.hid (HB.out.trans (b1.mono HB.out.size)); clear b1)
      | (go_at_call 43; (with_reducible refine (H2.out _).mono ?_); rintro e w1 ⟨rfl, rfl⟩)
      | (go_at_call 44; (with_reducible refine (H3.out _).mono ?_); rintro e w1 ⟨rfl, b1⟩; have HB := Lib.hid (HB.out.trans (b1.mono HB.out.size)); clear b1))
    go_ret
    exact ⟨by rw [HV.out]; first | done | rfl, HB.out⟩
  · rw [he, if_neg (by simp)] at hv
    have HV := Lib.hid hv
    obtain ⟨e1, e2⟩ := em_says he
    clear hv he
    cases a <;> cases b <;> cases c
    all_goals
      go_enter Tryz.func16, Tryz.ntmps16
      go_wp2_with (first
        | (go_at_call 41; (with_reducible refine (H0.out _).mono ?_); rintro e w1 ⟨rfl, b1⟩; have HB := Lib.hid (HB.out.trans (b1.mono HB.out.size)); clear b1)
        | (go_at_call 42; (with_reducible refine (H1.out _).mono ?_); rintro e w1 ⟨rfl, b1⟩; have HB := Lib.hid (HB.out.trans (b1.mono HB.out.size)); clear b1)
        | (go_at_call 43; (with_reducible refine (H2.out _).mono ?_); rintro e w1 ⟨rfl, rfl⟩)
        | (go_at_call 44; (with_reducible refine (H3.out _).mono ?_); rintro e w1 ⟨rfl, b1⟩; have HB := Lib.hid (HB.out.trans (b1.mono HB.out.size)); clear b1))
      go_ret
      exact ⟨by rw [HV.out]; first | done | rfl, HB.out⟩

set_option maxHeartbeats 4000000 in
theorem rmedia_any (s : ByteArray) (r : Int) (w : World) (hs : s.size ≤ 1099511627776) (hr : IsFirst s medP 6 r) :
    Calls Tryz.prog 17 #[.string s] w fun e w' => e = .returned (.string (mdA (typeOf medP r) (filmB s) (filW s) (isO s))) ∧ Below w.heap.size w w' := by
  have H0 := Lib.hid (fun W g (h : PatsIn W g medP 6) => rType_any g 6 6 s medP r W h (fun i hi => med_ok hi) (by omega) (by decide) hr)
  have H1 := Lib.hid (fun W => ris16_any s W hs)
  have H2 := Lib.hid (fun W => ris_any s W (by omega))
  have H3 := Lib.hid (fun W => ris18_any s W (by omega))
  obtain ⟨v, hv⟩ : ∃ v, v = mdA (typeOf medP r) (filmB s) (filW s) (isO s) := ⟨_, rfl⟩
  rw [← hv]
  clear hr
  generalize typeOf medP r = t at *
  generalize filmB s = a at *
  generalize filW s = b at *
  generalize isO s = c at *
  have HB := Lib.hid (Below.refl w.heap.size w)
  unfold mdA at hv
  cases he : emB t
  · rw [he, if_pos rfl] at hv
    have HV := Lib.hid hv
    obtain ⟨e1, e2⟩ := em_says he
    clear hv he
    go_enter Tryz.func17, Tryz.ntmps17
    go_wp2_with (first
      | (go_at_call 45; refine (refTable14_any _).mono ?_; rintro e w1 ⟨g, rfl, hg, hp, b1⟩; have HB := Lib.hid (HB.out.trans (b1.mono HB.out.size)); have HP := Lib.hid hp; clear b1 hp hg)
      | (go_at_call 30; (with_reducible refine (H0.out _ _ HP.out).mono ?_); rintro e w1 ⟨rfl, b1⟩; have HB := Lib.hid (HB.out.trans (b1.mono HB.out.size)); clear b1)
      | (go_at_call 46; (with_reducible refine (H1.out _).mono ?_); rintro e w1 ⟨rfl, b1⟩; have HB := Lib.hid (HB.out.trans (b1.mono HB.out.size)); clear b1)
      | (go_at_call 47; (with_reducible refine (H2.out _).mono ?_); rintro e w1 ⟨rfl, rfl⟩)
      | (go_at_call 48; (with_reducible refine (H3.out _).mono ?_); rintro e w1 ⟨rfl, b1⟩; have HB := Lib.hid (HB.out.trans (b1.mono HB.out.size)); clear b1))
    go_ret
    exact ⟨by rw [HV.out]; first | done | rfl, HB.out⟩
  · rw [he, if_neg (by simp)] at hv
    have HV := Lib.hid hv
    obtain ⟨e1, e2⟩ := em_says he
    clear hv he
    cases a <;> cases b <;> cases c
    all_goals
      go_enter Tryz.func17, Tryz.ntmps17
      go_wp2_with (first
        | (go_at_call 45; refine (refTable14_any _).mono ?_; rintro e w1 ⟨g, rfl, hg, hp, b1⟩; have HB := Lib.hid (HB.out.trans (b1.mono HB.out.size)); have HP := Lib.hid hp; clear b1 hp hg)
        | (go_at_call 30; (with_reducible refine (H0.out _ _ HP.out).mono ?_); rintro e w1 ⟨rfl, b1⟩; have HB := Lib.hid (HB.out.trans (b1.mono HB.out.size)); clear b1)
        | (go_at_call 46; (with_reducible refine (H1.out _).mono ?_); rintro e w1 ⟨rfl, b1⟩; have HB := Lib.hid (HB.out.trans (b1.mono HB.out.size)); clear b1)
        | (go_at_call 47; (with_reducible refine (H2.out _).mono ?_); rintro e w1 ⟨rfl, rfl⟩)
        | (go_at_call 48; (with_reducible refine (H3.out _).mono ?_); rintro e w1 ⟨rfl, b1⟩; have HB := Lib.hid (HB.out.trans (b1.mono HB.out.size)); clear b1))
      go_ret
      exact ⟨by rw [HV.out]; first | done | rfl, HB.out⟩

set_option maxHeartbeats 4000000 in
theorem usigned_any (s : ByteArray) (r1 r2 r3 r4 : Int) (w : World) (hs : s.size ≤ 1099511627776) (h1 : IsFirst s sgnP 4 r1) (h2 : IsFirst s imgP 8 r2) (h3 : IsFirst s medP 6 r3) (h4 : IsFirst s arcP 3 r4) :
    Calls Tryz.prog 26 #[.string s] w fun e w' => e = .returned (.string (sgA (typeOf sgnP r1) (typeOf imgP r2) (mdA (typeOf medP r3) (filmB s) (filW s) (isO s)) (typeOf arcP r4))) ∧ Below w.heap.size w w' := by
  have H1 := Lib.hid (fun W g (h : PatsIn W g sgnP 4) => type_any g 4 4 s sgnP r1 W h (fun i hi => sgn_ok hi) (by omega) (by decide) h1)
  have H2 := Lib.hid (fun W => imgType_any s r2 W (by omega) h2)
  have H3 := Lib.hid (fun W => umedia_any s r3 W hs h3)
  have H4 := Lib.hid (fun W => packArchive_any s r4 W (by omega) h4)
  obtain ⟨v, hv⟩ : ∃ v, v = sgA (typeOf sgnP r1) (typeOf imgP r2) (mdA (typeOf medP r3) (filmB s) (filW s) (isO s)) (typeOf arcP r4) := ⟨_, rfl⟩
  rw [← hv]
  clear h1 h2 h3 h4
  generalize typeOf sgnP r1 = t1 at *
  generalize typeOf imgP r2 = t2 at *
  generalize mdA (typeOf medP r3) (filmB s) (filW s) (isO s) = t3 at *
  generalize typeOf arcP r4 = t4 at *
  have HB := Lib.hid (Below.refl w.heap.size w)
  unfold sgA at hv
  cases he1 : emB t1
  · rw [he1, if_pos rfl] at hv
    have HV := Lib.hid hv
    obtain ⟨e1, f1⟩ := em_says he1
    clear hv he1
    go_enter Tryz.func26, Tryz.ntmps26
    go_wp2_with (first
      | (go_at_call 22; refine (usigns_any _).mono ?_; rintro e w1 ⟨g, rfl, hg, hp, b1⟩; have HB := Lib.hid (HB.out.trans (b1.mono HB.out.size)); have HP := Lib.hid hp; clear b1 hp hg)
      | (go_at_call 51; (with_reducible refine (H1.out _ _ HP.out).mono ?_); rintro e w1 ⟨rfl, b1⟩; have HB := Lib.hid (HB.out.trans (b1.mono HB.out.size)); clear b1)
      | (go_at_call 52; (with_reducible refine (H2.out _).mono ?_); rintro e w1 ⟨rfl, b1⟩; have HB := Lib.hid (HB.out.trans (b1.mono HB.out.size)); clear b1)
      | (go_at_call 16; (with_reducible refine (H3.out _).mono ?_); rintro e w1 ⟨rfl, b1⟩; have HB := Lib.hid (HB.out.trans (b1.mono HB.out.size)); clear b1)
      | (go_at_call 53; (with_reducible refine (H4.out _).mono ?_); rintro e w1 ⟨rfl, b1⟩; have HB := Lib.hid (HB.out.trans (b1.mono HB.out.size)); clear b1))
    go_ret
    exact ⟨by rw [HV.out]; first | done | rfl, HB.out⟩
  · rw [he1, if_neg (by simp)] at hv
    obtain ⟨e1, f1⟩ := em_says he1
    clear he1
    cases he2 : emB t2
    · rw [he2, if_pos rfl] at hv
      have HV := Lib.hid hv
      obtain ⟨e2, f2⟩ := em_says he2
      clear hv he2
      go_enter Tryz.func26, Tryz.ntmps26
      go_wp2_with (first
        | (go_at_call 22; refine (usigns_any _).mono ?_; rintro e w1 ⟨g, rfl, hg, hp, b1⟩; have HB := Lib.hid (HB.out.trans (b1.mono HB.out.size)); have HP := Lib.hid hp; clear b1 hp hg)
        | (go_at_call 51; (with_reducible refine (H1.out _ _ HP.out).mono ?_); rintro e w1 ⟨rfl, b1⟩; have HB := Lib.hid (HB.out.trans (b1.mono HB.out.size)); clear b1)
        | (go_at_call 52; (with_reducible refine (H2.out _).mono ?_); rintro e w1 ⟨rfl, b1⟩; have HB := Lib.hid (HB.out.trans (b1.mono HB.out.size)); clear b1)
        | (go_at_call 16; (with_reducible refine (H3.out _).mono ?_); rintro e w1 ⟨rfl, b1⟩; have HB := Lib.hid (HB.out.trans (b1.mono HB.out.size)); clear b1)
        | (go_at_call 53; (with_reducible refine (H4.out _).mono ?_); rintro e w1 ⟨rfl, b1⟩; have HB := Lib.hid (HB.out.trans (b1.mono HB.out.size)); clear b1))
      go_ret
      exact ⟨by rw [HV.out]; first | done | rfl, HB.out⟩
    · rw [he2, if_neg (by simp)] at hv
      obtain ⟨e2, f2⟩ := em_says he2
      clear he2
      cases he3 : emB t3
      · rw [he3, if_pos rfl] at hv
        have HV := Lib.hid hv
        obtain ⟨e3, f3⟩ := em_says he3
        clear hv he3
        go_enter Tryz.func26, Tryz.ntmps26
        go_wp2_with (first
          | (go_at_call 22; refine (usigns_any _).mono ?_; rintro e w1 ⟨g, rfl, hg, hp, b1⟩; have HB := Lib.hid (HB.out.trans (b1.mono HB.out.size)); have HP := Lib.hid hp; clear b1 hp hg)
          | (go_at_call 51; (with_reducible refine (H1.out _ _ HP.out).mono ?_); rintro e w1 ⟨rfl, b1⟩; have HB := Lib.hid (HB.out.trans (b1.mono HB.out.size)); clear b1)
          | (go_at_call 52; (with_reducible refine (H2.out _).mono ?_); rintro e w1 ⟨rfl, b1⟩; have HB := Lib.hid (HB.out.trans (b1.mono HB.out.size)); clear b1)
          | (go_at_call 16; (with_reducible refine (H3.out _).mono ?_); rintro e w1 ⟨rfl, b1⟩; have HB := Lib.hid (HB.out.trans (b1.mono HB.out.size)); clear b1)
          | (go_at_call 53; (with_reducible refine (H4.out _).mono ?_); rintro e w1 ⟨rfl, b1⟩; have HB := Lib.hid (HB.out.trans (b1.mono HB.out.size)); clear b1))
        go_ret
        exact ⟨by rw [HV.out]; first | done | rfl, HB.out⟩
      · rw [he3, if_neg (by simp)] at hv
        obtain ⟨e3, f3⟩ := em_says he3
        clear he3
        have HV := Lib.hid hv
        clear hv
        go_enter Tryz.func26, Tryz.ntmps26
        go_wp2_with (first
          | (go_at_call 22; refine (usigns_any _).mono ?_; rintro e w1 ⟨g, rfl, hg, hp, b1⟩; have HB := Lib.hid (HB.out.trans (b1.mono HB.out.size)); have HP := Lib.hid hp; clear b1 hp hg)
          | (go_at_call 51; (with_reducible refine (H1.out _ _ HP.out).mono ?_); rintro e w1 ⟨rfl, b1⟩; have HB := Lib.hid (HB.out.trans (b1.mono HB.out.size)); clear b1)
          | (go_at_call 52; (with_reducible refine (H2.out _).mono ?_); rintro e w1 ⟨rfl, b1⟩; have HB := Lib.hid (HB.out.trans (b1.mono HB.out.size)); clear b1)
          | (go_at_call 16; (with_reducible refine (H3.out _).mono ?_); rintro e w1 ⟨rfl, b1⟩; have HB := Lib.hid (HB.out.trans (b1.mono HB.out.size)); clear b1)
          | (go_at_call 53; (with_reducible refine (H4.out _).mono ?_); rintro e w1 ⟨rfl, b1⟩; have HB := Lib.hid (HB.out.trans (b1.mono HB.out.size)); clear b1))
        go_ret
        exact ⟨by rw [HV.out]; first | done | rfl, HB.out⟩

/-- What a body is, by its first bytes; b: whether what may have scripts within is told. -/
def typS (s : ByteArray) (b : Bool) (r1 r2 r3 r4 : Int) : ByteArray := tyA (if b then scA (htmB s) (xmlB s) (prefB s pdfS) else ⟨#[]⟩) (sgA (typeOf sgnP r1) (typeOf imgP r2) (mdA (typeOf medP r3) (filmB s) (filW s) (isO s)) (typeOf arcP r4)) (lsA (hasBin s))
/-- Which signs a body has. -/
structure Sgs (s : ByteArray) (r1 r2 r3 r4 : Int) : Prop where
  h1 : IsFirst s sgnP 4 r1
  h2 : IsFirst s imgP 8 r2
  h3 : IsFirst s medP 6 r3
  h4 : IsFirst s arcP 3 r4
theorem Sgs.some (s : ByteArray) : ∃ r1 r2 r3 r4, Sgs s r1 r2 r3 r4 := by
  obtain ⟨r1, h1⟩ := IsFirst.some s sgnP 4
  obtain ⟨r2, h2⟩ := IsFirst.some s imgP 8
  obtain ⟨r3, h3⟩ := IsFirst.some s medP 6
  obtain ⟨r4, h4⟩ := IsFirst.some s arcP 3
  exact ⟨r1, r2, r3, r4, h1, h2, h3, h4⟩

set_option maxHeartbeats 4000000 in
theorem utype_any (s u : ByteArray) (b : Bool) (r1 r2 r3 r4 : Int) (w : World) (hs : s.size ≤ 9223372036854775807) (hu : cutB s 1445 = u) (hr : Sgs u r1 r2 r3 r4) :
    Calls Tryz.prog 8 #[.string s, .bool b] w fun e w' => e = .returned (.string (typS u b r1 r2 r3 r4)) ∧ Below w.heap.size w w' := by
  have hus : u.size ≤ 1445 := by rw [← hu]; exact cutB_size s 1445
  have H0 := Lib.hid (fun W => cut19_any s W hs)
  rw [hu] at H0
  have H1 := Lib.hid (fun W => uscripted_any u W (by omega))
  have H2 := Lib.hid (fun W => usigned_any u r1 r2 r3 r4 W (by omega) hr.h1 hr.h2 hr.h3 hr.h4)
  have H3 := Lib.hid (fun W => utext_any u W (by omega))
  obtain ⟨v, hv⟩ : ∃ v, v = typS u b r1 r2 r3 r4 := ⟨_, rfl⟩
  rw [← hv]
  clear hr hu
  unfold typS at hv
  generalize scA (htmB u) (xmlB u) (prefB u pdfS) = c at *
  generalize sgA (typeOf sgnP r1) (typeOf imgP r2) (mdA (typeOf medP r3) (filmB u) (filW u) (isO u)) (typeOf arcP r4) = g at *
  generalize lsA (hasBin u) = l at *
  have HB := Lib.hid (Below.refl w.heap.size w)
  unfold tyA at hv
  cases b
  · rw [show (if false = true then c else ⟨#[]⟩) = (⟨#[]⟩ : ByteArray) from if_neg (by simp), em_none, if_neg (by simp)] at hv
    cases heg : emB g
    · rw [heg, if_pos rfl] at hv
      have HV := Lib.hid hv
      obtain ⟨e2, f2⟩ := em_says heg
      clear hv heg
      go_enter Tryz.func8, Tryz.ntmps8
      go_wp2_with (first
        | (go_at_call 24; (with_reducible refine (H0.out _).mono ?_); rintro e w1 ⟨rfl, rfl⟩)
        | (go_at_call 25; (with_reducible refine (H1.out _).mono ?_); rintro e w1 ⟨rfl, b1⟩; have HB := Lib.hid (HB.out.trans (b1.mono HB.out.size)); clear b1)
        | (go_at_call 26; (with_reducible refine (H2.out _).mono ?_); rintro e w1 ⟨rfl, b1⟩; have HB := Lib.hid (HB.out.trans (b1.mono HB.out.size)); clear b1)
        | (go_at_call 27; (with_reducible refine (H3.out _).mono ?_); rintro e w1 ⟨rfl, rfl⟩))
      go_ret
      exact ⟨by rw [HV.out]; first | done | rfl, HB.out⟩
    · rw [heg, if_neg (by simp)] at hv
      have HV := Lib.hid hv
      obtain ⟨e2, f2⟩ := em_says heg
      clear hv heg
      go_enter Tryz.func8, Tryz.ntmps8
      go_wp2_with (first
        | (go_at_call 24; (with_reducible refine (H0.out _).mono ?_); rintro e w1 ⟨rfl, rfl⟩)
        | (go_at_call 25; (with_reducible refine (H1.out _).mono ?_); rintro e w1 ⟨rfl, b1⟩; have HB := Lib.hid (HB.out.trans (b1.mono HB.out.size)); clear b1)
        | (go_at_call 26; (with_reducible refine (H2.out _).mono ?_); rintro e w1 ⟨rfl, b1⟩; have HB := Lib.hid (HB.out.trans (b1.mono HB.out.size)); clear b1)
        | (go_at_call 27; (with_reducible refine (H3.out _).mono ?_); rintro e w1 ⟨rfl, rfl⟩))
      go_ret
      exact ⟨by rw [HV.out]; first | done | rfl, HB.out⟩
  · rw [if_pos rfl] at hv
    cases hec : emB c
    · rw [hec, if_pos rfl] at hv
      have HV := Lib.hid hv
      obtain ⟨e1, f1⟩ := em_says hec
      clear hv hec
      go_enter Tryz.func8, Tryz.ntmps8
      go_wp2_with (first
        | (go_at_call 24; (with_reducible refine (H0.out _).mono ?_); rintro e w1 ⟨rfl, rfl⟩)
        | (go_at_call 25; (with_reducible refine (H1.out _).mono ?_); rintro e w1 ⟨rfl, b1⟩; have HB := Lib.hid (HB.out.trans (b1.mono HB.out.size)); clear b1)
        | (go_at_call 26; (with_reducible refine (H2.out _).mono ?_); rintro e w1 ⟨rfl, b1⟩; have HB := Lib.hid (HB.out.trans (b1.mono HB.out.size)); clear b1)
        | (go_at_call 27; (with_reducible refine (H3.out _).mono ?_); rintro e w1 ⟨rfl, rfl⟩))
      go_ret
      exact ⟨by rw [HV.out]; first | done | rfl, HB.out⟩
    · rw [hec, if_neg (by simp)] at hv
      obtain ⟨e1, f1⟩ := em_says hec
      clear hec
      cases heg : emB g
      · rw [heg, if_pos rfl] at hv
        have HV := Lib.hid hv
        obtain ⟨e2, f2⟩ := em_says heg
        clear hv heg
        go_enter Tryz.func8, Tryz.ntmps8
        go_wp2_with (first
          | (go_at_call 24; (with_reducible refine (H0.out _).mono ?_); rintro e w1 ⟨rfl, rfl⟩)
          | (go_at_call 25; (with_reducible refine (H1.out _).mono ?_); rintro e w1 ⟨rfl, b1⟩; have HB := Lib.hid (HB.out.trans (b1.mono HB.out.size)); clear b1)
          | (go_at_call 26; (with_reducible refine (H2.out _).mono ?_); rintro e w1 ⟨rfl, b1⟩; have HB := Lib.hid (HB.out.trans (b1.mono HB.out.size)); clear b1)
          | (go_at_call 27; (with_reducible refine (H3.out _).mono ?_); rintro e w1 ⟨rfl, rfl⟩))
        go_ret
        exact ⟨by rw [HV.out]; first | done | rfl, HB.out⟩
      · rw [heg, if_neg (by simp)] at hv
        have HV := Lib.hid hv
        obtain ⟨e2, f2⟩ := em_says heg
        clear hv heg
        go_enter Tryz.func8, Tryz.ntmps8
        go_wp2_with (first
          | (go_at_call 24; (with_reducible refine (H0.out _).mono ?_); rintro e w1 ⟨rfl, rfl⟩)
          | (go_at_call 25; (with_reducible refine (H1.out _).mono ?_); rintro e w1 ⟨rfl, b1⟩; have HB := Lib.hid (HB.out.trans (b1.mono HB.out.size)); clear b1)
          | (go_at_call 26; (with_reducible refine (H2.out _).mono ?_); rintro e w1 ⟨rfl, b1⟩; have HB := Lib.hid (HB.out.trans (b1.mono HB.out.size)); clear b1)
          | (go_at_call 27; (with_reducible refine (H3.out _).mono ?_); rintro e w1 ⟨rfl, rfl⟩))
        go_ret
        exact ⟨by rw [HV.out]; first | done | rfl, HB.out⟩

end Go.Proofs.YtjaockmbnjflaaaGreatDoor
namespace Go.Proofs.YtjaockmbnjflaaaGreatDoor
open Go.RowKit

/-- Four texts. -/
def fourT (t1 t2 t3 t4 : ByteArray) : Nat → ByteArray
  | 0 => t1
  | 1 => t2
  | 2 => t3
  | _ => t4
theorem four_some {t1 t2 t3 t4 : ByteArray} {k : Nat} (hk : k < 4) (h : ∀ j, j < k → emB (fourT t1 t2 t3 t4 j) = true) (he : emB (fourT t1 t2 t3 t4 k) = false) : sgA t1 t2 t3 t4 = fourT t1 t2 t3 t4 k := by
  have no : ∀ {t : ByteArray}, emB t = true → ¬ emB t = false := fun h e => by rw [h] at e; cases e
  unfold sgA
  match k, hk with
  | 0, _ => rw [if_pos (show emB t1 = false from he)]; rfl
  | 1, _ => rw [if_neg (no (show emB t1 = true from h 0 (by omega))), if_pos (show emB t2 = false from he)]; rfl
  | 2, _ => rw [if_neg (no (show emB t1 = true from h 0 (by omega))), if_neg (no (show emB t2 = true from h 1 (by omega))), if_pos (show emB t3 = false from he)]; rfl
  | 3, _ => rw [if_neg (no (show emB t1 = true from h 0 (by omega))), if_neg (no (show emB t2 = true from h 1 (by omega))), if_neg (no (show emB t3 = true from h 2 (by omega)))]; rfl
theorem four_none {t1 t2 t3 t4 : ByteArray} (h : ∀ j, j < 4 → emB (fourT t1 t2 t3 t4 j) = true) : emB (sgA t1 t2 t3 t4) = true := by
  have no : ∀ {t : ByteArray}, emB t = true → ¬ emB t = false := fun h e => by rw [h] at e; cases e
  unfold sgA
  rw [if_neg (no (show emB t1 = true from h 0 (by omega))), if_neg (no (show emB t2 = true from h 1 (by omega))), if_neg (no (show emB t3 = true from h 2 (by omega)))]
  exact h 3 (by omega)
theorem four_in {w : World} {b k : Nat} {t : TypeId} {t1 t2 t3 t4 : ByteArray} (h : Blk w b t #[.string t1, .string t2, .string t3, .string t4]) (hk : k < 4) : w.cell? ⟨b, k, none⟩ = some (.string (fourT t1 t2 t3 t4 k)) := by
  match k, hk with
  | 0, _ => exact h.cell 0
  | 1, _ => exact h.cell 1
  | 2, _ => exact h.cell 2
  | 3, _ => exact h.cell 3

set_option maxHeartbeats 8000000 in
set_option maxRecDepth 100000 in
theorem rtype20_any (s u : ByteArray) (b : Bool) (r1 r2 r3 r4 : Int) (w : World) (hs : s.size ≤ 9223372036854775807) (hu : cutB s 1445 = u) (hr : Sgs u r1 r2 r3 r4) :
    Calls Tryz.prog 9 #[.string s, .bool b] w fun e w' => e = .returned (.string (typS u b r1 r2 r3 r4)) ∧ Below w.heap.size w w' := by
  have hus : u.size ≤ 1445 := by rw [← hu]; exact cutB_size s 1445
  have H0 := Lib.hid (fun W => rcut19_any s W hs)
  rw [hu] at H0
  have H1 := Lib.hid (fun W => rhtml_any u W (by omega))
  have H2 := Lib.hid (fun W => rxml_any u W (by omega))
  have H3 := Lib.hid (fun W => prefix_any u pdfS W (by omega) (by decide))
  have H4 := Lib.hid (fun W g (h : PatsIn W g sgnP 4) => rType_any g 4 4 u sgnP r1 W h (fun i hi => sgn_ok hi) (by omega) (by decide) hr.h1)
  have H5 := Lib.hid (fun W g (h : PatsIn W g imgP 8) => rType_any g 8 8 u imgP r2 W h (fun i hi => img_ok hi) (by omega) (by decide) hr.h2)
  have H6 := Lib.hid (fun W => rmedia_any u r3 W (by omega) hr.h3)
  have H7 := Lib.hid (fun W g (h : PatsIn W g arcP 3) => rType_any g 3 3 u arcP r4 W h (fun i hi => arc_ok hi) (by omega) (by decide) hr.h4)
  have H8 := Lib.hid (fun W => rfirst_any u W (by omega))
  have hI : decide (fstI u < 0) = !hasBin u := by
    unfold fstI hasBin
    by_cases h : binF u < u.size
    · rw [if_pos h, decide_eq_true h, Bool.not_true, decide_eq_false_iff_not]; omega
    · rw [if_neg h, decide_eq_false h]; rfl
  obtain ⟨v, hv⟩ : ∃ v, v = typS u b r1 r2 r3 r4 := ⟨_, rfl⟩
  rw [← hv]
  clear hr hu hs
  unfold typS at hv
  generalize htmB u = h at *
  generalize xmlB u = x at *
  generalize prefB u pdfS = p at *
  generalize hasBin u = o at *
  generalize fstI u = fi at *
  generalize typeOf sgnP r1 = t1 at *
  generalize typeOf imgP r2 = t2 at *
  generalize mdA (typeOf medP r3) (filmB u) (filW u) (isO u) = t3 at *
  generalize typeOf arcP r4 = t4 at *
  have HB := Lib.hid (Below.refl w.heap.size w)
  cases b
  · rw [show (if false = true then scA h x p else ⟨#[]⟩) = (⟨#[]⟩ : ByteArray) from if_neg (by simp)] at hv
    have HVS : Hid (∀ k, k < 4 → (∀ j, j < k → emB (fourT t1 t2 t3 t4 j) = true) → emB (fourT t1 t2 t3 t4 k) = false → v = fourT t1 t2 t3 t4 k) := Lib.hid (fun k hk h1 h2 => by
      have e := four_some hk h1 h2
      rw [hv]
      unfold tyA
      rw [if_neg (by rw [em_none]; simp), e, if_pos h2])
    have HVN : Hid ((∀ j, j < 4 → emB (fourT t1 t2 t3 t4 j) = true) → v = lsA o) := Lib.hid (fun h1 => by
      have e := four_none h1
      rw [hv]
      unfold tyA
      rw [if_neg (by rw [em_none]; simp), if_neg (by rw [e]; simp)])
    clear hv
    go_enter Tryz.func9, Tryz.ntmps9
    go_wp2_with (first
      | (go_at_call 28; (with_reducible refine (H0.out _).mono ?_); rintro e w1 ⟨rfl, rfl⟩)
      | (go_at_call 12; (with_reducible refine (H1.out _).mono ?_); rintro e w1 ⟨rfl, b1⟩; have HB := Lib.hid (HB.out.trans (b1.mono HB.out.size)); clear b1)
      | (go_at_call 14; (with_reducible refine (H2.out _).mono ?_); rintro e w1 ⟨rfl, rfl⟩)
      | (go_at_call 29; (with_reducible refine (H3.out _).mono ?_); rintro e w1 ⟨rfl, rfl⟩)
      | (go_at_call 23; refine (rsigns_any _).mono ?_; rintro e w1 ⟨g, rfl, hg, hp, b1⟩; have HB := Lib.hid (HB.out.trans (b1.mono HB.out.size)); have HP := Lib.hid hp; clear b1 hp hg)
      | (go_at_call 31; refine (refTable_any _).mono ?_; rintro e w1 ⟨g, rfl, hg, hp, b1⟩; have HB := Lib.hid (HB.out.trans (b1.mono HB.out.size)); have HP := Lib.hid hp; clear b1 hp hg)
      | (go_at_call 32; refine (refArchives_any _).mono ?_; rintro e w1 ⟨g, rfl, hg, hp, b1⟩; have HB := Lib.hid (HB.out.trans (b1.mono HB.out.size)); have HP := Lib.hid hp; clear b1 hp hg)
      | (go_at_call 30; (with_reducible refine (H4.out _ _ HP.out).mono ?_); rintro e w1 ⟨rfl, b1⟩; have HB := Lib.hid (HB.out.trans (b1.mono HB.out.size)); clear b1)
      | (go_at_call 30; (with_reducible refine (H5.out _ _ HP.out).mono ?_); rintro e w1 ⟨rfl, b1⟩; have HB := Lib.hid (HB.out.trans (b1.mono HB.out.size)); clear b1)
      | (go_at_call 30; (with_reducible refine (H7.out _ _ HP.out).mono ?_); rintro e w1 ⟨rfl, b1⟩; have HB := Lib.hid (HB.out.trans (b1.mono HB.out.size)); clear b1)
      | (go_at_call 17; (with_reducible refine (H6.out _).mono ?_); rintro e w1 ⟨rfl, b1⟩; have HB := Lib.hid (HB.out.trans (b1.mono HB.out.size)); clear b1))
    have HK := Lib.hid (Blk.new w1 9 #[.string t1, .string t2, .string t3, .string t4])
    have HBW := Lib.hid (HB.out.alloc HB.out.size (.cells #[.string t1, .string t2, .string t3, .string t4] 9))
    generalize w1.alloc (.cells #[.string t1, .string t2, .string t3, .string t4] 9) = W at *
    generalize w1.heap.size = g0 at *
    go_loop [6] (fun i => ∃ k : Nat, k ≤ 4 ∧ i = .int .i64 k ∧ ∀ j, j < k → emB (fourT t1 t2 t3 t4 j) = true) (fun i => 4 - (intOf i).toNat)
    case atStart => exact ⟨0, by omega, rfl, fun j hj => absurd hj (by omega)⟩
    case round =>
      obtain ⟨k, hk, rfl, hno⟩ := hrel
      have HN := Lib.hid hno
      clear hno
      by_cases hlt : k < 4
      · have c0 := four_in HK.out hlt
        cases he : emB (fourT t1 t2 t3 t4 k)
        · have HV := Lib.hid (HVS.out k hlt HN.out he)
          obtain ⟨e1, e2⟩ := em_says he
          generalize fourT t1 t2 t3 t4 k = y at *
          clear he
          go_wp2
          go_ret
          exact ⟨by rw [HV.out]; first | done | rfl, HBW.out⟩
        · have HE := Lib.hid he
          obtain ⟨e1, e2⟩ := em_says he
          obtain ⟨y, hy⟩ : ∃ y, y = fourT t1 t2 t3 t4 k := ⟨_, rfl⟩
          rw [← hy] at c0 e1 e2
          clear he hy
          go_wp2
          go_round
          case rel => exact ⟨k + 1, by omega, by go_num, fun j hj => if e : j = k then by subst e; exact HE.out else HN.out j (by omega)⟩
          case measure => simp [intOf]; omega
      · obtain rfl : k = 4 := by omega
        have HV := Lib.hid (HVN.out HN.out)
        cases o
        all_goals
          go_wp2_with (go_at_call 33; (with_reducible refine (H8.out _).mono ?_); rintro e w1 ⟨rfl, rfl⟩)
          go_ret
          exact ⟨by rw [HV.out]; first | done | rfl, HBW.out⟩
  · rw [if_pos rfl] at hv
    cases h
    · cases x
      · cases p
        · rw [show scA false false false = (⟨#[]⟩ : ByteArray) from rfl] at hv
          have HVS : Hid (∀ k, k < 4 → (∀ j, j < k → emB (fourT t1 t2 t3 t4 j) = true) → emB (fourT t1 t2 t3 t4 k) = false → v = fourT t1 t2 t3 t4 k) := Lib.hid (fun k hk h1 h2 => by
            have e := four_some hk h1 h2
            rw [hv]
            unfold tyA
            rw [if_neg (by rw [em_none]; simp), e, if_pos h2])
          have HVN : Hid ((∀ j, j < 4 → emB (fourT t1 t2 t3 t4 j) = true) → v = lsA o) := Lib.hid (fun h1 => by
            have e := four_none h1
            rw [hv]
            unfold tyA
            rw [if_neg (by rw [em_none]; simp), if_neg (by rw [e]; simp)])
          clear hv
          go_enter Tryz.func9, Tryz.ntmps9
          go_wp2_with (first
            | (go_at_call 28; (with_reducible refine (H0.out _).mono ?_); rintro e w1 ⟨rfl, rfl⟩)
            | (go_at_call 12; (with_reducible refine (H1.out _).mono ?_); rintro e w1 ⟨rfl, b1⟩; have HB := Lib.hid (HB.out.trans (b1.mono HB.out.size)); clear b1)
            | (go_at_call 14; (with_reducible refine (H2.out _).mono ?_); rintro e w1 ⟨rfl, rfl⟩)
            | (go_at_call 29; (with_reducible refine (H3.out _).mono ?_); rintro e w1 ⟨rfl, rfl⟩)
            | (go_at_call 23; refine (rsigns_any _).mono ?_; rintro e w1 ⟨g, rfl, hg, hp, b1⟩; have HB := Lib.hid (HB.out.trans (b1.mono HB.out.size)); have HP := Lib.hid hp; clear b1 hp hg)
            | (go_at_call 31; refine (refTable_any _).mono ?_; rintro e w1 ⟨g, rfl, hg, hp, b1⟩; have HB := Lib.hid (HB.out.trans (b1.mono HB.out.size)); have HP := Lib.hid hp; clear b1 hp hg)
            | (go_at_call 32; refine (refArchives_any _).mono ?_; rintro e w1 ⟨g, rfl, hg, hp, b1⟩; have HB := Lib.hid (HB.out.trans (b1.mono HB.out.size)); have HP := Lib.hid hp; clear b1 hp hg)
            | (go_at_call 30; (with_reducible refine (H4.out _ _ HP.out).mono ?_); rintro e w1 ⟨rfl, b1⟩; have HB := Lib.hid (HB.out.trans (b1.mono HB.out.size)); clear b1)
            | (go_at_call 30; (with_reducible refine (H5.out _ _ HP.out).mono ?_); rintro e w1 ⟨rfl, b1⟩; have HB := Lib.hid (HB.out.trans (b1.mono HB.out.size)); clear b1)
            | (go_at_call 30; (with_reducible refine (H7.out _ _ HP.out).mono ?_); rintro e w1 ⟨rfl, b1⟩; have HB := Lib.hid (HB.out.trans (b1.mono HB.out.size)); clear b1)
            | (go_at_call 17; (with_reducible refine (H6.out _).mono ?_); rintro e w1 ⟨rfl, b1⟩; have HB := Lib.hid (HB.out.trans (b1.mono HB.out.size)); clear b1))
          have HK := Lib.hid (Blk.new w1 9 #[.string t1, .string t2, .string t3, .string t4])
          have HBW := Lib.hid (HB.out.alloc HB.out.size (.cells #[.string t1, .string t2, .string t3, .string t4] 9))
          generalize w1.alloc (.cells #[.string t1, .string t2, .string t3, .string t4] 9) = W at *
          generalize w1.heap.size = g0 at *
          go_loop [6] (fun i => ∃ k : Nat, k ≤ 4 ∧ i = .int .i64 k ∧ ∀ j, j < k → emB (fourT t1 t2 t3 t4 j) = true) (fun i => 4 - (intOf i).toNat)
          case atStart => exact ⟨0, by omega, rfl, fun j hj => absurd hj (by omega)⟩
          case round =>
            obtain ⟨k, hk, rfl, hno⟩ := hrel
            have HN := Lib.hid hno
            clear hno
            by_cases hlt : k < 4
            · have c0 := four_in HK.out hlt
              cases he : emB (fourT t1 t2 t3 t4 k)
              · have HV := Lib.hid (HVS.out k hlt HN.out he)
                obtain ⟨e1, e2⟩ := em_says he
                generalize fourT t1 t2 t3 t4 k = y at *
                clear he
                go_wp2
                go_ret
                exact ⟨by rw [HV.out]; first | done | rfl, HBW.out⟩
              · have HE := Lib.hid he
                obtain ⟨e1, e2⟩ := em_says he
                obtain ⟨y, hy⟩ : ∃ y, y = fourT t1 t2 t3 t4 k := ⟨_, rfl⟩
                rw [← hy] at c0 e1 e2
                clear he hy
                go_wp2
                go_round
                case rel => exact ⟨k + 1, by omega, by go_num, fun j hj => if e : j = k then by subst e; exact HE.out else HN.out j (by omega)⟩
                case measure => simp [intOf]; omega
            · obtain rfl : k = 4 := by omega
              have HV := Lib.hid (HVN.out HN.out)
              cases o
              all_goals
                go_wp2_with (go_at_call 33; (with_reducible refine (H8.out _).mono ?_); rintro e w1 ⟨rfl, rfl⟩)
                go_ret
                exact ⟨by rw [HV.out]; first | done | rfl, HBW.out⟩
        · rw [show scA false false true = pdfY from rfl] at hv
          have HV : Hid (v = pdfY) := Lib.hid (by rw [hv]; unfold tyA; rw [if_pos (by kernel_rfl)])
          clear hv
          go_enter Tryz.func9, Tryz.ntmps9
          go_wp2_with (first
            | (go_at_call 28; (with_reducible refine (H0.out _).mono ?_); rintro e w1 ⟨rfl, rfl⟩)
            | (go_at_call 12; (with_reducible refine (H1.out _).mono ?_); rintro e w1 ⟨rfl, b1⟩; have HB := Lib.hid (HB.out.trans (b1.mono HB.out.size)); clear b1)
            | (go_at_call 14; (with_reducible refine (H2.out _).mono ?_); rintro e w1 ⟨rfl, rfl⟩)
            | (go_at_call 29; (with_reducible refine (H3.out _).mono ?_); rintro e w1 ⟨rfl, rfl⟩)
            | (go_at_call 23; refine (rsigns_any _).mono ?_; rintro e w1 ⟨g, rfl, hg, hp, b1⟩; have HB := Lib.hid (HB.out.trans (b1.mono HB.out.size)); have HP := Lib.hid hp; clear b1 hp hg)
            | (go_at_call 31; refine (refTable_any _).mono ?_; rintro e w1 ⟨g, rfl, hg, hp, b1⟩; have HB := Lib.hid (HB.out.trans (b1.mono HB.out.size)); have HP := Lib.hid hp; clear b1 hp hg)
            | (go_at_call 32; refine (refArchives_any _).mono ?_; rintro e w1 ⟨g, rfl, hg, hp, b1⟩; have HB := Lib.hid (HB.out.trans (b1.mono HB.out.size)); have HP := Lib.hid hp; clear b1 hp hg)
            | (go_at_call 30; (with_reducible refine (H4.out _ _ HP.out).mono ?_); rintro e w1 ⟨rfl, b1⟩; have HB := Lib.hid (HB.out.trans (b1.mono HB.out.size)); clear b1)
            | (go_at_call 30; (with_reducible refine (H5.out _ _ HP.out).mono ?_); rintro e w1 ⟨rfl, b1⟩; have HB := Lib.hid (HB.out.trans (b1.mono HB.out.size)); clear b1)
            | (go_at_call 30; (with_reducible refine (H7.out _ _ HP.out).mono ?_); rintro e w1 ⟨rfl, b1⟩; have HB := Lib.hid (HB.out.trans (b1.mono HB.out.size)); clear b1)
            | (go_at_call 17; (with_reducible refine (H6.out _).mono ?_); rintro e w1 ⟨rfl, b1⟩; have HB := Lib.hid (HB.out.trans (b1.mono HB.out.size)); clear b1))
          go_ret
          exact ⟨by rw [HV.out]; first | done | rfl, HB.out⟩
      · rw [show scA false true p = xmlY from rfl] at hv
        have HV : Hid (v = xmlY) := Lib.hid (by rw [hv]; unfold tyA; rw [if_pos (by kernel_rfl)])
        clear hv
        go_enter Tryz.func9, Tryz.ntmps9
        go_wp2_with (first
          | (go_at_call 28; (with_reducible refine (H0.out _).mono ?_); rintro e w1 ⟨rfl, rfl⟩)
          | (go_at_call 12; (with_reducible refine (H1.out _).mono ?_); rintro e w1 ⟨rfl, b1⟩; have HB := Lib.hid (HB.out.trans (b1.mono HB.out.size)); clear b1)
          | (go_at_call 14; (with_reducible refine (H2.out _).mono ?_); rintro e w1 ⟨rfl, rfl⟩)
          | (go_at_call 29; (with_reducible refine (H3.out _).mono ?_); rintro e w1 ⟨rfl, rfl⟩)
          | (go_at_call 23; refine (rsigns_any _).mono ?_; rintro e w1 ⟨g, rfl, hg, hp, b1⟩; have HB := Lib.hid (HB.out.trans (b1.mono HB.out.size)); have HP := Lib.hid hp; clear b1 hp hg)
          | (go_at_call 31; refine (refTable_any _).mono ?_; rintro e w1 ⟨g, rfl, hg, hp, b1⟩; have HB := Lib.hid (HB.out.trans (b1.mono HB.out.size)); have HP := Lib.hid hp; clear b1 hp hg)
          | (go_at_call 32; refine (refArchives_any _).mono ?_; rintro e w1 ⟨g, rfl, hg, hp, b1⟩; have HB := Lib.hid (HB.out.trans (b1.mono HB.out.size)); have HP := Lib.hid hp; clear b1 hp hg)
          | (go_at_call 30; (with_reducible refine (H4.out _ _ HP.out).mono ?_); rintro e w1 ⟨rfl, b1⟩; have HB := Lib.hid (HB.out.trans (b1.mono HB.out.size)); clear b1)
          | (go_at_call 30; (with_reducible refine (H5.out _ _ HP.out).mono ?_); rintro e w1 ⟨rfl, b1⟩; have HB := Lib.hid (HB.out.trans (b1.mono HB.out.size)); clear b1)
          | (go_at_call 30; (with_reducible refine (H7.out _ _ HP.out).mono ?_); rintro e w1 ⟨rfl, b1⟩; have HB := Lib.hid (HB.out.trans (b1.mono HB.out.size)); clear b1)
          | (go_at_call 17; (with_reducible refine (H6.out _).mono ?_); rintro e w1 ⟨rfl, b1⟩; have HB := Lib.hid (HB.out.trans (b1.mono HB.out.size)); clear b1))
        go_ret
        exact ⟨by rw [HV.out]; first | done | rfl, HB.out⟩
    · rw [show scA true x p = htmY from rfl] at hv
      have HV : Hid (v = htmY) := Lib.hid (by rw [hv]; unfold tyA; rw [if_pos (by kernel_rfl)])
      clear hv
      go_enter Tryz.func9, Tryz.ntmps9
      go_wp2_with (first
        | (go_at_call 28; (with_reducible refine (H0.out _).mono ?_); rintro e w1 ⟨rfl, rfl⟩)
        | (go_at_call 12; (with_reducible refine (H1.out _).mono ?_); rintro e w1 ⟨rfl, b1⟩; have HB := Lib.hid (HB.out.trans (b1.mono HB.out.size)); clear b1)
        | (go_at_call 14; (with_reducible refine (H2.out _).mono ?_); rintro e w1 ⟨rfl, rfl⟩)
        | (go_at_call 29; (with_reducible refine (H3.out _).mono ?_); rintro e w1 ⟨rfl, rfl⟩)
        | (go_at_call 23; refine (rsigns_any _).mono ?_; rintro e w1 ⟨g, rfl, hg, hp, b1⟩; have HB := Lib.hid (HB.out.trans (b1.mono HB.out.size)); have HP := Lib.hid hp; clear b1 hp hg)
        | (go_at_call 31; refine (refTable_any _).mono ?_; rintro e w1 ⟨g, rfl, hg, hp, b1⟩; have HB := Lib.hid (HB.out.trans (b1.mono HB.out.size)); have HP := Lib.hid hp; clear b1 hp hg)
        | (go_at_call 32; refine (refArchives_any _).mono ?_; rintro e w1 ⟨g, rfl, hg, hp, b1⟩; have HB := Lib.hid (HB.out.trans (b1.mono HB.out.size)); have HP := Lib.hid hp; clear b1 hp hg)
        | (go_at_call 30; (with_reducible refine (H4.out _ _ HP.out).mono ?_); rintro e w1 ⟨rfl, b1⟩; have HB := Lib.hid (HB.out.trans (b1.mono HB.out.size)); clear b1)
        | (go_at_call 30; (with_reducible refine (H5.out _ _ HP.out).mono ?_); rintro e w1 ⟨rfl, b1⟩; have HB := Lib.hid (HB.out.trans (b1.mono HB.out.size)); clear b1)
        | (go_at_call 30; (with_reducible refine (H7.out _ _ HP.out).mono ?_); rintro e w1 ⟨rfl, b1⟩; have HB := Lib.hid (HB.out.trans (b1.mono HB.out.size)); clear b1)
        | (go_at_call 17; (with_reducible refine (H6.out _).mono ?_); rintro e w1 ⟨rfl, b1⟩; have HB := Lib.hid (HB.out.trans (b1.mono HB.out.size)); clear b1))
      go_ret
      exact ⟨by rw [HV.out]; first | done | rfl, HB.out⟩

end Go.Proofs.YtjaockmbnjflaaaGreatDoor
namespace Go.Proofs.YtjaockmbnjflaaaGreatDoor
open Go.RowKit

theorem live_signs : Sgs ⟨#[60, 112, 62]⟩ (-1) (-1) (-1) (-1) := by
  refine ⟨.inl ⟨rfl, fun j hj => ?_⟩, .inl ⟨rfl, fun j hj => ?_⟩, .inl ⟨rfl, fun j hj => ?_⟩, .inl ⟨rfl, fun j hj => ?_⟩⟩
  · have := List.all_eq_true.1 (show (List.range 4).all (fun j => !matP ⟨#[60, 112, 62]⟩ (sgnP j)) = true from by kernel_rfl) j (List.mem_range.2 hj)
    simpa using this
  · have := List.all_eq_true.1 (show (List.range 8).all (fun j => !matP ⟨#[60, 112, 62]⟩ (imgP j)) = true from by kernel_rfl) j (List.mem_range.2 hj)
    simpa using this
  · have := List.all_eq_true.1 (show (List.range 6).all (fun j => !matP ⟨#[60, 112, 62]⟩ (medP j)) = true from by kernel_rfl) j (List.mem_range.2 hj)
    simpa using this
  · have := List.all_eq_true.1 (show (List.range 3).all (fun j => !matP ⟨#[60, 112, 62]⟩ (arcP j)) = true from by kernel_rfl) j (List.mem_range.2 hj)
    simpa using this
theorem live_html : typS ⟨#[60, 112, 62]⟩ true (-1) (-1) (-1) (-1) = htmY := by kernel_rfl
theorem live_plain : typS ⟨#[60, 112, 62]⟩ false (-1) (-1) (-1) (-1) = plaY := by kernel_rfl

set_option maxHeartbeats 400000 in
theorem lives20_any (w : World) :
    Calls Tryz.prog 10 #[] w fun e w' => e = .returned (.bool true) ∧ Below w.heap.size w w' := by
  have H1 := Lib.hid (fun W => utype_any ⟨#[60, 112, 62]⟩ ⟨#[60, 112, 62]⟩ true (-1) (-1) (-1) (-1) W (by decide) (by kernel_rfl) live_signs)
  have H2 := Lib.hid (fun W => utype_any ⟨#[60, 112, 62]⟩ ⟨#[60, 112, 62]⟩ false (-1) (-1) (-1) (-1) W (by decide) (by kernel_rfl) live_signs)
  rw [live_html] at H1
  rw [live_plain] at H2
  have HB := Lib.hid (Below.refl w.heap.size w)
  go_enter Tryz.func10, Tryz.ntmps10
  go_wp2_with (first
    | (go_at_call 8; (with_reducible refine (H1.out _).mono ?_); rintro e w1 ⟨rfl, b1⟩; have HB := Lib.hid (HB.out.trans (b1.mono HB.out.size)); clear b1)
    | (go_at_call 8; (with_reducible refine (H2.out _).mono ?_); rintro e w1 ⟨rfl, b1⟩; have HB := Lib.hid (HB.out.trans (b1.mono HB.out.size)); clear b1))
  go_ret
  exact ⟨rfl, HB.out⟩

/-- No type of a body without scripts is one of the three. -/
theorem typ_free {u : ByteArray} {r1 r2 r3 r4 : Int} (h : Sgs u r1 r2 r3 r4) : scrB (typS u false r1 r2 r3 r4) = false ∧ emB (typS u false r1 r2 r3 r4) = false := by
  unfold typS
  rw [show (if false = true then scA (htmB u) (xmlB u) (prefB u pdfS) else ⟨#[]⟩) = (⟨#[]⟩ : ByteArray) from if_neg (by simp)]
  exact tyA_free (sgA_free (sgn_free h.h1) (img_free h.h2) (mdA_free (med_free h.h3) _ _ _) (arc_free h.h4)) _
theorem typ_some (u : ByteArray) (b : Bool) (r1 r2 r3 r4 : Int) : emB (typS u b r1 r2 r3 r4) = false := tyA_em _ _ _
theorem scr_says {t : ByteArray} (h : scrB t = false) : (t.toList == htmY.toList) = false ∧ (t.toList == xmlY.toList) = false ∧ (t.toList == pdfY.toList) = false := by
  unfold scrB at h
  rw [Bool.or_eq_false_iff, Bool.or_eq_false_iff] at h
  exact h

set_option maxHeartbeats 4000000 in
set_option maxRecDepth 100000 in
theorem unknownTypes_any (s : ByteArray) (w : World) (hs : s.size ≤ 9223372036854775807) :
    Calls Tryz.prog 3 #[.string s] w fun e w' => e = .returned (.bool true) ∧ Below w.heap.size w w' := by
  have HCS : Hid (∀ W, Calls Tryz.prog 7 #[.string s, .int .i64 2000] W fun e w' => e = .returned (.string (cutB s 2000)) ∧ W = w') := Lib.hid fun W => cut_any s 2000 W hs
  have hu := cutB_size s 2000
  generalize cutB s 2000 = u at *
  obtain ⟨x, hx⟩ : ∃ x, cutB u 1445 = x := ⟨_, rfl⟩
  obtain ⟨r1, r2, r3, r4, hr⟩ := Sgs.some x
  have H1 := Lib.hid (fun W => utype_any u x true r1 r2 r3 r4 W (by omega) hx hr)
  have H2 := Lib.hid (fun W => utype_any u x false r1 r2 r3 r4 W (by omega) hx hr)
  have H3 := Lib.hid (fun W => rtype20_any u x true r1 r2 r3 r4 W (by omega) hx hr)
  have H4 := Lib.hid (fun W => rtype20_any u x false r1 r2 r3 r4 W (by omega) hx hr)
  obtain ⟨e1, e2⟩ := em_says (typ_some x true r1 r2 r3 r4)
  obtain ⟨e3, e4⟩ := em_says (typ_some x false r1 r2 r3 r4)
  obtain ⟨e5, e6, e7⟩ := scr_says (typ_free hr).1
  generalize typS x true r1 r2 r3 r4 = a at *
  generalize typS x false r1 r2 r3 r4 = b at *
  rw [show htmY.toList = [116, 101, 120, 116, 47, 104, 116, 109, 108] from by kernel_rfl] at e5
  rw [show xmlY.toList = [116, 101, 120, 116, 47, 120, 109, 108] from by kernel_rfl] at e6
  rw [show pdfY.toList = [97, 112, 112, 108, 105, 99, 97, 116, 105, 111, 110, 47, 112, 100, 102] from by kernel_rfl] at e7
  have e8 : (a.toList == a.toList) = true := by simp
  have e9 : (b.toList == b.toList) = true := by simp
  have HLV := Lib.hid lives20_any
  have HB := Lib.hid (Below.refl w.heap.size w)
  clear hr hx hs hu
  go_enter Tryz.func3, Tryz.ntmps3
  go_wp2_with (first
    | (go_at_call 7; (with_reducible refine (HCS.out _).mono ?_); rintro e w1 ⟨rfl, rfl⟩)
    | (go_at_call 8; (with_reducible refine (H1.out _).mono ?_); rintro e w1 ⟨rfl, b1⟩; have HB := Lib.hid (HB.out.trans (b1.mono HB.out.size)); clear b1)
    | (go_at_call 8; (with_reducible refine (H2.out _).mono ?_); rintro e w1 ⟨rfl, b1⟩; have HB := Lib.hid (HB.out.trans (b1.mono HB.out.size)); clear b1)
    | (go_at_call 9; (with_reducible refine (H3.out _).mono ?_); rintro e w1 ⟨rfl, b1⟩; have HB := Lib.hid (HB.out.trans (b1.mono HB.out.size)); clear b1)
    | (go_at_call 9; (with_reducible refine (H4.out _).mono ?_); rintro e w1 ⟨rfl, b1⟩; have HB := Lib.hid (HB.out.trans (b1.mono HB.out.size)); clear b1)
    | (go_at_call 10; (with_reducible refine (HLV.out _).mono ?_); rintro e w1 ⟨rfl, b1⟩; have HB := Lib.hid (HB.out.trans (b1.mono HB.out.size)); clear b1))
  go_ret
  exact ⟨rfl, HB.out⟩

set_option maxHeartbeats 4000000 in
theorem unknownTexts_any (s : ByteArray) (w : World) (hs : s.size ≤ 9223372036854775807) :
    Calls Tryz.prog 4 #[.string s] w fun e w' => e = .returned (.bool true) ∧ Below w.heap.size w w' := by
  have HCS : Hid (∀ W, Calls Tryz.prog 7 #[.string s, .int .i64 200] W fun e w' => e = .returned (.string (cutB s 200)) ∧ W = w') := Lib.hid fun W => cut_any s 200 W hs
  have hu := cutB_size s 200
  generalize cutB s 200 = u at *
  have H1 := Lib.hid (fun W => uhtml_any u W (by omega))
  have H2 := Lib.hid (fun W => rhtml_any u W (by omega))
  have H3 := Lib.hid (fun W => uxml_any u W (by omega))
  have H4 := Lib.hid (fun W => rxml_any u W (by omega))
  have H5 := Lib.hid (fun W => updf_any u W (by omega))
  have HLV := Lib.hid lives20_any
  have HB := Lib.hid (Below.refl w.heap.size w)
  have hq : prefB u pdfS = (decide (5 ≤ u.size) && ((u.extract 0 5).toList == pdfS.toList)) := rfl
  rw [show pdfS.toList = [37, 80, 68, 70, 45] from by kernel_rfl] at hq
  generalize prefB u pdfS = p at *
  generalize htmB u = h at *
  generalize xmlB u = x at *
  clear hs
  by_cases h5 : 4 < u.size
  · have d1 : decide ((4 : Int) < (u.size : Int)) = true := by rw [decide_eq_true_eq]; omega
    rw [decide_eq_true (show 5 ≤ u.size by omega), Bool.true_and] at hq
    cases d2 : ((u.extract 0 5).toList == [37, 80, 68, 70, 45])
    all_goals
      rw [d2] at hq
      subst hq
      cases h <;> cases x
      all_goals
        as_aux_lemma =>
        go_enter Tryz.func4, Tryz.ntmps4
        go_wp2_with (first
          | (go_at_call 7; (with_reducible refine (HCS.out _).mono ?_); rintro e w1 ⟨rfl, rfl⟩)
          | (go_at_call 11; (with_reducible refine (H1.out _).mono ?_); rintro e w1 ⟨rfl, b1⟩; have HB := Lib.hid (HB.out.trans (b1.mono HB.out.size)); clear b1)
          | (go_at_call 12; (with_reducible refine (H2.out _).mono ?_); rintro e w1 ⟨rfl, b1⟩; have HB := Lib.hid (HB.out.trans (b1.mono HB.out.size)); clear b1)
          | (go_at_call 13; (with_reducible refine (H3.out _).mono ?_); rintro e w1 ⟨rfl, b1⟩; have HB := Lib.hid (HB.out.trans (b1.mono HB.out.size)); clear b1)
          | (go_at_call 14; (with_reducible refine (H4.out _).mono ?_); rintro e w1 ⟨rfl, rfl⟩)
          | (go_at_call 15; (with_reducible refine (H5.out _).mono ?_); rintro e w1 ⟨rfl, rfl⟩)
          | (go_at_call 10; (with_reducible refine (HLV.out _).mono ?_); rintro e w1 ⟨rfl, b1⟩; have HB := Lib.hid (HB.out.trans (b1.mono HB.out.size)); clear b1))
        go_ret
        exact ⟨rfl, HB.out⟩
  · have d1 : decide ((4 : Int) < (u.size : Int)) = false := by rw [decide_eq_false_iff_not]; omega
    rw [decide_eq_false (show ¬ 5 ≤ u.size by omega), Bool.false_and] at hq
    subst hq
    cases h <;> cases x
    all_goals
      as_aux_lemma =>
      go_enter Tryz.func4, Tryz.ntmps4
      go_wp2_with (first
        | (go_at_call 7; (with_reducible refine (HCS.out _).mono ?_); rintro e w1 ⟨rfl, rfl⟩)
        | (go_at_call 11; (with_reducible refine (H1.out _).mono ?_); rintro e w1 ⟨rfl, b1⟩; have HB := Lib.hid (HB.out.trans (b1.mono HB.out.size)); clear b1)
        | (go_at_call 12; (with_reducible refine (H2.out _).mono ?_); rintro e w1 ⟨rfl, b1⟩; have HB := Lib.hid (HB.out.trans (b1.mono HB.out.size)); clear b1)
        | (go_at_call 13; (with_reducible refine (H3.out _).mono ?_); rintro e w1 ⟨rfl, b1⟩; have HB := Lib.hid (HB.out.trans (b1.mono HB.out.size)); clear b1)
        | (go_at_call 14; (with_reducible refine (H4.out _).mono ?_); rintro e w1 ⟨rfl, rfl⟩)
        | (go_at_call 15; (with_reducible refine (H5.out _).mono ?_); rintro e w1 ⟨rfl, rfl⟩)
        | (go_at_call 10; (with_reducible refine (HLV.out _).mono ?_); rintro e w1 ⟨rfl, b1⟩; have HB := Lib.hid (HB.out.trans (b1.mono HB.out.size)); clear b1))
      go_ret
      exact ⟨rfl, HB.out⟩

set_option maxHeartbeats 4000000 in
theorem unknownMedia_any (s : ByteArray) (w : World) (hs : s.size ≤ 9223372036854775807) :
    Calls Tryz.prog 5 #[.string s] w fun e w' => e = .returned (.bool true) ∧ Below w.heap.size w w' := by
  have HCS : Hid (∀ W, Calls Tryz.prog 7 #[.string s, .int .i64 2000] W fun e w' => e = .returned (.string (cutB s 2000)) ∧ W = w') := Lib.hid fun W => cut_any s 2000 W hs
  have hu := cutB_size s 2000
  generalize cutB s 2000 = u at *
  obtain ⟨r, hr⟩ := IsFirst.some u medP 6
  have H1 := Lib.hid (fun W => umedia_any u r W (by omega) hr)
  have H2 := Lib.hid (fun W => rmedia_any u r W (by omega) hr)
  generalize mdA (typeOf medP r) (filmB u) (filW u) (isO u) = t at *
  have e1 : (t.toList == t.toList) = true := by simp
  have HLV := Lib.hid lives20_any
  have HB := Lib.hid (Below.refl w.heap.size w)
  clear hr hs hu
  go_enter Tryz.func5, Tryz.ntmps5
  go_wp2_with (first
    | (go_at_call 7; (with_reducible refine (HCS.out _).mono ?_); rintro e w1 ⟨rfl, rfl⟩)
    | (go_at_call 16; (with_reducible refine (H1.out _).mono ?_); rintro e w1 ⟨rfl, b1⟩; have HB := Lib.hid (HB.out.trans (b1.mono HB.out.size)); clear b1)
    | (go_at_call 17; (with_reducible refine (H2.out _).mono ?_); rintro e w1 ⟨rfl, b1⟩; have HB := Lib.hid (HB.out.trans (b1.mono HB.out.size)); clear b1)
    | (go_at_call 10; (with_reducible refine (HLV.out _).mono ?_); rintro e w1 ⟨rfl, b1⟩; have HB := Lib.hid (HB.out.trans (b1.mono HB.out.size)); clear b1))
  go_ret
  exact ⟨rfl, HB.out⟩

end Go.Proofs.YtjaockmbnjflaaaGreatDoor
