/-
  What the functions of package group answer of a type. Condition: the texts are as long as a mebibyte.
-/
import Derived.Test.YtljflkaknhekcaaGe
import Derived.Test.YtljflkaknhekcaaMg
import Derived.Test.YtljflkaknhekcaaMh
namespace Go.Proofs.Ytljflkaknhekcaa
open Go.RowKit

theorem gEssence_any (t u : ByteArray) (A : Option Addr) (n c : Nat) (w : World) (ht : t.size ≤ 1048576) (hu : u.size ≤ 1048576) :
    Calls Try.prog 37 #[mimV t u A n c] w fun e w' => e = .returned (.string (gEss t u)) ∧ Below w.heap.size w w' := essence_any t u A n c w ht hu

set_option maxHeartbeats 2000000 in
set_option maxRecDepth 100000 in
theorem gJson_any (t u : ByteArray) (A : Option Addr) (n c : Nat) (w : World) (ht : t.size ≤ 1048576) (hu : u.size ≤ 1048576) :
    Calls Try.prog 7 #[mimV t u A n c] w fun e w' => e = .returned (.bool (jsonG t u)) ∧ Below w.heap.size w w' := by
  obtain ⟨w0, hw0⟩ : ∃ w0, w0 = w.alloc (.cells #[.string t, .string u, .slice A n c] 24) := ⟨_, rfl⟩
  have HB0 := Lib.hid (show Below w.heap.size w w0 from by rw [hw0]; exact (Below.refl w.heap.size w).alloc (Nat.le_refl _) _)
  have HP0 := Lib.hid (show Blk w0 w.heap.size 24 #[.string t, .string u, .slice A n c] from by rw [hw0]; exact Blk.new _ _ _)
  have c0 := HP0.out.cell 0
  have c1 := HP0.out.cell 1
  have c2 := HP0.out.cell 2
  have HE := Lib.hid (fun W => gEssence_any t u A n c W ht hu)
  obtain ⟨x, hx⟩ : ∃ x, x = gEss t u := ⟨_, rfl⟩
  have HS := Lib.hid (fun W => hasSuffix_any u gJsonE W (by omega) (by decide))
  obtain ⟨b, hb⟩ : ∃ b, b = gEnd u gJsonE := ⟨_, rfl⟩
  have HR := Lib.hid (show jsonG t u = (gIn x gJsonL || b) from by rw [hx, hb]; rfl)
  rw [← hb] at HS
  obtain ⟨r, hr⟩ : ∃ r, r = jsonG t u := ⟨_, rfl⟩
  rw [← hr] at HR ⊢
  rw [← hx] at HE
  clear hr hx hb
  go_enter Try.func7, Try.ntmps7
  go_wp2_with fail
  rw [← hw0]
  clear hw0
  refine (HE.out _).mono ?_
  rintro e w1 ⟨rfl, b1⟩
  have HB1 := Lib.hid (below_on HB0.out b1)
  have HP1 := Lib.hid (HP0.out.below b1 HP0.out.lt)
  clear b1 HE c0 c1 c2
  have c0 := HP1.out.cell 0
  have c1 := HP1.out.cell 1
  have c2 := HP1.out.cell 2
  go_wp2_with (go_at_call 38; (with_reducible refine (HS.out _).mono ?_); rintro e w2 ⟨rfl, rfl⟩)
  all_goals
    go_ret
    refine ⟨?_, HB1.out⟩
    rw [HR.out]
    clear c0 c1 c2
    simp_all [gIn]

set_option maxHeartbeats 2000000 in
set_option maxRecDepth 100000 in
theorem gXml_any (t u : ByteArray) (A : Option Addr) (n c : Nat) (w : World) (ht : t.size ≤ 1048576) (hu : u.size ≤ 1048576) :
    Calls Try.prog 9 #[mimV t u A n c] w fun e w' => e = .returned (.bool (xmlG t u)) ∧ Below w.heap.size w w' := by
  obtain ⟨w0, hw0⟩ : ∃ w0, w0 = w.alloc (.cells #[.string t, .string u, .slice A n c] 24) := ⟨_, rfl⟩
  have HB0 := Lib.hid (show Below w.heap.size w w0 from by rw [hw0]; exact (Below.refl w.heap.size w).alloc (Nat.le_refl _) _)
  have HP0 := Lib.hid (show Blk w0 w.heap.size 24 #[.string t, .string u, .slice A n c] from by rw [hw0]; exact Blk.new _ _ _)
  have c0 := HP0.out.cell 0
  have c1 := HP0.out.cell 1
  have c2 := HP0.out.cell 2
  have HE := Lib.hid (fun W => gEssence_any t u A n c W ht hu)
  obtain ⟨x, hx⟩ : ∃ x, x = gEss t u := ⟨_, rfl⟩
  have HS := Lib.hid (fun W => hasSuffix_any u gXmlE W (by omega) (by decide))
  obtain ⟨b, hb⟩ : ∃ b, b = gEnd u gXmlE := ⟨_, rfl⟩
  have HR := Lib.hid (show xmlG t u = (gIn x gXmlL || b) from by rw [hx, hb]; rfl)
  rw [← hb] at HS
  obtain ⟨r, hr⟩ : ∃ r, r = xmlG t u := ⟨_, rfl⟩
  rw [← hr] at HR ⊢
  rw [← hx] at HE
  clear hr hx hb
  go_enter Try.func9, Try.ntmps9
  go_wp2_with fail
  rw [← hw0]
  clear hw0
  refine (HE.out _).mono ?_
  rintro e w1 ⟨rfl, b1⟩
  have HB1 := Lib.hid (below_on HB0.out b1)
  have HP1 := Lib.hid (HP0.out.below b1 HP0.out.lt)
  clear b1 HE c0 c1 c2
  have c0 := HP1.out.cell 0
  have c1 := HP1.out.cell 1
  have c2 := HP1.out.cell 2
  go_wp2_with (go_at_call 38; (with_reducible refine (HS.out _).mono ?_); rintro e w2 ⟨rfl, rfl⟩)
  all_goals
    go_ret
    refine ⟨?_, HB1.out⟩
    rw [HR.out]
    clear c0 c1 c2
    simp_all [gIn]

set_option maxHeartbeats 2000000 in
set_option maxRecDepth 100000 in
theorem gScript_any (t u : ByteArray) (A : Option Addr) (n c : Nat) (w : World) (ht : t.size ≤ 1048576) (hu : u.size ≤ 1048576) :
    Calls Try.prog 13 #[mimV t u A n c] w fun e w' => e = .returned (.bool (scriptG t u)) ∧ Below w.heap.size w w' := by
  obtain ⟨w0, hw0⟩ : ∃ w0, w0 = w.alloc (.cells #[.string t, .string u, .slice A n c] 24) := ⟨_, rfl⟩
  have HB0 := Lib.hid (show Below w.heap.size w w0 from by rw [hw0]; exact (Below.refl w.heap.size w).alloc (Nat.le_refl _) _)
  have HP0 := Lib.hid (show Blk w0 w.heap.size 24 #[.string t, .string u, .slice A n c] from by rw [hw0]; exact Blk.new _ _ _)
  have c0 := HP0.out.cell 0
  have c1 := HP0.out.cell 1
  have c2 := HP0.out.cell 2
  have HE := Lib.hid (fun W => gEssence_any t u A n c W ht hu)
  obtain ⟨x, hx⟩ : ∃ x, x = gEss t u := ⟨_, rfl⟩
  have HR := Lib.hid (show scriptG t u = gIn x gScriptL from by rw [hx]; rfl)
  obtain ⟨r, hr⟩ : ∃ r, r = scriptG t u := ⟨_, rfl⟩
  rw [← hr] at HR ⊢
  rw [← hx] at HE
  clear hr hx
  go_enter Try.func13, Try.ntmps13
  go_wp2_with fail
  rw [← hw0]
  clear hw0
  refine (HE.out _).mono ?_
  rintro e w1 ⟨rfl, b1⟩
  have HB1 := Lib.hid (below_on HB0.out b1)
  have HP1 := Lib.hid (HP0.out.below b1 HP0.out.lt)
  clear b1 HE c0 c1 c2
  have c0 := HP1.out.cell 0
  have c1 := HP1.out.cell 1
  have c2 := HP1.out.cell 2
  go_wp2
  all_goals
    go_ret
    refine ⟨?_, HB1.out⟩
    rw [HR.out]
    clear c0 c1 c2
    simp_all [gIn]

set_option maxHeartbeats 2000000 in
set_option maxRecDepth 100000 in
theorem gFont_any (t u : ByteArray) (A : Option Addr) (n c : Nat) (w : World) (ht : t.size ≤ 1048576) (hu : u.size ≤ 1048576) :
    Calls Try.prog 21 #[mimV t u A n c] w fun e w' => e = .returned (.bool (fontG t u)) ∧ Below w.heap.size w w' := by
  obtain ⟨w0, hw0⟩ : ∃ w0, w0 = w.alloc (.cells #[.string t, .string u, .slice A n c] 24) := ⟨_, rfl⟩
  have HB0 := Lib.hid (show Below w.heap.size w w0 from by rw [hw0]; exact (Below.refl w.heap.size w).alloc (Nat.le_refl _) _)
  have HP0 := Lib.hid (show Blk w0 w.heap.size 24 #[.string t, .string u, .slice A n c] from by rw [hw0]; exact Blk.new _ _ _)
  have c0 := HP0.out.cell 0
  have c1 := HP0.out.cell 1
  have c2 := HP0.out.cell 2
  have HE := Lib.hid (fun W => gEssence_any t u A n c W ht hu)
  obtain ⟨x, hx⟩ : ∃ x, x = gEss t u := ⟨_, rfl⟩
  have HR := Lib.hid (show fontG t u = (gIn x gFontL || t.toList == gFnt) from by rw [hx]; rfl)
  obtain ⟨r, hr⟩ : ∃ r, r = fontG t u := ⟨_, rfl⟩
  rw [← hr] at HR ⊢
  rw [← hx] at HE
  clear hr hx
  go_enter Try.func21, Try.ntmps21
  go_wp2_with fail
  rw [← hw0]
  clear hw0
  refine (HE.out _).mono ?_
  rintro e w1 ⟨rfl, b1⟩
  have HB1 := Lib.hid (below_on HB0.out b1)
  have HP1 := Lib.hid (HP0.out.below b1 HP0.out.lt)
  clear b1 HE c0 c1 c2
  have c0 := HP1.out.cell 0
  have c1 := HP1.out.cell 1
  have c2 := HP1.out.cell 2
  go_wp2
  all_goals
    go_ret
    refine ⟨?_, HB1.out⟩
    rw [HR.out]
    clear c0 c1 c2
    simp_all [gIn]

set_option maxHeartbeats 2000000 in
set_option maxRecDepth 100000 in
theorem gArchive_any (t u : ByteArray) (A : Option Addr) (n c : Nat) (w : World) (ht : t.size ≤ 1048576) (hu : u.size ≤ 1048576) :
    Calls Try.prog 25 #[mimV t u A n c] w fun e w' => e = .returned (.bool (archG t u)) ∧ Below w.heap.size w w' := by
  obtain ⟨w0, hw0⟩ : ∃ w0, w0 = w.alloc (.cells #[.string t, .string u, .slice A n c] 24) := ⟨_, rfl⟩
  have HB0 := Lib.hid (show Below w.heap.size w w0 from by rw [hw0]; exact (Below.refl w.heap.size w).alloc (Nat.le_refl _) _)
  have HP0 := Lib.hid (show Blk w0 w.heap.size 24 #[.string t, .string u, .slice A n c] from by rw [hw0]; exact Blk.new _ _ _)
  have c0 := HP0.out.cell 0
  have c1 := HP0.out.cell 1
  have c2 := HP0.out.cell 2
  have HE := Lib.hid (fun W => gEssence_any t u A n c W ht hu)
  obtain ⟨x, hx⟩ : ∃ x, x = gEss t u := ⟨_, rfl⟩
  have HR := Lib.hid (show archG t u = gIn x gArchL from by rw [hx]; rfl)
  obtain ⟨r, hr⟩ : ∃ r, r = archG t u := ⟨_, rfl⟩
  rw [← hr] at HR ⊢
  rw [← hx] at HE
  clear hr hx
  go_enter Try.func25, Try.ntmps25
  go_wp2_with fail
  rw [← hw0]
  clear hw0
  refine (HE.out _).mono ?_
  rintro e w1 ⟨rfl, b1⟩
  have HB1 := Lib.hid (below_on HB0.out b1)
  have HP1 := Lib.hid (HP0.out.below b1 HP0.out.lt)
  clear b1 HE c0 c1 c2
  have c0 := HP1.out.cell 0
  have c1 := HP1.out.cell 1
  have c2 := HP1.out.cell 2
  go_wp2
  all_goals
    go_ret
    refine ⟨?_, HB1.out⟩
    rw [HR.out]
    clear c0 c1 c2
    simp_all [gIn]

set_option maxHeartbeats 2000000 in
set_option maxRecDepth 100000 in
theorem gNever_any (t u : ByteArray) (A : Option Addr) (n c : Nat) (w : World) (ht : t.size ≤ 1048576) (hu : u.size ≤ 1048576) :
    Calls Try.prog 30 #[mimV t u A n c] w fun e w' => e = .returned (.bool (neverG t u)) ∧ Below w.heap.size w w' := by
  obtain ⟨w0, hw0⟩ : ∃ w0, w0 = w.alloc (.cells #[.string t, .string u, .slice A n c] 24) := ⟨_, rfl⟩
  have HB0 := Lib.hid (show Below w.heap.size w w0 from by rw [hw0]; exact (Below.refl w.heap.size w).alloc (Nat.le_refl _) _)
  have HP0 := Lib.hid (show Blk w0 w.heap.size 24 #[.string t, .string u, .slice A n c] from by rw [hw0]; exact Blk.new _ _ _)
  have c0 := HP0.out.cell 0
  have c1 := HP0.out.cell 1
  have c2 := HP0.out.cell 2
  have HE := Lib.hid (fun W => gEssence_any t u A n c W ht hu)
  obtain ⟨x, hx⟩ : ∃ x, x = gEss t u := ⟨_, rfl⟩
  have HR := Lib.hid (show neverG t u = gIn x gNeverL from by rw [hx]; rfl)
  obtain ⟨r, hr⟩ : ∃ r, r = neverG t u := ⟨_, rfl⟩
  rw [← hr] at HR ⊢
  rw [← hx] at HE
  clear hr hx
  go_enter Try.func30, Try.ntmps30
  go_wp2_with fail
  rw [← hw0]
  clear hw0
  refine (HE.out _).mono ?_
  rintro e w1 ⟨rfl, b1⟩
  have HB1 := Lib.hid (below_on HB0.out b1)
  have HP1 := Lib.hid (HP0.out.below b1 HP0.out.lt)
  clear b1 HE c0 c1 c2
  have c0 := HP1.out.cell 0
  have c1 := HP1.out.cell 1
  have c2 := HP1.out.cell 2
  go_wp2
  all_goals
    go_ret
    refine ⟨?_, HB1.out⟩
    rw [HR.out]
    clear c0 c1 c2
    simp_all [gIn]

set_option maxHeartbeats 2000000 in
set_option maxRecDepth 100000 in
theorem gSafe_any (t u : ByteArray) (A : Option Addr) (n c : Nat) (w : World) (ht : t.size ≤ 1048576) (hu : u.size ≤ 1048576) :
    Calls Try.prog 27 #[mimV t u A n c] w fun e w' => e = .returned (.bool (safeG t u)) ∧ Below w.heap.size w w' := by
  obtain ⟨w0, hw0⟩ : ∃ w0, w0 = w.alloc (.cells #[.string t, .string u, .slice A n c] 24) := ⟨_, rfl⟩
  have HB0 := Lib.hid (show Below w.heap.size w w0 from by rw [hw0]; exact (Below.refl w.heap.size w).alloc (Nat.le_refl _) _)
  have HP0 := Lib.hid (show Blk w0 w.heap.size 24 #[.string t, .string u, .slice A n c] from by rw [hw0]; exact Blk.new _ _ _)
  have c0 := HP0.out.cell 0
  have c1 := HP0.out.cell 1
  have c2 := HP0.out.cell 2
  have HE := Lib.hid (fun W => gEssence_any t u A n c W ht hu)
  obtain ⟨x, hx⟩ : ∃ x, x = gEss t u := ⟨_, rfl⟩
  have HS := Lib.hid (fun W => gScript_any t u A n c W ht hu)
  obtain ⟨b, hb⟩ : ∃ b, b = scriptG t u := ⟨_, rfl⟩
  have HR := Lib.hid (show safeG t u = (gIn x gSafeL || b) from by rw [hx, hb]; rfl)
  rw [← hb] at HS
  obtain ⟨r, hr⟩ : ∃ r, r = safeG t u := ⟨_, rfl⟩
  rw [← hr] at HR ⊢
  rw [← hx] at HE
  clear hr hx hb
  go_enter Try.func27, Try.ntmps27
  go_wp2_with fail
  rw [← hw0]
  clear hw0
  refine (HE.out _).mono ?_
  rintro e w1 ⟨rfl, b1⟩
  have HB1 := Lib.hid (below_on HB0.out b1)
  have HP1 := Lib.hid (HP0.out.below b1 HP0.out.lt)
  clear b1 HE c0 c1 c2
  have c0 := HP1.out.cell 0
  have c1 := HP1.out.cell 1
  have c2 := HP1.out.cell 2
  go_wp2_with (go_at_call 13; (with_reducible refine (HS.out _).mono ?_); rintro e w2 ⟨rfl, b2⟩; have HB2 := Lib.hid (below_on HB1.out b2); clear b2)
  all_goals
    go_ret
    refine ⟨?_, by first | exact HB2.out | exact HB1.out⟩
    rw [HR.out]
    clear c0 c1 c2
    simp_all [gIn]

set_option maxHeartbeats 2000000 in
set_option maxRecDepth 100000 in
theorem gHtml_any (t u : ByteArray) (A : Option Addr) (n c : Nat) (w : World) (ht : t.size ≤ 1048576) (hu : u.size ≤ 1048576) :
    Calls Try.prog 11 #[mimV t u A n c] w fun e w' => e = .returned (.bool (htmlG t u)) ∧ Below w.heap.size w w' := by
  obtain ⟨w0, hw0⟩ : ∃ w0, w0 = w.alloc (.cells #[.string t, .string u, .slice A n c] 24) := ⟨_, rfl⟩
  have HB0 := Lib.hid (show Below w.heap.size w w0 from by rw [hw0]; exact (Below.refl w.heap.size w).alloc (Nat.le_refl _) _)
  have HP0 := Lib.hid (show Blk w0 w.heap.size 24 #[.string t, .string u, .slice A n c] from by rw [hw0]; exact Blk.new _ _ _)
  have c0 := HP0.out.cell 0
  have c1 := HP0.out.cell 1
  have c2 := HP0.out.cell 2
  have HE := Lib.hid (fun W => gEssence_any t u A n c W ht hu)
  obtain ⟨r, hr⟩ : ∃ r, r = (htmlG t u) := ⟨_, rfl⟩
  rw [← hr]
  unfold htmlG at hr
  generalize gEss t u = xE at *
  have HR := Lib.hid hr
  clear hr
  cases d0 : (xE.toList == gHtm)
  all_goals
    go_enter Try.func11, Try.ntmps11
    go_wp2_with fail
    rw [← hw0]
    clear hw0
    have HB := HB0
    have HP := HP0
    go_wp2_with (first
      | (go_at_call 37; (with_reducible refine (HE.out _).mono ?_); rintro e w1 ⟨rfl, b1⟩; have HB := Lib.hid (below_on HB.out b1); have HP := Lib.hid (HP.out.below b1 HP.out.lt); have c0 := HP.out.cell 0; have c1 := HP.out.cell 1; have c2 := HP.out.cell 2; clear b1))
    all_goals
      go_ret
      refine ⟨?_, HB.out⟩
      rw [HR.out]
      clear c0 c1 c2
      simp_all

set_option maxHeartbeats 2000000 in
set_option maxRecDepth 100000 in
theorem gImage_any (t u : ByteArray) (A : Option Addr) (n c : Nat) (w : World) (_ht : t.size ≤ 1048576) (_hu : u.size ≤ 1048576) :
    Calls Try.prog 18 #[mimV t u A n c] w fun e w' => e = .returned (.bool (imageG t)) ∧ Below w.heap.size w w' := by
  obtain ⟨w0, hw0⟩ : ∃ w0, w0 = w.alloc (.cells #[.string t, .string u, .slice A n c] 24) := ⟨_, rfl⟩
  have HB0 := Lib.hid (show Below w.heap.size w w0 from by rw [hw0]; exact (Below.refl w.heap.size w).alloc (Nat.le_refl _) _)
  have HP0 := Lib.hid (show Blk w0 w.heap.size 24 #[.string t, .string u, .slice A n c] from by rw [hw0]; exact Blk.new _ _ _)
  have c0 := HP0.out.cell 0
  have c1 := HP0.out.cell 1
  have c2 := HP0.out.cell 2
  obtain ⟨r, hr⟩ : ∃ r, r = (imageG t) := ⟨_, rfl⟩
  rw [← hr]
  unfold imageG at hr
  have HR := Lib.hid hr
  clear hr
  cases d0 : (t.toList == gImg)
  all_goals
    go_enter Try.func18, Try.ntmps18
    go_wp2_with fail
    rw [← hw0]
    clear hw0
    have HB := HB0
    have HP := HP0
    go_wp2
    all_goals
      go_ret
      refine ⟨?_, HB.out⟩
      rw [HR.out]
      clear c0 c1 c2
      simp_all

set_option maxHeartbeats 2000000 in
set_option maxRecDepth 100000 in
theorem gMedia_any (t u : ByteArray) (A : Option Addr) (n c : Nat) (w : World) (ht : t.size ≤ 1048576) (hu : u.size ≤ 1048576) :
    Calls Try.prog 19 #[mimV t u A n c] w fun e w' => e = .returned (.bool (mediaG t u)) ∧ Below w.heap.size w w' := by
  obtain ⟨w0, hw0⟩ : ∃ w0, w0 = w.alloc (.cells #[.string t, .string u, .slice A n c] 24) := ⟨_, rfl⟩
  have HB0 := Lib.hid (show Below w.heap.size w w0 from by rw [hw0]; exact (Below.refl w.heap.size w).alloc (Nat.le_refl _) _)
  have HP0 := Lib.hid (show Blk w0 w.heap.size 24 #[.string t, .string u, .slice A n c] from by rw [hw0]; exact Blk.new _ _ _)
  have c0 := HP0.out.cell 0
  have c1 := HP0.out.cell 1
  have c2 := HP0.out.cell 2
  have HE := Lib.hid (fun W => gEssence_any t u A n c W ht hu)
  obtain ⟨r, hr⟩ : ∃ r, r = (mediaG t u) := ⟨_, rfl⟩
  rw [← hr]
  unfold mediaG at hr
  generalize gEss t u = xE at *
  have HR := Lib.hid hr
  clear hr
  cases d0 : (t.toList == gAud) <;> cases d1 : (t.toList == gVid) <;> cases d2 : (xE.toList == gOgg)
  all_goals
    go_enter Try.func19, Try.ntmps19
    go_wp2_with fail
    rw [← hw0]
    clear hw0
    have HB := HB0
    have HP := HP0
    go_wp2_with (first
      | (go_at_call 37; (with_reducible refine (HE.out _).mono ?_); rintro e w1 ⟨rfl, b1⟩; have HB := Lib.hid (below_on HB.out b1); have HP := Lib.hid (HP.out.below b1 HP.out.lt); have c0 := HP.out.cell 0; have c1 := HP.out.cell 1; have c2 := HP.out.cell 2; clear b1))
    all_goals
      go_ret
      refine ⟨?_, HB.out⟩
      rw [HR.out]
      clear c0 c1 c2
      simp_all

set_option maxHeartbeats 2000000 in
set_option maxRecDepth 100000 in
theorem gZip_any (t u : ByteArray) (A : Option Addr) (n c : Nat) (w : World) (ht : t.size ≤ 1048576) (hu : u.size ≤ 1048576) :
    Calls Try.prog 23 #[mimV t u A n c] w fun e w' => e = .returned (.bool (zipG t u)) ∧ Below w.heap.size w w' := by
  obtain ⟨w0, hw0⟩ : ∃ w0, w0 = w.alloc (.cells #[.string t, .string u, .slice A n c] 24) := ⟨_, rfl⟩
  have HB0 := Lib.hid (show Below w.heap.size w w0 from by rw [hw0]; exact (Below.refl w.heap.size w).alloc (Nat.le_refl _) _)
  have HP0 := Lib.hid (show Blk w0 w.heap.size 24 #[.string t, .string u, .slice A n c] from by rw [hw0]; exact Blk.new _ _ _)
  have c0 := HP0.out.cell 0
  have c1 := HP0.out.cell 1
  have c2 := HP0.out.cell 2
  have HE := Lib.hid (fun W => gEssence_any t u A n c W ht hu)
  have HS := Lib.hid (fun W => hasSuffix_any u gZipE W (by omega) (by decide))
  obtain ⟨r, hr⟩ : ∃ r, r = (zipG t u) := ⟨_, rfl⟩
  rw [← hr]
  unfold zipG at hr
  generalize gEss t u = xE at *
  generalize gEnd u gZipE = xS at *
  have HR := Lib.hid hr
  clear hr
  cases d0 : (xE.toList == gZipT) <;> cases xS
  all_goals
    go_enter Try.func23, Try.ntmps23
    go_wp2_with fail
    rw [← hw0]
    clear hw0
    have HB := HB0
    have HP := HP0
    go_wp2_with (first
      | (go_at_call 37; (with_reducible refine (HE.out _).mono ?_); rintro e w1 ⟨rfl, b1⟩; have HB := Lib.hid (below_on HB.out b1); have HP := Lib.hid (HP.out.below b1 HP.out.lt); have c0 := HP.out.cell 0; have c1 := HP.out.cell 1; have c2 := HP.out.cell 2; clear b1)
      | (go_at_call 38; (with_reducible refine (HS.out _).mono ?_); rintro e w1 ⟨rfl, rfl⟩))
    all_goals
      go_ret
      refine ⟨?_, HB.out⟩
      rw [HR.out]
      clear c0 c1 c2
      simp_all

set_option maxHeartbeats 2000000 in
set_option maxRecDepth 100000 in
theorem gScriptable_any (t u : ByteArray) (A : Option Addr) (n c : Nat) (w : World) (ht : t.size ≤ 1048576) (hu : u.size ≤ 1048576) :
    Calls Try.prog 15 #[mimV t u A n c] w fun e w' => e = .returned (.bool (scrbG t u)) ∧ Below w.heap.size w w' := by
  obtain ⟨w0, hw0⟩ : ∃ w0, w0 = w.alloc (.cells #[.string t, .string u, .slice A n c] 24) := ⟨_, rfl⟩
  have HB0 := Lib.hid (show Below w.heap.size w w0 from by rw [hw0]; exact (Below.refl w.heap.size w).alloc (Nat.le_refl _) _)
  have HP0 := Lib.hid (show Blk w0 w.heap.size 24 #[.string t, .string u, .slice A n c] from by rw [hw0]; exact Blk.new _ _ _)
  have c0 := HP0.out.cell 0
  have c1 := HP0.out.cell 1
  have c2 := HP0.out.cell 2
  have HE := Lib.hid (fun W => gEssence_any t u A n c W ht hu)
  have HX := Lib.hid (fun W => gXml_any t u A n c W ht hu)
  have HH := Lib.hid (fun W => gHtml_any t u A n c W ht hu)
  obtain ⟨r, hr⟩ : ∃ r, r = (scrbG t u) := ⟨_, rfl⟩
  rw [← hr]
  unfold scrbG at hr
  generalize gEss t u = xE at *
  generalize xmlG t u = xX at *
  generalize htmlG t u = xH at *
  have HR := Lib.hid hr
  clear hr
  cases d0 : (xE.toList == gPdf) <;> cases xX <;> cases xH
  all_goals
    go_enter Try.func15, Try.ntmps15
    go_wp2_with fail
    rw [← hw0]
    clear hw0
    have HB := HB0
    have HP := HP0
    go_wp2_with (first
      | (go_at_call 37; (with_reducible refine (HE.out _).mono ?_); rintro e w1 ⟨rfl, b1⟩; have HB := Lib.hid (below_on HB.out b1); have HP := Lib.hid (HP.out.below b1 HP.out.lt); have c0 := HP.out.cell 0; have c1 := HP.out.cell 1; have c2 := HP.out.cell 2; clear b1)
      | (go_at_call 9; (with_reducible refine (HX.out _).mono ?_); rintro e w1 ⟨rfl, b1⟩; have HB := Lib.hid (below_on HB.out b1); have HP := Lib.hid (HP.out.below b1 HP.out.lt); have c0 := HP.out.cell 0; have c1 := HP.out.cell 1; have c2 := HP.out.cell 2; clear b1)
      | (go_at_call 11; (with_reducible refine (HH.out _).mono ?_); rintro e w1 ⟨rfl, b1⟩; have HB := Lib.hid (below_on HB.out b1); have HP := Lib.hid (HP.out.below b1 HP.out.lt); have c0 := HP.out.cell 0; have c1 := HP.out.cell 1; have c2 := HP.out.cell 2; clear b1))
    all_goals
      go_ret
      refine ⟨?_, HB.out⟩
      rw [HR.out]
      clear c0 c1 c2
      simp_all

set_option maxHeartbeats 2000000 in
set_option maxRecDepth 100000 in
theorem gListed_any (t u : ByteArray) (A : Option Addr) (n c : Nat) (w : World) (ht : t.size ≤ 1048576) (hu : u.size ≤ 1048576) :
    Calls Try.prog 28 #[mimV t u A n c] w fun e w' => e = .returned (.bool (listG t u)) ∧ Below w.heap.size w w' := by
  obtain ⟨w0, hw0⟩ : ∃ w0, w0 = w.alloc (.cells #[.string t, .string u, .slice A n c] 24) := ⟨_, rfl⟩
  have HB0 := Lib.hid (show Below w.heap.size w w0 from by rw [hw0]; exact (Below.refl w.heap.size w).alloc (Nat.le_refl _) _)
  have HP0 := Lib.hid (show Blk w0 w.heap.size 24 #[.string t, .string u, .slice A n c] from by rw [hw0]; exact Blk.new _ _ _)
  have c0 := HP0.out.cell 0
  have c1 := HP0.out.cell 1
  have c2 := HP0.out.cell 2
  have HE := Lib.hid (fun W => gEssence_any t u A n c W ht hu)
  have HX := Lib.hid (fun W => gXml_any t u A n c W ht hu)
  have HH := Lib.hid (fun W => gHtml_any t u A n c W ht hu)
  have HJ := Lib.hid (fun W => gJson_any t u A n c W ht hu)
  obtain ⟨r, hr⟩ : ∃ r, r = (listG t u) := ⟨_, rfl⟩
  rw [← hr]
  unfold listG at hr
  generalize gEss t u = xE at *
  generalize xmlG t u = xX at *
  generalize htmlG t u = xH at *
  generalize jsonG t u = xJ at *
  have HR := Lib.hid hr
  clear hr
  cases d0 : (xE.toList == gSvg) <;> cases xX <;> cases xH <;> cases xJ
  all_goals
    go_enter Try.func28, Try.ntmps28
    go_wp2_with fail
    rw [← hw0]
    clear hw0
    have HB := HB0
    have HP := HP0
    go_wp2_with (first
      | (go_at_call 37; (with_reducible refine (HE.out _).mono ?_); rintro e w1 ⟨rfl, b1⟩; have HB := Lib.hid (below_on HB.out b1); have HP := Lib.hid (HP.out.below b1 HP.out.lt); have c0 := HP.out.cell 0; have c1 := HP.out.cell 1; have c2 := HP.out.cell 2; clear b1)
      | (go_at_call 9; (with_reducible refine (HX.out _).mono ?_); rintro e w1 ⟨rfl, b1⟩; have HB := Lib.hid (below_on HB.out b1); have HP := Lib.hid (HP.out.below b1 HP.out.lt); have c0 := HP.out.cell 0; have c1 := HP.out.cell 1; have c2 := HP.out.cell 2; clear b1)
      | (go_at_call 11; (with_reducible refine (HH.out _).mono ?_); rintro e w1 ⟨rfl, b1⟩; have HB := Lib.hid (below_on HB.out b1); have HP := Lib.hid (HP.out.below b1 HP.out.lt); have c0 := HP.out.cell 0; have c1 := HP.out.cell 1; have c2 := HP.out.cell 2; clear b1)
      | (go_at_call 7; (with_reducible refine (HJ.out _).mono ?_); rintro e w1 ⟨rfl, b1⟩; have HB := Lib.hid (below_on HB.out b1); have HP := Lib.hid (HP.out.below b1 HP.out.lt); have c0 := HP.out.cell 0; have c1 := HP.out.cell 1; have c2 := HP.out.cell 2; clear b1))
    all_goals
      go_ret
      refine ⟨?_, HB.out⟩
      rw [HR.out]
      clear c0 c1 c2
      simp_all

end Go.Proofs.Ytljflkaknhekcaa
