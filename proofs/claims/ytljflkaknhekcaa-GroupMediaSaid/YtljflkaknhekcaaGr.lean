/-
  What the document's functions on groups answer of a type. Condition: the texts are as long as a mebibyte.
-/
import Derived.Test.YtljflkaknhekcaaGe
import Derived.Test.YtljflkaknhekcaaMg
import Derived.Test.YtljflkaknhekcaaMh
namespace Go.Proofs.Ytljflkaknhekcaa
open Go.RowKit

/-- One of a row of texts that has just been laid. -/
theorem rone_new (x : ByteArray) (L : List (List UInt8)) (n : Nat) (hn : (gTxt L).length = n) (hl : L.length ≤ 1000) (W : World) :
    Calls Try.prog 40 #[.string x, .slice (some ⟨W.heap.size, 0, none⟩) n n] (W.alloc (.cells (strs (gTxt L)).toArray 9)) fun e w' => e = .returned (.bool (gIn x L)) ∧ Below W.heap.size W w' := by
  subst hn
  exact (rone_any x L _ _ _ (gRow_new W L) hl).mono fun e w' h => ⟨h.1, below_on ((Below.refl _ _).alloc (Nat.le_refl _) _) h.2⟩

set_option maxHeartbeats 2000000 in
set_option maxRecDepth 100000 in
theorem rgJson_any (t u : ByteArray) (A : Option Addr) (n c : Nat) (w : World) (ht : t.size ≤ 1048576) (hu : u.size ≤ 1048576) :
    Calls Try.prog 8 #[mimV t u A n c] w fun e w' => e = .returned (.bool (jsonG t u)) ∧ Below w.heap.size w w' := by
  obtain ⟨w0, hw0⟩ : ∃ w0, w0 = w.alloc (.cells #[.string t, .string u, .slice A n c] 24) := ⟨_, rfl⟩
  have HB0 := Lib.hid (show Below w.heap.size w w0 from by rw [hw0]; exact (Below.refl w.heap.size w).alloc (Nat.le_refl _) _)
  have HP0 := Lib.hid (show Blk w0 w.heap.size 24 #[.string t, .string u, .slice A n c] from by rw [hw0]; exact Blk.new _ _ _)
  have c0 := HP0.out.cell 0
  have c1 := HP0.out.cell 1
  have c2 := HP0.out.cell 2
  have HE := Lib.hid (fun W => ressence_any t u A n c W ht hu)
  have HS := Lib.hid (fun W => rends_any u gJsonE W (by omega) (by decide))
  obtain ⟨r, hr⟩ : ∃ r, r = (jsonG t u) := ⟨_, rfl⟩
  rw [← hr]
  unfold jsonG at hr
  generalize gEss t u = xE at *
  generalize gEnd u gJsonE = xS at *
  have HO := Lib.hid (fun W => rone_new xE gJsonL 2 rfl (by decide) W)
  generalize gIn xE gJsonL = xO at *
  have HR := Lib.hid hr
  clear hr
  cases xS <;> cases xO
  all_goals
    go_enter Try.func8, Try.ntmps8
    go_wp2_with fail
    rw [← hw0]
    clear hw0
    have HB := HB0
    have HP := HP0
    go_wp2_with (first
      | (go_at_call 41; (with_reducible refine (HE.out _).mono ?_); rintro e w1 ⟨rfl, b1⟩; have HB := Lib.hid (below_on HB.out b1); have HP := Lib.hid (HP.out.below b1 HP.out.lt); have c0 := HP.out.cell 0; have c1 := HP.out.cell 1; have c2 := HP.out.cell 2; clear b1)
      | (go_at_call 39; (with_reducible refine (HS.out _).mono ?_); rintro e w1 ⟨rfl, rfl⟩)
      | (go_at_call 40; (refine (HO.out _).mono ?_); rintro e w1 ⟨rfl, b1⟩; have HB := Lib.hid (below_on HB.out b1); have HP := Lib.hid (HP.out.below b1 HP.out.lt); have c0 := HP.out.cell 0; have c1 := HP.out.cell 1; have c2 := HP.out.cell 2; clear b1))
    all_goals
      go_ret
      refine ⟨?_, HB.out⟩
      rw [HR.out]
      clear c0 c1 c2
      simp_all

set_option maxHeartbeats 2000000 in
set_option maxRecDepth 100000 in
theorem rgXml_any (t u : ByteArray) (A : Option Addr) (n c : Nat) (w : World) (ht : t.size ≤ 1048576) (hu : u.size ≤ 1048576) :
    Calls Try.prog 10 #[mimV t u A n c] w fun e w' => e = .returned (.bool (xmlG t u)) ∧ Below w.heap.size w w' := by
  obtain ⟨w0, hw0⟩ : ∃ w0, w0 = w.alloc (.cells #[.string t, .string u, .slice A n c] 24) := ⟨_, rfl⟩
  have HB0 := Lib.hid (show Below w.heap.size w w0 from by rw [hw0]; exact (Below.refl w.heap.size w).alloc (Nat.le_refl _) _)
  have HP0 := Lib.hid (show Blk w0 w.heap.size 24 #[.string t, .string u, .slice A n c] from by rw [hw0]; exact Blk.new _ _ _)
  have c0 := HP0.out.cell 0
  have c1 := HP0.out.cell 1
  have c2 := HP0.out.cell 2
  have HE := Lib.hid (fun W => ressence_any t u A n c W ht hu)
  have HS := Lib.hid (fun W => rends_any u gXmlE W (by omega) (by decide))
  obtain ⟨r, hr⟩ : ∃ r, r = (xmlG t u) := ⟨_, rfl⟩
  rw [← hr]
  unfold xmlG at hr
  rw [← xmlG_doc] at hr
  generalize gEss t u = xE at *
  generalize gEnd u gXmlE = xS at *
  have HO := Lib.hid (fun W => rone_new xE gXmlD 2 rfl (by decide) W)
  generalize gIn xE gXmlD = xO at *
  have HR := Lib.hid hr
  clear hr
  cases xS <;> cases xO
  all_goals
    go_enter Try.func10, Try.ntmps10
    go_wp2_with fail
    rw [← hw0]
    clear hw0
    have HB := HB0
    have HP := HP0
    go_wp2_with (first
      | (go_at_call 41; (with_reducible refine (HE.out _).mono ?_); rintro e w1 ⟨rfl, b1⟩; have HB := Lib.hid (below_on HB.out b1); have HP := Lib.hid (HP.out.below b1 HP.out.lt); have c0 := HP.out.cell 0; have c1 := HP.out.cell 1; have c2 := HP.out.cell 2; clear b1)
      | (go_at_call 39; (with_reducible refine (HS.out _).mono ?_); rintro e w1 ⟨rfl, rfl⟩)
      | (go_at_call 40; (refine (HO.out _).mono ?_); rintro e w1 ⟨rfl, b1⟩; have HB := Lib.hid (below_on HB.out b1); have HP := Lib.hid (HP.out.below b1 HP.out.lt); have c0 := HP.out.cell 0; have c1 := HP.out.cell 1; have c2 := HP.out.cell 2; clear b1))
    all_goals
      go_ret
      refine ⟨?_, HB.out⟩
      rw [HR.out]
      clear c0 c1 c2
      simp_all

set_option maxHeartbeats 2000000 in
set_option maxRecDepth 100000 in
theorem rgHtml_any (t u : ByteArray) (A : Option Addr) (n c : Nat) (w : World) (ht : t.size ≤ 1048576) (hu : u.size ≤ 1048576) :
    Calls Try.prog 12 #[mimV t u A n c] w fun e w' => e = .returned (.bool (htmlG t u)) ∧ Below w.heap.size w w' := by
  obtain ⟨w0, hw0⟩ : ∃ w0, w0 = w.alloc (.cells #[.string t, .string u, .slice A n c] 24) := ⟨_, rfl⟩
  have HB0 := Lib.hid (show Below w.heap.size w w0 from by rw [hw0]; exact (Below.refl w.heap.size w).alloc (Nat.le_refl _) _)
  have HP0 := Lib.hid (show Blk w0 w.heap.size 24 #[.string t, .string u, .slice A n c] from by rw [hw0]; exact Blk.new _ _ _)
  have c0 := HP0.out.cell 0
  have c1 := HP0.out.cell 1
  have c2 := HP0.out.cell 2
  have HE := Lib.hid (fun W => ressence_any t u A n c W ht hu)
  obtain ⟨r, hr⟩ : ∃ r, r = (htmlG t u) := ⟨_, rfl⟩
  rw [← hr]
  unfold htmlG at hr
  generalize gEss t u = xE at *
  have HR := Lib.hid hr
  clear hr
  cases d0 : (xE.toList == gHtm)
  all_goals
    go_enter Try.func12, Try.ntmps12
    go_wp2_with fail
    rw [← hw0]
    clear hw0
    have HB := HB0
    have HP := HP0
    go_wp2_with (first
      | (go_at_call 41; (with_reducible refine (HE.out _).mono ?_); rintro e w1 ⟨rfl, b1⟩; have HB := Lib.hid (below_on HB.out b1); have HP := Lib.hid (HP.out.below b1 HP.out.lt); have c0 := HP.out.cell 0; have c1 := HP.out.cell 1; have c2 := HP.out.cell 2; clear b1))
    all_goals
      go_ret
      refine ⟨?_, HB.out⟩
      rw [HR.out]
      clear c0 c1 c2
      simp_all

set_option maxHeartbeats 2000000 in
set_option maxRecDepth 100000 in
theorem rgScript_any (t u : ByteArray) (A : Option Addr) (n c : Nat) (w : World) (ht : t.size ≤ 1048576) (hu : u.size ≤ 1048576) :
    Calls Try.prog 14 #[mimV t u A n c] w fun e w' => e = .returned (.bool (scriptG t u)) ∧ Below w.heap.size w w' := by
  obtain ⟨w0, hw0⟩ : ∃ w0, w0 = w.alloc (.cells #[.string t, .string u, .slice A n c] 24) := ⟨_, rfl⟩
  have HB0 := Lib.hid (show Below w.heap.size w w0 from by rw [hw0]; exact (Below.refl w.heap.size w).alloc (Nat.le_refl _) _)
  have HP0 := Lib.hid (show Blk w0 w.heap.size 24 #[.string t, .string u, .slice A n c] from by rw [hw0]; exact Blk.new _ _ _)
  have c0 := HP0.out.cell 0
  have c1 := HP0.out.cell 1
  have c2 := HP0.out.cell 2
  have HE := Lib.hid (fun W => ressence_any t u A n c W ht hu)
  obtain ⟨r, hr⟩ : ∃ r, r = (scriptG t u) := ⟨_, rfl⟩
  rw [← hr]
  unfold scriptG at hr
  rw [← scriptG_doc] at hr
  generalize gEss t u = xE at *
  have HO := Lib.hid (fun W => rone_new xE gScriptD 16 rfl (by decide) W)
  generalize gIn xE gScriptD = xO at *
  have HR := Lib.hid hr
  clear hr
  cases xO
  all_goals
    go_enter Try.func14, Try.ntmps14
    go_wp2_with fail
    rw [← hw0]
    clear hw0
    have HB := HB0
    have HP := HP0
    go_wp2_with (first
      | (go_at_call 41; (with_reducible refine (HE.out _).mono ?_); rintro e w1 ⟨rfl, b1⟩; have HB := Lib.hid (below_on HB.out b1); have HP := Lib.hid (HP.out.below b1 HP.out.lt); have c0 := HP.out.cell 0; have c1 := HP.out.cell 1; have c2 := HP.out.cell 2; clear b1)
      | (go_at_call 40; (refine (HO.out _).mono ?_); rintro e w1 ⟨rfl, b1⟩; have HB := Lib.hid (below_on HB.out b1); have HP := Lib.hid (HP.out.below b1 HP.out.lt); have c0 := HP.out.cell 0; have c1 := HP.out.cell 1; have c2 := HP.out.cell 2; clear b1))
    all_goals
      go_ret
      refine ⟨?_, HB.out⟩
      rw [HR.out]
      clear c0 c1 c2
      simp_all

set_option maxHeartbeats 2000000 in
set_option maxRecDepth 100000 in
theorem rgMedia_any (t u : ByteArray) (A : Option Addr) (n c : Nat) (w : World) (ht : t.size ≤ 1048576) (hu : u.size ≤ 1048576) :
    Calls Try.prog 20 #[mimV t u A n c] w fun e w' => e = .returned (.bool (mediaG t u)) ∧ Below w.heap.size w w' := by
  obtain ⟨w0, hw0⟩ : ∃ w0, w0 = w.alloc (.cells #[.string t, .string u, .slice A n c] 24) := ⟨_, rfl⟩
  have HB0 := Lib.hid (show Below w.heap.size w w0 from by rw [hw0]; exact (Below.refl w.heap.size w).alloc (Nat.le_refl _) _)
  have HP0 := Lib.hid (show Blk w0 w.heap.size 24 #[.string t, .string u, .slice A n c] from by rw [hw0]; exact Blk.new _ _ _)
  have c0 := HP0.out.cell 0
  have c1 := HP0.out.cell 1
  have c2 := HP0.out.cell 2
  have HE := Lib.hid (fun W => ressence_any t u A n c W ht hu)
  obtain ⟨r, hr⟩ : ∃ r, r = (mediaG t u) := ⟨_, rfl⟩
  rw [← hr]
  unfold mediaG at hr
  generalize gEss t u = xE at *
  have HR := Lib.hid hr
  clear hr
  cases d0 : (t.toList == gAud) <;> cases d1 : (t.toList == gVid) <;> cases d2 : (xE.toList == gOgg)
  all_goals
    go_enter Try.func20, Try.ntmps20
    go_wp2_with fail
    rw [← hw0]
    clear hw0
    have HB := HB0
    have HP := HP0
    go_wp2_with (first
      | (go_at_call 41; (with_reducible refine (HE.out _).mono ?_); rintro e w1 ⟨rfl, b1⟩; have HB := Lib.hid (below_on HB.out b1); have HP := Lib.hid (HP.out.below b1 HP.out.lt); have c0 := HP.out.cell 0; have c1 := HP.out.cell 1; have c2 := HP.out.cell 2; clear b1))
    all_goals
      go_ret
      refine ⟨?_, HB.out⟩
      rw [HR.out]
      clear c0 c1 c2
      simp_all

set_option maxHeartbeats 2000000 in
set_option maxRecDepth 100000 in
theorem rgFont_any (t u : ByteArray) (A : Option Addr) (n c : Nat) (w : World) (ht : t.size ≤ 1048576) (hu : u.size ≤ 1048576) :
    Calls Try.prog 22 #[mimV t u A n c] w fun e w' => e = .returned (.bool (fontG t u)) ∧ Below w.heap.size w w' := by
  obtain ⟨w0, hw0⟩ : ∃ w0, w0 = w.alloc (.cells #[.string t, .string u, .slice A n c] 24) := ⟨_, rfl⟩
  have HB0 := Lib.hid (show Below w.heap.size w w0 from by rw [hw0]; exact (Below.refl w.heap.size w).alloc (Nat.le_refl _) _)
  have HP0 := Lib.hid (show Blk w0 w.heap.size 24 #[.string t, .string u, .slice A n c] from by rw [hw0]; exact Blk.new _ _ _)
  have c0 := HP0.out.cell 0
  have c1 := HP0.out.cell 1
  have c2 := HP0.out.cell 2
  have HE := Lib.hid (fun W => ressence_any t u A n c W ht hu)
  obtain ⟨r, hr⟩ : ∃ r, r = (fontG t u) := ⟨_, rfl⟩
  rw [← hr]
  unfold fontG at hr
  generalize gEss t u = xE at *
  have HO := Lib.hid (fun W => rone_new xE gFontL 7 rfl (by decide) W)
  generalize gIn xE gFontL = xO at *
  have HR := Lib.hid hr
  clear hr
  cases d0 : (t.toList == gFnt) <;> cases xO
  all_goals
    go_enter Try.func22, Try.ntmps22
    go_wp2_with fail
    rw [← hw0]
    clear hw0
    have HB := HB0
    have HP := HP0
    go_wp2_with (first
      | (go_at_call 41; (with_reducible refine (HE.out _).mono ?_); rintro e w1 ⟨rfl, b1⟩; have HB := Lib.hid (below_on HB.out b1); have HP := Lib.hid (HP.out.below b1 HP.out.lt); have c0 := HP.out.cell 0; have c1 := HP.out.cell 1; have c2 := HP.out.cell 2; clear b1)
      | (go_at_call 40; (refine (HO.out _).mono ?_); rintro e w1 ⟨rfl, b1⟩; have HB := Lib.hid (below_on HB.out b1); have HP := Lib.hid (HP.out.below b1 HP.out.lt); have c0 := HP.out.cell 0; have c1 := HP.out.cell 1; have c2 := HP.out.cell 2; clear b1))
    all_goals
      go_ret
      refine ⟨?_, HB.out⟩
      rw [HR.out]
      clear c0 c1 c2
      simp_all

set_option maxHeartbeats 2000000 in
set_option maxRecDepth 100000 in
theorem rgZip_any (t u : ByteArray) (A : Option Addr) (n c : Nat) (w : World) (ht : t.size ≤ 1048576) (hu : u.size ≤ 1048576) :
    Calls Try.prog 24 #[mimV t u A n c] w fun e w' => e = .returned (.bool (zipG t u)) ∧ Below w.heap.size w w' := by
  obtain ⟨w0, hw0⟩ : ∃ w0, w0 = w.alloc (.cells #[.string t, .string u, .slice A n c] 24) := ⟨_, rfl⟩
  have HB0 := Lib.hid (show Below w.heap.size w w0 from by rw [hw0]; exact (Below.refl w.heap.size w).alloc (Nat.le_refl _) _)
  have HP0 := Lib.hid (show Blk w0 w.heap.size 24 #[.string t, .string u, .slice A n c] from by rw [hw0]; exact Blk.new _ _ _)
  have c0 := HP0.out.cell 0
  have c1 := HP0.out.cell 1
  have c2 := HP0.out.cell 2
  have HE := Lib.hid (fun W => ressence_any t u A n c W ht hu)
  have HS := Lib.hid (fun W => rends_any u gZipE W (by omega) (by decide))
  obtain ⟨r, hr⟩ : ∃ r, r = (zipG t u) := ⟨_, rfl⟩
  rw [← hr]
  unfold zipG at hr
  generalize gEss t u = xE at *
  generalize gEnd u gZipE = xS at *
  have HR := Lib.hid hr
  clear hr
  cases d0 : (xE.toList == gZipT) <;> cases xS
  all_goals
    go_enter Try.func24, Try.ntmps24
    go_wp2_with fail
    rw [← hw0]
    clear hw0
    have HB := HB0
    have HP := HP0
    go_wp2_with (first
      | (go_at_call 41; (with_reducible refine (HE.out _).mono ?_); rintro e w1 ⟨rfl, b1⟩; have HB := Lib.hid (below_on HB.out b1); have HP := Lib.hid (HP.out.below b1 HP.out.lt); have c0 := HP.out.cell 0; have c1 := HP.out.cell 1; have c2 := HP.out.cell 2; clear b1)
      | (go_at_call 39; (with_reducible refine (HS.out _).mono ?_); rintro e w1 ⟨rfl, rfl⟩))
    all_goals
      go_ret
      refine ⟨?_, HB.out⟩
      rw [HR.out]
      clear c0 c1 c2
      simp_all

set_option maxHeartbeats 2000000 in
set_option maxRecDepth 100000 in
theorem rgArchive_any (t u : ByteArray) (A : Option Addr) (n c : Nat) (w : World) (ht : t.size ≤ 1048576) (hu : u.size ≤ 1048576) :
    Calls Try.prog 26 #[mimV t u A n c] w fun e w' => e = .returned (.bool (archG t u)) ∧ Below w.heap.size w w' := by
  obtain ⟨w0, hw0⟩ : ∃ w0, w0 = w.alloc (.cells #[.string t, .string u, .slice A n c] 24) := ⟨_, rfl⟩
  have HB0 := Lib.hid (show Below w.heap.size w w0 from by rw [hw0]; exact (Below.refl w.heap.size w).alloc (Nat.le_refl _) _)
  have HP0 := Lib.hid (show Blk w0 w.heap.size 24 #[.string t, .string u, .slice A n c] from by rw [hw0]; exact Blk.new _ _ _)
  have c0 := HP0.out.cell 0
  have c1 := HP0.out.cell 1
  have c2 := HP0.out.cell 2
  have HE := Lib.hid (fun W => ressence_any t u A n c W ht hu)
  obtain ⟨r, hr⟩ : ∃ r, r = (archG t u) := ⟨_, rfl⟩
  rw [← hr]
  unfold archG at hr
  generalize gEss t u = xE at *
  have HO := Lib.hid (fun W => rone_new xE gArchL 3 rfl (by decide) W)
  generalize gIn xE gArchL = xO at *
  have HR := Lib.hid hr
  clear hr
  cases xO
  all_goals
    go_enter Try.func26, Try.ntmps26
    go_wp2_with fail
    rw [← hw0]
    clear hw0
    have HB := HB0
    have HP := HP0
    go_wp2_with (first
      | (go_at_call 41; (with_reducible refine (HE.out _).mono ?_); rintro e w1 ⟨rfl, b1⟩; have HB := Lib.hid (below_on HB.out b1); have HP := Lib.hid (HP.out.below b1 HP.out.lt); have c0 := HP.out.cell 0; have c1 := HP.out.cell 1; have c2 := HP.out.cell 2; clear b1)
      | (go_at_call 40; (refine (HO.out _).mono ?_); rintro e w1 ⟨rfl, b1⟩; have HB := Lib.hid (below_on HB.out b1); have HP := Lib.hid (HP.out.below b1 HP.out.lt); have c0 := HP.out.cell 0; have c1 := HP.out.cell 1; have c2 := HP.out.cell 2; clear b1))
    all_goals
      go_ret
      refine ⟨?_, HB.out⟩
      rw [HR.out]
      clear c0 c1 c2
      simp_all

set_option maxHeartbeats 2000000 in
set_option maxRecDepth 100000 in
theorem rgScriptable_any (t u : ByteArray) (A : Option Addr) (n c : Nat) (w : World) (ht : t.size ≤ 1048576) (hu : u.size ≤ 1048576) :
    Calls Try.prog 16 #[mimV t u A n c] w fun e w' => e = .returned (.bool (scrbG t u)) ∧ Below w.heap.size w w' := by
  obtain ⟨w0, hw0⟩ : ∃ w0, w0 = w.alloc (.cells #[.string t, .string u, .slice A n c] 24) := ⟨_, rfl⟩
  have HB0 := Lib.hid (show Below w.heap.size w w0 from by rw [hw0]; exact (Below.refl w.heap.size w).alloc (Nat.le_refl _) _)
  have HP0 := Lib.hid (show Blk w0 w.heap.size 24 #[.string t, .string u, .slice A n c] from by rw [hw0]; exact Blk.new _ _ _)
  have c0 := HP0.out.cell 0
  have c1 := HP0.out.cell 1
  have c2 := HP0.out.cell 2
  have HE := Lib.hid (fun W => ressence_any t u A n c W ht hu)
  have HX := Lib.hid (fun W => rgXml_any t u A n c W ht hu)
  have HH := Lib.hid (fun W => rgHtml_any t u A n c W ht hu)
  obtain ⟨r, hr⟩ : ∃ r, r = (scrbG t u) := ⟨_, rfl⟩
  rw [← hr]
  unfold scrbG at hr
  generalize gEss t u = xE at *
  generalize xmlG t u = xX at *
  generalize htmlG t u = xH at *
  have HR := Lib.hid hr
  clear hr
  cases d0 : (xE.toList == gPdf) <;> cases xX <;> cases xH
  all_goals
    go_enter Try.func16, Try.ntmps16
    go_wp2_with fail
    rw [← hw0]
    clear hw0
    have HB := HB0
    have HP := HP0
    go_wp2_with (first
      | (go_at_call 41; (with_reducible refine (HE.out _).mono ?_); rintro e w1 ⟨rfl, b1⟩; have HB := Lib.hid (below_on HB.out b1); have HP := Lib.hid (HP.out.below b1 HP.out.lt); have c0 := HP.out.cell 0; have c1 := HP.out.cell 1; have c2 := HP.out.cell 2; clear b1)
      | (go_at_call 10; (with_reducible refine (HX.out _).mono ?_); rintro e w1 ⟨rfl, b1⟩; have HB := Lib.hid (below_on HB.out b1); have HP := Lib.hid (HP.out.below b1 HP.out.lt); have c0 := HP.out.cell 0; have c1 := HP.out.cell 1; have c2 := HP.out.cell 2; clear b1)
      | (go_at_call 12; (with_reducible refine (HH.out _).mono ?_); rintro e w1 ⟨rfl, b1⟩; have HB := Lib.hid (below_on HB.out b1); have HP := Lib.hid (HP.out.below b1 HP.out.lt); have c0 := HP.out.cell 0; have c1 := HP.out.cell 1; have c2 := HP.out.cell 2; clear b1))
    all_goals
      go_ret
      refine ⟨?_, HB.out⟩
      rw [HR.out]
      clear c0 c1 c2
      simp_all

set_option maxHeartbeats 2000000 in
set_option maxRecDepth 100000 in
theorem rgSafe_any (t u : ByteArray) (A : Option Addr) (n c : Nat) (w : World) (ht : t.size ≤ 1048576) (hu : u.size ≤ 1048576) :
    Calls Try.prog 29 #[mimV t u A n c] w fun e w' => e = .returned (.bool (safeG t u)) ∧ Below w.heap.size w w' := by
  obtain ⟨w0, hw0⟩ : ∃ w0, w0 = w.alloc (.cells #[.string t, .string u, .slice A n c] 24) := ⟨_, rfl⟩
  have HB0 := Lib.hid (show Below w.heap.size w w0 from by rw [hw0]; exact (Below.refl w.heap.size w).alloc (Nat.le_refl _) _)
  have HP0 := Lib.hid (show Blk w0 w.heap.size 24 #[.string t, .string u, .slice A n c] from by rw [hw0]; exact Blk.new _ _ _)
  have c0 := HP0.out.cell 0
  have c1 := HP0.out.cell 1
  have c2 := HP0.out.cell 2
  have HE := Lib.hid (fun W => ressence_any t u A n c W ht hu)
  have HX := Lib.hid (fun W => rgScript_any t u A n c W ht hu)
  obtain ⟨r, hr⟩ : ∃ r, r = (safeG t u) := ⟨_, rfl⟩
  rw [← hr]
  unfold safeG at hr
  generalize gEss t u = xE at *
  generalize scriptG t u = xX at *
  have HO := Lib.hid (fun W => rone_new xE gSafeL 2 rfl (by decide) W)
  generalize gIn xE gSafeL = xO at *
  have HR := Lib.hid hr
  clear hr
  cases xX <;> cases xO
  all_goals
    go_enter Try.func29, Try.ntmps29
    go_wp2_with fail
    rw [← hw0]
    clear hw0
    have HB := HB0
    have HP := HP0
    go_wp2_with (first
      | (go_at_call 41; (with_reducible refine (HE.out _).mono ?_); rintro e w1 ⟨rfl, b1⟩; have HB := Lib.hid (below_on HB.out b1); have HP := Lib.hid (HP.out.below b1 HP.out.lt); have c0 := HP.out.cell 0; have c1 := HP.out.cell 1; have c2 := HP.out.cell 2; clear b1)
      | (go_at_call 14; (with_reducible refine (HX.out _).mono ?_); rintro e w1 ⟨rfl, b1⟩; have HB := Lib.hid (below_on HB.out b1); have HP := Lib.hid (HP.out.below b1 HP.out.lt); have c0 := HP.out.cell 0; have c1 := HP.out.cell 1; have c2 := HP.out.cell 2; clear b1)
      | (go_at_call 40; (refine (HO.out _).mono ?_); rintro e w1 ⟨rfl, b1⟩; have HB := Lib.hid (below_on HB.out b1); have HP := Lib.hid (HP.out.below b1 HP.out.lt); have c0 := HP.out.cell 0; have c1 := HP.out.cell 1; have c2 := HP.out.cell 2; clear b1))
    all_goals
      go_ret
      refine ⟨?_, HB.out⟩
      rw [HR.out]
      clear c0 c1 c2
      simp_all

set_option maxHeartbeats 2000000 in
set_option maxRecDepth 100000 in
theorem rgNever_any (t u : ByteArray) (A : Option Addr) (n c : Nat) (w : World) (ht : t.size ≤ 1048576) (hu : u.size ≤ 1048576) :
    Calls Try.prog 31 #[mimV t u A n c] w fun e w' => e = .returned (.bool (neverG t u)) ∧ Below w.heap.size w w' := by
  obtain ⟨w0, hw0⟩ : ∃ w0, w0 = w.alloc (.cells #[.string t, .string u, .slice A n c] 24) := ⟨_, rfl⟩
  have HB0 := Lib.hid (show Below w.heap.size w w0 from by rw [hw0]; exact (Below.refl w.heap.size w).alloc (Nat.le_refl _) _)
  have HP0 := Lib.hid (show Blk w0 w.heap.size 24 #[.string t, .string u, .slice A n c] from by rw [hw0]; exact Blk.new _ _ _)
  have c0 := HP0.out.cell 0
  have c1 := HP0.out.cell 1
  have c2 := HP0.out.cell 2
  have HE := Lib.hid (fun W => ressence_any t u A n c W ht hu)
  obtain ⟨r, hr⟩ : ∃ r, r = (neverG t u) := ⟨_, rfl⟩
  rw [← hr]
  unfold neverG at hr
  generalize gEss t u = xE at *
  have HO := Lib.hid (fun W => rone_new xE gNeverL 20 rfl (by decide) W)
  generalize gIn xE gNeverL = xO at *
  have HR := Lib.hid hr
  clear hr
  cases xO
  all_goals
    go_enter Try.func31, Try.ntmps31
    go_wp2_with fail
    rw [← hw0]
    clear hw0
    have HB := HB0
    have HP := HP0
    go_wp2_with (first
      | (go_at_call 41; (with_reducible refine (HE.out _).mono ?_); rintro e w1 ⟨rfl, b1⟩; have HB := Lib.hid (below_on HB.out b1); have HP := Lib.hid (HP.out.below b1 HP.out.lt); have c0 := HP.out.cell 0; have c1 := HP.out.cell 1; have c2 := HP.out.cell 2; clear b1)
      | (go_at_call 40; (refine (HO.out _).mono ?_); rintro e w1 ⟨rfl, b1⟩; have HB := Lib.hid (below_on HB.out b1); have HP := Lib.hid (HP.out.below b1 HP.out.lt); have c0 := HP.out.cell 0; have c1 := HP.out.cell 1; have c2 := HP.out.cell 2; clear b1))
    all_goals
      go_ret
      refine ⟨?_, HB.out⟩
      rw [HR.out]
      clear c0 c1 c2
      simp_all

set_option maxHeartbeats 2000000 in
set_option maxRecDepth 100000 in
theorem rgListed_any (t u : ByteArray) (A : Option Addr) (n c : Nat) (w : World) (ht : t.size ≤ 1048576) (hu : u.size ≤ 1048576) :
    Calls Try.prog 32 #[mimV t u A n c] w fun e w' => e = .returned (.bool (listG t u)) ∧ Below w.heap.size w w' := by
  obtain ⟨w0, hw0⟩ : ∃ w0, w0 = w.alloc (.cells #[.string t, .string u, .slice A n c] 24) := ⟨_, rfl⟩
  have HB0 := Lib.hid (show Below w.heap.size w w0 from by rw [hw0]; exact (Below.refl w.heap.size w).alloc (Nat.le_refl _) _)
  have HP0 := Lib.hid (show Blk w0 w.heap.size 24 #[.string t, .string u, .slice A n c] from by rw [hw0]; exact Blk.new _ _ _)
  have c0 := HP0.out.cell 0
  have c1 := HP0.out.cell 1
  have c2 := HP0.out.cell 2
  have HE := Lib.hid (fun W => ressence_any t u A n c W ht hu)
  have HX := Lib.hid (fun W => rgXml_any t u A n c W ht hu)
  have HH := Lib.hid (fun W => rgHtml_any t u A n c W ht hu)
  have HJ := Lib.hid (fun W => rgJson_any t u A n c W ht hu)
  obtain ⟨r, hr⟩ : ∃ r, r = (listG t u) := ⟨_, rfl⟩
  rw [← hr]
  unfold listG at hr
  have hd := listG_doc t u
  unfold listG at hd
  rw [← hd] at hr
  clear hd
  generalize gEss t u = xE at *
  generalize xmlG t u = xX at *
  generalize htmlG t u = xH at *
  generalize jsonG t u = xJ at *
  have HR := Lib.hid hr
  clear hr
  cases d0 : (xE.toList == gSvg) <;> cases xX <;> cases xH <;> cases xJ
  all_goals
    go_enter Try.func32, Try.ntmps32
    go_wp2_with fail
    rw [← hw0]
    clear hw0
    have HB := HB0
    have HP := HP0
    go_wp2_with (first
      | (go_at_call 41; (with_reducible refine (HE.out _).mono ?_); rintro e w1 ⟨rfl, b1⟩; have HB := Lib.hid (below_on HB.out b1); have HP := Lib.hid (HP.out.below b1 HP.out.lt); have c0 := HP.out.cell 0; have c1 := HP.out.cell 1; have c2 := HP.out.cell 2; clear b1)
      | (go_at_call 10; (with_reducible refine (HX.out _).mono ?_); rintro e w1 ⟨rfl, b1⟩; have HB := Lib.hid (below_on HB.out b1); have HP := Lib.hid (HP.out.below b1 HP.out.lt); have c0 := HP.out.cell 0; have c1 := HP.out.cell 1; have c2 := HP.out.cell 2; clear b1)
      | (go_at_call 12; (with_reducible refine (HH.out _).mono ?_); rintro e w1 ⟨rfl, b1⟩; have HB := Lib.hid (below_on HB.out b1); have HP := Lib.hid (HP.out.below b1 HP.out.lt); have c0 := HP.out.cell 0; have c1 := HP.out.cell 1; have c2 := HP.out.cell 2; clear b1)
      | (go_at_call 8; (with_reducible refine (HJ.out _).mono ?_); rintro e w1 ⟨rfl, b1⟩; have HB := Lib.hid (below_on HB.out b1); have HP := Lib.hid (HP.out.below b1 HP.out.lt); have c0 := HP.out.cell 0; have c1 := HP.out.cell 1; have c2 := HP.out.cell 2; clear b1))
    all_goals
      go_ret
      refine ⟨?_, HB.out⟩
      rw [HR.out]
      clear c0 c1 c2
      simp_all

end Go.Proofs.Ytljflkaknhekcaa
