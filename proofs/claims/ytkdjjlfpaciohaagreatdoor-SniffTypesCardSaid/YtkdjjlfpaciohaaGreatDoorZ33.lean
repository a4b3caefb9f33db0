/-
  What the document's functions on groups answer of a type. Condition: the texts are as long as a mebibyte.
-/
import Derived.Test.YtkdjjlfpaciohaaGreatDoorZ32
import Derived.Test.YtkdjjlfpaciohaaGreatDoorZ10
import Derived.Test.YtkdjjlfpaciohaaGreatDoorZ11
namespace Go.Proofs.YtkdjjlfpaciohaaGreatDoor
open Go.RowKit

/-- One of a row of texts that has just been laid. -/
theorem rone_new (x : ByteArray) (L : List (List UInt8)) (n : Nat) (hn : (gTxt L).length = n) (hl : L.length ≤ 1000) (W : World) :
    Calls Tryz.prog 43 #[.string x, .slice (some ⟨W.heap.size, 0, none⟩) n n] (W.alloc (.cells (strs (gTxt L)).toArray 9)) fun e w' => e = .returned (.bool (gIn x L)) ∧ Below W.heap.size W w' := by
  subst hn
  exact (rone_any x L _ _ _ (gRow_new W L) hl).mono fun e w' h => ⟨h.1, below_on ((Below.refl _ _).alloc (Nat.le_refl _) _) h.2⟩

set_option maxHeartbeats 2000000 in
set_option maxRecDepth 100000 in
theorem rgXml_any (t u : ByteArray) (A : Option Addr) (n c : Nat) (w : World) (ht : t.size ≤ 1048576) (hu : u.size ≤ 1048576) :
    Calls Tryz.prog 22 #[mimV t u A n c] w fun e w' => e = .returned (.bool (xmlG t u)) ∧ Below w.heap.size w w' := by
  obtain ⟨w0, hw0⟩ : ∃ w0, w0 = w.alloc (.cells #[.string t, .string u, .slice A n c] 24) := ⟨_, rfl⟩
  have HB0 := Lib.hid (show Below w.heap.size w w0 from by rw [hw0]; exact (Below.refl w.heap.size w).alloc (Nat.le_refl _) _)
  have HP0 := Lib.hid (show Blk w0 w.heap.size 24 #[.string t, .string u, .slice A n c] from by rw [hw0]; exact Blk.new _ _ _)
  have c0 := HP0.out.cell 0
  have c1 := HP0.out.cell 1
  have c2 := HP0.out.cell 2
  have HE := Lib.hid (fun W => ressence_any t u A n c W ht hu)
  have HS := Lib.hid (fun W => rends_any u gXmlE W (by omega) (by decide))
  obtain ⟨r, hr⟩ : ∃ r, r = (xmlG t u) := ⟨_, rfl⟩
  rw [← hr]
  unfold xmlG at hr
  rw [← xmlG_doc] at hr
  generalize gEss t u = xE at *
  generalize gEnd u gXmlE = xS at *
  have HO := Lib.hid (fun W => rone_new xE gXmlD 2 rfl (by decide) W)
  generalize gIn xE gXmlD = xO at *
  have HR := Lib.hid hr
  clear hr
  cases xS <;> cases xO
  all_goals
    go_enter Tryz.func22, Tryz.ntmps22
    go_wp2_with fail
    rw [← hw0]
    clear hw0
    have HB := HB0
    have HP := HP0
    go_wp2_with (first
      | (go_at_call 11; (with_reducible refine (HE.out _).mono ?_); rintro e w1 ⟨rfl, b1⟩; have HB := Lib.hid (below_on HB.out b1); have HP := Lib.hid (HP.out.below b1 HP.out.lt); have c0 := HP.out.cell 0; have c1 := HP.out.cell 1; have c2 := HP.out.cell 2; clear b1)
      | (go_at_call 42; (with_reducible refine (HS.out _).mono ?_); rintro e w1 ⟨rfl, rfl⟩)
      | (go_at_call 43; (refine (HO.out _).mono ?_); rintro e w1 ⟨rfl, b1⟩; have HB := Lib.hid (below_on HB.out b1); have HP := Lib.hid (HP.out.below b1 HP.out.lt); have c0 := HP.out.cell 0; have c1 := HP.out.cell 1; have c2 := HP.out.cell 2; clear b1))
    all_goals
      go_ret
      refine ⟨?_, HB.out⟩
      rw [HR.out]
      clear c0 c1 c2
      simp_all

set_option maxHeartbeats 2000000 in
set_option maxRecDepth 100000 in
theorem rgHtml_any (t u : ByteArray) (A : Option Addr) (n c : Nat) (w : World) (ht : t.size ≤ 1048576) (hu : u.size ≤ 1048576) :
    Calls Tryz.prog 21 #[mimV t u A n c] w fun e w' => e = .returned (.bool (htmlG t u)) ∧ Below w.heap.size w w' := by
  obtain ⟨w0, hw0⟩ : ∃ w0, w0 = w.alloc (.cells #[.string t, .string u, .slice A n c] 24) := ⟨_, rfl⟩
  have HB0 := Lib.hid (show Below w.heap.size w w0 from by rw [hw0]; exact (Below.refl w.heap.size w).alloc (Nat.le_refl _) _)
  have HP0 := Lib.hid (show Blk w0 w.heap.size 24 #[.string t, .string u, .slice A n c] from by rw [hw0]; exact Blk.new _ _ _)
  have c0 := HP0.out.cell 0
  have c1 := HP0.out.cell 1
  have c2 := HP0.out.cell 2
  have HE := Lib.hid (fun W => ressence_any t u A n c W ht hu)
  obtain ⟨r, hr⟩ : ∃ r, r = (htmlG t u) := ⟨_, rfl⟩
  rw [← hr]
  unfold htmlG at hr
  generalize gEss t u = xE at *
  have HR := Lib.hid hr
  clear hr
  cases d0 : (xE.toList == gHtm)
  all_goals
    go_enter Tryz.func21, Tryz.ntmps21
    go_wp2_with fail
    rw [← hw0]
    clear hw0
    have HB := HB0
    have HP := HP0
    go_wp2_with (first
      | (go_at_call 11; (with_reducible refine (HE.out _).mono ?_); rintro e w1 ⟨rfl, b1⟩; have HB := Lib.hid (below_on HB.out b1); have HP := Lib.hid (HP.out.below b1 HP.out.lt); have c0 := HP.out.cell 0; have c1 := HP.out.cell 1; have c2 := HP.out.cell 2; clear b1))
    all_goals
      go_ret
      refine ⟨?_, HB.out⟩
      rw [HR.out]
      clear c0 c1 c2
      simp_all

set_option maxHeartbeats 2000000 in
set_option maxRecDepth 100000 in
theorem rgMedia_any (t u : ByteArray) (A : Option Addr) (n c : Nat) (w : World) (ht : t.size ≤ 1048576) (hu : u.size ≤ 1048576) :
    Calls Tryz.prog 27 #[mimV t u A n c] w fun e w' => e = .returned (.bool (mediaG t u)) ∧ Below w.heap.size w w' := by
  obtain ⟨w0, hw0⟩ : ∃ w0, w0 = w.alloc (.cells #[.string t, .string u, .slice A n c] 24) := ⟨_, rfl⟩
  have HB0 := Lib.hid (show Below w.heap.size w w0 from by rw [hw0]; exact (Below.refl w.heap.size w).alloc (Nat.le_refl _) _)
  have HP0 := Lib.hid (show Blk w0 w.heap.size 24 #[.string t, .string u, .slice A n c] from by rw [hw0]; exact Blk.new _ _ _)
  have c0 := HP0.out.cell 0
  have c1 := HP0.out.cell 1
  have c2 := HP0.out.cell 2
  have HE := Lib.hid (fun W => ressence_any t u A n c W ht hu)
  obtain ⟨r, hr⟩ : ∃ r, r = (mediaG t u) := ⟨_, rfl⟩
  rw [← hr]
  unfold mediaG at hr
  generalize gEss t u = xE at *
  have HR := Lib.hid hr
  clear hr
  cases d0 : (t.toList == gAud) <;> cases d1 : (t.toList == gVid) <;> cases d2 : (xE.toList == gOgg)
  all_goals
    go_enter Tryz.func27, Tryz.ntmps27
    go_wp2_with fail
    rw [← hw0]
    clear hw0
    have HB := HB0
    have HP := HP0
    go_wp2_with (first
      | (go_at_call 11; (with_reducible refine (HE.out _).mono ?_); rintro e w1 ⟨rfl, b1⟩; have HB := Lib.hid (below_on HB.out b1); have HP := Lib.hid (HP.out.below b1 HP.out.lt); have c0 := HP.out.cell 0; have c1 := HP.out.cell 1; have c2 := HP.out.cell 2; clear b1))
    all_goals
      go_ret
      refine ⟨?_, HB.out⟩
      rw [HR.out]
      clear c0 c1 c2
      simp_all

end Go.Proofs.YtkdjjlfpaciohaaGreatDoor
