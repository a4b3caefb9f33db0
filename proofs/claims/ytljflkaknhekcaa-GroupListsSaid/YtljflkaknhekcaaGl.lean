/-
  What lives of layer 12's statements answers, and the laws GroupKinds, GroupMedia and GroupLists. Condition: what an argument's reading gives.
-/
import Derived.Test.YtljflkaknhekcaaGn
import Derived.Test.YtljflkaknhekcaaMs
import Derived.Test.YtljflkaknhekcaaMx
import Derived.Test.YtljflkaknhekcaaKv
namespace Go.Proofs.Ytljflkaknhekcaa
open Go.RowKit

abbrev imgS : ByteArray := ⟨#[105, 109, 97, 103, 101]⟩
abbrev svgS : ByteArray := ⟨#[115, 118, 103, 43, 120, 109, 108]⟩
theorem glive1 : safeG imgS svgS = true := by kernel_rfl
theorem glive2 : xmlG imgS svgS = true := by kernel_rfl
theorem glive3 : listG imgS svgS = false := by kernel_rfl

set_option maxHeartbeats 2000000 in
set_option maxRecDepth 100000 in
theorem lives12_any (w : World) :
    Calls Try.prog 17 #[] w fun e w' => e = .returned (.bool true) ∧ Below w.heap.size w w' := by
  have HS := Lib.hid (fun W => gSafe_any imgS svgS none 0 0 W (by decide) (by decide))
  have HX := Lib.hid (fun W => gXml_any imgS svgS none 0 0 W (by decide) (by decide))
  have HL := Lib.hid (fun W => gListed_any imgS svgS none 0 0 W (by decide) (by decide))
  rw [glive1] at HS
  rw [glive2] at HX
  rw [glive3] at HL
  obtain ⟨w0, hw0⟩ : ∃ w0, w0 = w.alloc (.cells #[.string imgS, .string svgS, .slice none 0 0] 24) := ⟨_, rfl⟩
  have HB := Lib.hid (show Below w.heap.size w w0 from by rw [hw0]; exact (Below.refl w.heap.size w).alloc (Nat.le_refl _) _)
  have HP := Lib.hid (show Blk w0 w.heap.size 24 #[.string imgS, .string svgS, .slice none 0 0] from by rw [hw0]; exact Blk.new _ _ _)
  have c0 := HP.out.cell 0
  have c1 := HP.out.cell 1
  have c2 := HP.out.cell 2
  rw [hw0] at c0 c1 c2
  go_enter Try.func17, Try.ntmps17
  go_upto_region 2 with fail
  rw [← hw0] at c0 c1 c2 ⊢
  clear hw0
  go_wp2_with fail
  refine (HS.out _).mono ?_
  rintro e w1 ⟨rfl, b1⟩
  have HB := Lib.hid (below_on HB.out b1)
  have HP := Lib.hid (HP.out.below b1 HP.out.lt)
  clear b1 c0 c1 c2
  have c0 := HP.out.cell 0
  have c1 := HP.out.cell 1
  have c2 := HP.out.cell 2
  go_wp2_with fail
  refine (HX.out _).mono ?_
  rintro e w2 ⟨rfl, b1⟩
  have HB := Lib.hid (below_on HB.out b1)
  have HP := Lib.hid (HP.out.below b1 HP.out.lt)
  clear b1 c0 c1 c2
  have c0 := HP.out.cell 0
  have c1 := HP.out.cell 1
  have c2 := HP.out.cell 2
  go_wp2_with fail
  refine (HL.out _).mono ?_
  rintro e w3 ⟨rfl, b1⟩
  have HB := Lib.hid (below_on HB.out b1)
  have HP := Lib.hid (HP.out.below b1 HP.out.lt)
  clear b1 c0 c1 c2
  have c0 := HP.out.cell 0
  have c1 := HP.out.cell 1
  have c2 := HP.out.cell 2
  go_wp2
  go_ret
  exact ⟨rfl, HB.out⟩

set_option maxHeartbeats 4000000 in
set_option maxRecDepth 100000 in
theorem groupKinds_any (t u : ByteArray) (A : Option Addr) (n c : Nat) (lp : Nat → Prm) (w : World) (h : Came w A n lp) (ht : t.size ≤ 9223372036854775807) (hu : u.size ≤ 9223372036854775807) (hn : n ≤ 9223372036854775807) :
    Calls Try.prog 3 #[mimV t u A n c] w fun e w' => e = .returned (.bool true) ∧ Below w.heap.size w w' := by
  obtain ⟨w0, hw0⟩ : ∃ w0, w0 = w.alloc (.cells #[.string t, .string u, .slice A n c] 24) := ⟨_, rfl⟩
  have HX0 := Lib.hid (show MimAt w #[.string t, .string u, .slice A n c] w0 from ⟨by rw [hw0]; exact (Below.refl w.heap.size w).alloc (Nat.le_refl _) _, by rw [hw0]; exact Blk.new _ _ _⟩)
  have HF := Lib.hid (few_any t u A n c lp w0 (h.below (by rw [hw0]; exact (Below.refl w.heap.size w).alloc (Nat.le_refl _) _)) ht hu hn)
  have c0 := HX0.out.2.cell 0
  have c1 := HX0.out.2.cell 1
  have c2 := HX0.out.2.cell 2
  have h30 : (cutB t 30).size ≤ 1048576 := Nat.le_trans (cutB_size t 30) (by decide)
  have h31 : (cutB u 30).size ≤ 1048576 := Nat.le_trans (cutB_size u 30) (by decide)
  generalize cutB t 30 = t' at *
  generalize cutB u 30 = u' at *
  generalize min n 6 = n' at *
  have HLV := Lib.hid lives12_any
  clear h ht hu hn
  go_enter Try.func3, Try.ntmps3
  go_wp2_with fail
  rw [← hw0]
  clear hw0
  refine HF.out.mono ?_
  rintro e w1 ⟨A', c', rfl, ho, b1⟩
  have HX1 := Lib.hid (HX0.out.step b1)
  clear ho b1 HF HX0 c0 c1 c2
  have c0 := HX1.out.2.cell 0
  have c1 := HX1.out.2.cell 1
  have c2 := HX1.out.2.cell 2
  have z0 := HX1.out.2.frozen 0
  have z1 := HX1.out.2.frozen 1
  have z2 := HX1.out.2.frozen 2
  obtain ⟨w2, hw2⟩ : ∃ w2, w2 = ((w1.setCell ⟨w.heap.size, 0, none⟩ (.string t')).setCell ⟨w.heap.size, 1, none⟩ (.string u')).setCell ⟨w.heap.size, 2, none⟩ (.slice A' n' c') := ⟨_, rfl⟩
  have HX2 := Lib.hid (show MimAt w #[.string t', .string u', .slice A' n' c'] w2 from ⟨by rw [hw2]; exact (((HX1.out.1.setCell (by exact Nat.le_refl _) _).setCell (by exact Nat.le_refl _) _).setCell (by exact Nat.le_refl _) _), by rw [hw2]; exact ((HX1.out.2.set_ 0 _).set_ 1 _).set_ 2 _⟩)
  go_upto_region 2 with fail
  rw [← hw2]
  clear hw2 HX1 c0 c1 c2 z0 z1 z2
  have f0 : ∀ x : Wld (MimAt w #[.string t', .string u', .slice A' n' c']), x.val.cell? ⟨w.heap.size, 0, none⟩ = some (.string t') := fun x => x.ok.2.cell 0
  have f1 : ∀ x : Wld (MimAt w #[.string t', .string u', .slice A' n' c']), x.val.cell? ⟨w.heap.size, 1, none⟩ = some (.string u') := fun x => x.ok.2.cell 1
  have f2 : ∀ x : Wld (MimAt w #[.string t', .string u', .slice A' n' c']), x.val.cell? ⟨w.heap.size, 2, none⟩ = some (.slice A' n' c') := fun x => x.ok.2.cell 2
  have inst : Nonempty (Wld (MimAt w #[.string t', .string u', .slice A' n' c'])) := ⟨⟨_, HX2.out⟩⟩
  have H0 := Lib.hid (fun W => gJson_any t' u' A' n' c' W h30 h31)
  have H1 := Lib.hid (fun W => rgJson_any t' u' A' n' c' W h30 h31)
  have H2 := Lib.hid (fun W => gXml_any t' u' A' n' c' W h30 h31)
  have H3 := Lib.hid (fun W => rgXml_any t' u' A' n' c' W h30 h31)
  have H4 := Lib.hid (fun W => gHtml_any t' u' A' n' c' W h30 h31)
  have H5 := Lib.hid (fun W => rgHtml_any t' u' A' n' c' W h30 h31)
  have H6 := Lib.hid (fun W => gScript_any t' u' A' n' c' W h30 h31)
  have H7 := Lib.hid (fun W => rgScript_any t' u' A' n' c' W h30 h31)
  have H8 := Lib.hid (fun W => gScriptable_any t' u' A' n' c' W h30 h31)
  have H9 := Lib.hid (fun W => rgScriptable_any t' u' A' n' c' W h30 h31)
  generalize jsonG t' u' = b0 at *
  generalize xmlG t' u' = b1 at *
  generalize htmlG t' u' = b2 at *
  generalize scriptG t' u' = b3 at *
  generalize scrbG t' u' = b4 at *
  refine wp_region_class (MimAt w #[.string t', .string u', .slice A' n' c']) (by kernel_rfl) (by kernel_rfl) HX2.out.drew ?_
  repeat (go_big_quiet_step (first
    | (go_at_call 7; exact Calls.cls (H0.out _) fun _ h => MimAt.next h)
    | (go_at_call 8; exact Calls.cls (H1.out _) fun _ h => MimAt.next h)
    | (go_at_call 9; exact Calls.cls (H2.out _) fun _ h => MimAt.next h)
    | (go_at_call 10; exact Calls.cls (H3.out _) fun _ h => MimAt.next h)
    | (go_at_call 11; exact Calls.cls (H4.out _) fun _ h => MimAt.next h)
    | (go_at_call 12; exact Calls.cls (H5.out _) fun _ h => MimAt.next h)
    | (go_at_call 13; exact Calls.cls (H6.out _) fun _ h => MimAt.next h)
    | (go_at_call 14; exact Calls.cls (H7.out _) fun _ h => MimAt.next h)
    | (go_at_call 15; exact Calls.cls (H8.out _) fun _ h => MimAt.next h)
    | (go_at_call 16; exact Calls.cls (H9.out _) fun _ h => MimAt.next h)
    | (go_at_call 17; exact Calls.cls (HLV.out _) fun _ h => MimAt.next h)))
  refine wpQuiet_nil ?_
  intro w3 hX3
  have HX3 := Lib.hid hX3
  go_wp2
  go_ret
  exact ⟨rfl, HX3.out.1⟩

set_option maxHeartbeats 4000000 in
set_option maxRecDepth 100000 in
theorem groupMedia_any (t u : ByteArray) (A : Option Addr) (n c : Nat) (lp : Nat → Prm) (w : World) (h : Came w A n lp) (ht : t.size ≤ 9223372036854775807) (hu : u.size ≤ 9223372036854775807) (hn : n ≤ 9223372036854775807) :
    Calls Try.prog 4 #[mimV t u A n c] w fun e w' => e = .returned (.bool true) ∧ Below w.heap.size w w' := by
  obtain ⟨w0, hw0⟩ : ∃ w0, w0 = w.alloc (.cells #[.string t, .string u, .slice A n c] 24) := ⟨_, rfl⟩
  have HX0 := Lib.hid (show MimAt w #[.string t, .string u, .slice A n c] w0 from ⟨by rw [hw0]; exact (Below.refl w.heap.size w).alloc (Nat.le_refl _) _, by rw [hw0]; exact Blk.new _ _ _⟩)
  have HF := Lib.hid (few_any t u A n c lp w0 (h.below (by rw [hw0]; exact (Below.refl w.heap.size w).alloc (Nat.le_refl _) _)) ht hu hn)
  have c0 := HX0.out.2.cell 0
  have c1 := HX0.out.2.cell 1
  have c2 := HX0.out.2.cell 2
  have h30 : (cutB t 30).size ≤ 1048576 := Nat.le_trans (cutB_size t 30) (by decide)
  have h31 : (cutB u 30).size ≤ 1048576 := Nat.le_trans (cutB_size u 30) (by decide)
  generalize cutB t 30 = t' at *
  generalize cutB u 30 = u' at *
  generalize min n 6 = n' at *
  have HLV := Lib.hid lives12_any
  clear h ht hu hn
  go_enter Try.func4, Try.ntmps4
  go_wp2_with fail
  rw [← hw0]
  clear hw0
  refine HF.out.mono ?_
  rintro e w1 ⟨A', c', rfl, ho, b1⟩
  have HX1 := Lib.hid (HX0.out.step b1)
  clear ho b1 HF HX0 c0 c1 c2
  have c0 := HX1.out.2.cell 0
  have c1 := HX1.out.2.cell 1
  have c2 := HX1.out.2.cell 2
  have z0 := HX1.out.2.frozen 0
  have z1 := HX1.out.2.frozen 1
  have z2 := HX1.out.2.frozen 2
  obtain ⟨w2, hw2⟩ : ∃ w2, w2 = ((w1.setCell ⟨w.heap.size, 0, none⟩ (.string t')).setCell ⟨w.heap.size, 1, none⟩ (.string u')).setCell ⟨w.heap.size, 2, none⟩ (.slice A' n' c') := ⟨_, rfl⟩
  have HX2 := Lib.hid (show MimAt w #[.string t', .string u', .slice A' n' c'] w2 from ⟨by rw [hw2]; exact (((HX1.out.1.setCell (by exact Nat.le_refl _) _).setCell (by exact Nat.le_refl _) _).setCell (by exact Nat.le_refl _) _), by rw [hw2]; exact ((HX1.out.2.set_ 0 _).set_ 1 _).set_ 2 _⟩)
  go_upto_region 2 with fail
  rw [← hw2]
  clear hw2 HX1 c0 c1 c2 z0 z1 z2
  have f0 : ∀ x : Wld (MimAt w #[.string t', .string u', .slice A' n' c']), x.val.cell? ⟨w.heap.size, 0, none⟩ = some (.string t') := fun x => x.ok.2.cell 0
  have f1 : ∀ x : Wld (MimAt w #[.string t', .string u', .slice A' n' c']), x.val.cell? ⟨w.heap.size, 1, none⟩ = some (.string u') := fun x => x.ok.2.cell 1
  have f2 : ∀ x : Wld (MimAt w #[.string t', .string u', .slice A' n' c']), x.val.cell? ⟨w.heap.size, 2, none⟩ = some (.slice A' n' c') := fun x => x.ok.2.cell 2
  have inst : Nonempty (Wld (MimAt w #[.string t', .string u', .slice A' n' c'])) := ⟨⟨_, HX2.out⟩⟩
  have H0 := Lib.hid (fun W => gImage_any t' u' A' n' c' W h30 h31)
  have H1 := Lib.hid (fun W => gMedia_any t' u' A' n' c' W h30 h31)
  have H2 := Lib.hid (fun W => rgMedia_any t' u' A' n' c' W h30 h31)
  have H3 := Lib.hid (fun W => gFont_any t' u' A' n' c' W h30 h31)
  have H4 := Lib.hid (fun W => rgFont_any t' u' A' n' c' W h30 h31)
  have H5 := Lib.hid (fun W => gZip_any t' u' A' n' c' W h30 h31)
  have H6 := Lib.hid (fun W => rgZip_any t' u' A' n' c' W h30 h31)
  have H7 := Lib.hid (fun W => gArchive_any t' u' A' n' c' W h30 h31)
  have H8 := Lib.hid (fun W => rgArchive_any t' u' A' n' c' W h30 h31)
  obtain ⟨b, hb⟩ : ∃ b, b = imageG t' := ⟨_, rfl⟩
  rw [← hb] at H0
  have d4 : (t'.toList == [105, 109, 97, 103, 101]) = b := hb.symm
  clear hb
  generalize mediaG t' u' = b0 at *
  generalize fontG t' u' = b1 at *
  generalize zipG t' u' = b2 at *
  generalize archG t' u' = b3 at *
  refine wp_region_class (MimAt w #[.string t', .string u', .slice A' n' c']) (by kernel_rfl) (by kernel_rfl) HX2.out.drew ?_
  repeat (go_big_quiet_step (first
    | (go_at_call 18; exact Calls.cls (H0.out _) fun _ h => MimAt.next h)
    | (go_at_call 19; exact Calls.cls (H1.out _) fun _ h => MimAt.next h)
    | (go_at_call 20; exact Calls.cls (H2.out _) fun _ h => MimAt.next h)
    | (go_at_call 21; exact Calls.cls (H3.out _) fun _ h => MimAt.next h)
    | (go_at_call 22; exact Calls.cls (H4.out _) fun _ h => MimAt.next h)
    | (go_at_call 23; exact Calls.cls (H5.out _) fun _ h => MimAt.next h)
    | (go_at_call 24; exact Calls.cls (H6.out _) fun _ h => MimAt.next h)
    | (go_at_call 25; exact Calls.cls (H7.out _) fun _ h => MimAt.next h)
    | (go_at_call 26; exact Calls.cls (H8.out _) fun _ h => MimAt.next h)
    | (go_at_call 17; exact Calls.cls (HLV.out _) fun _ h => MimAt.next h)))
  refine wpQuiet_nil ?_
  intro w3 hX3
  have HX3 := Lib.hid hX3
  go_wp2
  go_ret
  exact ⟨rfl, HX3.out.1⟩

set_option maxHeartbeats 4000000 in
set_option maxRecDepth 100000 in
theorem groupLists_any (t u : ByteArray) (A : Option Addr) (n c : Nat) (lp : Nat → Prm) (w : World) (h : Came w A n lp) (ht : t.size ≤ 9223372036854775807) (hu : u.size ≤ 9223372036854775807) (hn : n ≤ 9223372036854775807) :
    Calls Try.prog 5 #[mimV t u A n c] w fun e w' => e = .returned (.bool true) ∧ Below w.heap.size w w' := by
  obtain ⟨w0, hw0⟩ : ∃ w0, w0 = w.alloc (.cells #[.string t, .string u, .slice A n c] 24) := ⟨_, rfl⟩
  have HX0 := Lib.hid (show MimAt w #[.string t, .string u, .slice A n c] w0 from ⟨by rw [hw0]; exact (Below.refl w.heap.size w).alloc (Nat.le_refl _) _, by rw [hw0]; exact Blk.new _ _ _⟩)
  have HF := Lib.hid (few_any t u A n c lp w0 (h.below (by rw [hw0]; exact (Below.refl w.heap.size w).alloc (Nat.le_refl _) _)) ht hu hn)
  have c0 := HX0.out.2.cell 0
  have c1 := HX0.out.2.cell 1
  have c2 := HX0.out.2.cell 2
  have h30 : (cutB t 30).size ≤ 1048576 := Nat.le_trans (cutB_size t 30) (by decide)
  have h31 : (cutB u 30).size ≤ 1048576 := Nat.le_trans (cutB_size u 30) (by decide)
  generalize cutB t 30 = t' at *
  generalize cutB u 30 = u' at *
  generalize min n 6 = n' at *
  have HLV := Lib.hid lives12_any
  clear h ht hu hn
  go_enter Try.func5, Try.ntmps5
  go_wp2_with fail
  rw [← hw0]
  clear hw0
  refine HF.out.mono ?_
  rintro e w1 ⟨A', c', rfl, ho, b1⟩
  have HX1 := Lib.hid (HX0.out.step b1)
  clear ho b1 HF HX0 c0 c1 c2
  have c0 := HX1.out.2.cell 0
  have c1 := HX1.out.2.cell 1
  have c2 := HX1.out.2.cell 2
  have z0 := HX1.out.2.frozen 0
  have z1 := HX1.out.2.frozen 1
  have z2 := HX1.out.2.frozen 2
  obtain ⟨w2, hw2⟩ : ∃ w2, w2 = ((w1.setCell ⟨w.heap.size, 0, none⟩ (.string t')).setCell ⟨w.heap.size, 1, none⟩ (.string u')).setCell ⟨w.heap.size, 2, none⟩ (.slice A' n' c') := ⟨_, rfl⟩
  have HX2 := Lib.hid (show MimAt w #[.string t', .string u', .slice A' n' c'] w2 from ⟨by rw [hw2]; exact (((HX1.out.1.setCell (by exact Nat.le_refl _) _).setCell (by exact Nat.le_refl _) _).setCell (by exact Nat.le_refl _) _), by rw [hw2]; exact ((HX1.out.2.set_ 0 _).set_ 1 _).set_ 2 _⟩)
  go_upto_region 2 with fail
  rw [← hw2]
  clear hw2 HX1 c0 c1 c2 z0 z1 z2
  have f0 : ∀ x : Wld (MimAt w #[.string t', .string u', .slice A' n' c']), x.val.cell? ⟨w.heap.size, 0, none⟩ = some (.string t') := fun x => x.ok.2.cell 0
  have f1 : ∀ x : Wld (MimAt w #[.string t', .string u', .slice A' n' c']), x.val.cell? ⟨w.heap.size, 1, none⟩ = some (.string u') := fun x => x.ok.2.cell 1
  have f2 : ∀ x : Wld (MimAt w #[.string t', .string u', .slice A' n' c']), x.val.cell? ⟨w.heap.size, 2, none⟩ = some (.slice A' n' c') := fun x => x.ok.2.cell 2
  have inst : Nonempty (Wld (MimAt w #[.string t', .string u', .slice A' n' c'])) := ⟨⟨_, HX2.out⟩⟩
  have H0 := Lib.hid (fun W => gSafe_any t' u' A' n' c' W h30 h31)
  have H1 := Lib.hid (fun W => gListed_any t' u' A' n' c' W h30 h31)
  have H2 := Lib.hid (fun W => rgSafe_any t' u' A' n' c' W h30 h31)
  have H3 := Lib.hid (fun W => gNever_any t' u' A' n' c' W h30 h31)
  have H4 := Lib.hid (fun W => rgNever_any t' u' A' n' c' W h30 h31)
  have H5 := Lib.hid (fun W => rgListed_any t' u' A' n' c' W h30 h31)
  have H6 := Lib.hid (fun W => gHtml_any t' u' A' n' c' W h30 h31)
  have H7 := Lib.hid (fun W => gScriptable_any t' u' A' n' c' W h30 h31)
  have HNP := Lib.hid (fun W => gNames_any t' u' A' n' c' W h30 h31)
  have HNR := Lib.hid (fun W => rgNames_any t' u' A' n' c' W h30 h31)
  have hln : (gPick (gNamed t' u')).length ≤ 1048576 := Nat.le_trans (gPick_len _) (by rw [gNamed_is]; simp only [List.length_cons, List.length_nil]; omega)
  have hsn : safeG t' u' = true → listG t' u' = false := fun h => safe_not h
  have hht : htmlG t' u' = true → listG t' u' = true ∧ scrbG t' u' = true ∧ safeG t' u' = false := fun h => html_all h
  generalize gPick (gNamed t' u') = Z at *
  generalize safeG t' u' = bs at *
  generalize listG t' u' = bl at *
  generalize neverG t' u' = bn at *
  generalize htmlG t' u' = bh at *
  generalize scrbG t' u' = bc at *
  have HLN := Lib.hid hln
  have hway : (bh = true ∧ bl = true ∧ bc = true ∧ bs = false) ∨ (bh = false ∧ bs = true ∧ bl = false) ∨ (bh = false ∧ bs = false) := by
    cases bh
    · cases bs
      · exact .inr (.inr ⟨rfl, rfl⟩)
      · exact .inr (.inl ⟨rfl, rfl, hsn rfl⟩)
    · obtain ⟨h1, h2, h3⟩ := hht rfl
      exact .inl ⟨rfl, h1, h2, h3⟩
  clear hsn hht hln
  go_cut [3, 4] from 7 to 10 (fun s3 s4 wx => s3 = .bool bs ∧ s4 = .bool bl ∧ MimAt w #[.string t', .string u', .slice A' n' c'] wx)
  case first =>
    refine wp_region_class (MimAt w #[.string t', .string u', .slice A' n' c']) (by kernel_rfl) (by kernel_rfl) HX2.out.drew ?_
    repeat (go_big_quiet_step (first
      | (go_at_call 27; exact Calls.cls (H0.out _) fun _ h => MimAt.next h)
      | (go_at_call 28; exact Calls.cls (H1.out _) fun _ h => MimAt.next h)))
    refine wpQuiet_nil ?_
    intro w3 hX3
    go_wp2_with fail
    go_meet
    exact ⟨rfl, rfl, hX3⟩
  case rest =>
    obtain ⟨rfl, rfl, hX3⟩ := hcut
    have HX2 := Lib.hid hX3
    clear hX3
    go_upto_region 3 with fail
    go_cut [45] from 11 to 44 (fun s45 wx => s45 = .bool false ∧ MimAt w #[.string t', .string u', .slice A' n' c'] wx)
    case first =>
      rcases hway with ⟨rfl, rfl, rfl, rfl⟩ | ⟨rfl, rfl, rfl⟩ | ⟨rfl, rfl⟩
      all_goals
        refine wp_region_class (MimAt w #[.string t', .string u', .slice A' n' c']) (by kernel_rfl) (by kernel_rfl) HX2.out.drew ?_
        repeat (go_big_quiet_step (first
          | (go_at_call 27; exact Calls.cls (H0.out _) fun _ h => MimAt.next h)
          | (go_at_call 28; exact Calls.cls (H1.out _) fun _ h => MimAt.next h)
          | (go_at_call 29; exact Calls.cls (H2.out _) fun _ h => MimAt.next h)
          | (go_at_call 30; exact Calls.cls (H3.out _) fun _ h => MimAt.next h)
          | (go_at_call 31; exact Calls.cls (H4.out _) fun _ h => MimAt.next h)
          | (go_at_call 32; exact Calls.cls (H5.out _) fun _ h => MimAt.next h)
          | (go_at_call 11; exact Calls.cls (H6.out _) fun _ h => MimAt.next h)
          | (go_at_call 15; exact Calls.cls (H7.out _) fun _ h => MimAt.next h)))
        refine wpQuiet_nil ?_
        intro w3 hX3
        go_wp2_with fail
        go_meet
        exact ⟨rfl, hX3⟩
    case rest =>
      obtain ⟨rfl, hX3⟩ := hcut
      have HX3 := Lib.hid hX3
      have HB := Lib.hid (Below.refl wc.heap.size wc)
      have c0 := hX3.2.cell 0
      have c1 := hX3.2.cell 1
      have c2 := hX3.2.cell 2
      clear hX3 f0 f1 f2 inst hway
      go_upto_region 5 with fail
      go_region_held3 (fun w' => w'.cell? ⟨w.heap.size, 0, none⟩ = some (.string t') ∧ w'.cell? ⟨w.heap.size, 1, none⟩ = some (.string u') ∧ w'.cell? ⟨w.heap.size, 2, none⟩ = some (.slice A' n' c'))
        (first | go_keep | exact keep_one HX3.out.2 HB.out)
        (first
          | (go_at_call 34; (with_reducible refine (HNP.out _).mono ?_); rintro e w3 ⟨v3, rfl, ho3, b3⟩
             obtain ⟨A3, c3, rfl, hp3, _⟩ := TxIn.of_own ho3
             have HT3 := Lib.hid hp3
             have HB := Lib.hid (below_on (w := _) (by first | exact HB.out | exact HB.out.drew) b3)
             clear ho3 hp3 b3)
          | (go_at_call 35; (with_reducible refine (HNR.out _).mono ?_); rintro e w4 ⟨v4, rfl, ho4, b4⟩
             obtain ⟨A4, c4, rfl, hp4, _⟩ := TxIn.of_own ho4
             have HT4 := Lib.hid hp4
             have HT3 := Lib.hid (HT3.out.below b4)
             have HB := Lib.hid (below_on HB.out b4)
             clear ho4 hp4 b4)
          | (go_at_call 33; (with_reducible refine (rsame4_any _ _ _ _ Z _ HT3.out HT4.out HLN.out).mono ?_); rintro e w5 ⟨rfl, b5⟩
             have HB := Lib.hid (below_on HB.out b5)
             clear b5)
          | (go_at_call 17; (with_reducible refine (HLV.out _).mono ?_); rintro e w6 ⟨rfl, b6⟩
             have HB := Lib.hid (below_on HB.out b6)
             clear b6))
      all_goals
        go_wp2
        go_ret
        exact ⟨rfl, below_on HX3.out.1 HB.out⟩

end Go.Proofs.Ytljflkaknhekcaa
