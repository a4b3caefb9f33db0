/-
  The law UnknownTags. Condition: lengths as they can be.
-/
import Derived.Test.YtjaockmbnjflaaaGreatDoorZ28
import Derived.Test.YtjaockmbnjflaaaGreatDoorZ29
namespace Go.Proofs.YtjaockmbnjflaaaGreatDoor
open Go.RowKit

set_option maxHeartbeats 4000000 in
set_option maxRecDepth 100000 in
theorem unknownTags_any (b : UInt8) (s : ByteArray) (w : World) (hs : s.size ≤ 9223372036854775807) :
    Calls Tryz.prog 6 #[.int .u8 (b.toNat : Int), .string s] w fun e w' => e = .returned (.bool true) ∧ Below w.heap.size w w' := by
  have HCS : Hid (∀ W, Calls Tryz.prog 7 #[.string s, .int .i64 50] W fun e w' => e = .returned (.string (cutB s 50)) ∧ W = w') := Lib.hid fun W => cut_any s 50 W hs
  have hy := cutB_size s 50
  generalize cutB s 50 = y at *
  have hb := b.toNat_lt
  obtain ⟨k, hk0⟩ : ∃ k, k = b.toNat % 16 := ⟨_, rfl⟩
  have hk : k < tagsL.length := by rw [hk0]; exact Nat.mod_lt _ (by decide)
  have hki : ((b.toNat : Int) % 16) = (k : Int) := by omega
  have hkt : ((b.toNat : Int).tmod 16) = (k : Int) := by rw [Int.tmod_eq_emod_of_nonneg (by omega)]; exact hki
  have hk16 : k < 16 := hk
  obtain ⟨t, ht⟩ : ∃ t, t = tagsL[k] := ⟨_, rfl⟩
  have hm : t ∈ tagsL := by rw [ht]; exact List.getElem_mem _
  have h13 := tags_few t hm
  have hz1 : (⟨#[60]⟩ ++ t : ByteArray).size = 1 + t.size := by rw [ByteArray.size_append]; rfl
  have hz2 : (⟨#[32, 10]⟩ ++ (⟨#[60]⟩ ++ t) : ByteArray).size = 3 + t.size := by rw [ByteArray.size_append, hz1]; show 2 + (1 + t.size) = _; omega
  have hz3 : ((⟨#[32, 10]⟩ ++ (⟨#[60]⟩ ++ t)) ++ ⟨#[62]⟩ : ByteArray).size = 4 + t.size := by rw [ByteArray.size_append, hz2]; show 3 + t.size + 1 = _; omega
  have hz4 : (((⟨#[32, 10]⟩ ++ (⟨#[60]⟩ ++ t)) ++ ⟨#[62]⟩) ++ y : ByteArray).size = 4 + t.size + y.size := by rw [ByteArray.size_append, hz3]
  have hz5 : ((⟨#[60]⟩ ++ t) ++ ⟨#[32]⟩ : ByteArray).size = 2 + t.size := by rw [ByteArray.size_append, hz1]; show 1 + t.size + 1 = _; omega
  have H1 : Hid (∀ W, Calls Tryz.prog 11 #[.string (((⟨#[32, 10]⟩ ++ (⟨#[60]⟩ ++ t)) ++ ⟨#[62]⟩) ++ y)] W fun e w' => e = .returned (.bool true) ∧ Below W.heap.size W w') := Lib.hid (fun W => by
    have := uhtml_any (((⟨#[32, 10]⟩ ++ (⟨#[60]⟩ ++ t)) ++ ⟨#[62]⟩) ++ y) W (by omega)
    rwa [show htmB (((⟨#[32, 10]⟩ ++ (⟨#[60]⟩ ++ t)) ++ ⟨#[62]⟩) ++ y) = true from tag_behind hm y] at this)
  have H2 : Hid (∀ W, Calls Tryz.prog 11 #[.string ((⟨#[60]⟩ ++ t) ++ ⟨#[32]⟩)] W fun e w' => e = .returned (.bool true) ∧ Below W.heap.size W w') := Lib.hid (fun W => by
    have := uhtml_any ((⟨#[60]⟩ ++ t) ++ ⟨#[32]⟩) W (by omega)
    rwa [show htmB ((⟨#[60]⟩ ++ t) ++ ⟨#[32]⟩) = true from tag_blank hm] at this)
  have H3 : Hid (∀ W, Calls Tryz.prog 11 #[.string (⟨#[60]⟩ ++ t)] W fun e w' => e = .returned (.bool false) ∧ Below W.heap.size W w') := Lib.hid (fun W => by
    have := uhtml_any (⟨#[60]⟩ ++ t) W (by omega)
    rwa [show htmB (⟨#[60]⟩ ++ t) = false from tag_bare hm] at this)
  have HSM : Hid (∀ W g h, TagsIn W g → TagsIn W h → Calls Tryz.prog 19 #[.slice (some ⟨g, 0, none⟩) 16 16, .slice (some ⟨h, 0, none⟩) 16 16] W fun e w' => e = .returned (.bool true) ∧ Below W.heap.size W w') := Lib.hid (fun W g h h1 h2 => rsame4_any (some ⟨g, 0, none⟩) (some ⟨h, 0, none⟩) 16 16 tagsL W h1.txts h2.txts (by decide))
  have HSG : Hid (∀ W g h, PatsIn W g sgnP 4 → PatsIn W h sgnP 4 → Calls Tryz.prog 21 #[.slice (some ⟨g, 0, none⟩) 4 4, .slice (some ⟨h, 0, none⟩) 4 4] W fun e w' => e = .returned (.bool true) ∧ Below W.heap.size W w') := Lib.hid (fun W g h h1 h2 => rSame_any g 4 h 4 4 sgnP W h1 h2 (by decide))
  have HLV := Lib.hid lives20_any
  have HB := Lib.hid (Below.refl w.heap.size w)
  have HTK := Lib.hid ht
  clear hs hk0 hz1 hz2 hz3 hz4 hz5 ht
  go_enter Tryz.func6, Tryz.ntmps6
  go_wp2_with (first
    | (go_at_call 18; refine (utags_any _).mono ?_; rintro e w1 ⟨g, rfl, hg, hp, b1⟩; have HB := Lib.hid (HB.out.trans (b1.mono HB.out.size)); (try have HTA := Lib.hid (HTA.out.below b1)); (try have HTB := Lib.hid (HTB.out.below b1)); (try have HSA := Lib.hid (HSA.out.below b1 HSA.out.1 (Nat.le_refl _))); have HTA := Lib.hid hp; clear b1 hp hg)
    | (go_at_call 20; refine (rtags_any _).mono ?_; rintro e w1 ⟨g, rfl, hg, hp, b1⟩; have HB := Lib.hid (HB.out.trans (b1.mono HB.out.size)); (try have HTA := Lib.hid (HTA.out.below b1)); (try have HTB := Lib.hid (HTB.out.below b1)); (try have HSA := Lib.hid (HSA.out.below b1 HSA.out.1 (Nat.le_refl _))); have HTB := Lib.hid hp; have c0 := (hp.2 k hk).trans (congrArg (fun z => some (Value.string z)) HTK.out.symm); clear b1 hp hg)
    | (go_at_call 19; (with_reducible refine (HSM.out _ _ _ HTA.out HTB.out).mono ?_); rintro e w1 ⟨rfl, b1⟩; have HB := Lib.hid (HB.out.trans (b1.mono HB.out.size)); clear b1; clear HTA HTB)
    | (go_at_call 22; refine (usigns_any _).mono ?_; rintro e w1 ⟨g, rfl, hg, hp, b1⟩; have HB := Lib.hid (HB.out.trans (b1.mono HB.out.size)); have HSA := Lib.hid hp; clear b1 hp hg)
    | (go_at_call 23; refine (rsigns_any _).mono ?_; rintro e w1 ⟨g, rfl, hg, hp, b1⟩; have HB := Lib.hid (HB.out.trans (b1.mono HB.out.size)); (try have HTA := Lib.hid (HTA.out.below b1)); (try have HTB := Lib.hid (HTB.out.below b1)); (try have HSA := Lib.hid (HSA.out.below b1 HSA.out.1 (Nat.le_refl _))); have HSB := Lib.hid hp; clear b1 hp hg)
    | (go_at_call 21; (with_reducible refine (HSG.out _ _ _ HSA.out HSB.out).mono ?_); rintro e w1 ⟨rfl, b1⟩; have HB := Lib.hid (HB.out.trans (b1.mono HB.out.size)); clear b1; clear HSA HSB)
    | (go_at_call 7; (with_reducible refine (HCS.out _).mono ?_); rintro e w1 ⟨rfl, rfl⟩)
    | (go_at_call 11; (with_reducible refine (H1.out _).mono ?_); rintro e w1 ⟨rfl, b1⟩; have HB := Lib.hid (HB.out.trans (b1.mono HB.out.size)); clear b1)
    | (go_at_call 11; (with_reducible refine (H2.out _).mono ?_); rintro e w1 ⟨rfl, b1⟩; have HB := Lib.hid (HB.out.trans (b1.mono HB.out.size)); clear b1)
    | (go_at_call 11; (with_reducible refine (H3.out _).mono ?_); rintro e w1 ⟨rfl, b1⟩; have HB := Lib.hid (HB.out.trans (b1.mono HB.out.size)); clear b1)
    | (go_at_call 10; (with_reducible refine (HLV.out _).mono ?_); rintro e w1 ⟨rfl, b1⟩; have HB := Lib.hid (HB.out.trans (b1.mono HB.out.size)); clear b1))
  go_ret
  exact ⟨rfl, HB.out⟩

end Go.Proofs.YtjaockmbnjflaaaGreatDoor
