/-
  What the document's Good, Same and Serial of layer 10 answer of types. Conditions: texts are as long as a mebibyte, and parameters as many.
  The law MimeWrites returns true of any two types. Condition: texts are as long as a length can be; what an argument's reading gives.
  What is said of a body, somewhat cut, and what lives of layer 21's statements answers. Condition: what an argument's reading gives.
-/
import Derived.Test.YtkdjjlfpaciohaaGreatDoorZ10
import Derived.Test.YtkdjjlfpaciohaaGreatDoorZ2
import Derived.Test.YtkdjjlfpaciohaaGreatDoorZ14
import Derived.Test.YtkdjjlfpaciohaaGreatDoorZ11
import Derived.Test.YtkdjjlfpaciohaaGreatDoorRows
import Derived.WalkKit
import Derived.WalkSpells
import Derived.WalkLawsBesides
import Derived.Laws.IdiomStrings
import Derived.LoopTactic
import Derived.Lib.Hide
import Derived.Outline
import Derived.RegionTactic
import Derived.Deep.DeepCutAuto
import Derived.Test.YtkdjjlfpaciohaaGreatDoorZ34
namespace Go.Proofs.YtkdjjlfpaciohaaGreatDoor
open Go.RowKit

/-- The worlds in which a type lies in the block that came first. -/
def MimAt (w : World) (cs : Array Value) (W : World) : Prop := Below w.heap.size w W ∧ Blk W w.heap.size 24 cs
theorem MimAt.drew {w W : World} {cs : Array Value} (h : MimAt w cs W) : MimAt w cs W.drew := ⟨h.1.drew, h.2⟩
theorem MimAt.step {w W W' : World} {cs : Array Value} (h : MimAt w cs W) (hb : Below W.heap.size W W') : MimAt w cs W' := ⟨below_on h.1 hb, h.2.below hb h.2.lt⟩
theorem MimAt.next {w : World} {cs : Array Value} {x : Wld (MimAt w cs)} {W' : World} (hb : Below x.val.heap.size x.val W') : MimAt w cs W' := x.ok.step hb
theorem MimAt.same {w : World} {cs : Array Value} {x : Wld (MimAt w cs)} {W' : World} (hb : x.val = W') : MimAt w cs W' := hb ▸ x.ok

end Go.Proofs.YtkdjjlfpaciohaaGreatDoor
namespace Go.Proofs.YtkdjjlfpaciohaaGreatDoor
open Go.RowKit

/-- What Few leaves of a type. -/
structure FewIs (t u : ByteArray) (ps : List Prm) : Prop where
  t : t.size ≤ 30
  u : u.size ≤ 30
  n : ps.length ≤ 6
  all : ∀ p ∈ ps, p.n.size ≤ 20 ∧ p.v.size ≤ 30
theorem fewIs (t u : ByteArray) (lp : Nat → Prm) (n : Nat) : FewIs (cutB t 30) (cutB u 30) (fewK lp (min n 6)) :=
  ⟨cutB_size _ _, cutB_size _ _, by rw [fewK_len]; omega, fewK_all lp _⟩
theorem few_first (t u : ByteArray) (A : Option Addr) (n c : Nat) (lp : Nat → Prm) (W : World) (h : Came W A n lp) (ht : t.size ≤ 9223372036854775807) (hu : u.size ≤ 9223372036854775807) (hn : n ≤ 9223372036854775807) :
    Calls Tryz.prog 23 #[mimV t u A n c] W fun e w' => ∃ A' c', e = .returned (mimV (cutB t 30) (cutB u 30) A' (fewK lp (min n 6)).length c') ∧ w'.ownsRow W.heap.size 47 2 (.slice A' (fewK lp (min n 6)).length c') (fewK lp (min n 6)).length (prmL (fewK lp (min n 6))) ∧ Below W.heap.size W w' := by
  have h1 := few_any t u A n c lp W h ht hu hn
  rw [fewK_len]
  exact h1

end Go.Proofs.YtkdjjlfpaciohaaGreatDoor
namespace Go.Proofs.YtkdjjlfpaciohaaGreatDoor
open Go.RowKit

theorem below_set6 {w W : World} {g : Nat} (h : Below w.heap.size w W) (hg : w.heap.size ≤ g) (v0 v1 v2 v3 v4 v5 : Value) :
    Below w.heap.size w ((((((W.setCell ⟨g, 0, none⟩ v0).setCell ⟨g, 1, none⟩ v1).setCell ⟨g, 2, none⟩ v2).setCell ⟨g, 3, none⟩ v3).setCell ⟨g, 4, none⟩ v4).setCell ⟨g, 5, none⟩ v5) :=
  (((((h.setCell hg _).setCell hg _).setCell hg _).setCell hg _).setCell hg _).setCell hg _
/-- Six cells of a block written anew. -/
theorem Blk.set6 {W : World} {g : Nat} {t : TypeId} {u0 u1 u2 u3 u4 u5 : Value} (h : Blk W g t #[u0, u1, u2, u3, u4, u5]) (v0 v1 v2 v3 v4 v5 : Value) :
    Blk ((((((W.setCell ⟨g, 0, none⟩ v0).setCell ⟨g, 1, none⟩ v1).setCell ⟨g, 2, none⟩ v2).setCell ⟨g, 3, none⟩ v3).setCell ⟨g, 4, none⟩ v4).setCell ⟨g, 5, none⟩ v5) g t #[v0, v1, v2, v3, v4, v5] :=
  (((((h.set_ 0 v0).set_ 1 v1).set_ 2 v2).set_ 3 v3).set_ 4 v4).set_ 5 v5
set_option maxHeartbeats 2000000 in
set_option maxRecDepth 100000 in
theorem few21_of (t u t' u' : ByteArray) (A : Option Addr) (n c : Nat) (ps : List Prm) (has ns bug : Bool) (w : World)
    (HF : Hid (∀ W, Below w.heap.size w W → Calls Tryz.prog 23 #[mimV t u A n c] W fun e w' => ∃ A' c', e = .returned (mimV t' u' A' ps.length c') ∧ w'.ownsRow W.heap.size 47 2 (.slice A' ps.length c') ps.length (prmL ps) ∧ Below W.heap.size W w')) :
    Calls Tryz.prog 6 #[saidV t u A n c has ns bug] w fun e w' => ∃ A' c', e = .returned (saidV t' u' A' ps.length c' has ns bug) ∧ w'.ownsRow w.heap.size 47 2 (.slice A' ps.length c') ps.length (prmL ps) ∧ Below w.heap.size w w' := by
  obtain ⟨w0, hw0⟩ : ∃ w0, w0 = (w.alloc (.cells #[.string t, .string u, .slice A n c, .bool has, .bool ns, .bool bug] 26)).alloc (.cells #[.string ⟨#[]⟩, .string ⟨#[]⟩, .slice none 0 0, .bool false, .bool false, .bool false] 26) := ⟨_, rfl⟩
  have HB := Lib.hid (show Below w.heap.size w w0 from by rw [hw0]; exact ((Below.refl w.heap.size w).alloc (Nat.le_refl _) _).alloc (by simp) _)
  have HP := Lib.hid (show Blk w0 w.heap.size 26 #[.string t, .string u, .slice A n c, .bool has, .bool ns, .bool bug] from by rw [hw0]; exact (Blk.new _ _ _).alloc _)
  have HR := Lib.hid (show Blk w0 (w.heap.size + 1) 26 #[.string ⟨#[]⟩, .string ⟨#[]⟩, .slice none 0 0, .bool false, .bool false, .bool false] from by
    have := Blk.new (w.alloc (.cells #[.string t, .string u, .slice A n c, .bool has, .bool ns, .bool bug] 26)) 26 #[.string ⟨#[]⟩, .string ⟨#[]⟩, .slice none 0 0, .bool false, .bool false, .bool false]
    rw [hw0]
    simpa using this)
  have c0 := HP.out.cell 0
  have c1 := HP.out.cell 1
  have c2 := HP.out.cell 2
  have c3 := HP.out.cell 3
  have c4 := HP.out.cell 4
  have c5 := HP.out.cell 5
  go_enter Tryz.func6, Tryz.ntmps6
  go_wp2_with fail
  rw [← hw0]
  clear hw0
  have hlt : w.heap.size + 1 < w0.heap.size := HR.out.lt
  refine (HF.out _ HB.out).mono ?_
  rintro e W1 ⟨A', c', rfl, ho, b1⟩
  have HO := Lib.hid ho
  have HP := Lib.hid (HP.out.below b1 HP.out.lt)
  have HR := Lib.hid (HR.out.below b1 HR.out.lt)
  have HB := Lib.hid (below_on HB.out b1)
  clear b1 ho c0 c1 c2 c3 c4 c5 HF
  have c0 := HP.out.cell 0
  have c1 := HP.out.cell 1
  have c2 := HP.out.cell 2
  have c3 := HP.out.cell 3
  have c4 := HP.out.cell 4
  have c5 := HP.out.cell 5
  have z0 := HP.out.frozen 0
  have z1 := HP.out.frozen 1
  have z2 := HP.out.frozen 2
  obtain ⟨W2, hW2⟩ : ∃ W2, W2 = (((W1.setCell ⟨w.heap.size, 0, none⟩ (.string t')).setCell ⟨w.heap.size, 1, none⟩ (.string u')).setCell ⟨w.heap.size, 2, none⟩ (.slice A' ps.length c')) := ⟨_, rfl⟩
  have hm1 : Mv W1.heap.size [w.heap.size] W1 (((W1.setCell ⟨w.heap.size, 0, none⟩ (.string t')).setCell ⟨w.heap.size, 1, none⟩ (.string u')).setCell ⟨w.heap.size, 2, none⟩ (.slice A' ps.length c')) := (((Mv.refl _ _ _).setCell (.inl (by simp)) _).setCell (.inl (by simp)) _).setCell (.inl (by simp)) _
  rw [← hW2] at hm1
  have HP2 := Lib.hid (show Blk W2 w.heap.size 26 #[.string t', .string u', .slice A' ps.length c', .bool has, .bool ns, .bool bug] from by rw [hW2]; exact ((HP.out.set_ 0 _).set_ 1 _).set_ 2 _)
  have HR2 := Lib.hid (show Blk W2 (w.heap.size + 1) 26 #[.string ⟨#[]⟩, .string ⟨#[]⟩, .slice none 0 0, .bool false, .bool false, .bool false] from by
    rw [hW2]
    exact ((HR.out.far (by show w.heap.size + 1 ≠ w.heap.size; omega) _).far (by show w.heap.size + 1 ≠ w.heap.size; omega) _).far (by show w.heap.size + 1 ≠ w.heap.size; omega) _)
  have HB2 := Lib.hid (show Below w.heap.size w W2 from by rw [hW2]; exact (((HB.out.setCell (by exact Nat.le_refl _) _).setCell (by exact Nat.le_refl _) _).setCell (by exact Nat.le_refl _) _))
  go_upto_region 2 with fail
  rw [← hW2]
  have HM := Lib.hid hm1
  clear hW2 c0 c1 c2 c3 c4 c5 z0 z1 z2 HP HR HB hm1
  have c0 := HP2.out.cell 0
  have c1 := HP2.out.cell 1
  have c2 := HP2.out.cell 2
  have c3 := HP2.out.cell 3
  have c4 := HP2.out.cell 4
  have c5 := HP2.out.cell 5
  have d0 := HR2.out.cell 0
  have d1 := HR2.out.cell 1
  have d2 := HR2.out.cell 2
  have d3 := HR2.out.cell 3
  have d4 := HR2.out.cell 4
  have d5 := HR2.out.cell 5
  have z0 := HR2.out.frozen 0
  have z1 := HR2.out.frozen 1
  have z2 := HR2.out.frozen 2
  have z3 := HR2.out.frozen 3
  have z4 := HR2.out.frozen 4
  have z5 := HR2.out.frozen 5
  have HS := Lib.hid (HR2.out.set6 (.string t') (.string u') (.slice A' ps.length c') (.bool has) (.bool ns) (.bool bug))
  go_wp2
  have hm : Mv W2.heap.size [w.heap.size + 1] W2 ((((((W2.setCell ⟨w.heap.size + 1, 0, none⟩ (.string t')).setCell ⟨w.heap.size + 1, 1, none⟩ (.string u')).setCell ⟨w.heap.size + 1, 2, none⟩ (.slice A' ps.length c')).setCell ⟨w.heap.size + 1, 3, none⟩ (.bool has)).setCell ⟨w.heap.size + 1, 4, none⟩ (.bool ns)).setCell ⟨w.heap.size + 1, 5, none⟩ (.bool bug)) := ((((((Mv.refl _ _ _).setCell (.inl (by simp)) _).setCell (.inl (by simp)) _).setCell (.inl (by simp)) _).setCell (.inl (by simp)) _).setCell (.inl (by simp)) _).setCell (.inl (by simp)) _
  have hb := below_set6 HB2.out (show w.heap.size ≤ w.heap.size + 1 by omega) (.string t') (.string u') (.slice A' ps.length c') (.bool has) (.bool ns) (.bool bug)
  have hs := HS.out
  generalize ((((((W2.setCell ⟨w.heap.size + 1, 0, none⟩ (.string t')).setCell ⟨w.heap.size + 1, 1, none⟩ (.string u')).setCell ⟨w.heap.size + 1, 2, none⟩ (.slice A' ps.length c')).setCell ⟨w.heap.size + 1, 3, none⟩ (.bool has)).setCell ⟨w.heap.size + 1, 4, none⟩ (.bool ns)).setCell ⟨w.heap.size + 1, 5, none⟩ (.bool bug)) = W3 at *
  have r0 := hs.cell 0
  have r1 := hs.cell 1
  have r2 := hs.cell 2
  have r3 := hs.cell 3
  have r4 := hs.cell 4
  have r5 := hs.cell 5
  refine bodyPost_ret (v := saidV t' u' A' ps.length c' has ns bug) (by simp [results, Tryz.results6, go_sem, r0, r1, r2, r3, r4, r5]; done) rfl ?_
  exact ⟨A', c', rfl, own_base (own_keep (own_keep HO.out HM.out (fun x hx => by simp at hx; omega)) hm (fun x hx => by simp at hx; omega)) (by omega), hb⟩
theorem few21_first (t u : ByteArray) (A : Option Addr) (n c : Nat) (lp : Nat → Prm) (has ns bug : Bool) (w : World) (h : Came w A n lp) (ht : t.size ≤ 9223372036854775807) (hu : u.size ≤ 9223372036854775807) (hn : n ≤ 9223372036854775807) :
    Calls Tryz.prog 6 #[saidV t u A n c has ns bug] w fun e w' => ∃ A' c', e = .returned (saidV (cutB t 30) (cutB u 30) A' (fewK lp (min n 6)).length c' has ns bug) ∧ w'.ownsRow w.heap.size 47 2 (.slice A' (fewK lp (min n 6)).length c') (fewK lp (min n 6)).length (prmL (fewK lp (min n 6))) ∧ Below w.heap.size w w' :=
  few21_of t u _ _ A n c (fewK lp (min n 6)) has ns bug w (Lib.hid fun W hb => few_first t u A n c lp W (h.below hb) ht hu hn)
theorem few21_again {t u : ByteArray} {ps : List Prm} (h : FewIs t u ps) (A : Option Addr) (c : Nat) (has ns bug : Bool) (w : World) (hp : PsIn w A ps) :
    Calls Tryz.prog 6 #[saidV t u A ps.length c has ns bug] w fun e w' => ∃ A' c', e = .returned (saidV t u A' ps.length c' has ns bug) ∧ w'.ownsRow w.heap.size 47 2 (.slice A' ps.length c') ps.length (prmL ps) ∧ Below w.heap.size w w' := by
  refine few21_of t u t u A ps.length c ps has ns bug w (Lib.hid fun W hb => ?_)
  have hp := hp.below hb
  have h1 := few_any t u A ps.length c (fun i => ps.getD i ⟨⟨#[]⟩, ⟨#[]⟩⟩) W (Came.of_ps hp (fun p hp => by have := h.all p hp; omega) _) (by have := h.t; omega) (by have := h.u; omega) (by have := h.n; omega)
  rw [cutB_id h.t, cutB_id h.u, show min ps.length 6 = ps.length from by have := h.n; omega, fewK_id h.all] at h1
  exact h1

abbrev imgT : ByteArray := ⟨#[105, 109, 97, 103, 101]⟩
abbrev pngT : ByteArray := ⟨#[112, 110, 103]⟩
abbrev gifY : ByteArray := ⟨#[105, 109, 97, 103, 101, 47, 103, 105, 102]⟩
theorem gif_signs : Sgs ⟨#[71, 73, 70, 56, 57, 97]⟩ (-1) 4 (-1) (-1) := by
  refine ⟨?_, ?_, ?_, ?_⟩
  · exact .inl ⟨rfl, fun j hj => by
      have := List.all_eq_true.1 (show (List.range 4).all (fun j => !matP ⟨#[71, 73, 70, 56, 57, 97]⟩ (sgnP j)) = true from by kernel_rfl) j (List.mem_range.2 hj)
      simpa using this⟩
  · exact .inr ⟨4, by decide, rfl, by kernel_rfl, fun j hj => by
      have := List.all_eq_true.1 (show (List.range 4).all (fun j => !matP ⟨#[71, 73, 70, 56, 57, 97]⟩ (imgP j)) = true from by kernel_rfl) j (List.mem_range.2 hj)
      simpa using this⟩
  · exact .inl ⟨rfl, fun j hj => by
      have := List.all_eq_true.1 (show (List.range 6).all (fun j => !matP ⟨#[71, 73, 70, 56, 57, 97]⟩ (medP j)) = true from by kernel_rfl) j (List.mem_range.2 hj)
      simpa using this⟩
  · exact .inl ⟨rfl, fun j hj => by
      have := List.all_eq_true.1 (show (List.range 3).all (fun j => !matP ⟨#[71, 73, 70, 56, 57, 97]⟩ (arcP j)) = true from by kernel_rfl) j (List.mem_range.2 hj)
      simpa using this⟩
theorem ex_signs : Sgs ⟨#[120]⟩ (-1) (-1) (-1) (-1) := by
  refine ⟨?_, ?_, ?_, ?_⟩
  · exact .inl ⟨rfl, fun j hj => by
      have := List.all_eq_true.1 (show (List.range 4).all (fun j => !matP ⟨#[120]⟩ (sgnP j)) = true from by kernel_rfl) j (List.mem_range.2 hj)
      simpa using this⟩
  · exact .inl ⟨rfl, fun j hj => by
      have := List.all_eq_true.1 (show (List.range 8).all (fun j => !matP ⟨#[120]⟩ (imgP j)) = true from by kernel_rfl) j (List.mem_range.2 hj)
      simpa using this⟩
  · exact .inl ⟨rfl, fun j hj => by
      have := List.all_eq_true.1 (show (List.range 6).all (fun j => !matP ⟨#[120]⟩ (medP j)) = true from by kernel_rfl) j (List.mem_range.2 hj)
      simpa using this⟩
  · exact .inl ⟨rfl, fun j hj => by
      have := List.all_eq_true.1 (show (List.range 3).all (fun j => !matP ⟨#[120]⟩ (arcP j)) = true from by kernel_rfl) j (List.mem_range.2 hj)
      simpa using this⟩
theorem gif_type : sniS imgT pngT true false false ⟨#[71, 73, 70, 56, 57, 97]⟩ (-1) 4 (-1) (-1) = gifY := by kernel_rfl
theorem gif_agrees : ((sniS imgT pngT true false false ⟨#[71, 73, 70, 56, 57, 97]⟩ (-1) 4 (-1) (-1)).toList == (gEss imgT pngT).toList) = false := by kernel_rfl
theorem ex_agrees : ((sniS imgT pngT true false false ⟨#[120]⟩ (-1) (-1) (-1) (-1)).toList == (gEss imgT pngT).toList) = true := by kernel_rfl

set_option maxHeartbeats 2000000 in
set_option maxRecDepth 100000 in
theorem lives21_any (w : World) :
    Calls Tryz.prog 14 #[] w fun e w' => e = .returned (.bool true) ∧ Below w.heap.size w w' := by
  have H1 := Lib.hid (fun W => stype21_any imgT pngT none 0 0 true false false ⟨#[71, 73, 70, 56, 57, 97]⟩ ⟨#[71, 73, 70, 56, 57, 97]⟩ (-1) 4 (-1) (-1) W (by decide) (by decide) (by decide) (by kernel_rfl) gif_signs)
  have H2 := Lib.hid (fun W => sagrees_any imgT pngT none 0 0 true false false ⟨#[71, 73, 70, 56, 57, 97]⟩ ⟨#[71, 73, 70, 56, 57, 97]⟩ (-1) 4 (-1) (-1) W (by decide) (by decide) (by decide) (by kernel_rfl) gif_signs)
  have H3 := Lib.hid (fun W => sagrees_any imgT pngT none 0 0 true false false ⟨#[120]⟩ ⟨#[120]⟩ (-1) (-1) (-1) (-1) W (by decide) (by decide) (by decide) (by kernel_rfl) ex_signs)
  rw [gif_type] at H1
  rw [gif_agrees] at H2
  rw [ex_agrees] at H3
  obtain ⟨w0, hw0⟩ : ∃ w0, w0 = w.alloc (.cells #[.string imgT, .string pngT, .slice none 0 0, .bool true, .bool false, .bool false] 26) := ⟨_, rfl⟩
  have HX := Lib.hid (show SaiAt w #[.string imgT, .string pngT, .slice none 0 0, .bool true, .bool false, .bool false] w0 from ⟨by rw [hw0]; exact (Below.refl w.heap.size w).alloc (Nat.le_refl _) _, by rw [hw0]; exact Blk.new _ _ _⟩)
  have c0 := HX.out.2.cell 0
  have c1 := HX.out.2.cell 1
  have c2 := HX.out.2.cell 2
  have c3 := HX.out.2.cell 3
  have c4 := HX.out.2.cell 4
  have c5 := HX.out.2.cell 5
  go_enter Tryz.func14, Tryz.ntmps14
  go_upto_region 2 with fail
  rw [← hw0]
  clear hw0
  go_wp2_with (first
    | (go_at_call 9; (with_reducible refine (H1.out _).mono ?_); rintro e w1 ⟨rfl, b1⟩; have HX := Lib.hid (HX.out.step b1); clear b1 c0 c1 c2 c3 c4 c5; have c0 := HX.out.2.cell 0; have c1 := HX.out.2.cell 1; have c2 := HX.out.2.cell 2; have c3 := HX.out.2.cell 3; have c4 := HX.out.2.cell 4; have c5 := HX.out.2.cell 5)
    | (go_at_call 10; (with_reducible refine (H2.out _).mono ?_); rintro e w1 ⟨rfl, b1⟩; have HX := Lib.hid (HX.out.step b1); clear b1 c0 c1 c2 c3 c4 c5; have c0 := HX.out.2.cell 0; have c1 := HX.out.2.cell 1; have c2 := HX.out.2.cell 2; have c3 := HX.out.2.cell 3; have c4 := HX.out.2.cell 4; have c5 := HX.out.2.cell 5)
    | (go_at_call 10; (with_reducible refine (H3.out _).mono ?_); rintro e w1 ⟨rfl, b1⟩; have HX := Lib.hid (HX.out.step b1); clear b1 c0 c1 c2 c3 c4 c5; have c0 := HX.out.2.cell 0; have c1 := HX.out.2.cell 1; have c2 := HX.out.2.cell 2; have c3 := HX.out.2.cell 3; have c4 := HX.out.2.cell 4; have c5 := HX.out.2.cell 5))
  go_ret
  exact ⟨rfl, HX.out.1⟩

end Go.Proofs.YtkdjjlfpaciohaaGreatDoor
