/-
  What Same and Serial of package mime answer of types. Condition: texts are as long as a mebibyte, and parameters as many.
  What Cut answers: the first n bytes. Condition: the text is no longer than a length can be.
  What Few of layer 10's statements answers. Condition: the texts are as long as a length can be; what an argument's reading gives.
-/
import Derived.Test.YtkdjjlfpaciohaaGreatDoorZ10
import Derived.StillTailTactics
import Derived.Deep.RegionWith
import Derived.Test.YtkdjjlfpaciohaaGreatDoorRows
import Derived.WalkKit
import Derived.WalkSpells
import Derived.WalkLawsBesides
import Derived.Deep.AppendLies
import Derived.Deep.RegionHeld3
import Derived.Deep.DeepCutAuto
import Derived.Lib.AppendZeros
import Derived.Lib.AppendZerosOnto
namespace Go.Proofs.YtkdjjlfpaciohaaGreatDoor
open Go.RowKit Go.Maps

theorem below_on {a w w' : World} (h : Below a.heap.size a w) (hb : Below w.heap.size w w') : Below a.heap.size a w' := h.trans (hb.mono h.size)

end Go.Proofs.YtkdjjlfpaciohaaGreatDoor
namespace Go.Proofs.YtkdjjlfpaciohaaGreatDoor
open Go.RowKit

/-- The first n bytes. -/
def cutB (s : ByteArray) (n : Nat) : ByteArray := if n < s.size then s.extract 0 n else s
theorem cutB_size (s : ByteArray) (n : Nat) : (cutB s n).size ≤ n := by
  unfold cutB
  split
  · simp; omega
  · omega

set_option maxHeartbeats 400000 in
theorem cut_any (s : ByteArray) (n : Nat) (w : World) (_hs : s.size ≤ 9223372036854775807) :
    Calls Tryz.prog 7 #[.string s, .int .i64 n] w fun e w' => e = .returned (.string (cutB s n)) ∧ w = w' := by
  by_cases h : n < s.size
  · have hx : cutB s n = s.extract 0 n := by simp [cutB, h]
    have h1 : decide ((n : Int) < (s.size : Int)) = true := by simpa using h
    have h2 : decide (n < s.size) = true := by simpa using h
    rw [hx]
    clear hx
    go_enter Tryz.func7, Tryz.ntmps7
    go_wp2
    go_ret
    exact ⟨rfl, rfl⟩
  · have hx : cutB s n = s := by simp [cutB, h]
    have h1 : decide ((n : Int) < (s.size : Int)) = false := by simp; omega
    have h2 : decide (n < s.size) = false := by simpa using h
    rw [hx]
    clear hx
    go_enter Tryz.func7, Tryz.ntmps7
    go_wp2
    go_ret
    exact ⟨rfl, rfl⟩

end Go.Proofs.YtkdjjlfpaciohaaGreatDoor
namespace Go.Proofs.YtkdjjlfpaciohaaGreatDoor
open Go.RowKit

theorem drewAlloc (w : World) (o : Obj) : Below w.heap.size w (w.alloc o).drew := ((Below.refl _ _).alloc (Nat.le_refl _) _).drew

theorem set_cell {w : World} {p q : Addr} {u v : Value} (h : w.cell? p = some v) (hne : p.block ≠ q.block) : (w.setCell q u).cell? p = some v := (World.cell?_of_block (w := w) (Below.heap_setCell w q u p.block hne)).trans h
theorem madd_block (a : Addr) (n : Nat) : (a.add n).block = a.block := by unfold Addr.add; split <;> rfl
def fewP (p : Prm) : Prm := ⟨cutB p.n 20, cutB p.v 30⟩
def fewK (lp : Nat → Prm) (k : Nat) : List Prm := (List.range k).map fun i => fewP (lp i)
theorem fewK_len (lp : Nat → Prm) (k : Nat) : (fewK lp k).length = k := by simp [fewK]
theorem fewK_succ (lp : Nat → Prm) (k : Nat) : fewK lp (k + 1) = fewK lp k ++ [fewP (lp k)] := by simp [fewK, List.range_succ]
theorem fewK_all (lp : Nat → Prm) (k : Nat) : ∀ p ∈ fewK lp k, p.n.size ≤ 20 ∧ p.v.size ≤ 30 := fun p hp => by
  unfold fewK at hp
  rw [List.mem_map] at hp
  obtain ⟨i, _, rfl⟩ := hp
  exact ⟨cutB_size _ _, cutB_size _ _⟩
theorem cutB_id {s : ByteArray} {n : Nat} (h : s.size ≤ n) : cutB s n = s := by unfold cutB; rw [if_neg (by omega)]
/-- What is cut already stays as it is. -/
theorem fewK_id {ps : List Prm} (h : ∀ p ∈ ps, p.n.size ≤ 20 ∧ p.v.size ≤ 30) (d : Prm) : fewK (fun i => ps.getD i d) ps.length = ps := by
  apply List.ext_getElem
  · rw [fewK_len]
  · intro i h1 h2
    simp only [fewK, List.getElem_map, List.getElem_range]
    have hp := h ps[i] (List.getElem_mem h2)
    rw [List.getD_eq_getElem?_getD, List.getElem?_eq_getElem h2]
    simp only [Option.getD_some, fewP]
    rw [cutB_id hp.1, cutB_id hp.2]

/-- Parameters that came in. -/
def Came (w : World) (A : Option Addr) (n : Nat) (lp : Nat → Prm) : Prop := ∀ i, i < n → ∃ (a : Addr), A = some a ∧ a.block < w.heap.size ∧
  w.cell? (a.add (i * 2)) = some (.string (lp i).n) ∧ w.cell? ⟨(a.add (i * 2)).block, (a.add (i * 2)).off + 1, none⟩ = some (.string (lp i).v) ∧ (lp i).n.size ≤ 9223372036854775807 ∧ (lp i).v.size ≤ 9223372036854775807
theorem Came.below {w w' : World} {A : Option Addr} {n : Nat} {lp : Nat → Prm} (h : Came w A n lp) (hb : Below w.heap.size w w') : Came w' A n lp := fun i hi => by
  obtain ⟨a, e, hl, h0, h1, h2⟩ := h i hi
  have hl2 : (a.add (i * 2)).block < w.heap.size := by rw [madd_block]; exact hl
  exact ⟨a, e, by have := hb.size; omega, (hb.cell hl2).trans h0, (hb.cell (p := ⟨(a.add (i * 2)).block, (a.add (i * 2)).off + 1, none⟩) hl2).trans h1, h2⟩
theorem Came.of_ps {w : World} {A : Option Addr} {ps : List Prm} (h : PsIn w A ps) (hall : AllIn 1048576 ps) (d : Prm) : Came w A ps.length (fun i => ps.getD i d) := fun i hi => by
  obtain ⟨g, e, hl, h0, h1⟩ := h i hi
  have hs := hall.at_ hi
  have e2 : ps.getD i d = ps[i] := by rw [List.getD_eq_getElem?_getD, List.getElem?_eq_getElem hi]; rfl
  have ea : (⟨g, 0, none⟩ : Addr).add (i * 2) = ⟨g, i * 2, none⟩ := by cases i <;> simp [Addr.add]
  refine ⟨_, e, hl, ?_, ?_, ?_, ?_⟩
  · rw [ea]; show _ = some (Value.string (ps.getD i d).n); rw [e2]; exact h0
  · rw [ea]; show _ = some (Value.string (ps.getD i d).v); rw [e2]; exact h1
  · show (ps.getD i d).n.size ≤ _; rw [e2]; omega
  · show (ps.getD i d).v.size ≤ _; rw [e2]; omega

theorem news_two (w : World) (n v : ByteArray) : ∀ j u, ([.string n, .string v] : List Value)[j]? = some u → (w.alloc (.cells #[.string n, .string v] 47)).drew.cell? ((⟨w.heap.size, 0, none⟩ : Addr).add j) = some u := fun j u hj => by
  have e : (⟨w.heap.size, 0, none⟩ : Addr).add j = ⟨w.heap.size, j, none⟩ := by cases j <;> simp [Addr.add]
  have h : Blk (w.alloc (.cells #[.string n, .string v] 47)).drew w.heap.size 47 #[.string n, .string v] := Blk.new _ _ _
  rw [e, h.cell]
  simpa using hj
theorem two_one {n v : ByteArray} : ∀ u ∈ ([.string n, .string v] : List Value), u.oneCell' = true := fun u hu => by
  simp at hu
  rcases hu with rfl | rfl <;> rfl

set_option maxHeartbeats 2000000 in
set_option maxRecDepth 100000 in
theorem few_any (t u : ByteArray) (A : Option Addr) (n c : Nat) (lp : Nat → Prm) (w : World) (h : Came w A n lp) (ht : t.size ≤ 9223372036854775807) (hu : u.size ≤ 9223372036854775807) (hn : n ≤ 9223372036854775807) :
    Calls Tryz.prog 23 #[mimV t u A n c] w fun e w' => ∃ A' c', e = .returned (mimV (cutB t 30) (cutB u 30) A' (min n 6) c') ∧ w'.ownsRow w.heap.size 47 2 (.slice A' (min n 6) c') (min n 6) (prmL (fewK lp (min n 6))) ∧ Below w.heap.size w w' := by
  obtain ⟨i0, hi, hz0, hz1, hz2⟩ := info_parts Tryz.infoPrm
  have HK0 : Hid (∀ W, Calls Tryz.prog 7 #[.string t, .int .i64 30] W fun e w' => e = .returned (.string (cutB t 30)) ∧ w' = W) := fun W => (cut_any t 30 W ht).mono fun _ _ h => ⟨h.1, h.2.symm⟩
  have HK1 : Hid (∀ W, Calls Tryz.prog 7 #[.string u, .int .i64 30] W fun e w' => e = .returned (.string (cutB u 30)) ∧ w' = W) := fun W => (cut_any u 30 W hu).mono fun _ _ h => ⟨h.1, h.2.symm⟩
  generalize cutB t 30 = t' at *
  generalize cutB u 30 = u' at *
  have HCM := Lib.hid h
  clear h
  obtain ⟨w0, hw0⟩ : ∃ w0, w0 = (w.alloc (.cells #[.string t, .string u, .slice A n c] 24)).alloc (.cells #[.string ⟨#[]⟩, .string ⟨#[]⟩, .slice none 0 0] 24) := ⟨_, rfl⟩
  have HB0 := Lib.hid (show Below w.heap.size w w0 from by rw [hw0]; exact ((Below.refl w.heap.size w).alloc (Nat.le_refl _) _).alloc (by simp) _)
  have HX0 := Lib.hid (show Blk w0 w.heap.size 24 #[.string t, .string u, .slice A n c] from by rw [hw0]; exact (Blk.new _ _ _).alloc _)
  have HR0 := Lib.hid (show Blk w0 (w.heap.size + 1) 24 #[.string ⟨#[]⟩, .string ⟨#[]⟩, .slice none 0 0] from by
    have := Blk.new (w.alloc (.cells #[.string t, .string u, .slice A n c] 24)) 24 #[.string ⟨#[]⟩, .string ⟨#[]⟩, .slice none 0 0]
    rw [hw0]
    simpa using this)
  have hsz0 : w0.heap.size = w.heap.size + 1 + 1 := by rw [hw0]; simp
  have c0 := HX0.out.cell 0
  have c1 := HX0.out.cell 1
  go_enter Tryz.func23, Tryz.ntmps23
  go_wp2_with fail
  rw [← hw0]
  clear hw0
  go_cut [3] from 5 to 11 (fun s3 wx => s3 = .pointer (some ⟨w.heap.size + 1 + 1, 0, none⟩) ∧ Blk wx (w.heap.size + 1 + 1) 24 #[.string t', .string u', .slice none 0 0] ∧ Blk wx w.heap.size 24 #[.string t, .string u, .slice A n c] ∧ Blk wx (w.heap.size + 1) 24 #[.string ⟨#[]⟩, .string ⟨#[]⟩, .slice none 0 0] ∧ Below w.heap.size w wx ∧ w.heap.size + 1 + 1 < wx.heap.size)
  case first =>
    go_region_held3 (fun w' => w'.cell? ⟨w.heap.size, 0, none⟩ = some (.string t) ∧ w'.cell? ⟨w.heap.size, 1, none⟩ = some (.string u)) (go_keep) (first
      | (go_at_call 7; (with_reducible refine (HK0.out _).mono ?_); rintro e w1 ⟨rfl, rfl⟩)
      | (go_at_call 7; (with_reducible refine (HK1.out _).mono ?_); rintro e w1 ⟨rfl, rfl⟩))
    all_goals
      go_wp2_with fail
      go_meet
      exact ⟨rfl, by rw [← hsz0]; exact (Blk.new _ _ _).drew, (HX0.out.alloc _).drew, (HR0.out.alloc _).drew, (HB0.out.alloc (by rw [hsz0]; omega) _).drew, by simp [World.drew, hsz0]⟩
  case rest =>
    obtain ⟨rfl, hO1, hX1, hR1, hB1, hs1⟩ := hcut
    have HB1 := Lib.hid hB1
    have HX1 := Lib.hid hX1
    have HR1 := Lib.hid hR1
    have HO1 := Lib.hid hO1
    clear hB1 hX1 hR1 hO1 HK0 HK1 HB0 HX0 HR0 c0 c1
    go_wp2_with fail
    go_loopw [4] (fun i wr => ∃ (k : Nat) (B : Option Addr) (d : Nat), k ≤ n ∧ k ≤ 6 ∧ i = .int .i64 k ∧ Blk wr w.heap.size 24 #[.string t, .string u, .slice A n c] ∧ Blk wr (w.heap.size + 1) 24 #[.string ⟨#[]⟩, .string ⟨#[]⟩, .slice none 0 0] ∧
        Blk wr (w.heap.size + 1 + 1) 24 #[.string t', .string u', .slice B k d] ∧ wr.ownsRow (w.heap.size + 1 + 1 + 1) 47 2 (.slice B k d) k (prmL (fewK lp k)) ∧ Below w.heap.size w wr ∧ w.heap.size + 1 + 1 + 1 ≤ wr.heap.size) (fun i _ => 6 - (intOf i).toNat)
    case atStart => exact ⟨0, none, 0, Nat.zero_le _, Nat.zero_le _, rfl, HX1.out, HR1.out, HO1.out, World.ownsRow_nil _ _ _ _, HB1.out, hs1⟩
    case round =>
      obtain ⟨k, B, d, hkn, hk6, rfl, hx, hr, ho, hown, hb, hs⟩ := hrel
      have HX := Lib.hid hx
      have HR := Lib.hid hr
      have HO := Lib.hid ho
      have HOW := Lib.hid hown
      have HB := Lib.hid hb
      clear hx hr ho hown hb HX1 HR1 HO1 HB1
      have c2 := HX.out.cell 2
      by_cases hlt : k < n ∧ k < 6
      · obtain ⟨h1, h2⟩ := hlt
        obtain ⟨a, rfl, hab, e0, e1, q1, q2⟩ := HCM.out k h1
        have hab' : (a.add (k * 2)).block < w.heap.size := by rw [madd_block]; exact hab
        have e0' : wr.cell? (a.add (k * 2)) = some (.string (lp k).n) := (HB.out.cell hab').trans e0
        have e1' : wr.cell? ⟨(a.add (k * 2)).block, (a.add (k * 2)).off + 1, none⟩ = some (.string (lp k).v) := (HB.out.cell (p := ⟨(a.add (k * 2)).block, (a.add (k * 2)).off + 1, none⟩) hab').trans e1
        have n1 : (a.add (k * 2)).block < wr.heap.size := by omega
        have n2 : (a.add (k * 2)).block ≠ w.heap.size + 1 + 1 := by omega
        have m0 : wr.heap.size ≠ w.heap.size + 1 + 1 := by omega
        have m1 : w.heap.size + 1 + 1 ≠ wr.heap.size := by omega
        have m2 : w.heap.size + 1 + 1 < wr.heap.size := by omega
        have hob : (wr.alloc (.cells #[.string (fewP (lp k)).n, .string (fewP (lp k)).v] 47)).cell? ⟨w.heap.size + 1 + 1, 2, none⟩ = some (.slice B k d) := (World.cell?_alloc_lt wr _ _ (by show w.heap.size + 1 + 1 < _; omega)).trans (HO.out.cell 2)
        have HC0 : Hid (∀ W, Calls Tryz.prog 7 #[.string (lp k).n, .int .i64 20] W fun e w' => e = .returned (.string (fewP (lp k)).n) ∧ W = w') := fun W => cut_any (lp k).n 20 W q1
        have HC1 : Hid (∀ W, Calls Tryz.prog 7 #[.string (lp k).v, .int .i64 30] W fun e w' => e = .returned (.string (fewP (lp k)).v) ∧ W = w') := fun W => cut_any (lp k).v 30 W q2
        have HFK := Lib.hid (fewK_succ lp k)
        have d1 : decide (k < n) = true := by simpa using h1
        have d2 : decide ((k : Int) < 6) = true := by simp; omega
        have o2 := HO.out.cell 2
        have y2 := HO.out.frozen 2
        clear e0 e1 hab q1 q2
        generalize hq : fewP (lp k) = q at *
        generalize lp k = lk at *
        obtain ⟨ln, lv⟩ := lk
        obtain ⟨qn, qv⟩ := q
        simp only at e0' e1' HC0 HC1 hob
        generalize hab2 : a.add (k * 2) = ad at *
        obtain ⟨ab, ao, ai⟩ := ad
        simp only at e1' hab' n1 n2
        go_wp2_with fail
        refine wp_region_held_drew (S := fun w' => w'.cell? ⟨w.heap.size, 2, none⟩ = some (.slice (some a) n c) ∧ w'.cell? ⟨ab, ao, ai⟩ = some (.string ln) ∧ w'.cell? ⟨ab, ao + 1, none⟩ = some (.string lv)) (by kernel_rfl) (by go_keep) (fun hHeld => ?_)
        refine wpAnyH_take (i := 0) (oi := ⟨some 23, _, _, _, _, _⟩) (v := ?_) rfl (by kernel_rfl) (by kernel_rfl) (by kernel_rfl) (fun _ _ _ h => h) (Or.inl ⟨by rfl, ?_⟩) hHeld ?_
        rotate_left
        focus (intro wq hSw; (try dsimp only at hSw); go_simp; try with_reducible rfl; done)
        simp only [Act.put, List.setIfInBounds_toArray, List.set_cons_zero, List.set_cons_succ]
        refine wpAnyH_take (i := 2) (oi := ⟨some 25, _, _, _, _, _⟩) (v := ?_) rfl (by kernel_rfl) (by kernel_rfl) (by kernel_rfl) (fun _ _ _ h => h) (Or.inl ⟨by rfl, ?_⟩) hHeld ?_
        rotate_left
        focus (intro wq hSw; (try dsimp only at hSw); go_simp; try with_reducible rfl; done)
        simp only [Act.put, List.setIfInBounds_toArray, List.set_cons_zero, List.set_cons_succ]
        refine wpAnyH_take (i := 3) (oi := ⟨some 26, _, _, _, _, _⟩) (v := ?_) rfl (by kernel_rfl) (by kernel_rfl) (by kernel_rfl) (fun _ _ _ h => h) (Or.inl ⟨by rfl, ?_⟩) hHeld ?_
        rotate_left
        focus (intro wq hSw; (try dsimp only at hSw); go_simp; try with_reducible rfl; done)
        simp only [Act.put, List.setIfInBounds_toArray, List.set_cons_zero, List.set_cons_succ]
        refine wpAnyH_take (i := 4) (oi := ⟨some 27, _, _, _, _, _⟩) (v := ?_) rfl (by kernel_rfl) (by kernel_rfl) (by kernel_rfl) (fun _ _ _ h => h) (Or.inl ⟨by rfl, ?_⟩) hHeld ?_
        rotate_left
        focus (intro wq hSw; (try dsimp only at hSw); go_simp; try with_reducible rfl; done)
        simp only [Act.put, List.setIfInBounds_toArray, List.set_cons_zero, List.set_cons_succ]
        refine wpAnyH_take (i := 5) (oi := ⟨some 28, _, _, _, _, _⟩) (v := ?_) rfl (by kernel_rfl) (by kernel_rfl) (by kernel_rfl) (fun _ _ _ h => h) (Or.inl ⟨by rfl, ?_⟩) hHeld ?_
        rotate_left
        focus (intro wq hSw; (try dsimp only at hSw); go_simp; try with_reducible rfl; done)
        simp only [Act.put, List.setIfInBounds_toArray, List.set_cons_zero, List.set_cons_succ]
        refine wpAnyH_take (i := 6) (oi := ⟨some 29, _, _, _, _, _⟩) (v := ?_) rfl (by kernel_rfl) (by kernel_rfl) (by kernel_rfl) (fun _ _ _ h => h) (Or.inl ⟨by rfl, ?_⟩) hHeld ?_
        rotate_left
        focus (intro wq hSw; (try dsimp only at hSw); go_simp; try with_reducible rfl; done)
        simp only [Act.put, List.setIfInBounds_toArray, List.set_cons_zero, List.set_cons_succ]
        refine wpAnyH_take (i := 7) (oi := ⟨some 30, _, _, _, _, _⟩) (v := ?_) rfl (by kernel_rfl) (by kernel_rfl) (by kernel_rfl) (fun _ _ _ h => h) (Or.inl ⟨by rfl, ?_⟩) hHeld ?_
        rotate_left
        focus (intro wq hSw; (try dsimp only at hSw); go_simp; try with_reducible rfl; done)
        simp only [Act.put, List.setIfInBounds_toArray, List.set_cons_zero, List.set_cons_succ]
        refine wpAnyH_take (i := 9) (oi := ⟨some 32, _, _, _, _, _⟩) (v := ?_) rfl (by kernel_rfl) (by kernel_rfl) (by kernel_rfl) (fun _ _ _ h => h) (Or.inl ⟨by rfl, ?_⟩) hHeld ?_
        rotate_left
        focus (intro wq hSw; (try dsimp only at hSw); go_simp; try with_reducible rfl; done)
        simp only [Act.put, List.setIfInBounds_toArray, List.set_cons_zero, List.set_cons_succ]
        refine wpAnyH_take (i := 10) (oi := ⟨some 33, _, _, _, _, _⟩) (v := ?_) rfl (by kernel_rfl) (by kernel_rfl) (by kernel_rfl) (fun _ _ _ h => h) (Or.inl ⟨by rfl, ?_⟩) hHeld ?_
        rotate_left
        focus (intro wq hSw; (try dsimp only at hSw); go_simp; try with_reducible rfl; done)
        simp only [Act.put, List.setIfInBounds_toArray, List.set_cons_zero, List.set_cons_succ]
        refine wpAnyH_take (i := 11) (oi := ⟨some 34, _, _, _, _, _⟩) (v := ?_) rfl (by kernel_rfl) (by kernel_rfl) (by kernel_rfl) (fun _ _ _ h => h) (Or.inl ⟨by rfl, ?_⟩) hHeld ?_
        rotate_left
        focus (intro wq hSw; (try dsimp only at hSw); go_simp; try with_reducible rfl; done)
        simp only [Act.put, List.setIfInBounds_toArray, List.set_cons_zero, List.set_cons_succ]
        refine wpAnyH_take (i := 12) (oi := ⟨some 35, _, _, _, _, _⟩) (v := ?_) rfl (by kernel_rfl) (by kernel_rfl) (by kernel_rfl) (fun _ _ _ h => h) (Or.inl ⟨by rfl, ?_⟩) hHeld ?_
        rotate_left
        focus (intro wq hSw; (try dsimp only at hSw); go_simp; try with_reducible rfl; done)
        simp only [Act.put, List.setIfInBounds_toArray, List.set_cons_zero, List.set_cons_succ]
        refine wpAnyH_take (i := 13) (oi := ⟨some 36, _, _, _, _, _⟩) (v := ?_) rfl (by kernel_rfl) (by kernel_rfl) (by kernel_rfl) (fun _ _ _ h => h) (Or.inl ⟨by rfl, ?_⟩) hHeld ?_
        rotate_left
        focus (intro wq hSw; (try dsimp only at hSw); go_simp; try with_reducible rfl; done)
        simp only [Act.put, List.setIfInBounds_toArray, List.set_cons_zero, List.set_cons_succ]
        refine wpAnyH_take (i := 14) (oi := ⟨some 37, _, _, _, _, _⟩) (v := ?_) rfl (by kernel_rfl) (by kernel_rfl) (by kernel_rfl) (fun _ _ _ h => h) (Or.inl ⟨by rfl, ?_⟩) hHeld ?_
        rotate_left
        focus (intro wq hSw; (try dsimp only at hSw); go_simp; try with_reducible rfl; done)
        simp only [Act.put, List.setIfInBounds_toArray, List.set_cons_zero, List.set_cons_succ]
        refine wpAnyH_ready (rs := [1, 8]) (by kernel_rfl) (by simp) ?_
        refine AllReadyH.cons rfl (fun K hK => ?_) (AllReadyH.cons rfl (fun K hK => ?_) AllReadyH.nil)
        · go_simp
          refine hK.out _ _ hHeld (fun hHeld => ?_)
          clear hK K
          try simp only [Act.put, List.setIfInBounds_toArray, List.set_cons_zero, List.set_cons_succ]
          refine wpAnyH_ready (rs := [8]) (by kernel_rfl) (by simp) ?_
          refine AllReadyH.cons rfl (fun K hK => ?_) AllReadyH.nil
          go_simp
          with_reducible refine (HC0.out _).mono ?_
          rintro e w1 ⟨rfl, rfl⟩
          refine hK.out _ _ hHeld (fun hHeld => ?_)
          clear hK K
          try simp only [Act.put, List.setIfInBounds_toArray, List.set_cons_zero, List.set_cons_succ]
          refine wpAnyH_ready (rs := [15]) (by kernel_rfl) (by simp) ?_
          refine AllReadyH.cons rfl (fun K hK => ?_) AllReadyH.nil
          go_simp
          with_reducible refine (HC1.out _).mono ?_
          rintro e w1 ⟨rfl, rfl⟩
          refine hK.out _ _ hHeld (fun hHeld => ?_)
          clear hK K
          try simp only [Act.put, List.setIfInBounds_toArray, List.set_cons_zero, List.set_cons_succ]
          refine wpAnyH_take (i := 16) (oi := ⟨some 39, _, _, _, _, _⟩) (v := ?_) rfl (by kernel_rfl) (by kernel_rfl) (by kernel_rfl) (fun _ _ _ h => h) (Or.inl ⟨by rfl, ?_⟩) hHeld ?_
          rotate_left
          focus (intro wq hSw; (try dsimp only at hSw); go_simp; try with_reducible rfl; done)
          simp only [Act.put, List.setIfInBounds_toArray, List.set_cons_zero, List.set_cons_succ]
          refine wpAnyH_ready (rs := [17]) (by kernel_rfl) (by simp) ?_
          refine AllReadyH.cons rfl (fun K hK => ?_) AllReadyH.nil
          go_simp
          refine hK.out _ _ (by go_keep) (fun hHeld => ?_)
          clear hK K
          try simp only [Act.put, List.setIfInBounds_toArray, List.set_cons_zero, List.set_cons_succ]
          refine wpAnyH_ready (rs := [18]) (by kernel_rfl) (by simp) ?_
          refine AllReadyH.cons rfl (fun K hK => ?_) AllReadyH.nil
          refine step_append_lies _ rfl _ _ 22 rfl (w.heap.size + 1 + 1 + 1) 47 i0 _ 2 32 Tryz.underlying22 hi hz0 hz1 hz2 rfl (by decide) _ k (prmL (fewK lp k)) rfl (own_keep HOW.out (Mv.of_below (drewAlloc wr _) []) (by simp)) ⟨wr.heap.size, 0, none⟩ 1 1 [.string qn, .string qv] rfl rfl (news_two wr qn qv) two_one (by decide) (by unfold maxLen; omega) (by omega) (by simp [World.drew]; omega) _ rfl ?_
          intro g cap w2 hown2 hgrow2 hat2 hlt2
          have HB2 := Lib.hid (show Below (w.heap.size + 1 + 1 + 1) wr w2 from ((drewAlloc wr _).mono hs).grown hgrow2 (by simp [World.drew]; omega) (fun g hg => (HOW.out.lt g hg).1))
          have HOW2 := Lib.hid hown2
          have b0 := (HB2.out.cell (p := ⟨w.heap.size, 2, none⟩) (by show w.heap.size < _; omega)).trans c2
          have b1 := (HB2.out.cell (p := ⟨ab, ao, ai⟩) (by show ab < _; omega)).trans e0'
          have b2 := (HB2.out.cell (p := ⟨ab, ao + 1, none⟩) (by show ab < _; omega)).trans e1'
          have b3 := (HB2.out.cell (p := ⟨w.heap.size + 1 + 1, 2, none⟩) (by show w.heap.size + 1 + 1 < _; omega)).trans o2
          have b4 := (HB2.out.frozen (p := ⟨w.heap.size + 1 + 1, 2, none⟩) (by show w.heap.size + 1 + 1 < _; omega)).trans y2
          clear hown2 hgrow2 hat2 hlt2
          refine hK.out _ _ (by go_keep) (fun hHeld => ?_)
          clear hK K
          try simp only [Act.put, List.setIfInBounds_toArray]
          refine wpAnyH_take (i := 19) (oi := ⟨some 42, _, _, _, _, _⟩) (v := ?_) rfl (by kernel_rfl) (by kernel_rfl) (by kernel_rfl) (fun _ _ _ h => h) (Or.inl ⟨by rfl, ?_⟩) hHeld ?_
          rotate_left
          focus (intro wq hSw; (try dsimp only at hSw); go_simp; try with_reducible rfl; done)
          simp only [Act.put]
          refine wpAnyH_ready (rs := [20]) (by kernel_rfl) (by simp) ?_
          refine AllReadyH.cons rfl (fun K hK => ?_) AllReadyH.nil
          go_simp
          refine hK.out _ _ ⟨set_cell b0 (by show w.heap.size ≠ w.heap.size + 1 + 1; omega), set_cell b1 n2, set_cell b2 n2⟩ (fun hHeld => ?_)
          clear hK K
          try simp only [Act.put, List.setIfInBounds_toArray, List.set_cons_zero, List.set_cons_succ]
          refine wpAnyH_done (by kernel_rfl) ?_ _
          have hm2 : Mv w2.heap.size [w.heap.size + 1 + 1] w2 (w2.setCell ⟨w.heap.size + 1 + 1, 2, none⟩ (.slice (some ⟨g, 0, none⟩) (k + 1) cap)) := (Mv.refl _ _ _).setCell (.inl (by simp)) _
          have HF1 := Lib.hid ((HX.out.below HB2.out (by omega)).far (p := ⟨w.heap.size + 1 + 1, 2, none⟩) (by show w.heap.size ≠ w.heap.size + 1 + 1; omega) (.slice (some ⟨g, 0, none⟩) (k + 1) cap))
          have HF2 := Lib.hid ((HR.out.below HB2.out (by omega)).far (p := ⟨w.heap.size + 1 + 1, 2, none⟩) (by show w.heap.size + 1 ≠ w.heap.size + 1 + 1; omega) (.slice (some ⟨g, 0, none⟩) (k + 1) cap))
          have HF3 := Lib.hid ((HO.out.below HB2.out (by omega)).set_ 2 (.slice (some ⟨g, 0, none⟩) (k + 1) cap))
          have HF4 := Lib.hid (own_keep HOW2.out hm2 (by simp))
          have HF5 := Lib.hid ((HB.out.trans (HB2.out.mono (B' := w.heap.size) (by omega))).setCell (p := ⟨w.heap.size + 1 + 1, 2, none⟩) (by show w.heap.size ≤ w.heap.size + 1 + 1; omega) (.slice (some ⟨g, 0, none⟩) (k + 1) cap))
          have hs5 : w.heap.size + 1 + 1 + 1 ≤ (w2.setCell ⟨w.heap.size + 1 + 1, 2, none⟩ (.slice (some ⟨g, 0, none⟩) (k + 1) cap)).heap.size := by have := HB2.out.size; simp; omega
          clear hm2 b0 b1 b2 b3 b4
          go_wp2
          go_roundw
          case rel => exact ⟨k + 1, some ⟨g, 0, none⟩, cap, by omega, by omega, by go_num, HF1.out, HF2.out, HF3.out, by rw [HFK.out, prmL_snoc]; exact HF4.out, HF5.out, hs5⟩
          case measure => simp [intOf]; omega
        · go_simp
          with_reducible refine (HC0.out _).mono ?_
          rintro e w1 ⟨rfl, rfl⟩
          refine hK.out _ _ hHeld (fun hHeld => ?_)
          clear hK K
          try simp only [Act.put, List.setIfInBounds_toArray, List.set_cons_zero, List.set_cons_succ]
          refine wpAnyH_ready (rs := [1, 15]) (by kernel_rfl) (by simp) ?_
          refine AllReadyH.cons rfl (fun K hK => ?_) (AllReadyH.cons rfl (fun K hK => ?_) AllReadyH.nil)
          · go_simp
            refine hK.out _ _ hHeld (fun hHeld => ?_)
            clear hK K
            try simp only [Act.put, List.setIfInBounds_toArray, List.set_cons_zero, List.set_cons_succ]
            refine wpAnyH_ready (rs := [15]) (by kernel_rfl) (by simp) ?_
            refine AllReadyH.cons rfl (fun K hK => ?_) AllReadyH.nil
            go_simp
            with_reducible refine (HC1.out _).mono ?_
            rintro e w1 ⟨rfl, rfl⟩
            refine hK.out _ _ hHeld (fun hHeld => ?_)
            clear hK K
            try simp only [Act.put, List.setIfInBounds_toArray, List.set_cons_zero, List.set_cons_succ]
            refine wpAnyH_take (i := 16) (oi := ⟨some 39, _, _, _, _, _⟩) (v := ?_) rfl (by kernel_rfl) (by kernel_rfl) (by kernel_rfl) (fun _ _ _ h => h) (Or.inl ⟨by rfl, ?_⟩) hHeld ?_
            rotate_left
            focus (intro wq hSw; (try dsimp only at hSw); go_simp; try with_reducible rfl; done)
            simp only [Act.put, List.setIfInBounds_toArray, List.set_cons_zero, List.set_cons_succ]
            refine wpAnyH_ready (rs := [17]) (by kernel_rfl) (by simp) ?_
            refine AllReadyH.cons rfl (fun K hK => ?_) AllReadyH.nil
            go_simp
            refine hK.out _ _ (by go_keep) (fun hHeld => ?_)
            clear hK K
            try simp only [Act.put, List.setIfInBounds_toArray, List.set_cons_zero, List.set_cons_succ]
            refine wpAnyH_ready (rs := [18]) (by kernel_rfl) (by simp) ?_
            refine AllReadyH.cons rfl (fun K hK => ?_) AllReadyH.nil
            refine step_append_lies _ rfl _ _ 22 rfl (w.heap.size + 1 + 1 + 1) 47 i0 _ 2 32 Tryz.underlying22 hi hz0 hz1 hz2 rfl (by decide) _ k (prmL (fewK lp k)) rfl (own_keep HOW.out (Mv.of_below (drewAlloc wr _) []) (by simp)) ⟨wr.heap.size, 0, none⟩ 1 1 [.string qn, .string qv] rfl rfl (news_two wr qn qv) two_one (by decide) (by unfold maxLen; omega) (by omega) (by simp [World.drew]; omega) _ rfl ?_
            intro g cap w2 hown2 hgrow2 hat2 hlt2
            have HB2 := Lib.hid (show Below (w.heap.size + 1 + 1 + 1) wr w2 from ((drewAlloc wr _).mono hs).grown hgrow2 (by simp [World.drew]; omega) (fun g hg => (HOW.out.lt g hg).1))
            have HOW2 := Lib.hid hown2
            have b0 := (HB2.out.cell (p := ⟨w.heap.size, 2, none⟩) (by show w.heap.size < _; omega)).trans c2
            have b1 := (HB2.out.cell (p := ⟨ab, ao, ai⟩) (by show ab < _; omega)).trans e0'
            have b2 := (HB2.out.cell (p := ⟨ab, ao + 1, none⟩) (by show ab < _; omega)).trans e1'
            have b3 := (HB2.out.cell (p := ⟨w.heap.size + 1 + 1, 2, none⟩) (by show w.heap.size + 1 + 1 < _; omega)).trans o2
            have b4 := (HB2.out.frozen (p := ⟨w.heap.size + 1 + 1, 2, none⟩) (by show w.heap.size + 1 + 1 < _; omega)).trans y2
            clear hown2 hgrow2 hat2 hlt2
            refine hK.out _ _ (by go_keep) (fun hHeld => ?_)
            clear hK K
            try simp only [Act.put, List.setIfInBounds_toArray]
            refine wpAnyH_take (i := 19) (oi := ⟨some 42, _, _, _, _, _⟩) (v := ?_) rfl (by kernel_rfl) (by kernel_rfl) (by kernel_rfl) (fun _ _ _ h => h) (Or.inl ⟨by rfl, ?_⟩) hHeld ?_
            rotate_left
            focus (intro wq hSw; (try dsimp only at hSw); go_simp; try with_reducible rfl; done)
            simp only [Act.put]
            refine wpAnyH_ready (rs := [20]) (by kernel_rfl) (by simp) ?_
            refine AllReadyH.cons rfl (fun K hK => ?_) AllReadyH.nil
            go_simp
            refine hK.out _ _ ⟨set_cell b0 (by show w.heap.size ≠ w.heap.size + 1 + 1; omega), set_cell b1 n2, set_cell b2 n2⟩ (fun hHeld => ?_)
            clear hK K
            try simp only [Act.put, List.setIfInBounds_toArray, List.set_cons_zero, List.set_cons_succ]
            refine wpAnyH_done (by kernel_rfl) ?_ _
            have hm2 : Mv w2.heap.size [w.heap.size + 1 + 1] w2 (w2.setCell ⟨w.heap.size + 1 + 1, 2, none⟩ (.slice (some ⟨g, 0, none⟩) (k + 1) cap)) := (Mv.refl _ _ _).setCell (.inl (by simp)) _
            have HF1 := Lib.hid ((HX.out.below HB2.out (by omega)).far (p := ⟨w.heap.size + 1 + 1, 2, none⟩) (by show w.heap.size ≠ w.heap.size + 1 + 1; omega) (.slice (some ⟨g, 0, none⟩) (k + 1) cap))
            have HF2 := Lib.hid ((HR.out.below HB2.out (by omega)).far (p := ⟨w.heap.size + 1 + 1, 2, none⟩) (by show w.heap.size + 1 ≠ w.heap.size + 1 + 1; omega) (.slice (some ⟨g, 0, none⟩) (k + 1) cap))
            have HF3 := Lib.hid ((HO.out.below HB2.out (by omega)).set_ 2 (.slice (some ⟨g, 0, none⟩) (k + 1) cap))
            have HF4 := Lib.hid (own_keep HOW2.out hm2 (by simp))
            have HF5 := Lib.hid ((HB.out.trans (HB2.out.mono (B' := w.heap.size) (by omega))).setCell (p := ⟨w.heap.size + 1 + 1, 2, none⟩) (by show w.heap.size ≤ w.heap.size + 1 + 1; omega) (.slice (some ⟨g, 0, none⟩) (k + 1) cap))
            have hs5 : w.heap.size + 1 + 1 + 1 ≤ (w2.setCell ⟨w.heap.size + 1 + 1, 2, none⟩ (.slice (some ⟨g, 0, none⟩) (k + 1) cap)).heap.size := by have := HB2.out.size; simp; omega
            clear hm2 b0 b1 b2 b3 b4
            go_wp2
            go_roundw
            case rel => exact ⟨k + 1, some ⟨g, 0, none⟩, cap, by omega, by omega, by go_num, HF1.out, HF2.out, HF3.out, by rw [HFK.out, prmL_snoc]; exact HF4.out, HF5.out, hs5⟩
            case measure => simp [intOf]; omega
          · go_simp
            with_reducible refine (HC1.out _).mono ?_
            rintro e w1 ⟨rfl, rfl⟩
            refine hK.out _ _ hHeld (fun hHeld => ?_)
            clear hK K
            try simp only [Act.put, List.setIfInBounds_toArray, List.set_cons_zero, List.set_cons_succ]
            refine wpAnyH_take (i := 16) (oi := ⟨some 39, _, _, _, _, _⟩) (v := ?_) rfl (by kernel_rfl) (by kernel_rfl) (by kernel_rfl) (fun _ _ _ h => h) (Or.inl ⟨by rfl, ?_⟩) hHeld ?_
            rotate_left
            focus (intro wq hSw; (try dsimp only at hSw); go_simp; try with_reducible rfl; done)
            simp only [Act.put, List.setIfInBounds_toArray, List.set_cons_zero, List.set_cons_succ]
            refine wpAnyH_ready (rs := [1, 17]) (by kernel_rfl) (by simp) ?_
            refine AllReadyH.cons rfl (fun K hK => ?_) (AllReadyH.cons rfl (fun K hK => ?_) AllReadyH.nil)
            · go_simp
              refine hK.out _ _ hHeld (fun hHeld => ?_)
              clear hK K
              try simp only [Act.put, List.setIfInBounds_toArray, List.set_cons_zero, List.set_cons_succ]
              refine wpAnyH_ready (rs := [17]) (by kernel_rfl) (by simp) ?_
              refine AllReadyH.cons rfl (fun K hK => ?_) AllReadyH.nil
              go_simp
              refine hK.out _ _ (by go_keep) (fun hHeld => ?_)
              clear hK K
              try simp only [Act.put, List.setIfInBounds_toArray, List.set_cons_zero, List.set_cons_succ]
              refine wpAnyH_ready (rs := [18]) (by kernel_rfl) (by simp) ?_
              refine AllReadyH.cons rfl (fun K hK => ?_) AllReadyH.nil
              refine step_append_lies _ rfl _ _ 22 rfl (w.heap.size + 1 + 1 + 1) 47 i0 _ 2 32 Tryz.underlying22 hi hz0 hz1 hz2 rfl (by decide) _ k (prmL (fewK lp k)) rfl (own_keep HOW.out (Mv.of_below (drewAlloc wr _) []) (by simp)) ⟨wr.heap.size, 0, none⟩ 1 1 [.string qn, .string qv] rfl rfl (news_two wr qn qv) two_one (by decide) (by unfold maxLen; omega) (by omega) (by simp [World.drew]; omega) _ rfl ?_
              intro g cap w2 hown2 hgrow2 hat2 hlt2
              have HB2 := Lib.hid (show Below (w.heap.size + 1 + 1 + 1) wr w2 from ((drewAlloc wr _).mono hs).grown hgrow2 (by simp [World.drew]; omega) (fun g hg => (HOW.out.lt g hg).1))
              have HOW2 := Lib.hid hown2
              have b0 := (HB2.out.cell (p := ⟨w.heap.size, 2, none⟩) (by show w.heap.size < _; omega)).trans c2
              have b1 := (HB2.out.cell (p := ⟨ab, ao, ai⟩) (by show ab < _; omega)).trans e0'
              have b2 := (HB2.out.cell (p := ⟨ab, ao + 1, none⟩) (by show ab < _; omega)).trans e1'
              have b3 := (HB2.out.cell (p := ⟨w.heap.size + 1 + 1, 2, none⟩) (by show w.heap.size + 1 + 1 < _; omega)).trans o2
              have b4 := (HB2.out.frozen (p := ⟨w.heap.size + 1 + 1, 2, none⟩) (by show w.heap.size + 1 + 1 < _; omega)).trans y2
              clear hown2 hgrow2 hat2 hlt2
              refine hK.out _ _ (by go_keep) (fun hHeld => ?_)
              clear hK K
              try simp only [Act.put, List.setIfInBounds_toArray]
              refine wpAnyH_take (i := 19) (oi := ⟨some 42, _, _, _, _, _⟩) (v := ?_) rfl (by kernel_rfl) (by kernel_rfl) (by kernel_rfl) (fun _ _ _ h => h) (Or.inl ⟨by rfl, ?_⟩) hHeld ?_
              rotate_left
              focus (intro wq hSw; (try dsimp only at hSw); go_simp; try with_reducible rfl; done)
              simp only [Act.put]
              refine wpAnyH_ready (rs := [20]) (by kernel_rfl) (by simp) ?_
              refine AllReadyH.cons rfl (fun K hK => ?_) AllReadyH.nil
              go_simp
              refine hK.out _ _ ⟨set_cell b0 (by show w.heap.size ≠ w.heap.size + 1 + 1; omega), set_cell b1 n2, set_cell b2 n2⟩ (fun hHeld => ?_)
              clear hK K
              try simp only [Act.put, List.setIfInBounds_toArray, List.set_cons_zero, List.set_cons_succ]
              refine wpAnyH_done (by kernel_rfl) ?_ _
              have hm2 : Mv w2.heap.size [w.heap.size + 1 + 1] w2 (w2.setCell ⟨w.heap.size + 1 + 1, 2, none⟩ (.slice (some ⟨g, 0, none⟩) (k + 1) cap)) := (Mv.refl _ _ _).setCell (.inl (by simp)) _
              have HF1 := Lib.hid ((HX.out.below HB2.out (by omega)).far (p := ⟨w.heap.size + 1 + 1, 2, none⟩) (by show w.heap.size ≠ w.heap.size + 1 + 1; omega) (.slice (some ⟨g, 0, none⟩) (k + 1) cap))
              have HF2 := Lib.hid ((HR.out.below HB2.out (by omega)).far (p := ⟨w.heap.size + 1 + 1, 2, none⟩) (by show w.heap.size + 1 ≠ w.heap.size + 1 + 1; omega) (.slice (some ⟨g, 0, none⟩) (k + 1) cap))
              have HF3 := Lib.hid ((HO.out.below HB2.out (by omega)).set_ 2 (.slice (some ⟨g, 0, none⟩) (k + 1) cap))
              have HF4 := Lib.hid (own_keep HOW2.out hm2 (by simp))
              have HF5 := Lib.hid ((HB.out.trans (HB2.out.mono (B' := w.heap.size) (by omega))).setCell (p := ⟨w.heap.size + 1 + 1, 2, none⟩) (by show w.heap.size ≤ w.heap.size + 1 + 1; omega) (.slice (some ⟨g, 0, none⟩) (k + 1) cap))
              have hs5 : w.heap.size + 1 + 1 + 1 ≤ (w2.setCell ⟨w.heap.size + 1 + 1, 2, none⟩ (.slice (some ⟨g, 0, none⟩) (k + 1) cap)).heap.size := by have := HB2.out.size; simp; omega
              clear hm2 b0 b1 b2 b3 b4
              go_wp2
              go_roundw
              case rel => exact ⟨k + 1, some ⟨g, 0, none⟩, cap, by omega, by omega, by go_num, HF1.out, HF2.out, HF3.out, by rw [HFK.out, prmL_snoc]; exact HF4.out, HF5.out, hs5⟩
              case measure => simp [intOf]; omega
            · go_simp
              refine hK.out _ _ (by go_keep) (fun hHeld => ?_)
              clear hK K
              try simp only [Act.put, List.setIfInBounds_toArray, List.set_cons_zero, List.set_cons_succ]
              refine wpAnyH_ready (rs := [1]) (by kernel_rfl) (by simp) ?_
              refine AllReadyH.cons rfl (fun K hK => ?_) AllReadyH.nil
              go_simp
              refine hK.out _ _ hHeld (fun hHeld => ?_)
              clear hK K
              try simp only [Act.put, List.setIfInBounds_toArray, List.set_cons_zero, List.set_cons_succ]
              refine wpAnyH_ready (rs := [18]) (by kernel_rfl) (by simp) ?_
              refine AllReadyH.cons rfl (fun K hK => ?_) AllReadyH.nil
              refine step_append_lies _ rfl _ _ 22 rfl (w.heap.size + 1 + 1 + 1) 47 i0 _ 2 32 Tryz.underlying22 hi hz0 hz1 hz2 rfl (by decide) _ k (prmL (fewK lp k)) rfl (own_keep HOW.out (Mv.of_below (drewAlloc wr _) []) (by simp)) ⟨wr.heap.size, 0, none⟩ 1 1 [.string qn, .string qv] rfl rfl (news_two wr qn qv) two_one (by decide) (by unfold maxLen; omega) (by omega) (by simp [World.drew]; omega) _ rfl ?_
              intro g cap w2 hown2 hgrow2 hat2 hlt2
              have HB2 := Lib.hid (show Below (w.heap.size + 1 + 1 + 1) wr w2 from ((drewAlloc wr _).mono hs).grown hgrow2 (by simp [World.drew]; omega) (fun g hg => (HOW.out.lt g hg).1))
              have HOW2 := Lib.hid hown2
              have b0 := (HB2.out.cell (p := ⟨w.heap.size, 2, none⟩) (by show w.heap.size < _; omega)).trans c2
              have b1 := (HB2.out.cell (p := ⟨ab, ao, ai⟩) (by show ab < _; omega)).trans e0'
              have b2 := (HB2.out.cell (p := ⟨ab, ao + 1, none⟩) (by show ab < _; omega)).trans e1'
              have b3 := (HB2.out.cell (p := ⟨w.heap.size + 1 + 1, 2, none⟩) (by show w.heap.size + 1 + 1 < _; omega)).trans o2
              have b4 := (HB2.out.frozen (p := ⟨w.heap.size + 1 + 1, 2, none⟩) (by show w.heap.size + 1 + 1 < _; omega)).trans y2
              clear hown2 hgrow2 hat2 hlt2
              refine hK.out _ _ (by go_keep) (fun hHeld => ?_)
              clear hK K
              try simp only [Act.put, List.setIfInBounds_toArray]
              refine wpAnyH_take (i := 19) (oi := ⟨some 42, _, _, _, _, _⟩) (v := ?_) rfl (by kernel_rfl) (by kernel_rfl) (by kernel_rfl) (fun _ _ _ h => h) (Or.inl ⟨by rfl, ?_⟩) hHeld ?_
              rotate_left
              focus (intro wq hSw; (try dsimp only at hSw); go_simp; try with_reducible rfl; done)
              simp only [Act.put]
              refine wpAnyH_ready (rs := [20]) (by kernel_rfl) (by simp) ?_
              refine AllReadyH.cons rfl (fun K hK => ?_) AllReadyH.nil
              go_simp
              refine hK.out _ _ ⟨set_cell b0 (by show w.heap.size ≠ w.heap.size + 1 + 1; omega), set_cell b1 n2, set_cell b2 n2⟩ (fun hHeld => ?_)
              clear hK K
              try simp only [Act.put, List.setIfInBounds_toArray, List.set_cons_zero, List.set_cons_succ]
              refine wpAnyH_done (by kernel_rfl) ?_ _
              have hm2 : Mv w2.heap.size [w.heap.size + 1 + 1] w2 (w2.setCell ⟨w.heap.size + 1 + 1, 2, none⟩ (.slice (some ⟨g, 0, none⟩) (k + 1) cap)) := (Mv.refl _ _ _).setCell (.inl (by simp)) _
              have HF1 := Lib.hid ((HX.out.below HB2.out (by omega)).far (p := ⟨w.heap.size + 1 + 1, 2, none⟩) (by show w.heap.size ≠ w.heap.size + 1 + 1; omega) (.slice (some ⟨g, 0, none⟩) (k + 1) cap))
              have HF2 := Lib.hid ((HR.out.below HB2.out (by omega)).far (p := ⟨w.heap.size + 1 + 1, 2, none⟩) (by show w.heap.size + 1 ≠ w.heap.size + 1 + 1; omega) (.slice (some ⟨g, 0, none⟩) (k + 1) cap))
              have HF3 := Lib.hid ((HO.out.below HB2.out (by omega)).set_ 2 (.slice (some ⟨g, 0, none⟩) (k + 1) cap))
              have HF4 := Lib.hid (own_keep HOW2.out hm2 (by simp))
              have HF5 := Lib.hid ((HB.out.trans (HB2.out.mono (B' := w.heap.size) (by omega))).setCell (p := ⟨w.heap.size + 1 + 1, 2, none⟩) (by show w.heap.size ≤ w.heap.size + 1 + 1; omega) (.slice (some ⟨g, 0, none⟩) (k + 1) cap))
              have hs5 : w.heap.size + 1 + 1 + 1 ≤ (w2.setCell ⟨w.heap.size + 1 + 1, 2, none⟩ (.slice (some ⟨g, 0, none⟩) (k + 1) cap)).heap.size := by have := HB2.out.size; simp; omega
              clear hm2 b0 b1 b2 b3 b4
              go_wp2
              go_roundw
              case rel => exact ⟨k + 1, some ⟨g, 0, none⟩, cap, by omega, by omega, by go_num, HF1.out, HF2.out, HF3.out, by rw [HFK.out, prmL_snoc]; exact HF4.out, HF5.out, hs5⟩
              case measure => simp [intOf]; omega
      · have hkm : min n 6 = k := by omega
        have hd : decide (k < n) = false ∨ decide (k < n) = true ∧ decide ((k : Int) < 6) = false := by
          by_cases h1 : k < n
          · exact .inr ⟨by simpa using h1, by simp; omega⟩
          · exact .inl (by simpa using h1)
        have o0 := HO.out.cell 0
        have o1 := HO.out.cell 1
        have o2 := HO.out.cell 2
        have r0 := HR.out.cell 0
        have r1 := HR.out.cell 1
        have r2 := HR.out.cell 2
        have z0 := HR.out.frozen 0
        have z1 := HR.out.frozen 1
        have z2 := HR.out.frozen 2
        have HMN := Lib.hid hkm
        clear hlt hkm
        rcases hd with d1 | ⟨d1, d2⟩
        all_goals
          go_wp2
          refine bodyPost_ret (v := mimV t' u' B k d) (by simp [results, Tryz.results23, go_sem, r0, r1, r2]; done) rfl ?_
          have hm : Mv wr.heap.size [w.heap.size + 1] wr (((wr.setCell ⟨w.heap.size + 1, 0, none⟩ (.string t')).setCell ⟨w.heap.size + 1, 1, none⟩ (.string u')).setCell ⟨w.heap.size + 1, 2, none⟩ (.slice B k d)) := (((Mv.refl _ _ _).setCell (.inl (by simp)) _).setCell (.inl (by simp)) _).setCell (.inl (by simp)) _
          refine ⟨B, d, by rw [HMN.out], by rw [HMN.out]; exact own_base (own_keep HOW.out hm (by simp)) (by omega), ?_⟩
          exact ((HB.out.setCell (by show w.heap.size ≤ w.heap.size + 1; omega) _).setCell (by show w.heap.size ≤ w.heap.size + 1; omega) _).setCell (by show w.heap.size ≤ w.heap.size + 1; omega) _


end Go.Proofs.YtkdjjlfpaciohaaGreatDoor
