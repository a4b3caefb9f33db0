/-
  Which headers are bad, or of a name: IndexFunc and ContainsFunc of the library over package header's functions; Good and Has. Condition: texts are shorter than a mebibyte, headers no more than that.
  What package header's loop over the headers of a name is handed: they, one behind the other. Conditions: texts are shorter than a mebibyte; the loop's body keeps what lies below a block, but for one.
  What package header's loop over lines is handed: the lines that are not empty, with their numbers. Condition: the text is shorter than a mebibyte.
-/
import Derived.Test.YtjikahflbhgniaaZ12
import Derived.Test.YtjikahflbhgniaaZ4
import Derived.RangeFuncNested
import Derived.RangeFuncBound
import Derived.RangeFuncCalls
import Derived.RangeFuncLeaves
import Derived.Shelf.Abstract
import Derived.Shelf.RegionOpen
import Derived.WalkKit
import Derived.OwnWalkIn
import Derived.TacticsInMore
import Derived.LoopNIn
import Derived.LoopIn
namespace Go.Proofs.Ytjikahflbhgniaa
open Go.RowKit

/-- These headers lie behind A. -/
def HdIn (w : World) (A : Option Addr) (l : List Prm) : Prop := ∀ i (h : i < l.length), ∃ a : Addr, A = some a ∧ a.block < w.heap.size ∧
  w.cell? (a.add (i * 2)) = some (.string l[i].n) ∧ w.cell? ⟨(a.add (i * 2)).block, (a.add (i * 2)).off + 1, none⟩ = some (.string l[i].v)
theorem HdIn.below {w w' : World} {A : Option Addr} {l : List Prm} (h : HdIn w A l) (hb : Below w.heap.size w w') : HdIn w' A l := fun i hi => by
  obtain ⟨a, e, hl, h0, h1⟩ := h i hi
  have hl2 : (a.add (i * 2)).block < w.heap.size := by rw [madd_block]; exact hl
  exact ⟨a, e, by have := hb.size; omega, (hb.cell hl2).trans h0, (hb.cell (p := ⟨(a.add (i * 2)).block, (a.add (i * 2)).off + 1, none⟩) hl2).trans h1⟩
theorem HdIn.ps {w : World} {A : Option Addr} {l : List Prm} (h : PsIn w A l) : HdIn w A l := fun i hi => by
  obtain ⟨g, e, hl, h0, h1⟩ := h i hi
  have ea : (⟨g, 0, none⟩ : Addr).add (i * 2) = ⟨g, i * 2, none⟩ := by cases i <;> simp [Addr.add]
  refine ⟨_, e, hl, ?_, ?_⟩
  · rw [ea]; exact h0
  · rw [ea]; exact h1
theorem HdIn.head {w : World} {A : Option Addr} {l : List Prm} (h : HdIn w A l) (k : Nat) : HdIn w A (l.take k) := fun i hi => by
  have hi2 : i < l.length := by rw [List.length_take] at hi; omega
  obtain ⟨a, e, hl, h0, h1⟩ := h i hi2
  refine ⟨a, e, hl, ?_, ?_⟩
  · rw [List.getElem_take]; exact h0
  · rw [List.getElem_take]; exact h1
theorem HdIn.tail {w : World} {a : Addr} {l : List Prm} (h : HdIn w (some a) l) (k : Nat) : HdIn w (some (a.add (k * 2))) (l.drop k) := fun i hi => by
  have hi2 : k + i < l.length := by rw [List.length_drop] at hi; omega
  obtain ⟨a', e, hl, h0, h1⟩ := h (k + i) hi2
  cases e
  refine ⟨_, rfl, by rw [madd_block]; exact hl, ?_, ?_⟩
  · rw [add_add22, show k * 2 + i * 2 = (k + i) * 2 by omega, List.getElem_drop]; exact h0
  · rw [add_add22, show k * 2 + i * 2 = (k + i) * 2 by omega, List.getElem_drop]; exact h1

/-- Which of some headers is the first of which q holds; -1: of none. -/
def FstQ (q : Prm → Bool) (l : List Prm) (r : Int) : Prop := (r = -1 ∧ ∀ j (hj : j < l.length), q l[j] = false) ∨ ∃ k, ∃ hk : k < l.length, r = (k : Int) ∧ q l[k] = true ∧ ∀ j (hj : j < l.length), j < k → q l[j] = false
theorem FstQ.some (q : Prm → Bool) (l : List Prm) : ∃ r, FstQ q l r := by
  have key : ∀ m, m ≤ l.length → (∀ j (hj : j < l.length), j < m → q l[j] = false) ∨ ∃ r, FstQ q l r := by
    intro m
    induction m with
    | zero => intro _; exact .inl fun j _ h => absurd h (by omega)
    | succ m ih =>
      intro hm
      rcases ih (by omega) with h | h
      · cases e : q l[m]
        · refine .inl fun j hj h2 => ?_
          by_cases hjm : j = m
          · subst hjm; exact e
          · exact h j hj (by omega)
        · exact .inr ⟨m, .inr ⟨m, by omega, rfl, e, h⟩⟩
      · exact .inr h
  rcases key l.length (Nat.le_refl _) with h | h
  · exact ⟨-1, .inl ⟨rfl, fun j hj => h j hj hj⟩⟩
  · exact h
theorem FstQ.any {q : Prm → Bool} {l : List Prm} {r : Int} (h : FstQ q l r) : decide (0 ≤ r) = l.any q := by
  rcases h with ⟨rfl, h⟩ | ⟨k, hk, rfl, h, _⟩
  · symm
    show l.any q = false
    rw [List.any_eq_false]
    intro x hx
    obtain ⟨j, hj, rfl⟩ := List.getElem_of_mem hx
    simp [h j hj]
  · have : l.any q = true := by rw [List.any_eq_true]; exact ⟨l[k], List.getElem_mem hk, h⟩
    rw [this]
    simp
theorem FstQ.at_ {q : Prm → Bool} {l : List Prm} {r : Int} (h : FstQ q l r) {k : Nat} (hk : k < l.length) (hy : q l[k] = true) (hno : ∀ j (hj : j < l.length), j < k → q l[j] = false) : r = (k : Int) := by
  rcases h with ⟨_, h2⟩ | ⟨j, hj, h1, h2, h3⟩
  · rw [h2 k hk] at hy; cases hy
  · rcases Nat.lt_trichotomy j k with h5 | h5 | h5
    · rw [hno j hj h5] at h2; cases h2
    · rw [h1, h5]
    · rw [h3 k hk h5] at hy; cases hy
theorem FstQ.no {q : Prm → Bool} {l : List Prm} {r : Int} (h : FstQ q l r) (hno : ∀ j (hj : j < l.length), j < l.length → q l[j] = false) : r = -1 := by
  rcases h with ⟨h1, _⟩ | ⟨j, hj, h1, h2, h3⟩
  · exact h1
  · rw [hno j hj hj] at h2; cases h2

/-- The function that tells whether a header is of the name that lies in block nb. -/
abbrev namedV (nb : Nat) : Value := .func (.func 52) #[] #[.pointer (some ⟨nb, 0, none⟩)]
abbrev badV : Value := .func (.func 33) #[] #[]

set_option maxHeartbeats 400000 in
theorem isNamed_any (name : ByteArray) (w : World) :
    Calls Try.prog 32 #[.string name] w fun e w' => e = .returned (namedV w.heap.size) ∧ w' = w.alloc (.cells #[.string name] 9) := by
  have hmf := make_func
  go_enter Try.func32, Try.ntmps32
  go_wp2
  go_ret
  exact ⟨rfl, rfl⟩

set_option maxHeartbeats 400000 in
theorem isNamed1_any (nb : Nat) (name n v : ByteArray) (w : World) (h : w.cell? ⟨nb, 0, none⟩ = some (.string name)) (hn : n.size ≤ 9223372036854775807) (hm : name.size ≤ 9223372036854775807) :
    Calls Try.prog 52 #[.agg #[.string n, .string v], .pointer (some ⟨nb, 0, none⟩)] w fun e w' => e = .returned (.bool (hasN name ⟨n, v⟩)) ∧ Below w.heap.size w w' := by
  have HS := Lib.hid (fun W => same_any n name W hn hm)
  have HE : Hid (hasN name ⟨n, v⟩ = sameB n name) := rfl
  rw [HE.out]
  clear HE
  generalize sameB n name = b at *
  have hlt : nb < w.heap.size := World.block_lt_of_cell? w _ h
  have HD0 := Lib.hid (HdAt.new w #[.string n, .string v])
  have cn : (w.alloc (.cells #[.string n, .string v] 53)).cell? ⟨nb, 0, none⟩ = some (.string name) := (World.cell?_alloc_lt w _ _ hlt).trans h
  clear h
  go_enter Try.func52, Try.ntmps52
  go_wp2_with (go_at_call 53; (with_reducible refine (HS.out _).mono ?_); rintro e w1 ⟨rfl, q, rfl⟩)
  go_ret
  exact ⟨rfl, Below.drewN' HD0.out.1 _⟩

set_option maxHeartbeats 2000000 in
set_option maxRecDepth 100000 in
theorem indexBad_any (c : Nat) (A : Option Addr) (l : List Prm) (r : Int) (w : World) (h : HdIn w A l) (ha : AllIn 1048576 l) (hn : l.length ≤ 1048576) (hr : FstQ (fun p => !hdrB p) l r) :
    Calls Try.prog 45 #[.slice A l.length c, badV] w fun e w' => e = .returned (.int .i64 r) ∧ Below w.heap.size w w' := by
  have HH := Lib.hid h
  have HR := Lib.hid hr
  have HA := Lib.hid ha
  clear h hr ha
  go_enter Try.func45, Try.ntmps45
  go_wp2
  go_loopw [8] (fun i wr => ∃ k : Nat, k ≤ l.length ∧ i = .int .i64 k ∧ Hid (∀ j (hj : j < l.length), j < k → (fun p => !hdrB p) l[j] = false) ∧ Hid (Below w.heap.size w wr)) (fun i _ => l.length - (intOf i).toNat)
  case atStart => exact ⟨0, by omega, rfl, fun j _ h => absurd h (by omega), Below.refl _ _⟩
  case round =>
    obtain ⟨k, hk, rfl, HN, HW⟩ := hrel
    by_cases hlt : k < l.length
    · obtain ⟨a, rfl, hal, c0, c1⟩ := (HH.out.below HW.out) k hlt
      have hsz := HA.out.at_ hlt
      have HX := Lib.hid (show ∀ p, l[k] = p → (fun p => !hdrB p) p = true → r = (k : Int) from fun p e hp => HR.out.at_ hlt (by rw [e]; exact hp) HN.out)
      have HN1 := Lib.hid (show ∀ p, l[k] = p → (fun p => !hdrB p) p = false → ∀ j (hj : j < l.length), j < k + 1 → (fun p => !hdrB p) l[j] = false from fun p e hp j hj h2 => by
        by_cases e2 : j = k
        · subst e2; rw [e]; exact hp
        · exact HN.out j hj (by omega))
      obtain ⟨p, hp⟩ : ∃ p, l[k] = p := ⟨_, rfl⟩
      rw [hp] at c0 c1 hsz
      have HX := Lib.hid (HX.out p hp)
      have HN1 := Lib.hid (HN1.out p hp)
      clear hp
      obtain ⟨n, v⟩ := p
      simp only at c0 c1 hsz
      have HC := Lib.hid (fun W => show Calls Try.prog 33 #[.agg #[.string n, .string v]] W fun e w' => e = .returned (.bool ((fun p => !hdrB p) ⟨n, v⟩)) ∧ Below W.heap.size W w' from isBad_any n v W (by omega) (by omega))
      cases hb : (fun p => !hdrB p) ⟨n, v⟩
      · rw [hb] at HC
        have HN1 := Lib.hid (HN1.out hb)
        clear hb
        go_wp2_with (go_at_call 33; (with_reducible refine (HC.out _).mono ?_); rintro e w1 ⟨rfl, b1⟩; have HB1 := Lib.hid b1; clear b1)
        go_roundw
        case rel => exact ⟨k + 1, by omega, by go_num, HN1, HW.out.trans (HB1.out.mono HW.out.size)⟩
        case measure => simp [intOf]; omega
      · rw [hb] at HC
        have HX := Lib.hid (HX.out hb)
        clear hb
        go_wp2_with (go_at_call 33; (with_reducible refine (HC.out _).mono ?_); rintro e w1 ⟨rfl, b1⟩; have HB1 := Lib.hid b1; clear b1)
        go_ret
        exact ⟨by rw [HX.out]; rfl, HW.out.trans (HB1.out.mono HW.out.size)⟩
    · obtain rfl : k = l.length := by omega
      have HX := Lib.hid (HR.out.no HN.out)
      go_wp2
      go_ret
      exact ⟨by rw [HX.out]; rfl, HW.out⟩

set_option maxHeartbeats 400000 in
theorem containsBad_any (c : Nat) (A : Option Addr) (l : List Prm) (w : World) (h : HdIn w A l) (ha : AllIn 1048576 l) (hn : l.length ≤ 1048576) :
    Calls Try.prog 31 #[.slice A l.length c, badV] w fun e w' => e = .returned (.bool (l.any (fun p => !hdrB p))) ∧ Below w.heap.size w w' := by
  obtain ⟨r, hr⟩ := FstQ.some (fun p => !hdrB p) l
  have HC := Lib.hid (indexBad_any c A l r w h ha hn hr)
  have HD := Lib.hid hr.any
  rw [← HD.out]
  clear HD hr h ha
  go_enter Try.func31, Try.ntmps31
  go_wp2_with fail
  refine HC.out.mono ?_
  rintro e w1 ⟨rfl, b1⟩
  have HB := Lib.hid b1
  clear b1
  go_wp2
  go_ret
  exact ⟨rfl, HB.out⟩

set_option maxHeartbeats 2000000 in
set_option maxRecDepth 100000 in
theorem indexNamed_any (nb : Nat) (name : ByteArray) (c : Nat) (A : Option Addr) (l : List Prm) (r : Int) (w : World) (h : HdIn w A l) (ha : AllIn 1048576 l) (hn : l.length ≤ 1048576) (hc : w.cell? ⟨nb, 0, none⟩ = some (.string name)) (hm : name.size ≤ 9223372036854775807) (hr : FstQ (hasN name) l r) :
    Calls Try.prog 45 #[.slice A l.length c, namedV nb] w fun e w' => e = .returned (.int .i64 r) ∧ Below w.heap.size w w' := by
  have HH := Lib.hid h
  have HR := Lib.hid hr
  have HA := Lib.hid ha
  have hlb : nb < w.heap.size := World.block_lt_of_cell? w _ hc
  have HCB := Lib.hid hc
  clear hc
  clear h hr ha
  go_enter Try.func45, Try.ntmps45
  go_wp2
  go_loopw [8] (fun i wr => ∃ k : Nat, k ≤ l.length ∧ i = .int .i64 k ∧ Hid (∀ j (hj : j < l.length), j < k → (hasN name) l[j] = false) ∧ Hid (Below w.heap.size w wr)) (fun i _ => l.length - (intOf i).toNat)
  case atStart => exact ⟨0, by omega, rfl, fun j _ h => absurd h (by omega), Below.refl _ _⟩
  case round =>
    obtain ⟨k, hk, rfl, HN, HW⟩ := hrel
    by_cases hlt : k < l.length
    · obtain ⟨a, rfl, hal, c0, c1⟩ := (HH.out.below HW.out) k hlt
      have hsz := HA.out.at_ hlt
      have HX := Lib.hid (show ∀ p, l[k] = p → (hasN name) p = true → r = (k : Int) from fun p e hp => HR.out.at_ hlt (by rw [e]; exact hp) HN.out)
      have HN1 := Lib.hid (show ∀ p, l[k] = p → (hasN name) p = false → ∀ j (hj : j < l.length), j < k + 1 → (hasN name) l[j] = false from fun p e hp j hj h2 => by
        by_cases e2 : j = k
        · subst e2; rw [e]; exact hp
        · exact HN.out j hj (by omega))
      obtain ⟨p, hp⟩ : ∃ p, l[k] = p := ⟨_, rfl⟩
      rw [hp] at c0 c1 hsz
      have HX := Lib.hid (HX.out p hp)
      have HN1 := Lib.hid (HN1.out p hp)
      clear hp
      obtain ⟨n, v⟩ := p
      simp only at c0 c1 hsz
      have hcb := (HW.out.cell (p := ⟨nb, 0, none⟩) hlb).trans HCB.out
      have HC := Lib.hid (fun W (h : W.cell? ⟨nb, 0, none⟩ = some (.string name)) => isNamed1_any nb name n v W h (by omega) hm)
      cases hb : (hasN name) ⟨n, v⟩
      · rw [hb] at HC
        have HN1 := Lib.hid (HN1.out hb)
        clear hb
        go_wp2_with (go_at_call 52; (with_reducible refine (HC.out _ hcb).mono ?_); rintro e w1 ⟨rfl, b1⟩; have HB1 := Lib.hid b1; clear b1)
        go_roundw
        case rel => exact ⟨k + 1, by omega, by go_num, HN1, HW.out.trans (HB1.out.mono HW.out.size)⟩
        case measure => simp [intOf]; omega
      · rw [hb] at HC
        have HX := Lib.hid (HX.out hb)
        clear hb
        go_wp2_with (go_at_call 52; (with_reducible refine (HC.out _ hcb).mono ?_); rintro e w1 ⟨rfl, b1⟩; have HB1 := Lib.hid b1; clear b1)
        go_ret
        exact ⟨by rw [HX.out]; rfl, HW.out.trans (HB1.out.mono HW.out.size)⟩
    · obtain rfl : k = l.length := by omega
      have HX := Lib.hid (HR.out.no HN.out)
      go_wp2
      go_ret
      exact ⟨by rw [HX.out]; rfl, HW.out⟩

set_option maxHeartbeats 400000 in
theorem containsNamed_any (nb : Nat) (name : ByteArray) (c : Nat) (A : Option Addr) (l : List Prm) (w : World) (h : HdIn w A l) (ha : AllIn 1048576 l) (hn : l.length ≤ 1048576) (hc : w.cell? ⟨nb, 0, none⟩ = some (.string name)) (hm : name.size ≤ 9223372036854775807) :
    Calls Try.prog 31 #[.slice A l.length c, namedV nb] w fun e w' => e = .returned (.bool (l.any (hasN name))) ∧ Below w.heap.size w w' := by
  obtain ⟨r, hr⟩ := FstQ.some (hasN name) l
  have HC := Lib.hid (indexNamed_any nb name c A l r w h ha hn hc hm hr)
  have HD := Lib.hid hr.any
  rw [← HD.out]
  clear HD hr h ha
  go_enter Try.func31, Try.ntmps31
  go_wp2_with fail
  refine HC.out.mono ?_
  rintro e w1 ⟨rfl, b1⟩
  have HB := Lib.hid b1
  clear b1
  go_wp2
  go_ret
  exact ⟨rfl, HB.out⟩

theorem all_not {l : List Prm} : (!l.any fun p => !hdrB p) = l.all hdrB := by
  induction l with
  | nil => rfl
  | cons p r ih => rw [List.any_cons, List.all_cons, ← ih]; cases hdrB p <;> simp

set_option maxHeartbeats 400000 in
theorem good_any (A : Option Addr) (c : Nat) (l : List Prm) (w : World) (h : HdIn w A l) (ha : AllIn 1048576 l) (hn : l.length ≤ 1048576) :
    Calls Try.prog 12 #[.slice A l.length c] w fun e w' => e = .returned (.bool (hdrsB l)) ∧ Below w.heap.size w w' := by
  have HC := Lib.hid (containsBad_any c A l w h ha hn)
  have HV : Hid (hdrsB l = (!(l.any fun p => !hdrB p) && decide (l.length ≤ 100))) := by unfold hdrsB; rw [all_not]; exact Lib.hid rfl
  rw [HV.out]
  clear HV h ha
  generalize l.any (fun p => !hdrB p) = b at *
  cases hd : decide (l.length ≤ 100)
  · have hd2 : decide ((l.length : Int) ≤ 100) = false := by simp at hd ⊢; omega
    go_enter Try.func12, Try.ntmps12
    go_wp2
    go_ret
    exact ⟨by simp, Below.refl _ _⟩
  · have hd2 : decide ((l.length : Int) ≤ 100) = true := by simp at hd ⊢; omega
    go_enter Try.func12, Try.ntmps12
    go_wp2_with (go_at_call 31; (with_reducible refine HC.out.mono ?_); rintro e w1 ⟨rfl, b1⟩; have HB := Lib.hid b1; clear b1)
    go_ret
    exact ⟨by simp, HB.out⟩

set_option maxHeartbeats 400000 in
theorem hhas_any (name : ByteArray) (A : Option Addr) (c : Nat) (l : List Prm) (w : World) (h : HdIn w A l) (ha : AllIn 1048576 l) (hn : l.length ≤ 1048576) (hm : name.size ≤ 9223372036854775807) :
    Calls Try.prog 11 #[.string name, .slice A l.length c] w fun e w' => e = .returned (.bool (l.any (hasN name))) ∧ Below w.heap.size w w' := by
  have HH := Lib.hid h
  have HC := Lib.hid (fun W h1 h2 => containsNamed_any w.heap.size name c A l W h1 ha hn h2 hm)
  clear h ha
  generalize l.any (hasN name) = b at *
  go_enter Try.func11, Try.ntmps11
  go_wp2_with fail
  refine (isNamed_any name w).mono ?_
  rintro e w1 ⟨rfl, rfl⟩
  have HB0 := Lib.hid ((Below.refl w.heap.size w).alloc (Nat.le_refl _) (.cells #[.string name] 9))
  have HH1 := Lib.hid (HH.out.below HB0.out)
  have HN1 : Hid ((w.alloc (.cells #[.string name] 9)).cell? ⟨w.heap.size, 0, none⟩ = some (.string name)) := (Blk.new w 9 #[.string name]).cell 0
  have HC1 := Lib.hid (HC.out _ HH1.out HN1.out)
  clear HC HH1 HN1 HH
  generalize w.alloc (.cells #[.string name] 9) = w1 at *
  go_wp2_with fail
  refine HC1.out.mono ?_
  rintro e w2 ⟨rfl, b2⟩
  have HB2 := Lib.hid (below_on HB0.out b2)
  clear b2
  go_wp2
  go_ret
  exact ⟨rfl, HB2.out⟩

end Go.Proofs.Ytjikahflbhgniaa
namespace Go.Proofs.Ytjikahflbhgniaa
open Go.RowKit Go.Shelf
attribute [local go_sem] Oper.semAt_some

/-- What a round keeps: all below block B but block L. -/
def KeepsU (B L : Nat) (W W' : World) : Prop := ∀ g, g < B → g ≠ L → W'.heap[g]? = W.heap[g]?
theorem keepsU_t {B L : Nat} {X Y Z : World} (h : KeepsU B L X Y) (k : KeepsU B L Y Z) : KeepsU B L X Z := fun g h1 h2 => (k g h1 h2).trans (h g h1 h2)
theorem keepsU_b {B L : Nat} (W : World) (l : Nat) (o o' : Obj) (hB : B ≤ l) (_ : W.heap[l]? = some o) (_ : o.isCells = false) (_ : o.isWalk = false) : KeepsU B L W (W.putObj l o') := fun g h1 _ => World.putObj_heap_other (by omega)
theorem keepsU_below {B L : Nat} {W W' : World} (h : Below B W W') : KeepsU B L W W' := fun g h1 _ => h.block g h1
theorem keepsU_mv {B L : Nat} {W W' : World} (h : Mv B [L] W W') : KeepsU B L W W' := fun g h1 h2 => h.block g h1 (by simpa using h2)
theorem Blk.ku {B L : Nat} {W W' : World} {g : Nat} {T : TypeId} {cs : Array Value} (h : Blk W g T cs) (k : KeepsU B L W W') (hg : g < B) (hL : g ≠ L) : Blk W' g T cs := (k g hg hL).trans h
theorem HdIn.ku {B L : Nat} {W W' : World} {A : Option Addr} {l : List Prm} (h : HdIn W A l) (k : KeepsU B L W W') (hA : ∀ a, A = some a → 0 < l.length → a.block < B ∧ a.block ≠ L) : HdIn W' A l := fun i hi => by
  obtain ⟨a, e, hl, h0, h1⟩ := h i hi
  have hb := hA a e (by omega)
  have e1 := k a.block hb.1 hb.2
  refine ⟨a, e, ?_, ?_, ?_⟩
  · rcases Nat.lt_or_ge a.block W'.heap.size with h2 | h2
    · exact h2
    · rw [Array.getElem?_eq_none h2, Array.getElem?_eq_getElem hl] at e1
      cases e1
  · refine (World.cell?_of_block (w := W) ?_).trans h0
    rw [madd_block]; exact e1
  · refine (World.cell?_of_block (w := W) (a := ⟨(a.add (i * 2)).block, (a.add (i * 2)).off + 1, none⟩) ?_).trans h1
    show W'.heap[(a.add (i * 2)).block]? = W.heap[(a.add (i * 2)).block]?
    rw [madd_block]; exact e1
theorem abidesA_step {β : Type} {B : Nat} {J : β → World → Prop} (h : AbidesFrom B J) {x : β} {W W' : World} (hj : J x W) (hb : Below W.heap.size W W') : J x W' :=
  h x W W' none hj ⟨hb.os, hb.tape, hb.output, hb.size, fun i hi _ => hb.block i hi⟩ (fun r e => by cases e)

theorem HdIn.lt {w : World} {A : Option Addr} {l : List Prm} (h : HdIn w A l) : ∀ a, A = some a → 0 < l.length → a.block < w.heap.size := fun a e hl => by
  obtain ⟨a', e', h1, _⟩ := h 0 hl
  rw [e] at e'
  cases e'
  exact h1

abbrev encH (p : Prm) : Array Value := #[.agg #[.string p.n, .string p.v]]

theorem filt_yes {q : Prm → Bool} {l : List Prm} {k : Nat} (hk : k < l.length) (h : q l[k] = true) : (l.take (k + 1)).filter q = (l.take k).filter q ++ [l[k]] := by
  rw [List.take_succ_eq_append_getElem hk, List.filter_append]
  simp [h]
theorem filt_no {q : Prm → Bool} {l : List Prm} {k : Nat} (hk : k < l.length) (h : q l[k] = false) : (l.take (k + 1)).filter q = (l.take k).filter q := by
  rw [List.take_succ_eq_append_getElem hk, List.filter_append]
  simp [h]
theorem filt_len (q : Prm → Bool) (l : List Prm) (k : Nat) (hk : k < l.length) : ((l.take k).filter q).length < l.length :=
  Nat.lt_of_le_of_lt (Nat.le_trans List.filter_sublist.length_le (List.length_take_le _ _)) hk

set_option maxHeartbeats 4000000 in
set_option maxRecDepth 100000 in
/-- The iterator, for every loop body that keeps what is not its own. -/
theorem named1_in (n : Nat) (hn : 1 ≤ n) (l Lb Fb Nb L B B0 c : Nat) (name : ByteArray) (A : Option Addr) (ps : List Prm) (hm : name.size ≤ 1048576) (ha : AllIn 1048576 ps) (hl : ps.length ≤ 1048576) (J Jx : List Prm → World → Prop) (hJ : AbidesFrom B0 J)
    (hY : ∀ pre x W, J pre W → pre.length < ps.length → YieldAt Fence.wide (n - 1) Try.prog l (encH x) W fun e W' =>
      (e = .returned (.bool true) ∧ J (pre ++ [x]) W' ∧ KeepsU B L W W') ∨ (e = .returned (.bool false) ∧ Jx (pre ++ [x]) W'))
    (W : World) (hLb : Blk W Lb 22 #[.slice A ps.length c]) (hFb : Blk W Fb 57 #[namedV Nb]) (hNb : Blk W Nb 9 #[.string name]) (hP : HdIn W A ps)
    (hF : Fb < B ∧ Fb ≠ L) (hN : Nb < B ∧ Nb ≠ L) (hA : ∀ a, A = some a → 0 < ps.length → a.block < B ∧ a.block ≠ L) (h0 : J [] W) :
    CallsIn Fence.wide n Try.prog 59 #[.func (.yield l) #[] #[], .pointer (some ⟨Lb, 0, none⟩), .pointer (some ⟨Fb, 0, none⟩)] W fun e W' => (∃ v, e = .returned v) ∧
      ((∃ xs, xs = ps.filter (hasN name) ∧ J xs W') ∨ (∃ pre, True ∧ Jx pre W')) := by
  have HY := Lib.hid hY
  have HJ := Lib.hid hJ
  have H0 := Lib.hid h0
  have HP := Lib.hid hP
  have HA := Lib.hid ha
  have HAA := Lib.hid hA
  have HFb := Lib.hid hFb
  have HNb := Lib.hid hNb
  have cL := hLb.cell 0
  clear hY hJ h0 hP ha hA hFb hNb hLb
  refine callsIn_of_wp Try.func59 rfl trivial ?_ rfl
  simp only [Try.ntmps59, List.size_toArray, List.length_cons, List.length_nil, Nat.reduceAdd, Nat.reduceSub, Array.replicate_succ, Array.replicate_zero, List.push_toArray, List.append_toArray, List.nil_append, List.cons_append]
  gi_wp2
  gi_loopw [8] (fun i wr => ∃ k : Nat, k ≤ ps.length ∧ i = .int .i64 (k : Nat) ∧ Hid (J ((ps.take k).filter (hasN name)) wr) ∧ Hid (Blk wr Fb 57 #[namedV Nb]) ∧ Hid (Blk wr Nb 9 #[.string name]) ∧ Hid (HdIn wr A ps)) (fun i _ => ps.length - (intOf i).toNat)
  case atStart => exact ⟨0, by omega, rfl, H0, HFb, HNb, HP⟩
  case round =>
    obtain ⟨k, hk, rfl, HJk, HF2, HN2, HP2⟩ := hrel
    clear HFb HNb HP H0 cL
    by_cases hlt : k < ps.length
    · obtain ⟨a, rfl, hal, c0, c1⟩ := HP2.out k hlt
      have hsz := HA.out.at_ hlt
      have HLN := Lib.hid (filt_len (hasN name) ps k hlt)
      have HYK := Lib.hid (fun W hj => HY.out ((ps.take k).filter (hasN name)) ps[k] W hj HLN.out)
      have HL1 := Lib.hid (show hasN name ps[k] = true → _ from filt_yes hlt)
      have HL2 := Lib.hid (show hasN name ps[k] = false → _ from filt_no hlt)
      obtain ⟨p, hp⟩ : ∃ p, ps[k] = p := ⟨_, rfl⟩
      rw [hp] at c0 c1 hsz HYK HL1 HL2
      clear hp
      obtain ⟨pn, pv⟩ := p
      simp only at c0 c1 hsz
      have HC := Lib.hid (fun W (h : W.cell? ⟨Nb, 0, none⟩ = some (.string name)) => callsIn_wide (n := n - 1).2 (isNamed1_any Nb name pn pv W h (by omega) (by omega)))
      have b0 : Below wr.heap.size wr (wr.alloc (.cells #[.string pn, .string pv] 53)) := (Below.refl _ _).alloc (Nat.le_refl _) _
      have cF : (wr.alloc (.cells #[.string pn, .string pv] 53)).cell? ⟨Fb, 0, none⟩ = some (namedV Nb) := (HF2.out.below b0 HF2.out.lt).cell 0
      have cN : (wr.alloc (.cells #[.string pn, .string pv] 53)).cell? ⟨Nb, 0, none⟩ = some (.string name) := (HN2.out.below b0 HN2.out.lt).cell 0
      have HB0 := Lib.hid b0
      have hFl := HF2.out.lt
      clear b0
      cases hb : hasN name ⟨pn, pv⟩
      · rw [hb] at HC
        have HL := Lib.hid (HL2.out hb)
        clear hb HL1 HL2 HYK HY
        gi_wp2_with (first | (with_reducible refine And.intro ?_ ?_; focus (intro f h; cases h)) | (refine ⟨trivial, ?_⟩; gi_at_call 52; refine (HC.out _ cN).mono ?_; rintro e w3 ⟨rfl, b3⟩; have HB3 := Lib.hid (HB0.out.trans (b3.mono (by simp))); clear b3))
        go_roundw
        case rel => exact ⟨k + 1, by omega, by go_num, by rw [HL.out]; exact abidesA_step HJ.out HJk.out HB3.out, HF2.out.below HB3.out HF2.out.lt, HN2.out.below HB3.out HN2.out.lt, HP2.out.below HB3.out⟩
        case measure => simp [intOf]; omega
      · rw [hb] at HC
        have HL := Lib.hid (HL1.out hb)
        clear hb HL1 HL2 HY
        have HX0 := Lib.hid (Blk.new wr 53 #[.string pn, .string pv])
        gi_wp2_with (first | (with_reducible refine And.intro ?_ ?_; focus (intro f h; cases h)) | (refine ⟨trivial, ?_⟩; gi_at_call 52; refine (HC.out _ cN).mono ?_; rintro e w3 ⟨rfl, b3⟩; have HB3 := Lib.hid (HB0.out.trans (b3.mono (by simp))); have x0 : w3.cell? ⟨wr.heap.size, 0, none⟩ = some (.string pn) := (HX0.out.below b3 (by simp)).cell 0; have x1 : w3.cell? ⟨wr.heap.size, 1, none⟩ = some (.string pv) := (HX0.out.below b3 (by simp)).cell 1; clear b3; obtain ⟨f2, t2, a2, y2, hy2, hR2⟩ := HYK.out w3 (abidesA_step HJ.out HJk.out HB3.out); dsimp only [encH] at hy2))
        refine hR2.mono ?_
        rintro e W3 (⟨rfl, hJ3, hk3⟩ | ⟨rfl, hx3⟩)
        · have HF3 := Lib.hid ((HF2.out.below HB3.out HF2.out.lt).ku hk3 hF.1 hF.2)
          have HN3 := Lib.hid ((HN2.out.below HB3.out HN2.out.lt).ku hk3 hN.1 hN.2)
          have HP3 := Lib.hid ((HP2.out.below HB3.out).ku hk3 HAA.out)
          have HJ3 := Lib.hid hJ3
          clear hk3 hJ3
          gi_wp2
          go_roundw
          case rel => exact ⟨k + 1, by omega, by go_num, by rw [HL.out]; exact HJ3.out, HF3, HN3, HP3⟩
          case measure => simp [intOf]; omega
        · gi_wp2
          refine bodyPost_ret (results_none rfl _ _ _) rfl ?_
          exact ⟨⟨_, rfl⟩, .inr ⟨_, trivial, hx3⟩⟩
    · obtain rfl : k = ps.length := by omega
      have HE := Lib.hid (show (ps.take ps.length).filter (hasN name) = ps.filter (hasN name) from by rw [List.take_length])
      gi_wp2
      go_end0
      exact ⟨⟨_, rfl⟩, .inl ⟨_, rfl, by rw [← HE.out]; exact HJk.out⟩⟩

theorem blk_own {β : Type} (B : Nat) (t : TypeId) (cs : Array Value) : Own (fun (_ : β) W => Blk W B t cs) := fun s X Y row hs hg hrow =>
  (hg.block B (Blk.lt hs) (fun e' => by obtain ⟨o, ho, hc⟩ := hrow B e'.symm; rw [show X.heap[B]? = _ from hs] at ho; cases ho; cases hc)).trans hs

/-- A list that grows in a box: nothing below its row's base has turned but the box. -/
theorem boxed_mv {W w1 : World} {base L : Nat} {e : TypeId} {size : Nat} {v v' : Value} {k : Nat} {xs : List Value} {tmp : Obj} (hrow : W.ownsRow base e size v k xs) (hb : base ≤ W.heap.size) (hgrow : (W.alloc tmp).grownBy w1 v.ownBlock) : Mv base [L] W (w1.setCell ⟨L, 0, none⟩ v') := by
  have h1 : Mv base [L] W (W.alloc tmp) := (Mv.refl _ _ _).alloc hb _
  have h2 : Mv base [L] (W.alloc tmp) w1 := ⟨hgrow.os, hgrow.tape, hgrow.output, hgrow.size, fun k hk _ => hgrow.block k (by simp; omega) (fun e => by have := (hrow.lt k e.symm).1; omega)⟩
  exact (h1.trans h2).setCell (.inl (by simp)) _

end Go.Proofs.Ytjikahflbhgniaa
namespace Go.Proofs.Ytjikahflbhgniaa
open Go.RowKit Go.Shelf
attribute [local go_sem] Oper.semAt_some

/-- The lines of a text from a place on, with their numbers, without the empty ones. -/
def linP (s : ByteArray) : Nat → Nat → Nat → List (Nat × ByteArray)
  | 0, _, _ => []
  | f + 1, k, n => if k < s.size then (if (cr13 (s.extract k (scan no10 s k))).size = 0 then [] else [(n, cr13 (s.extract k (scan no10 s k)))]) ++ linP s f (scan no10 s k + 1) (n + 1) else []
/-- What lines say. -/
def parW : List (Nat × ByteArray) → List Prm → List Prm ⊕ Nat
  | [], acc => .inl acc
  | (n, t) :: r, acc => match hdrO t with
    | some (some h) => parW r (acc ++ [h])
    | _ => .inr n
theorem linP_end {s : ByteArray} {k : Nat} (h : s.size ≤ k) : ∀ f n, linP s f k n = []
  | 0, _ => rfl
  | f + 1, n => by rw [linP, if_neg (by omega)]
theorem linP_step {s : ByteArray} {f k n e : Nat} {t : ByteArray} (h : k < s.size) (he : scan no10 s k = e) (ht : cr13 (s.extract k e) = t) : linP s (f + 1) k n = (if t.size = 0 then [] else [(n, t)]) ++ linP s f (e + 1) (n + 1) := by
  rw [linP, if_pos h, he, ht]
theorem hdrO_some {t : ByteArray} {o : Option Prm} (h : t.size ≠ 0) (e : hdrO t = some o) : ∃ p, o = some p := by
  unfold hdrO at e
  rw [if_neg h] at e
  split at e
  · cases e
  · split at e
    · cases e; exact ⟨_, rfl⟩
    · cases e
theorem parW_lin (s : ByteArray) : ∀ f k n acc, s.size < f + k → k ≤ s.size → parW (linP s f k n) acc = parH s f k n acc
  | 0, k, n, acc, h1, h2 => by omega
  | f + 1, k, n, acc, h1, h2 => by
    by_cases hk : k < s.size
    · obtain ⟨e, he⟩ : ∃ e, scan no10 s k = e := ⟨_, rfl⟩
      obtain ⟨t, ht⟩ : ∃ t, cr13 (s.extract k e) = t := ⟨_, rfl⟩
      have hge : k ≤ e := by rw [← he]; exact scan_ge _ _ _
      have hle : e ≤ s.size := by rw [← he]; exact scan_le _ _ _ h2
      have ih : e < s.size → ∀ a, parW (linP s f (e + 1) (n + 1)) a = parH s f (e + 1) (n + 1) a := fun hl a => parW_lin s f (e + 1) (n + 1) a (by omega) hl
      rw [linP_step hk he ht]
      cases ho : hdrO t with
      | none =>
        have hz : t.size ≠ 0 := fun h0 => by rw [hdrO_empty h0] at ho; cases ho
        rw [if_neg hz]
        rw [parH_bad he (by rw [ht]; exact ho)]
        show parW ((n, t) :: linP s f (e + 1) (n + 1)) acc = _
        rw [parW, ho]
      | some o =>
        have key : parW ((if t.size = 0 then [] else [(n, t)]) ++ linP s f (e + 1) (n + 1)) acc = parW (linP s f (e + 1) (n + 1)) (acc ++ o.toList) := by
          by_cases hz : t.size = 0
          · rw [hdrO_empty hz] at ho
            cases ho
            rw [if_pos hz]
            simp
          · rw [if_neg hz]
            obtain ⟨p, rfl⟩ := hdrO_some hz ho
            show parW ((n, t) :: linP s f (e + 1) (n + 1)) acc = _
            rw [parW, ho]
            rfl
        rw [key]
        by_cases hl : e < s.size
        · rw [parH_more he (by rw [ht]; exact ho) hl, ih hl]
        · have hes : e = s.size := by omega
          subst hes
          rw [linP_end (by omega), parH_last he (by rw [ht]; exact ho)]
          rfl
    · have hke : k = s.size := by omega
      rw [linP_end (by omega)]
      have hs : scan no10 s k = s.size := by rw [hke]; exact scan_end rfl
      have ht : hdrO (cr13 (s.extract k s.size)) = some none := by
        rw [hke, show s.extract s.size s.size = ⟨#[]⟩ from by apply ByteArray.ext; simp]
        kernel_rfl
      rw [parH_last hs ht]
      simp [parW]
theorem parW_app : ∀ (a b : List (Nat × ByteArray)) (acc : List Prm), parW (a ++ b) acc = match parW a acc with
    | .inl x => parW b x
    | .inr n => .inr n
  | [], b, acc => rfl
  | (n, t) :: r, b, acc => by
    show parW ((n, t) :: (r ++ b)) acc = _
    rw [parW, parW]
    cases ho : hdrO t with
    | none => rfl
    | some o => cases o with
      | none => rfl
      | some h => exact parW_app r b (acc ++ [h])
theorem linP_len (s : ByteArray) : ∀ f k n, (linP s f k n).length ≤ f
  | 0, _, _ => Nat.le_refl _
  | f + 1, k, n => by
    rw [linP]
    split
    · have := linP_len s f (scan no10 s k + 1) (n + 1)
      rw [List.length_append]
      split <;> simp <;> omega
    · simp
theorem linP_small (s : ByteArray) : ∀ f k n, ∀ x ∈ linP s f k n, x.2.size ≠ 0 ∧ x.2.size ≤ s.size
  | 0, _, _, x, hx => by cases hx
  | f + 1, k, n, x, hx => by
    rw [linP] at hx
    split at hx
    · rw [List.mem_append] at hx
      rcases hx with hx | hx
      · split at hx
        · cases hx
        · rename_i h1 h2
          obtain rfl := List.mem_singleton.1 hx
          refine ⟨h2, ?_⟩
          show (cr13 (s.extract k (scan no10 s k))).size ≤ s.size
          have : ∀ t : ByteArray, (cr13 t).size ≤ t.size := fun t => by
            unfold cr13
            split
            · simp
            · exact Nat.le_refl _
          have h3 := this (s.extract k (scan no10 s k))
          have h4 : (s.extract k (scan no10 s k)).size ≤ s.size := by simp; omega
          omega
      · exact linP_small s f _ _ x hx
    · cases hx

/-- A line that is handed on. -/
abbrev Lin : Type := { x : Nat × ByteArray // x.2.size ≠ 0 ∧ x.2.size ≤ 1048576 }
abbrev encL (x : Lin) : Array Value := #[.int .i64 (x.1.1 : Int), .string x.1.2]
def strLn (v : Value) : Nat := match v with
  | .string s => s.size
  | _ => 0

/-- The first line of what is left, and what is left behind it. -/
theorem cut_line {s : ByteArray} {k e : Nat} (hs : s.size ≤ 1048576) (hk : k < s.size) (he : scan no10 s k = e) :
    ∃ b : Bool, ∀ W, Calls Try.prog 68 #[.string (s.extract k s.size), .string ⟨#[10]⟩] W fun x w' => x = .returned (.tuple #[.string (s.extract k e), .string (s.extract (e + 1) s.size), .bool b]) ∧ ∃ n, w' = W.drewN n := by
  have hge : k ≤ e := by rw [← he]; exact scan_ge _ _ _
  have hle : e ≤ s.size := by rw [← he]; exact scan_le _ _ _ (by omega)
  have hsc := suf_scan (p := no10) (s := s) (k := k) (by omega)
  rw [he, no10_not] at hsc
  have hsz := suf_size (s := s) (k := k) (by omega)
  by_cases h : e < s.size
  · refine ⟨true, fun W => ?_⟩
    have := cutAt_yes 10 (s.extract k s.size) (e - k) W (by omega) (by omega) (by omega)
    rw [suf_ext (by omega), hsz, suf_ext (by omega), show k + 0 = k from rfl, show k + (e - k) = e by omega, show k + (e - k + 1) = e + 1 by omega, show k + (s.size - k) = s.size by omega] at this
    exact this
  · refine ⟨false, fun W => ?_⟩
    have := cutAt_no 10 (s.extract k s.size) W (by omega)
    have e1 : e = s.size := by omega
    rw [e1, show s.extract (s.size + 1) s.size = ⟨#[]⟩ from by apply ByteArray.ext; simp]
    exact this
theorem cut_cr (t : ByteArray) (W : World) (ht : t.size ≤ 1048576) :
    Calls Try.prog 69 #[.string t, .string ⟨#[13]⟩] W fun e w' => e = .returned (.string (cr13 t)) ∧ W = w' := by
  have := strings_TrimSuffix t ⟨#[13]⟩ W (by omega)
  rw [show (⟨#[13]⟩ : ByteArray).data.toList = [13] from rfl, cr13_trim] at this
  exact this.mono fun _ _ h => ⟨h.1, h.2.symm⟩

set_option maxHeartbeats 4000000 in
set_option maxRecDepth 100000 in
/-- The iterator, for every loop body. -/
theorem lines1_in (n : Nat) (hn : 1 ≤ n) (l Bn B0 : Nat) (s : ByteArray) (hs : s.size ≤ 1048576) (J Jx : List Lin → World → Prop) (hJ : AbidesFrom B0 J)
    (hY : ∀ pre x W, J pre W → pre.length < s.size + 1 → YieldAt Fence.wide (n - 1) Try.prog l (encL x) W fun e W' =>
      (e = .returned (.bool true) ∧ J (pre ++ [x]) W' ∧ True) ∨ (e = .returned (.bool false) ∧ Jx (pre ++ [x]) W'))
    (W : World) (hB : W.cell? ⟨Bn, 0, none⟩ = some (.string s)) (h0 : J [] W) :
    CallsIn Fence.wide n Try.prog 67 #[.func (.yield l) #[] #[], .pointer (some ⟨Bn, 0, none⟩)] W fun e W' => (∃ v, e = .returned v) ∧
      ((∃ xs : List Lin, xs.map Subtype.val = linP s (s.size + 1) 0 1 ∧ J xs W') ∨ (∃ pre : List Lin, (∃ r, linP s (s.size + 1) 0 1 = pre.map Subtype.val ++ r) ∧ Jx pre W')) := by
  have HY := Lib.hid hY
  have HJ := Lib.hid hJ
  have H0 := Lib.hid h0
  have HLN := Lib.hid (linP_len s (s.size + 1) 0 1)
  obtain ⟨LL, hLL⟩ : ∃ LL, LL = linP s (s.size + 1) 0 1 := ⟨_, rfl⟩
  rw [← hLL] at HLN ⊢
  have HLL := Lib.hid hLL
  have HEX := Lib.hid (show s.extract 0 s.size = s from by apply ByteArray.ext; simp)
  clear hY hJ h0 hLL
  refine callsIn_of_wp Try.func67 rfl trivial ?_ rfl
  simp only [Try.ntmps67, List.size_toArray, List.length_cons, List.length_nil, Nat.reduceAdd, Nat.reduceSub, Array.replicate_succ, Array.replicate_zero, List.push_toArray, List.append_toArray, List.nil_append, List.cons_append]
  gi_wp2
  gi_region
  gi_wp2
  gi_loopw [4, 5] (fun r i wr => ∃ (k m f : Nat) (pre : List Lin), m ≤ k + 1 ∧ k ≤ s.size + 1 ∧ r = .string (s.extract k s.size) ∧ i = .int .i64 (m : Nat) ∧ Hid (J pre wr) ∧ Hid (LL = pre.map Subtype.val ++ linP s f k m) ∧ Hid (k < s.size → s.size < f + k)) (fun r _ _ => strLn r)
  case atStart => exact ⟨0, 1, s.size + 1, [], by omega, by omega, by rw [HEX.out], rfl, Lib.hid (abidesA_step HJ.out H0.out ((Below.refl _ _).drew)), HLL, Lib.hid (fun _ => by omega)⟩
  case round =>
    obtain ⟨k, m, f, pre, hmk, hks, rfl, rfl, HJk, HPk, HFk⟩ := hrel
    by_cases hlt : k < s.size
    · have hsf := HFk.out hlt
      obtain ⟨f', rfl⟩ : ∃ f', f = f' + 1 := ⟨f - 1, by omega⟩
      obtain ⟨e, he⟩ : ∃ e, scan no10 s k = e := ⟨_, rfl⟩
      have hge : k ≤ e := by rw [← he]; exact scan_ge _ _ _
      have hle : e ≤ s.size := by rw [← he]; exact scan_le _ _ _ (by omega)
      obtain ⟨b, hcut⟩ := cut_line hs hlt he
      have hLs : (s.extract k e).size ≤ s.size := by simp; omega
      have HTR := Lib.hid (fun W => callsIn_wide (n := n - 1).2 (cut_cr (s.extract k e) W (by omega)))
      obtain ⟨t, ht⟩ : ∃ t, cr13 (s.extract k e) = t := ⟨_, rfl⟩
      have HST := Lib.hid (linP_step (f := f') (n := m) hlt he ht)
      have hts : t.size ≤ 1048576 := by
        have : ∀ u : ByteArray, (cr13 u).size ≤ u.size := fun u => by
          unfold cr13
          split
          · simp
          · exact Nat.le_refl _
        have := this (s.extract k e)
        rw [ht] at this
        omega
      rw [ht] at HTR
      have HSZ := Lib.hid (show (s.extract (e + 1) s.size).size < (s.extract k s.size).size from by rw [ByteArray.size_extract, ByteArray.size_extract]; omega)
      have hne : (s.extract k s.size).size ≠ 0 := by rw [ByteArray.size_extract]; omega
      have HPL := Lib.hid (show pre.length < s.size + 1 → True from fun _ => trivial)
      have HF1 := Lib.hid (show e + 1 < s.size → s.size < f' + (e + 1) from fun _ => by omega)
      have he1 : e + 1 ≤ s.size + 1 := by omega
      have hmk1 : m + 1 ≤ e + 1 + 1 := by omega
      have hms : m ≤ s.size + 2 := by omega
      have HCT := Lib.hid (fun W => callsIn_wide (n := n - 1).2 (hcut W))
      obtain ⟨r, hr⟩ : ∃ r, s.extract k s.size = r := ⟨_, rfl⟩
      obtain ⟨u, hu⟩ : ∃ u, s.extract k e = u := ⟨_, rfl⟩
      obtain ⟨r2, hr2⟩ : ∃ r2, s.extract (e + 1) s.size = r2 := ⟨_, rfl⟩
      rw [hr] at HSZ hne
      rw [hr2] at HSZ
      rw [hr, hu, hr2] at HCT
      rw [hu] at HTR
      have HR2 := Lib.hid hr2
      have HR := Lib.hid hr
      rw [hr]
      have n1 : (r.toList == ([] : List UInt8)) = false := by
        rw [Lib.toList_data]
        cases h : r.data.toList with
        | nil => exact absurd (by rw [Lib.size_eq, h]; rfl) hne
        | cons _ _ => rfl
      have n2 : r.toList.isEmpty = false := by
        rw [Lib.toList_data]
        cases h : r.data.toList with
        | nil => exact absurd (by rw [Lib.size_eq, h]; rfl) hne
        | cons _ _ => rfl
      clear he ht hu hr hr2 hcut hLs hsf
      by_cases hz : t.size = 0
      · have n3 : t.toList.isEmpty = true := by
          rw [Lib.toList_data]
          cases h : t.data.toList with
          | nil => rfl
          | cons _ _ => have := Lib.size_eq t; rw [h] at this; simp at this; omega
        have HP1 := Lib.hid (show LL = pre.map Subtype.val ++ linP s f' (e + 1) (m + 1) from by rw [HPk.out, HST.out, if_pos hz]; rfl)
        clear hz
        gi_wp2_with (first
          | (with_reducible refine And.intro ?_ ?_; focus (intro f h; cases h))
          | (refine ⟨trivial, ?_⟩; gi_at_call 68; refine (HCT.out _).mono ?_; rintro x w2 ⟨rfl, q, rfl⟩)
          | (refine ⟨trivial, ?_⟩; gi_at_call 69; refine (HTR.out _).mono ?_; rintro x w3 ⟨rfl, rfl⟩))
        go_roundw
        case rel => exact ⟨e + 1, m + 1, f', pre, hmk1, he1, by rw [HR2.out], by go_num, Lib.hid (abidesA_step HJ.out HJk.out (Below.drewN' (Below.refl _ _) _)), HP1, HF1⟩
        case measure => exact HSZ.out
      · have n3 : t.toList.isEmpty = false := by
          rw [Lib.toList_data]
          cases h : t.data.toList with
          | nil => exact absurd (by rw [Lib.size_eq, h]; rfl) hz
          | cons _ _ => rfl
        have HP1 := Lib.hid (show LL = (pre ++ [(⟨(m, t), hz, hts⟩ : Lin)]).map Subtype.val ++ linP s f' (e + 1) (m + 1) from by rw [HPk.out, HST.out, if_neg hz]; simp)
        have hpl : pre.length < s.size + 1 := by
          have h1 := congrArg List.length HP1.out
          rw [List.length_append, List.length_map, List.length_append] at h1
          have h2 := HLN.out
          simp only [List.length_cons, List.length_nil] at h1
          omega
        have HYK := Lib.hid (fun W hj => HY.out pre ⟨(m, t), hz, hts⟩ W hj hpl)
        clear hpl
        gi_wp2_with (first
          | (with_reducible refine And.intro ?_ ?_; focus (intro f h; cases h))
          | (refine ⟨trivial, ?_⟩; gi_at_call 68; refine (HCT.out _).mono ?_; rintro x w2 ⟨rfl, q, rfl⟩)
          | (refine ⟨trivial, ?_⟩; gi_at_call 69; refine (HTR.out _).mono ?_; rintro x w3 ⟨rfl, rfl⟩; obtain ⟨f2, t2, a2, y2, hy2, hR2⟩ := HYK.out (wr.drewN q) (abidesA_step HJ.out HJk.out (Below.drewN' (Below.refl _ _) _)); dsimp only [encL] at hy2))
        refine hR2.mono ?_
        rintro x W3 (⟨rfl, hJ3, _⟩ | ⟨rfl, hx3⟩)
        · have HJ3 := Lib.hid hJ3
          clear hJ3
          gi_wp2
          go_roundw
          case rel => exact ⟨e + 1, m + 1, f', _, hmk1, he1, by rw [HR2.out], by go_num, HJ3, HP1, HF1⟩
          case measure => exact HSZ.out
        · gi_wp2
          refine bodyPost_ret (results_none rfl _ _ _) rfl ?_
          exact ⟨⟨_, rfl⟩, .inr ⟨_, ⟨_, HP1.out⟩, hx3⟩⟩
    · have hks2 : s.extract k s.size = ⟨#[]⟩ := by
        apply ByteArray.ext
        apply Array.toList_inj.1
        rw [bytes_extract, List.drop_of_length_le (by rw [List.length_take, ← Lib.size_eq]; omega)]
      have HPE := Lib.hid (show pre.map Subtype.val = LL from by rw [HPk.out, linP_end (by omega)]; simp)
      rw [hks2]
      gi_wp2
      go_end0
      exact ⟨⟨_, rfl⟩, .inl ⟨pre, HPE.out, HJk.out⟩⟩

end Go.Proofs.Ytjikahflbhgniaa
