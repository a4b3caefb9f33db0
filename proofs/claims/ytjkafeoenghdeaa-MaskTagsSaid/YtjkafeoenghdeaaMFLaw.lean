/-
  The law MaskFirst returns true for any text and patterns. Conditions: texts are as long as a length can be; what the slice's reading gives.
-/
import Derived.Test.YtjkafeoenghdeaaMk8
import Derived.Laws.OwnMore
import Derived.Laws.AppendOwn
namespace Go.Proofs.Ytjkafeoenghdeaa
open Go.RowKit

theorem madd_block (a : Addr) (n : Nat) : (a.add n).block = a.block := by unfold Addr.add; split <;> rfl

theorem few_ok' (p : Pat) : (fewP p).ok := by
  have h0 := cutB_size p.b 70
  have h1 := cutB_size p.m 70
  have h2 := cutB_size p.k 20
  exact ⟨by unfold fewP; simp only; omega, by unfold fewP; simp only; omega, by unfold fewP; simp only; omega⟩
theorem own_below {w w' : World} {base : Nat} {e : TypeId} {size n : Nat} {v : Value} {xs : List Value} (h : w.ownsRow base e size v n xs) (hb : Below w.heap.size w w') : w'.ownsRow base e size v n xs := by
  refine ⟨h.1, ?_⟩
  rcases h.2 with h2 | ⟨g, cap, cur, e1, e2, e3, e4⟩
  · exact .inl h2
  · exact .inr ⟨g, cap, cur, e1, e2, (hb.block g (h.lt g (by rw [e1]; rfl)).2).trans e3, e4⟩

/-- A slice of patterns that came in. -/
def Came (w : World) (A : Option Addr) (n : Nat) : Prop := ∀ i, i < n → ∃ (a : Addr) (p : Pat), A = some a ∧ a.block < w.heap.size ∧
  w.cell? (a.add (i * 4)) = some (.string p.b) ∧ w.cell? ⟨(a.add (i * 4)).block, (a.add (i * 4)).off + 1, none⟩ = some (.string p.m) ∧ w.cell? ⟨(a.add (i * 4)).block, (a.add (i * 4)).off + 2, none⟩ = some (.string p.k) ∧ w.cell? ⟨(a.add (i * 4)).block, (a.add (i * 4)).off + 3, none⟩ = some (.string p.t) ∧ p.ok ∧ p.t.size ≤ 9223372036854775807

/-- The cells of the first k of some patterns. -/
def patL (ps : Nat → Pat) : Nat → List Value
  | 0 => []
  | k + 1 => patL ps k ++ [.string (ps k).b, .string (ps k).m, .string (ps k).k, .string (ps k).t]
theorem patL_len (ps : Nat → Pat) : ∀ k, (patL ps k).length = k * 4
  | 0 => rfl
  | k + 1 => by rw [patL, List.length_append, patL_len ps k]; simp; omega
theorem patL_at (ps : Nat → Pat) : ∀ (k i : Nat), i < k → (patL ps k)[i * 4]? = some (.string (ps i).b) ∧ (patL ps k)[i * 4 + 1]? = some (.string (ps i).m) ∧ (patL ps k)[i * 4 + 2]? = some (.string (ps i).k) ∧ (patL ps k)[i * 4 + 3]? = some (.string (ps i).t)
  | 0, i, h => absurd h (by omega)
  | k + 1, i, h => by
    have hl := patL_len ps k
    rw [patL]
    by_cases e : i = k
    · subst e
      refine ⟨?_, ?_, ?_, ?_⟩ <;> (rw [List.getElem?_append_right (by omega), hl]; simp [Nat.add_sub_cancel_left])
    · have := patL_at ps k i (by omega)
      refine ⟨?_, ?_, ?_, ?_⟩ <;> rw [List.getElem?_append_left (by omega)]
      · exact this.1
      · exact this.2.1
      · exact this.2.2.1
      · exact this.2.2.2
theorem PatsIn.own {w : World} {base g k cap : Nat} {ps : Nat → Pat} (h : w.ownsRow base 23 4 (.slice (some ⟨g, 0, none⟩) k cap) k (patL ps k)) : PatsIn w g ps k :=
  ⟨(h.lt g rfl).2, fun i hi => by
    have := patL_at ps k i hi
    exact ⟨(h.cellAt _ (by omega)).trans this.1, (h.cellAt _ (by omega)).trans this.2.1, (h.cellAt _ (by omega)).trans this.2.2.1, (h.cellAt _ (by omega)).trans this.2.2.2⟩⟩
theorem patL_few {lp : Nat → Pat} {k : Nat} {q : Pat} (h : q = lp k) : patL lp k ++ [.string q.b, .string q.m, .string q.k, .string q.t] = patL lp (k + 1) := by rw [h]; rfl

theorem Try.infoPat : (Try.prog.info? 23).map (fun i => (i.zero, i.size, i.bytes)) = some (some (.agg #[.string ⟨#[]⟩, .string ⟨#[]⟩, .string ⟨#[]⟩, .string ⟨#[]⟩]), 4, 64) := by kernel_rfl

/-- Patterns of which nothing is known but where they came in, as a function. -/
theorem Came.pick {w : World} {A : Option Addr} {n : Nat} (h : Came w A n) : ∃ lp : Nat → Pat, ∀ i, i < n → ∃ (a : Addr), A = some a ∧ a.block < w.heap.size ∧
  w.cell? (a.add (i * 4)) = some (.string (lp i).b) ∧ w.cell? ⟨(a.add (i * 4)).block, (a.add (i * 4)).off + 1, none⟩ = some (.string (lp i).m) ∧ w.cell? ⟨(a.add (i * 4)).block, (a.add (i * 4)).off + 2, none⟩ = some (.string (lp i).k) ∧ w.cell? ⟨(a.add (i * 4)).block, (a.add (i * 4)).off + 3, none⟩ = some (.string (lp i).t) ∧ (lp i).ok ∧ (lp i).t.size ≤ 9223372036854775807 := by
  refine ⟨fun i => if hi : i < n then Classical.choose (Classical.choose_spec (h i hi)) else ⟨⟨#[]⟩, ⟨#[]⟩, ⟨#[]⟩, ⟨#[]⟩⟩, fun i hi => ?_⟩
  simp only [dif_pos hi]
  exact ⟨_, Classical.choose_spec (Classical.choose_spec (h i hi))⟩

set_option maxHeartbeats 4000000 in
set_option maxRecDepth 100000 in
theorem maskFirst_any (s : ByteArray) (A : Option Addr) (n c : Nat) (w : World) (hs : s.size ≤ 9223372036854775807) (hn : n ≤ 9223372036854775807) (hd : Came w A n) :
    Calls Try.prog 4 #[.string s, .slice A n c] w fun e w' => e = .returned (.bool true) ∧ Below w.heap.size w w' := by
  obtain ⟨i0, hi, hz0, hz1, hz2⟩ := info_parts Try.infoPat
  obtain ⟨lp, hlp⟩ := hd.pick
  have HL := Lib.hid hlp
  have HCS : Hid (∀ W, Calls Try.prog 6 #[.string s, .int .i64 100] W fun e w' => e = .returned (.string (cutB s 100)) ∧ W = w') := fun W => cut_any s 100 W hs
  have hu := cutB_size s 100
  generalize cutB s 100 = u at *
  clear hlp hd
  go_enter Try.func4, Try.ntmps4
  go_wp2_with (go_at_call 6; (with_reducible refine (HCS.out _).mono ?_); rintro e w1 ⟨rfl, rfl⟩)
  go_loopw [5, 6] (fun v i wr => ∃ k : Nat, k ≤ n ∧ k ≤ 8 ∧ i = .int .i64 k ∧ v ≠ .slice none 0 0 ∧ wr.ownsRow w.heap.size 23 4 v k (patL (fun i => fewP (lp i)) k) ∧ Below w.heap.size w wr) (fun _ i _ => 8 - (intOf i).toNat)
  case atStart => exact ⟨0, by omega, by omega, rfl, by simp, World.ownsRow_made w #[] 0 (Nat.le_refl _) (Nat.zero_le _) rfl, (Below.refl _ _).alloc (Nat.le_refl _) _⟩
  case round =>
    obtain ⟨k, hk, hk8, rfl, hne, hown, hW⟩ := hrel
    have HO := Lib.hid hown
    have HW := Lib.hid hW
    have HNE := Lib.hid hne
    clear hown hW hne
    by_cases hlt : k < n ∧ k < 8
    · obtain ⟨h1, h2⟩ := hlt
      obtain ⟨a, rfl, hab, e0, e1, e2, e3, hok, hts⟩ := HL.out k h1
      have hab' : (a.add (k * 4)).block < w.heap.size := by rw [madd_block]; exact hab
      have e0' : wr.cell? (a.add (k * 4)) = some (.string (lp k).b) := (HW.out.cell hab').trans e0
      have e1' : wr.cell? ⟨(a.add (k * 4)).block, (a.add (k * 4)).off + 1, none⟩ = some (.string (lp k).m) := (HW.out.cell (p := ⟨(a.add (k * 4)).block, (a.add (k * 4)).off + 1, none⟩) hab').trans e1
      have e2' : wr.cell? ⟨(a.add (k * 4)).block, (a.add (k * 4)).off + 2, none⟩ = some (.string (lp k).k) := (HW.out.cell (p := ⟨(a.add (k * 4)).block, (a.add (k * 4)).off + 2, none⟩) hab').trans e2
      have e3' : wr.cell? ⟨(a.add (k * 4)).block, (a.add (k * 4)).off + 3, none⟩ = some (.string (lp k).t) := (HW.out.cell (p := ⟨(a.add (k * 4)).block, (a.add (k * 4)).off + 3, none⟩) hab').trans e3
      have HF := Lib.hid (fun W => few_any (lp k) W hok hts)
      have d1 : decide (k < n) = true := by simpa using h1
      have d2 : decide ((k : Int) < 8) = true := by simp; omega
      have hfo : (fewP (lp k)).ok ∧ True := ⟨few_ok' (lp k), trivial⟩
      clear e0 e1 e2 e3 hab hab' hok hts HL HCS
      have hq : ∃ q, q = fewP (lp k) := ⟨_, rfl⟩
      obtain ⟨q, hq⟩ := hq
      have HQ := Lib.hid (patL_few (lp := fun i => fewP (lp i)) (k := k) hq)
      rw [← hq] at HF
      clear hq hfo
      go_wp2_with (first
        | (go_at_call 7; (with_reducible refine (HF.out _).mono ?_); rintro e w1 ⟨rfl, hb1⟩; have HB1 := Lib.hid (HW.out.trans (hb1.mono HW.out.size)); have HO1 := Lib.hid (own_below HO.out hb1); clear hb1 HW HO e0' e1' e2' e3')
        | (at_builtin; refine wpList_append_own _ rfl _ _ 33 rfl w.heap.size 23 i0 _ 4 64 Try.underlying33 hi hz0 hz1 hz2 rfl (by decide) _ _ _ rfl (HO1.out.alloc _) ⟨w1.heap.size, 0, none⟩ 1 1 [.string q.b, .string q.m, .string q.k, .string q.t] rfl rfl ?_ ?_ ?_ ?_ ?_ ?_))
      · intro j u hj
        have hcb := Blk.new w1 23 #[.string q.b, .string q.m, .string q.k, .string q.t]
        have e : (⟨w1.heap.size, 0, none⟩ : Addr).add j = ⟨w1.heap.size, j, none⟩ := by cases j <;> simp [Addr.add]
        rw [e, hcb.cell]
        simpa using hj
      · intro u hu
        simp at hu
        rcases hu with rfl | rfl | rfl | rfl <;> rfl
      · unfold maxLen; omega
      · omega
      · have := HB1.out.size; simp; omega
      · intro v' w2 hown' hgrow hnil
        have hown2 : w2.ownsRow w.heap.size 23 4 v' (k + 1) (patL (fun i => fewP (lp i)) (k + 1)) := by rw [← HQ.out]; exact hown'
        have HO2 := Lib.hid hown2
        have HG := Lib.hid (Below.grown (HB1.out.alloc (by have := HB1.out.size; omega) _) hgrow (by have := HB1.out.size; simp; omega) (fun g hg => (HO1.out.lt g hg).1))
        have HN2 := Lib.hid (show v' ≠ .slice none 0 0 from hnil)
        clear hown2 hown' hgrow hnil
        go_wp2
        go_roundw
        case rel => exact ⟨k + 1, by omega, by omega, by go_num, HN2.out, HO2.out, HG.out⟩
        case measure => simp [intOf]; omega
    · have hd : decide (k < n) = false ∨ decide (k < n) = true ∧ decide ((k : Int) < 8) = false := by
        by_cases h1 : k < n
        · exact .inr ⟨by simpa using h1, by simp; omega⟩
        · exact .inl (by simpa using h1)
      clear hlt
      rcases HO.out.2 with ⟨h1, _⟩ | ⟨g, cap, cur, h1, _⟩
      · exact absurd h1 HNE.out
      subst h1
      have HP := Lib.hid (PatsIn.own HO.out)
      have hok : ∀ i, i < k → ((fun i => fewP (lp i)) i).ok := fun i _ => few_ok' (lp i)
      obtain ⟨r, hr⟩ := IsFirst.some u (fun i => fewP (lp i)) k
      generalize (fun i => fewP (lp i)) = ps at *
      have hus : u.size ≤ 9223372036854775807 := by omega
      have hkn : k ≤ 9223372036854775807 := by omega
      have HF := Lib.hid (fun W (h : PatsIn W g ps k) => first_any g k cap u ps r W h hok hus hkn hr)
      have HR := Lib.hid (fun W (h : PatsIn W g ps k) => refFirst_any g k cap u ps r W h hok hus hkn hr)
      have HT := Lib.hid (fun W (h : PatsIn W g ps k) => type_any g k cap u ps r W h hok hus hkn hr)
      clear HL HCS
      rcases hr with ⟨rfl, _⟩ | ⟨j, hj, rfl, _⟩
      · rw [show (if (-1 : Int) < 0 then (0 : Int) else -1) = 0 from rfl, show decide ((0 : Int) ≤ -1) = false from rfl] at HF
        rw [show typeOf ps (-1) = ⟨#[]⟩ from rfl] at HT
        clear hok
        rcases hd with d1 | ⟨d1, d2⟩
        all_goals
          go_wp2_with (first
            | (go_at_call 17; (with_reducible refine (HF.out _ HP.out).mono ?_); rintro e w3 ⟨rfl, hb3⟩; have HP3 := Lib.hid (HP.out.below hb3 HP.out.1 (Nat.le_refl _)); have HB3 := Lib.hid (HW.out.trans (hb3.mono HW.out.size)); clear hb3 HP HW HO)
            | (go_at_call 18; (with_reducible refine (HR.out _ HP3.out).mono ?_); rintro e w4 ⟨rfl, hb4⟩; have HP4 := Lib.hid (HP3.out.below hb4 HP3.out.1 (Nat.le_refl _)); have HB4 := Lib.hid (HB3.out.trans (hb4.mono HB3.out.size)); clear hb4 HP3 HB3)
            | (go_at_call 19; (with_reducible refine (HT.out _ HP4.out).mono ?_); rintro e w5 ⟨rfl, hb5⟩; have HP5 := Lib.hid (HP4.out.below hb5 HP4.out.1 (Nat.le_refl _)); have HB5 := Lib.hid (HB4.out.trans (hb5.mono HB4.out.size)); clear hb5 HP4 HB4)
            | (go_at_call 15; (with_reducible refine (mlives_any _).mono ?_); rintro e w6 ⟨rfl, hb6⟩; have HB6 := Lib.hid (HB5.out.trans (hb6.mono HB5.out.size)); clear hb6))
          go_ret
          exact ⟨rfl, HB6.out⟩
      · rw [if_neg (by omega), show decide ((0 : Int) ≤ (j : Int)) = true from by simp] at HF
        rw [show typeOf ps (j : Int) = (ps j).t from by unfold typeOf; rw [if_neg (by omega)]; rfl] at HT
        have hjk : (j : Int) < (k : Int) := by omega
        have e1 : ((ps j).t.toList == (ps j).t.toList) = true := by simp
        clear hok
        rcases hd with d1 | ⟨d1, d2⟩
        all_goals
          go_wp2_with (first
            | (go_at_call 17; (with_reducible refine (HF.out _ HP.out).mono ?_); rintro e w3 ⟨rfl, hb3⟩; have HP3 := Lib.hid (HP.out.below hb3 HP.out.1 (Nat.le_refl _)); have HB3 := Lib.hid (HW.out.trans (hb3.mono HW.out.size)); clear hb3 HP HW HO)
            | (go_at_call 18; (with_reducible refine (HR.out _ HP3.out).mono ?_); rintro e w4 ⟨rfl, hb4⟩; have HP4 := Lib.hid (HP3.out.below hb4 HP3.out.1 (Nat.le_refl _)); have HB4 := Lib.hid (HB3.out.trans (hb4.mono HB3.out.size)); clear hb4 HP3 HB3)
            | (go_at_call 19; (with_reducible refine (HT.out _ HP4.out).mono ?_); rintro e w5 ⟨rfl, hb5⟩; have HP5 := Lib.hid (HP4.out.below hb5 HP4.out.1 (Nat.le_refl _)); have HB5 := Lib.hid (HB4.out.trans (hb5.mono HB4.out.size)); clear hb5 HP4 HB4; have c3 := (HP5.out.2 j hj).2.2.2)
            | (go_at_call 15; (with_reducible refine (mlives_any _).mono ?_); rintro e w6 ⟨rfl, hb6⟩; have HB6 := Lib.hid (HB5.out.trans (hb6.mono HB5.out.size)); clear hb6))
          go_ret
          exact ⟨rfl, HB6.out⟩

end Go.Proofs.Ytjkafeoenghdeaa
