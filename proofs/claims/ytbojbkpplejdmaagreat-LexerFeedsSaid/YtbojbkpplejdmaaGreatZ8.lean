/-
  What package json's inNumber and take do with a machine: what one byte makes of where reading stands (stepJ). Conditions: what is open is told of in the machine's cells, and is no deeper than it may be.
  What package json's take does with a machine: what one byte makes of where reading stands (stepJ). Conditions: what is open is told of in the machine's cells, and is no deeper than it may be.
  What package json's Feed does: a machine behind all bytes that came (MacB), its state, its place, whether something came; New, Whole, Valid and lives. Conditions: the texts are no longer than a length can be.
-/
import Derived.Test.YtbojbkpplejdmaaGreatZ7
namespace Go.Proofs.YtbojbkpplejdmaaGreat
open Go.RowKit

def numS : Nat → Int
  | 0 => 11 | 1 => 13 | 2 => 12 | 3 => 14 | 4 => 15 | 5 => 16 | 6 => 17 | _ => 18
theorem reg_num {i : Nat} {st : List Bool} {sp tn lf : Int} {rs : ByteArray} (h : Reg (.n i) st sp tn lf rs) : sp = numS i ∧ i ≤ 7 := by
  match i, h with
  | 0, h => exact ⟨h, by decide⟩
  | 1, h => exact ⟨h, by decide⟩
  | 2, h => exact ⟨h, by decide⟩
  | 3, h => exact ⟨h, by decide⟩
  | 4, h => exact ⟨h, by decide⟩
  | 5, h => exact ⟨h, by decide⟩
  | 6, h => exact ⟨h, by decide⟩
  | 7, h => exact ⟨h, by decide⟩
  | _ + 8, h => exact h.elim
theorem num_reg {i : Nat} {st : List Bool} {tn lf : Int} {rs : ByteArray} (h : i ≤ 7) : Reg (.n i) st (numS i) tn lf rs := by
  match i, h with
  | 0, _ => rfl
  | 1, _ => rfl
  | 2, _ => rfl
  | 3, _ => rfl
  | 4, _ => rfl
  | 5, _ => rfl
  | 6, _ => rfl
  | 7, _ => rfl
theorem num_step {D : Nat} {st : List Bool} {b : UInt8} {i : Nat} (hi : i ≤ 7) :
    (numZ (numS i) b = 19 ∧ fulZ (numS i) = true ∧ stepJ D (.n i) st b = behJ st b) ∨ (numZ (numS i) b = 19 ∧ fulZ (numS i) = false ∧ stepJ D (.n i) st b = .no)
      ∨ (∃ j, j ≤ 7 ∧ (numZ (numS i) b == 19) = false ∧ numZ (numS i) b = numS j ∧ stepJ D (.n i) st b = .go (.n j) st) := by
  have d48 : (b == 48) = true → digB b = true := fun h => by rw [show b = 48 from eq_of_beq h]; rfl
  have d43 : (b == 43) = true → digB b = false := fun h => by rw [show b = 43 from eq_of_beq h]; rfl
  have d45 : (b == 45) = true → digB b = false := fun h => by rw [show b = 45 from eq_of_beq h]; rfl
  have d46 : (b == 46) = true → digB b = false := fun h => by rw [show b = 46 from eq_of_beq h]; rfl
  have dA : (b == 101) = true → digB b = false := fun h => by rw [show b = 101 from eq_of_beq h]; rfl
  have dB : (b == 69) = true → digB b = false := fun h => by rw [show b = 69 from eq_of_beq h]; rfl
  have e43 : ((b.toNat : Int) == 43) = (b == 43) := (bE b 43).symm
  have e45 : ((b.toNat : Int) == 45) = (b == 45) := (bE b 45).symm
  have e46 : ((b.toNat : Int) == 46) = (b == 46) := (bE b 46).symm
  have e48 : ((b.toNat : Int) == 48) = (b == 48) := (bE b 48).symm
  have eA : ((b.toNat : Int) == 101) = (b == 101) := (bE b 101).symm
  have eB : ((b.toNat : Int) == 69) = (b == 69) := (bE b 69).symm
  unfold numZ digZ
  rw [e43, e45, e46, e48, eA, eB]
  unfold stepJ
  clear e43 e45 e46 e48 eA eB
  match i, hi with
  | 0, _ =>
    dsimp only
    generalize (b == 48) = x1, (b == 43) = x2, (b == 45) = x3, (b == 46) = x4, (b == 101) = x5, (b == 69) = x6, digB b = x7 at *
    cases x7
    · cases x1 <;> first | (exact absurd (d48 rfl) (by decide)) | (refine Or.inr (Or.inl ⟨?_, by decide, rfl⟩); cases x2 <;> cases x3 <;> cases x4 <;> cases x5 <;> cases x6 <;> rfl)
    · cases x1
      · exact Or.inr (Or.inr ⟨1, by decide, rfl, rfl, rfl⟩)
      · exact Or.inr (Or.inr ⟨2, by decide, rfl, rfl, rfl⟩)
  | 1, _ =>
    dsimp only
    generalize (b == 48) = x1, (b == 43) = x2, (b == 45) = x3, (b == 46) = x4, (b == 101) = x5, (b == 69) = x6, digB b = x7 at *
    cases x7
    · cases x4
      · cases x5
        · cases x6
          · refine Or.inl ⟨?_, by decide, rfl⟩
            cases x2 <;> cases x3 <;> rfl
          · exact Or.inr (Or.inr ⟨5, by decide, rfl, rfl, rfl⟩)
        · exact Or.inr (Or.inr ⟨5, by decide, by cases x6 <;> rfl, by cases x6 <;> rfl, rfl⟩)
      · exact Or.inr (Or.inr ⟨3, by decide, rfl, rfl, rfl⟩)
    · exact Or.inr (Or.inr ⟨1, by decide, by cases x1 <;> rfl, by cases x1 <;> rfl, rfl⟩)
  | 2, _ =>
    dsimp only
    generalize (b == 48) = x1, (b == 43) = x2, (b == 45) = x3, (b == 46) = x4, (b == 101) = x5, (b == 69) = x6, digB b = x7 at *
    cases x4
    · cases x5
      · cases x6
        · refine Or.inl ⟨?_, by decide, rfl⟩
          cases x2 <;> cases x3 <;> cases x7 <;> rfl
        · rw [dB rfl]
          exact Or.inr (Or.inr ⟨5, by decide, rfl, rfl, rfl⟩)
      · rw [dA rfl]
        exact Or.inr (Or.inr ⟨5, by decide, by cases x6 <;> rfl, by cases x6 <;> rfl, rfl⟩)
    · rw [d46 rfl]
      exact Or.inr (Or.inr ⟨3, by decide, rfl, rfl, rfl⟩)
  | 3, _ =>
    dsimp only
    generalize (b == 48) = x1, (b == 43) = x2, (b == 45) = x3, (b == 46) = x4, (b == 101) = x5, (b == 69) = x6, digB b = x7 at *
    cases x7
    · refine Or.inr (Or.inl ⟨?_, by decide, rfl⟩)
      cases x2 <;> cases x3 <;> cases x4 <;> cases x5 <;> cases x6 <;> rfl
    · exact Or.inr (Or.inr ⟨4, by decide, by cases x1 <;> rfl, by cases x1 <;> rfl, rfl⟩)
  | 4, _ =>
    dsimp only
    generalize (b == 48) = x1, (b == 43) = x2, (b == 45) = x3, (b == 46) = x4, (b == 101) = x5, (b == 69) = x6, digB b = x7 at *
    cases x7
    · cases x5
      · cases x6
        · refine Or.inl ⟨?_, by decide, rfl⟩
          cases x2 <;> cases x3 <;> cases x4 <;> rfl
        · exact Or.inr (Or.inr ⟨5, by decide, by cases x4 <;> rfl, by cases x4 <;> rfl, rfl⟩)
      · exact Or.inr (Or.inr ⟨5, by decide, by cases x4 <;> cases x6 <;> rfl, by cases x4 <;> cases x6 <;> rfl, rfl⟩)
    · exact Or.inr (Or.inr ⟨4, by decide, by cases x1 <;> rfl, by cases x1 <;> rfl, rfl⟩)
  | 5, _ =>
    dsimp only
    generalize (b == 48) = x1, (b == 43) = x2, (b == 45) = x3, (b == 46) = x4, (b == 101) = x5, (b == 69) = x6, digB b = x7 at *
    cases x2
    · cases x3
      · cases x7
        · refine Or.inr (Or.inl ⟨?_, by decide, rfl⟩)
          cases x4 <;> cases x5 <;> cases x6 <;> rfl
        · exact Or.inr (Or.inr ⟨7, by decide, by cases x1 <;> rfl, by cases x1 <;> rfl, rfl⟩)
      · rw [d45 rfl]
        exact Or.inr (Or.inr ⟨6, by decide, by cases x4 <;> cases x5 <;> cases x6 <;> rfl, by cases x4 <;> cases x5 <;> cases x6 <;> rfl, rfl⟩)
    · rw [d43 rfl]
      exact Or.inr (Or.inr ⟨6, by decide, by cases x3 <;> cases x4 <;> cases x5 <;> cases x6 <;> rfl, by cases x3 <;> cases x4 <;> cases x5 <;> cases x6 <;> rfl, rfl⟩)
  | 6, _ =>
    dsimp only
    generalize (b == 48) = x1, (b == 43) = x2, (b == 45) = x3, (b == 46) = x4, (b == 101) = x5, (b == 69) = x6, digB b = x7 at *
    cases x7
    · refine Or.inr (Or.inl ⟨?_, by decide, rfl⟩)
      cases x2 <;> cases x3 <;> cases x4 <;> cases x5 <;> cases x6 <;> rfl
    · exact Or.inr (Or.inr ⟨7, by decide, by cases x1 <;> rfl, by cases x1 <;> rfl, rfl⟩)
  | 7, _ =>
    dsimp only
    generalize (b == 48) = x1, (b == 43) = x2, (b == 45) = x3, (b == 46) = x4, (b == 101) = x5, (b == 69) = x6, digB b = x7 at *
    cases x7
    · refine Or.inl ⟨?_, by decide, rfl⟩
      cases x2 <;> cases x3 <;> cases x4 <;> cases x5 <;> cases x6 <;> rfl
    · exact Or.inr (Or.inr ⟨7, by decide, by cases x1 <;> rfl, by cases x1 <;> rfl, rfl⟩)

set_option maxHeartbeats 1000000 in
theorem inNumber_any {w : World} {mb D : Nat} {sn pl sp tn lf : Int} {rs : ByteArray} {st : List Bool} {E : List Value} {i : Nat} (h : Was w mb D sn pl sp tn lf rs st E) (hr : Reg (.n i) st sp tn lf rs) (b : UInt8) :
    Calls Tryz.prog 67 #[mptr mb, .int .u8 (b.toNat : Int)] w fun e w' => e = .returned (.tuple #[]) ∧ Ste w w' mb D sn pl (stepJ D (.n i) st b) := by
  obtain ⟨rfl, hi⟩ := reg_num hr
  have c3 := h.mac.c3
  have z3 := Blk.frozen h.mac 3
  have H := Lib.hid h
  have HN := Lib.hid (fun W => jnumber_any (numS i) b W)
  have HF := Lib.hid (fun W => full_any (numS i) W)
  have HB := Lib.hid (between_behind (h.s3 6) b)
  clear h hr
  rcases num_step (D := D) (st := st) (b := b) hi with ⟨h1, h2, h3⟩ | ⟨h1, h2, h3⟩ | ⟨j, hj, h0, h1, h3⟩
  · rw [h1] at HN
    rw [h2] at HF
    rw [h3]
    clear h1 h2 h3 hi
    generalize numS i = x at *
    generalize behJ st b = q at *
    go_enter Tryz.func67, Tryz.ntmps67
    go_wp2_with (first
      | (go_at_call 79; (with_reducible refine (HN.out _).mono ?_); rintro e w1 ⟨rfl, rfl⟩)
      | (go_at_call 53; (with_reducible refine (HF.out _).mono ?_); rintro e w1 ⟨rfl, rfl⟩)
      | (go_at_call 68; (with_reducible refine HB.out.mono ?_); rintro e w1 ⟨rfl, hm⟩))
    refine bodyPost_ret (results_none rfl _ _ _) rfl ?_
    exact ⟨rfl, ((mv0 w mb).put1 3 (.int .i64 6)).trans (hm.1.mono (by simp [World.setCell]) (fun x hx => Or.inl hx)), hm.2⟩
  · rw [h1] at HN
    rw [h2] at HF
    rw [h3]
    clear h1 h2 h3 hi
    generalize numS i = x at *
    go_enter Tryz.func67, Tryz.ntmps67
    go_wp2_with (first
      | (go_at_call 79; (with_reducible refine (HN.out _).mono ?_); rintro e w1 ⟨rfl, rfl⟩)
      | (go_at_call 53; (with_reducible refine (HF.out _).mono ?_); rintro e w1 ⟨rfl, rfl⟩))
    go_end0
    exact ⟨rfl, (mv0 w mb).put1 _ _, (H.out.s3 19).no⟩
  · rw [h1] at h0 HN
    rw [h3]
    have HJ := Lib.hid (fun (tn lf : Int) (rs : ByteArray) => num_reg (st := st) (tn := tn) (lf := lf) (rs := rs) hj)
    clear h1 h3 hi hj
    generalize numS i = x at *
    generalize numS j = y at *
    go_enter Tryz.func67, Tryz.ntmps67
    go_wp2_with (first
      | (go_at_call 79; (with_reducible refine (HN.out _).mono ?_); rintro e w1 ⟨rfl, rfl⟩)
      | (go_at_call 53; (with_reducible refine (HF.out _).mono ?_); rintro e w1 ⟨rfl, rfl⟩))
    go_end0
    exact ⟨rfl, (mv0 w mb).put1 _ _, (H.out.s3 y).go (p := .n j) (HJ.out _ _ _)⟩
end Go.Proofs.YtbojbkpplejdmaaGreat
namespace Go.Proofs.YtbojbkpplejdmaaGreat
open Go.RowKit

theorem calm_step {p : Pj} {st : List Bool} {sp tn lf : Int} {rs : ByteArray} (hr : Reg p st sp tn lf rs) (hp : calmJ p = true) : sp = 0 ∨ sp = 1 ∨ sp = 2 ∨ sp = 3 ∨ sp = 4 ∨ sp = 5 ∨ sp = 6 := by
  cases p with
  | v =>
    have hr' : sp = if st.isEmpty then 0 else 1 := hr
    cases h2 : st.isEmpty <;> rw [h2] at hr'
    · exact Or.inr (Or.inl hr')
    · exact Or.inl hr'
  | a => exact Or.inr (Or.inr (Or.inl hr.1))
  | o => exact Or.inr (Or.inr (Or.inr (Or.inr (Or.inl hr.1))))
  | k => exact Or.inr (Or.inr (Or.inr (Or.inl hr.1)))
  | c => exact Or.inr (Or.inr (Or.inr (Or.inr (Or.inr (Or.inl hr.1)))))
  | e => exact Or.inr (Or.inr (Or.inr (Or.inr (Or.inr (Or.inr hr)))))
  | q _ _ => cases hp
  | n _ => cases hp
  | w _ _ => cases hp

set_option maxHeartbeats 1000000 in
theorem take_calm {w : World} {mb D : Nat} {sn pl sp tn lf : Int} {rs : ByteArray} {st : List Bool} {E : List Value} {p : Pj} (h : Was w mb D sn pl sp tn lf rs st E) (hr : Reg p st sp tn lf rs) (hp : calmJ p = true) (b : UInt8) :
    Calls Tryz.prog 50 #[mptr mb, .int .u8 (b.toNat : Int)] w fun e w' => e = .returned (.tuple #[]) ∧ Ste w w' mb D sn pl (stepJ D p st b) := by
  have hs := calm_step hr hp
  have c3 := h.mac.c3
  have HB := Lib.hid (between_any h hr hp b)
  generalize stepJ D p st b = q at *
  clear h hr hp
  rcases hs with rfl | rfl | rfl | rfl | rfl | rfl | rfl
  all_goals
    go_enter Tryz.func50, Tryz.ntmps50
    go_wp2_with (go_at_call 68; (with_reducible refine HB.out.mono ?_); rintro e w1 ⟨rfl, hm⟩)
    go_end0
    exact ⟨rfl, hm⟩
set_option maxHeartbeats 1000000 in
theorem take_text {w : World} {mb D : Nat} {sn pl sp tn lf : Int} {rs : ByteArray} {st : List Bool} {E : List Value} {key : Bool} {n : Nat} (h : Was w mb D sn pl sp tn lf rs st E) (hr : Reg (.q key n) st sp tn lf rs) (b : UInt8) :
    Calls Tryz.prog 50 #[mptr mb, .int .u8 (b.toNat : Int)] w fun e w' => e = .returned (.tuple #[]) ∧ Ste w w' mb D sn pl (stepJ D (.q key n) st b) := by
  have c3 := h.mac.c3
  match n, hr with
  | 0, hr =>
    have HB := Lib.hid (inText_any h hr b)
    have hs : sp = 7 := hr.2.2
    subst hs
    generalize stepJ D (.q key 0) st b = q at *
    clear h hr
    go_enter Tryz.func50, Tryz.ntmps50
    go_wp2_with (go_at_call 63; (with_reducible refine HB.out.mono ?_); rintro e w1 ⟨rfl, hm⟩)
    go_end0
    exact ⟨rfl, hm⟩
  | 1, hr =>
    have HB := Lib.hid (escaped_any h hr b)
    have hs : sp = 8 := hr.2.2
    subst hs
    generalize stepJ D (.q key 1) st b = q at *
    clear h hr
    go_enter Tryz.func50, Tryz.ntmps50
    go_wp2_with (go_at_call 64; (with_reducible refine HB.out.mono ?_); rintro e w1 ⟨rfl, hm⟩)
    go_end0
    exact ⟨rfl, hm⟩
  | m + 2, hr =>
    have HB := Lib.hid (inCode_any h hr b)
    have hs : sp = 9 := hr.2.2.1
    subst hs
    generalize stepJ D (.q key (m + 2)) st b = q at *
    clear h hr
    go_enter Tryz.func50, Tryz.ntmps50
    go_wp2_with (go_at_call 65; (with_reducible refine HB.out.mono ?_); rintro e w1 ⟨rfl, hm⟩)
    go_end0
    exact ⟨rfl, hm⟩
set_option maxHeartbeats 1000000 in
theorem take_word {w : World} {mb D : Nat} {sn pl sp tn lf : Int} {rs : ByteArray} {st : List Bool} {E : List Value} {x : UInt8} {l : List UInt8} (h : Was w mb D sn pl sp tn lf rs st E) (hr : Reg (.w x l) st sp tn lf rs) (b : UInt8) (hl : l.length ≤ 1000) :
    Calls Tryz.prog 50 #[mptr mb, .int .u8 (b.toNat : Int)] w fun e w' => e = .returned (.tuple #[]) ∧ Ste w w' mb D sn pl (stepJ D (.w x l) st b) := by
  have c3 := h.mac.c3
  have HB := Lib.hid (inWord_any h hr b hl)
  have hs : sp = 10 := hr.1
  subst hs
  generalize stepJ D (.w x l) st b = q at *
  clear h hr
  go_enter Tryz.func50, Tryz.ntmps50
  go_wp2_with (go_at_call 66; (with_reducible refine HB.out.mono ?_); rintro e w1 ⟨rfl, hm⟩)
  go_end0
  exact ⟨rfl, hm⟩
set_option maxHeartbeats 2000000 in
theorem take_number {w : World} {mb D : Nat} {sn pl sp tn lf : Int} {rs : ByteArray} {st : List Bool} {E : List Value} {i : Nat} (h : Was w mb D sn pl sp tn lf rs st E) (hr : Reg (.n i) st sp tn lf rs) (b : UInt8) :
    Calls Tryz.prog 50 #[mptr mb, .int .u8 (b.toNat : Int)] w fun e w' => e = .returned (.tuple #[]) ∧ Ste w w' mb D sn pl (stepJ D (.n i) st b) := by
  have c3 := h.mac.c3
  have HB := Lib.hid (inNumber_any h hr b)
  obtain ⟨hs, hi⟩ := reg_num hr
  have hc : sp = 11 ∨ sp = 12 ∨ sp = 13 ∨ sp = 14 ∨ sp = 15 ∨ sp = 16 ∨ sp = 17 ∨ sp = 18 := by
    match i, hi with
    | 0, _ => exact Or.inl hs
    | 1, _ => exact Or.inr (Or.inr (Or.inl hs))
    | 2, _ => exact Or.inr (Or.inl hs)
    | 3, _ => exact Or.inr (Or.inr (Or.inr (Or.inl hs)))
    | 4, _ => exact Or.inr (Or.inr (Or.inr (Or.inr (Or.inl hs))))
    | 5, _ => exact Or.inr (Or.inr (Or.inr (Or.inr (Or.inr (Or.inl hs)))))
    | 6, _ => exact Or.inr (Or.inr (Or.inr (Or.inr (Or.inr (Or.inr (Or.inl hs))))))
    | 7, _ => exact Or.inr (Or.inr (Or.inr (Or.inr (Or.inr (Or.inr (Or.inr hs))))))
  generalize stepJ D (.n i) st b = q at *
  clear h hr hs hi
  rcases hc with rfl | rfl | rfl | rfl | rfl | rfl | rfl | rfl
  all_goals
    go_enter Tryz.func50, Tryz.ntmps50
    go_wp2_with (go_at_call 67; (with_reducible refine HB.out.mono ?_); rintro e w1 ⟨rfl, hm⟩)
    go_end0
    exact ⟨rfl, hm⟩
/-- A word's rest is short. -/
def fewW : Pj → Bool
  | .w _ l => decide (l.length ≤ 1000)
  | _ => true
theorem take_any {w : World} {mb D : Nat} {sn pl sp tn lf : Int} {rs : ByteArray} {st : List Bool} {E : List Value} {p : Pj} (h : Was w mb D sn pl sp tn lf rs st E) (hr : Reg p st sp tn lf rs) (hf : fewW p = true) (b : UInt8) :
    Calls Tryz.prog 50 #[mptr mb, .int .u8 (b.toNat : Int)] w fun e w' => e = .returned (.tuple #[]) ∧ Ste w w' mb D sn pl (stepJ D p st b) := by
  cases p with
  | v => exact take_calm h hr rfl b
  | a => exact take_calm h hr rfl b
  | o => exact take_calm h hr rfl b
  | k => exact take_calm h hr rfl b
  | c => exact take_calm h hr rfl b
  | e => exact take_calm h hr rfl b
  | q _ _ => exact take_text h hr b
  | n _ => exact take_number h hr b
  | w _ _ => exact take_word h hr b (of_decide_eq_true hf)
theorem few_step {D : Nat} {p p' : Pj} {st st' : List Bool} {b : UInt8} (hf : fewW p = true) (h : stepJ D p st b = .go p' st') : fewW p' = true := by
  have hb : ∀ st b, behJ st b = .go p' st' → fewW p' = true := fun st b h => by
    unfold behJ at h
    repeat' split at h
    all_goals first
      | (cases h; done)
      | (injection h with h _; subst h; first | rfl | (split <;> rfl))
  have hg : ∀ st b, begJ D st b = .go p' st' → fewW p' = true := fun st b h => by
    unfold begJ at h
    repeat' split at h
    all_goals first
      | (cases h; done)
      | (injection h with h _; subst h; rfl)
  unfold stepJ at h
  repeat' split at h
  all_goals first
    | (cases h; done)
    | exact hb _ _ h
    | exact hg _ _ h
    | (injection h with h _; subst h; first | rfl | (split <;> rfl) | (have := of_decide_eq_true hf; exact decide_eq_true (by simp at this; omega)))
end Go.Proofs.YtbojbkpplejdmaaGreat
namespace Go.Proofs.YtbojbkpplejdmaaGreat
open Go.RowKit

/-- A machine behind bytes l, sn of which are told as seen. -/
def MacB (w : World) (mb D : Nat) (sn : Int) (l : List UInt8) : Prop :=
  ∃ (pl sp tn lf : Int) (rs : ByteArray) (dp : Nat) (E : List Value), Mac w mb D sn pl sp tn lf rs dp E ∧ E.length = 200 ∧ dp ≤ D ∧ D ≤ 200 ∧ match runJ D .v [] l with
    | .ok (p, st) => Reg p st sp tn lf rs ∧ dp = st.length ∧ EndsIs st E ∧ fewW p = true
    | .error (x, r) => sp = (if x == 0 then 19 else 20) ∧ pl = (l.length : Int) - (r.length : Int)
theorem MacB.s1 {w : World} {mb D : Nat} {sn : Int} {l : List UInt8} (h : MacB w mb D sn l) (x : Int) : MacB (w.setCell ⟨mb, 1, none⟩ (.int .i64 x)) mb D x l := by
  obtain ⟨pl, sp, tn, lf, rs, dp, E, h1, h2⟩ := h
  exact ⟨pl, sp, tn, lf, rs, dp, E, Mac.s1 h1 x, h2⟩
theorem MacB.same {w w' : World} {mb D : Nat} {sn : Int} {l : List UInt8} (h : MacB w mb D sn l) (e : w'.heap[mb]? = w.heap[mb]?) : MacB w' mb D sn l := by
  obtain ⟨pl, sp, tn, lf, rs, dp, E, h1, h2⟩ := h
  exact ⟨pl, sp, tn, lf, rs, dp, E, e.trans h1, h2⟩
theorem MacB.block {w : World} {mb D : Nat} {sn : Int} {l : List UInt8} (h : MacB w mb D sn l) : mb < w.heap.size := by
  obtain ⟨pl, sp, tn, lf, rs, dp, E, h1, h2⟩ := h
  exact Blk.lt h1

/-! The step's number: whether it stopped. -/
def endN : Pj → Bool
  | .e => true
  | .n i => i == 1 || i == 2 || i == 4 || decide (7 ≤ i)
  | _ => false
theorem end_is (p : Pj) (st : List Bool) : endJ p st = (st.isEmpty && endN p) := by cases p <;> rfl
theorem reg_on {p : Pj} {st : List Bool} {sp tn lf : Int} {rs : ByteArray} (h : Reg p st sp tn lf rs) : 0 ≤ sp ∧ sp ≤ 18 ∧ (sp = 0 ↔ p = .v ∧ st = []) ∧ (sp == 6 || fulZ sp) = endN p := by
  cases p with
  | v =>
    have hr' : sp = if st.isEmpty then 0 else 1 := h
    cases st with
    | nil =>
      have e : sp = 0 := hr'
      subst e
      exact ⟨by decide, by decide, ⟨fun _ => ⟨rfl, rfl⟩, fun _ => rfl⟩, rfl⟩
    | cons a r =>
      have e : sp = 1 := hr'
      subst e
      exact ⟨by decide, by decide, ⟨fun e => absurd e (by decide), fun e => (by cases e.2)⟩, rfl⟩
  | a => obtain ⟨rfl, _⟩ := h; exact ⟨by decide, by decide, ⟨fun e => absurd e (by decide), fun e => (by cases e.1)⟩, rfl⟩
  | o => obtain ⟨rfl, _⟩ := h; exact ⟨by decide, by decide, ⟨fun e => absurd e (by decide), fun e => (by cases e.1)⟩, rfl⟩
  | k => obtain ⟨rfl, _⟩ := h; exact ⟨by decide, by decide, ⟨fun e => absurd e (by decide), fun e => (by cases e.1)⟩, rfl⟩
  | c => obtain ⟨rfl, _⟩ := h; exact ⟨by decide, by decide, ⟨fun e => absurd e (by decide), fun e => (by cases e.1)⟩, rfl⟩
  | e =>
    have e : sp = 6 := h
    subst e
    exact ⟨by decide, by decide, ⟨fun e => absurd e (by decide), fun e => (by cases e.1)⟩, rfl⟩
  | q key n =>
    match n, h with
    | 0, ⟨_, _, e⟩ => subst e; exact ⟨by decide, by decide, ⟨fun e => absurd e (by decide), fun e => (by cases e.1)⟩, rfl⟩
    | 1, ⟨_, _, e⟩ => subst e; exact ⟨by decide, by decide, ⟨fun e => absurd e (by decide), fun e => (by cases e.1)⟩, rfl⟩
    | m + 2, ⟨_, _, e, _⟩ => subst e; exact ⟨by decide, by decide, ⟨fun e => absurd e (by decide), fun e => (by cases e.1)⟩, rfl⟩
  | n i =>
    obtain ⟨rfl, hi⟩ := reg_num h
    clear h
    match i, hi with
    | 0, _ => exact ⟨by decide, by decide, ⟨fun e => absurd e (by decide), fun e => (by cases e.1)⟩, rfl⟩
    | 1, _ => exact ⟨by decide, by decide, ⟨fun e => absurd e (by decide), fun e => (by cases e.1)⟩, rfl⟩
    | 2, _ => exact ⟨by decide, by decide, ⟨fun e => absurd e (by decide), fun e => (by cases e.1)⟩, rfl⟩
    | 3, _ => exact ⟨by decide, by decide, ⟨fun e => absurd e (by decide), fun e => (by cases e.1)⟩, rfl⟩
    | 4, _ => exact ⟨by decide, by decide, ⟨fun e => absurd e (by decide), fun e => (by cases e.1)⟩, rfl⟩
    | 5, _ => exact ⟨by decide, by decide, ⟨fun e => absurd e (by decide), fun e => (by cases e.1)⟩, rfl⟩
    | 6, _ => exact ⟨by decide, by decide, ⟨fun e => absurd e (by decide), fun e => (by cases e.1)⟩, rfl⟩
    | 7, _ => exact ⟨by decide, by decide, ⟨fun e => absurd e (by decide), fun e => (by cases e.1)⟩, rfl⟩
  | w x l =>
    obtain ⟨rfl, _⟩ := h
    exact ⟨by decide, by decide, ⟨fun e => absurd e (by decide), fun e => (by cases e.1)⟩, rfl⟩
theorem sta_ok {p : Pj} {st : List Bool} {sp tn lf : Int} {rs : ByteArray} (h : Reg p st sp tn lf rs) : staZ sp (st.length : Nat) = if endJ p st then 2 else 1 := by
  obtain ⟨h0, h1, _, h3⟩ := reg_on h
  rw [end_is]
  unfold staZ
  have e1 : (sp == 19) = false := by rw [beq_eq_false_iff_ne]; omega
  have e2 : (sp == 20) = false := by rw [beq_eq_false_iff_ne]; omega
  rw [e1, e2, h3]
  cases st with
  | nil => cases p <;> rfl
  | cons a r =>
    have e3 : (((a :: r).length : Int) == 0) = false := by rw [beq_eq_false_iff_ne, List.length_cons]; omega
    rw [e3]
    rfl

/-! Whether something came but what parts. -/
def offJ : Pj → List Bool → Bool
  | .v, st => !st.isEmpty
  | .a, st => !st.isEmpty
  | .o, st => !st.isEmpty
  | .k, st => !st.isEmpty
  | .c, st => !st.isEmpty
  | .q true _, st => !st.isEmpty
  | _, _ => true
theorem off_beg {D : Nat} {st st' : List Bool} {p' : Pj} {b : UInt8} (h : begJ D st b = .go p' st') : offJ p' st' = true := by
  unfold begJ at h
  repeat' split at h
  all_goals first
    | (cases h; done)
    | (injection h with h1 h2; subst h1 h2; rfl)
theorem off_beh {st st' : List Bool} {p' : Pj} {b : UInt8} (h : behJ st b = .go p' st') : offJ p' st' = true := by
  unfold behJ at h
  repeat' split at h
  all_goals first
    | (cases h; done)
    | (injection h with h1 h2; subst h1 h2; first | rfl | (split <;> rfl))
theorem off_step {D : Nat} {p p' : Pj} {st st' : List Bool} {b : UInt8} (ho : offJ p st = true) (h : stepJ D p st b = .go p' st') : offJ p' st' = true := by
  cases p with
  | v =>
    have e : stepJ D .v st b = if whiB b then .go .v st else begJ D st b := rfl
    rw [e] at h
    cases hw : whiB b <;> rw [hw] at h
    · exact off_beg h
    · injection h with h1 h2; subst h1 h2; exact ho
  | a =>
    have e : stepJ D .a st b = if whiB b then .go .a st else if b == 93 then .go .e st.tail else begJ D st b := rfl
    rw [e] at h
    cases hw : whiB b <;> rw [hw] at h
    · cases h9 : (b == 93) <;> rw [h9] at h
      · exact off_beg h
      · injection h with h1 h2; subst h1 h2; rfl
    · injection h with h1 h2; subst h1 h2; exact ho
  | o =>
    have e : stepJ D .o st b = if whiB b then .go .o st else if b == 125 then .go .e st.tail else if b == 34 then .go (.q true 0) st else .no := rfl
    rw [e] at h
    cases hw : whiB b <;> rw [hw] at h
    · cases h9 : (b == 125) <;> rw [h9] at h
      · cases h8 : (b == 34) <;> rw [h8] at h
        · cases h
        · injection h with h1 h2; subst h1 h2; exact ho
      · injection h with h1 h2; subst h1 h2; rfl
    · injection h with h1 h2; subst h1 h2; exact ho
  | k =>
    have e : stepJ D .k st b = if whiB b then .go .k st else if b == 34 then .go (.q true 0) st else .no := rfl
    rw [e] at h
    cases hw : whiB b <;> rw [hw] at h
    · cases h8 : (b == 34) <;> rw [h8] at h
      · cases h
      · injection h with h1 h2; subst h1 h2; exact ho
    · injection h with h1 h2; subst h1 h2; exact ho
  | c =>
    have e : stepJ D .c st b = if whiB b then .go .c st else if b == 58 then .go .v st else .no := rfl
    rw [e] at h
    cases hw : whiB b <;> rw [hw] at h
    · cases h8 : (b == 58) <;> rw [h8] at h
      · cases h
      · injection h with h1 h2; subst h1 h2; exact ho
    · injection h with h1 h2; subst h1 h2; exact ho
  | e => exact off_beh h
  | q key n =>
    cases hq : (n == 0 && b == 34) with
    | true =>
      rw [quo_end D key st hq] at h
      injection h with h1 h2
      subst h1 h2
      cases key with
      | true => exact ho
      | false => rfl
    | false =>
      rw [quo_in D key st hq] at h
      cases hm : quoN n b with
      | none => rw [hm] at h; cases h
      | some m =>
        rw [hm] at h
        injection h with h1 h2
        subst h1 h2
        cases key with
        | true => exact ho
        | false => rfl
  | n i =>
    unfold stepJ at h
    repeat' split at h
    all_goals first
      | contradiction
      | (cases h; done)
      | exact off_beh h
      | (injection h with h1 h2; subst h1 h2; rfl)
  | w x l =>
    have e : stepJ D (.w x l) st b = if b == x then .go (worP l) st else .no := rfl
    rw [e] at h
    cases h8 : (b == x) <;> rw [h8] at h
    · cases h
    · injection h with h1 h2
      subst h1 h2
      cases l <;> rfl
theorem off_run {D : Nat} : ∀ (l : List UInt8) {p p' : Pj} {st st' : List Bool}, offJ p st = true → runJ D p st l = .ok (p', st') → offJ p' st' = true
  | [], _, _, _, _, ho, h => by cases h; exact ho
  | b :: l, p, p', st, st', ho, h => by
    rw [runJ] at h
    cases h2 : stepJ D p st b with
    | go q su =>
      rw [h2] at h
      exact off_run l (off_step ho h2) h
    | no => rw [h2] at h; cases h
    | de => rw [h2] at h; cases h
theorem run_white {D : Nat} : ∀ (l : List UInt8), l.all whiB = true → runJ D .v [] l = .ok (.v, [])
  | [], _ => rfl
  | b :: l, h => by
    rw [List.all_cons, Bool.and_eq_true] at h
    rw [runJ, show stepJ D .v [] b = .go .v [] from if_pos h.1]
    exact run_white l h.2
theorem run_begun {D : Nat} : ∀ (l : List UInt8), l.all whiB = false → ∀ {p : Pj} {st : List Bool}, runJ D .v [] l = .ok (p, st) → offJ p st = true
  | [], h, _, _, _ => by cases h
  | b :: l, h, p, st, hr => by
    rw [runJ] at hr
    cases hw : whiB b with
    | true =>
      rw [show stepJ D .v [] b = .go .v [] from if_pos hw] at hr
      rw [List.all_cons, hw, Bool.true_and] at h
      exact run_begun l h hr
    | false =>
      rw [show stepJ D .v [] b = begJ D [] b from by show (if whiB b then _ else _) = _; rw [hw]; exact if_neg (by decide)] at hr
      cases h2 : begJ D [] b with
      | go q su =>
        rw [h2] at hr
        exact off_run l (off_beg h2) hr
      | no => rw [h2] at hr; cases hr
      | de => rw [h2] at hr; cases hr

/-! What is told of a machine behind l. -/
theorem MacB.told {w : World} {mb D : Nat} {sn : Int} {s : ByteArray} (h : MacB w mb D sn s.data.toList) :
    ∃ (pl sp tn lf : Int) (rs : ByteArray) (dp : Nat) (E : List Value), Mac w mb D sn pl sp tn lf rs dp E ∧ dp ≤ D ∧ D ≤ 200 ∧ staZ sp dp = (whoJ D s).1 ∧ (if sp == 19 || sp == 20 then pl else -1) = (whoJ D s).2 ∧ (sp != 0) = !s.data.toList.all whiB := by
  obtain ⟨pl, sp, tn, lf, rs, dp, E, h1, h2, h3, h4, h5⟩ := h
  refine ⟨pl, sp, tn, lf, rs, dp, E, h1, h3, h4, ?_⟩
  cases hr : runJ D .v [] s.data.toList with
  | ok q =>
    obtain ⟨p, st⟩ := q
    rw [hr] at h5
    obtain ⟨r1, rfl, r3, r4⟩ := h5
    obtain ⟨g0, g1, g2, _⟩ := reg_on r1
    rw [who_ok hr]
    have e1 : (sp == 19) = false := by rw [beq_eq_false_iff_ne]; omega
    have e2 : (sp == 20) = false := by rw [beq_eq_false_iff_ne]; omega
    refine ⟨sta_ok r1, by rw [e1, e2]; rfl, ?_⟩
    cases hw : s.data.toList.all whiB with
    | true =>
      rw [run_white _ hw] at hr
      injection hr with hr
      injection hr with ha hb
      rw [g2.2 ⟨ha.symm, hb.symm⟩]
      rfl
    | false =>
      have ho := run_begun _ hw hr
      show (sp != 0) = true
      rw [bne_iff_ne]
      intro e0
      obtain ⟨rfl, rfl⟩ := g2.1 e0
      cases ho
  | error q =>
    obtain ⟨x, r⟩ := q
    rw [hr] at h5
    obtain ⟨r1, r2⟩ := h5
    rw [who_bad hr]
    have hb := run_bad D _ _ _ _ _ hr
    have hw : s.data.toList.all whiB = false := by
      cases hw : s.data.toList.all whiB with
      | false => rfl
      | true => rw [run_white _ hw] at hr; cases hr
    have hz : s.data.toList.length = s.size := by simp
    rw [hz] at r2
    rw [hw]
    rcases hb.1 with rfl | rfl
    · have e : sp = 19 := r1
      subst e
      exact ⟨rfl, r2, rfl⟩
    · have e : sp = 20 := r1
      subst e
      exact ⟨rfl, r2, rfl⟩

/-! One byte more, and what stops it. -/
theorem run_snoc {D : Nat} {l : List UInt8} {b : UInt8} {p : Pj} {st : List Bool} (h : runJ D .v [] l = .ok (p, st)) : runJ D .v [] (l ++ [b]) = match stepJ D p st b with
    | .go p' st' => .ok (p', st')
    | .no => .error (0, [b])
    | .de => .error (3, [b]) := by
  rw [run_app, h]
  show runJ D p st [b] = _
  rw [runJ]
  cases stepJ D p st b <;> rfl
theorem MacB.next {w' : World} {mb D : Nat} {sn pl : Int} {l : List UInt8} {b : UInt8} {p : Pj} {st : List Bool} (hD : D ≤ 200) (h : runJ D .v [] l = .ok (p, st)) (hf : fewW p = true) (hm : MacS w' mb D sn pl (stepJ D p st b)) :
    MacB (w'.setCell ⟨mb, 2, none⟩ (.int .i64 (l.length : Nat))) mb D sn (l ++ [b]) := by
  obtain ⟨sp, tn, lf, rs, dp, E, h1, h2, h3, h4⟩ := hm
  refine ⟨_, sp, tn, lf, rs, dp, E, Mac.s2 h1 _, h2, h3, hD, ?_⟩
  rw [run_snoc h]
  cases hs : stepJ D p st b with
  | go p' st' =>
    rw [hs] at h4
    exact ⟨h4.1, h4.2.1, h4.2.2, few_step hf hs⟩
  | no =>
    rw [hs] at h4
    exact ⟨h4, by simp⟩
  | de =>
    rw [hs] at h4
    exact ⟨h4, by simp⟩
theorem MacB.stop {w : World} {mb D : Nat} {sn : Int} {l m : List UInt8} {x : Int} {r : List UInt8} (h : MacB w mb D sn l) (hr : runJ D .v [] l = .error (x, r)) : MacB w mb D sn (l ++ m) := by
  obtain ⟨pl, sp, tn, lf, rs, dp, E, h1, h2, h3, h4, h5⟩ := h
  refine ⟨pl, sp, tn, lf, rs, dp, E, h1, h2, h3, h4, ?_⟩
  rw [hr] at h5
  rw [run_app, hr]
  exact ⟨h5.1, by rw [h5.2, List.length_append, List.length_append]; omega⟩
end Go.Proofs.YtbojbkpplejdmaaGreat
