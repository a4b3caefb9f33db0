/-
  What First tells of a list of deeds, worked out on the list; and the statements' own function that lists so many of four. Condition: at most four deeds.
-/
import Derived.Test.YtnifdponeccdgaaNil
namespace Go.Proofs.Ytnifdponeccdgaa
open Go.RowKit

structure D where
  a : Int
  c : Int
  f : Bool
  n : Int

instance : Inhabited D := ⟨⟨0, 0, false, 0⟩⟩

/-- Which is the first that fails, or tells of a code, and what of. -/
def outc : List D → Nat × Int
  | [] => (0, 0)
  | d :: r => if d.f = true then (0, tc d.c) else if d.n = 0 then ((outc r).1 + 1, (outc r).2) else (0, d.n)

theorem outc_le : ∀ l, (outc l).1 ≤ l.length
  | [] => by simp [outc]
  | d :: r => by
    have := outc_le r
    unfold outc
    split
    · simp
    · split <;> simp; omega

theorem outc_pre : ∀ (l : List D) (j : Nat), j < (outc l).1 → (l.getD j default).f = false ∧ (l.getD j default).n = 0
  | [], j, h => by simp [outc] at h
  | d :: r, j, h => by
    unfold outc at h
    split at h
    · simp at h
    · split at h
      · rename_i hf hn
        cases j with
        | zero => exact ⟨by simpa using hf, by simpa using hn⟩
        | succ j => simpa using outc_pre r j (by simpa using h)
      · simp at h

theorem outc_at : ∀ (l : List D), (outc l).1 < l.length → ((l.getD (outc l).1 default).f = true ∧ (outc l).2 = tc (l.getD (outc l).1 default).c) ∨
    ((l.getD (outc l).1 default).f = false ∧ ((l.getD (outc l).1 default).n == 0) = false ∧ (outc l).2 = (l.getD (outc l).1 default).n)
  | [], h => by simp at h
  | d :: r, h => by
    by_cases hf : d.f = true
    · have e : outc (d :: r) = (0, tc d.c) := by simp [outc, hf]
      rw [e]; exact Or.inl ⟨by simpa using hf, by simp⟩
    · by_cases hn : d.n = 0
      · have e : outc (d :: r) = ((outc r).1 + 1, (outc r).2) := by simp [outc, hf, hn]
        rw [e] at h ⊢
        simpa using outc_at r (by simpa using h)
      · have e : outc (d :: r) = (0, d.n) := by simp [outc, hf, hn]
        rw [e]; exact Or.inr ⟨by simpa using hf, by simpa using hn, by simp⟩

theorem outc_end : ∀ (l : List D), (outc l).1 = l.length → (outc l).2 = 0
  | [], _ => rfl
  | d :: r, h => by
    by_cases hf : d.f = true
    · simp [outc, hf] at h
    · by_cases hn : d.n = 0
      · have e : outc (d :: r) = ((outc r).1 + 1, (outc r).2) := by simp [outc, hf, hn]
        rw [e] at h ⊢
        exact outc_end r (by simpa using h)
      · simp [outc, hf, hn] at h

def clos (d : D) : Value := .func (.func 20) #[.agg #[.int .i64 d.a, .int .i64 d.c, .bool d.f, .int .i64 d.n]] #[]

theorem first_list (b cap : Nat) (l : List D) (w : World) (hl : l.length ≤ 1000) (hb : b < w.heap.size) (hcell : ∀ i, i < l.length → w.cell? ⟨b, i, none⟩ = some (clos (l.getD i default))) :
    Calls Try.prog 19 #[.slice (some ⟨b, 0, none⟩) l.length cap] w fun e w' => e = .returned (.tuple #[.int .i64 (outc l).1, .int .i64 (outc l).2]) ∧ Below w.heap.size w w' :=
  first_any b l.length cap (fun i => clos (l.getD i default)) (fun i => if (l.getD i default).f then 0 else (l.getD i default).n) (fun i => if (l.getD i default).f then (l.getD i default).a else 0)
    (fun i => if (l.getD i default).f then tc (l.getD i default).c else 0) (fun i => (l.getD i default).f) (outc l).1 (outc l).2 w hl (outc_le l) hcell
    (fun i _ w => attempt_tell _ _ _ _ w)
    (fun j hj => by
      obtain ⟨h1, h2⟩ := outc_pre l j hj
      exact ⟨h1, by show (if (l.getD j default).f = true then 0 else (l.getD j default).n) = 0; rw [if_neg (by rw [h1]; decide)]; exact h2⟩)
    (fun h => by
      rcases outc_at l h with ⟨h1, h2⟩ | ⟨h1, h2, h3⟩
      · exact Or.inl ⟨h1, by show _ = (if (l.getD (outc l).1 default).f = true then tc (l.getD (outc l).1 default).c else 0); rw [if_pos h1]; exact h2⟩
      · have e : (if (l.getD (outc l).1 default).f = true then 0 else (l.getD (outc l).1 default).n) = (l.getD (outc l).1 default).n := if_neg (by rw [h1]; decide)
        exact Or.inr ⟨h1, by show ((if (l.getD (outc l).1 default).f = true then 0 else (l.getD (outc l).1 default).n) == 0) = false; rw [e]; exact h2, by show _ = (if (l.getD (outc l).1 default).f = true then 0 else (l.getD (outc l).1 default).n); rw [e]; exact h3⟩)
    (outc_end l) hb

abbrev four (a0 c0 : Int) (f0 : Bool) (n0 a1 c1 : Int) (f1 : Bool) (n1 a2 c2 : Int) (f2 : Bool) (n2 a3 c3 : Int) (f3 : Bool) (n3 : Int) : Array Value :=
  #[.int .i64 a0, .int .i64 c0, .bool f0, .int .i64 n0, .int .i64 a1, .int .i64 c1, .bool f1, .int .i64 n1, .int .i64 a2, .int .i64 c2, .bool f2, .int .i64 n2, .int .i64 a3, .int .i64 c3, .bool f3, .int .i64 n3]

set_option maxRecDepth 100000 in
set_option maxHeartbeats 1000000 in
theorem first16_0 (a0 c0 : Int) (f0 : Bool) (n0 a1 c1 : Int) (f1 : Bool) (n1 a2 c2 : Int) (f2 : Bool) (n2 a3 c3 : Int) (f3 : Bool) (n3 : Int) (w : World) :
    Calls Try.prog 16 #[.agg (four a0 c0 f0 n0 a1 c1 f1 n1 a2 c2 f2 n2 a3 c3 f3 n3), .int .i64 0] w fun e w' => e = .returned (.tuple #[.int .i64 0, .int .i64 0]) ∧ Below w.heap.size w w' := by
  go_enter Try.func16, Try.ntmps16
  go_wp2_with (go_at_call 19; refine (first_none _).mono ?_; rintro e w1 ⟨rfl, hb1⟩)
  go_ret2
  exact ⟨rfl, ((Below.refl _ _).alloc (Nat.le_refl _) _).trans (hb1.mono (by simp))⟩

set_option maxRecDepth 100000 in
set_option maxHeartbeats 1000000 in
theorem first16_1 (a0 c0 : Int) (f0 : Bool) (n0 a1 c1 : Int) (f1 : Bool) (n1 a2 c2 : Int) (f2 : Bool) (n2 a3 c3 : Int) (f3 : Bool) (n3 : Int) (r : Nat) (code : Int) (hr : outc [⟨a0, c0, f0, n0⟩] = (r, code)) (w : World) :
    Calls Try.prog 16 #[.agg (four a0 c0 f0 n0 a1 c1 f1 n1 a2 c2 f2 n2 a3 c3 f3 n3), .int .i64 1] w fun e w' => e = .returned (.tuple #[.int .i64 r, .int .i64 code]) ∧ Below w.heap.size w w' := by
  have hmf := make_func
  have HR : Hid _ := Lib.hid hr
  clear hr
  go_enter Try.func16, Try.ntmps16
  go_wp2_with fail
  have hfl := first_list (w.heap.size + 1) 1 [⟨a0, c0, f0, n0⟩] ((w.alloc (.cells (four a0 c0 f0 n0 a1 c1 f1 n1 a2 c2 f2 n2 a3 c3 f3 n3) 35)).alloc (.cells #[clos ⟨a0, c0, f0, n0⟩] 44)) (by simp) (by simp) (by
    intro i hi
    match i, hi with
    | 0, _ => simp [go_sem])
  rw [HR.out] at hfl
  refine hfl.mono ?_
  rintro e w1 ⟨rfl, hb1⟩
  clear hfl HR hmf
  go_wp2
  go_ret2
  exact ⟨rfl, (((Below.refl _ _).alloc (Nat.le_refl _) _).alloc (by simp) _).trans (hb1.mono (by simp; omega))⟩

set_option maxRecDepth 100000 in
set_option maxHeartbeats 1000000 in
theorem first16_2 (a0 c0 : Int) (f0 : Bool) (n0 a1 c1 : Int) (f1 : Bool) (n1 a2 c2 : Int) (f2 : Bool) (n2 a3 c3 : Int) (f3 : Bool) (n3 : Int) (r : Nat) (code : Int) (hr : outc [⟨a0, c0, f0, n0⟩, ⟨a1, c1, f1, n1⟩] = (r, code)) (w : World) :
    Calls Try.prog 16 #[.agg (four a0 c0 f0 n0 a1 c1 f1 n1 a2 c2 f2 n2 a3 c3 f3 n3), .int .i64 2] w fun e w' => e = .returned (.tuple #[.int .i64 r, .int .i64 code]) ∧ Below w.heap.size w w' := by
  have hmf := make_func
  have HR : Hid _ := Lib.hid hr
  clear hr
  go_enter Try.func16, Try.ntmps16
  go_wp2_with fail
  have hfl := first_list (w.heap.size + 1) 2 [⟨a0, c0, f0, n0⟩, ⟨a1, c1, f1, n1⟩] ((w.alloc (.cells (four a0 c0 f0 n0 a1 c1 f1 n1 a2 c2 f2 n2 a3 c3 f3 n3) 35)).alloc (.cells #[clos ⟨a0, c0, f0, n0⟩, clos ⟨a1, c1, f1, n1⟩] 44)) (by simp) (by simp) (by
    intro i hi
    match i, hi with
    | 0, _ => simp [go_sem]
    | 1, _ => simp [go_sem])
  rw [HR.out] at hfl
  refine hfl.mono ?_
  rintro e w1 ⟨rfl, hb1⟩
  clear hfl HR hmf
  go_wp2
  go_ret2
  exact ⟨rfl, (((Below.refl _ _).alloc (Nat.le_refl _) _).alloc (by simp) _).trans (hb1.mono (by simp; omega))⟩

set_option maxRecDepth 100000 in
set_option maxHeartbeats 1000000 in
theorem first16_3 (a0 c0 : Int) (f0 : Bool) (n0 a1 c1 : Int) (f1 : Bool) (n1 a2 c2 : Int) (f2 : Bool) (n2 a3 c3 : Int) (f3 : Bool) (n3 : Int) (r : Nat) (code : Int) (hr : outc [⟨a0, c0, f0, n0⟩, ⟨a1, c1, f1, n1⟩, ⟨a2, c2, f2, n2⟩] = (r, code)) (w : World) :
    Calls Try.prog 16 #[.agg (four a0 c0 f0 n0 a1 c1 f1 n1 a2 c2 f2 n2 a3 c3 f3 n3), .int .i64 3] w fun e w' => e = .returned (.tuple #[.int .i64 r, .int .i64 code]) ∧ Below w.heap.size w w' := by
  have hmf := make_func
  have HR : Hid _ := Lib.hid hr
  clear hr
  go_enter Try.func16, Try.ntmps16
  go_wp2_with fail
  have hfl := first_list (w.heap.size + 1) 3 [⟨a0, c0, f0, n0⟩, ⟨a1, c1, f1, n1⟩, ⟨a2, c2, f2, n2⟩] ((w.alloc (.cells (four a0 c0 f0 n0 a1 c1 f1 n1 a2 c2 f2 n2 a3 c3 f3 n3) 35)).alloc (.cells #[clos ⟨a0, c0, f0, n0⟩, clos ⟨a1, c1, f1, n1⟩, clos ⟨a2, c2, f2, n2⟩] 44)) (by simp) (by simp) (by
    intro i hi
    match i, hi with
    | 0, _ => simp [go_sem]
    | 1, _ => simp [go_sem]
    | 2, _ => simp [go_sem])
  rw [HR.out] at hfl
  refine hfl.mono ?_
  rintro e w1 ⟨rfl, hb1⟩
  clear hfl HR hmf
  go_wp2
  go_ret2
  exact ⟨rfl, (((Below.refl _ _).alloc (Nat.le_refl _) _).alloc (by simp) _).trans (hb1.mono (by simp; omega))⟩

set_option maxRecDepth 100000 in
set_option maxHeartbeats 1000000 in
theorem first16_4 (a0 c0 : Int) (f0 : Bool) (n0 a1 c1 : Int) (f1 : Bool) (n1 a2 c2 : Int) (f2 : Bool) (n2 a3 c3 : Int) (f3 : Bool) (n3 : Int) (r : Nat) (code : Int) (hr : outc [⟨a0, c0, f0, n0⟩, ⟨a1, c1, f1, n1⟩, ⟨a2, c2, f2, n2⟩, ⟨a3, c3, f3, n3⟩] = (r, code)) (w : World) :
    Calls Try.prog 16 #[.agg (four a0 c0 f0 n0 a1 c1 f1 n1 a2 c2 f2 n2 a3 c3 f3 n3), .int .i64 4] w fun e w' => e = .returned (.tuple #[.int .i64 r, .int .i64 code]) ∧ Below w.heap.size w w' := by
  have hmf := make_func
  have HR : Hid _ := Lib.hid hr
  clear hr
  go_enter Try.func16, Try.ntmps16
  go_wp2_with fail
  have hfl := first_list (w.heap.size + 1) 4 [⟨a0, c0, f0, n0⟩, ⟨a1, c1, f1, n1⟩, ⟨a2, c2, f2, n2⟩, ⟨a3, c3, f3, n3⟩] ((w.alloc (.cells (four a0 c0 f0 n0 a1 c1 f1 n1 a2 c2 f2 n2 a3 c3 f3 n3) 35)).alloc (.cells #[clos ⟨a0, c0, f0, n0⟩, clos ⟨a1, c1, f1, n1⟩, clos ⟨a2, c2, f2, n2⟩, clos ⟨a3, c3, f3, n3⟩] 44)) (by simp) (by simp) (by
    intro i hi
    match i, hi with
    | 0, _ => simp [go_sem]
    | 1, _ => simp [go_sem]
    | 2, _ => simp [go_sem]
    | 3, _ => simp [go_sem])
  rw [HR.out] at hfl
  refine hfl.mono ?_
  rintro e w1 ⟨rfl, hb1⟩
  clear hfl HR hmf
  go_wp2
  go_ret2
  exact ⟨rfl, (((Below.refl _ _).alloc (Nat.le_refl _) _).alloc (by simp) _).trans (hb1.mono (by simp; omega))⟩

end Go.Proofs.Ytnifdponeccdgaa
