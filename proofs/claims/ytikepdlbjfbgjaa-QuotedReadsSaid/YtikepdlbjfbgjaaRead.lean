/-
  What layer 4's Read answers. Condition: the text takes at most 2^47 bytes.
-/
import Derived.Test.YtikepdlbjfbgjaaCollect
import Derived.Test.YtikepdlbjfbgjaaAttemptStr
import Derived.Deep.QuietTactic
import Derived.BigQuiet
namespace Go.Proofs.Ytikepdlbjfbgjaa
open Go.RowKit

set_option maxHeartbeats 400000 in
theorem read1_ok (pb cb : Nat) (s : ByteArray) (w : World) (h : Cur w cb s 0) (hp : w.cell? ⟨pb, 0, none⟩ = some (cptr cb)) (h0 : 0 < s.size) (hq : s[0].toNat = 34) (hs : s.size ≤ 140737488355328) :
    Calls Try.prog 18 #[.pointer (some ⟨pb, 0, none⟩)] w fun e w' => e = .returned (.string ⟨(quoS s 1).1.toArray⟩) ∧ Mv w.heap.size [cb] w w' ∧ Cur w' cb s (1 + (quoS s 1).2) := by
  have HC := Lib.hid (collect_said cb 0 s w h h0 hq hs)
  clear h hq
  go_enter Try.func18, Try.ntmps18
  go_wp2_with (go_at_call 19; refine HC.out.mono ?_; rintro e w1 ⟨rfl, hm⟩)
  go_ret
  exact ⟨rfl, by simpa using hm⟩

set_option maxHeartbeats 400000 in
theorem read1_bad (pb cb : Nat) (s : ByteArray) (w : World) (h : Cur w cb s 0) (hp : w.cell? ⟨pb, 0, none⟩ = some (cptr cb)) (hq : ∀ h : 0 < s.size, s[0].toNat ≠ 34) (hs : s.size ≤ 140737488355328) :
    Calls Try.prog 18 #[.pointer (some ⟨pb, 0, none⟩)] w fun e w' => e = pnc 0 2 ∧ Mv w.heap.size [cb] w w' ∧ Cur w' cb s 0 := by
  have HC := Lib.hid (collect_bad cb 0 s true w h (Nat.zero_le _) hq (by omega))
  have HH := Lib.hid h
  clear h hq
  go_enter Try.func18, Try.ntmps18
  go_wp2_with (go_at_call 19; refine HC.out.mono ?_; rintro e w1 ⟨rfl, n, rfl⟩)
  exact ⟨rfl, rfl, Mv.idle ⟨_, rfl⟩, Blk.drewN HH.out _⟩

theorem enter_read1 (a : Value) (w : World) : (callFunc 18 (#[] ++ #[a])).run Try.prog w = .ok (.enter 18 (#[] ++ #[a])) w := by simp [go_sem]

set_option maxHeartbeats 1000000 in
theorem read_of (s x : ByteArray) (n : Nat) (c : Int) (w : World)
    (hv : Hid (∀ W, Cur W w.heap.size s 0 → W.cell? ⟨w.heap.size + 1, 0, none⟩ = some (cptr w.heap.size) → W.heap.size = w.heap.size + 2 →
      Calls Try.prog 8 #[.func (.func 18) #[] #[.pointer (some ⟨w.heap.size + 1, 0, none⟩)]] W fun e w' => e = .returned (.tuple #[.string x, flt 0 c]) ∧ Mv W.heap.size [w.heap.size] W w' ∧ Cur w' w.heap.size s n)) :
    Calls Try.prog 6 #[.string s] w fun e w' => e = .returned (.tuple #[.string x, .int .i64 n, .int .i64 c]) ∧ Below w.heap.size w w' := by
  have hmf := make_func
  go_enter Try.func6, Try.ntmps6
  go_wp2_with (go_at_call 7; refine (new_any s w).mono ?_; rintro e w1 ⟨rfl, rfl⟩)
  go_wp2_with fail
  have hC0 : Cur ((w.alloc (.cells #[.string s, .int .i64 0] 48)).alloc (.cells #[cptr w.heap.size] 26)) w.heap.size s 0 := Blk.alloc (Blk.new w 48 #[.string s, .int .i64 0]) _
  refine (hv.out _ hC0 (by simp [go_sem]) (by simp)).mono ?_
  rintro e w1 ⟨rfl, hm, hc⟩
  have hz := hm.size
  simp at hz
  have c1 : w1.cell? ⟨w.heap.size + 1, 0, none⟩ = some (cptr w.heap.size) := by rw [hm.cell (by simp) (by simp)]; simp [go_sem]
  have HB := Lib.hid (show Below w.heap.size w w1 from (((Below.refl _ _).alloc (Nat.le_refl _) _).alloc (by simp) _).trans (hm.below (by simp; omega) (by simp)))
  have HC := Lib.hid hc
  clear hm hc hC0 hmf
  go_wp2
  have k1 : (w1.alloc (.cells #[.int .i64 0, .int .i64 c] 29)).cell? ⟨w.heap.size + 1, 0, none⟩ = some (cptr w.heap.size) := by rw [World.cell?_alloc_past _ _ _ (by omega)]; exact c1
  have k3 : (w1.alloc (.cells #[.int .i64 0, .int .i64 c] 29)).cell? ⟨w1.heap.size, 1, none⟩ = some (.int .i64 c) := by simp [go_sem]
  have HC2 := Lib.hid (Blk.alloc HC.out (.cells #[.int .i64 0, .int .i64 c] 29))
  have HB2 := Lib.hid (HB.out.alloc (by omega) (.cells #[.int .i64 0, .int .i64 c] 29))
  clear c1 hz HC HB
  generalize hn : w1.heap.size = n1 at *
  generalize w1.alloc (.cells #[.int .i64 0, .int .i64 c] 29) = w2 at *
  clear hn
  go_quiet ((go_at_call 12; exact Calls.quiet_of_same ((at_any w.heap.size n s _ (by exact HC2.out)).mono fun _ _ h => ⟨h.1, h.2.symm⟩)))
  go_wp2
  refine bodyPost_ret (v := .tuple #[.string x, .int .i64 n, .int .i64 c]) (by simp [results, Try.results6, go_sem]) rfl ⟨rfl, ?_⟩
  exact below_drewN HB2.out _

theorem read_ok (s : ByteArray) (w : World) (h0 : 0 < s.size) (hq : s[0].toNat = 34) (hs : s.size ≤ 140737488355328) :
    Calls Try.prog 6 #[.string s] w fun e w' => e = .returned (.tuple #[.string ⟨(quoS s 1).1.toArray⟩, .int .i64 (1 + (quoS s 1).2 : Nat), .int .i64 0]) ∧ Below w.heap.size w w' :=
  read_of s ⟨(quoS s 1).1.toArray⟩ (1 + (quoS s 1).2) 0 w fun W hC hp hz => by
    have lt := hC.lt
    exact valueStr_returns 18 #[] #[.pointer (some ⟨w.heap.size + 1, 0, none⟩)] _ W [w.heap.size] (fun W => Cur W w.heap.size s (1 + (quoS s 1).2)) (fun x hx => by simp at hx; omega)
      (fun W1 W2 hb h => h.below hb lt) (enter_read1 _) fun W' hW => read1_ok (w.heap.size + 1) w.heap.size s W' (hC.below hW lt) ((hW.cell (p := ⟨w.heap.size + 1, 0, none⟩) (by simp; omega)).trans hp) h0 hq hs

theorem read_bad (s : ByteArray) (w : World) (hq : ∀ h : 0 < s.size, s[0].toNat ≠ 34) (hs : s.size ≤ 140737488355328) :
    Calls Try.prog 6 #[.string s] w fun e w' => e = .returned (.tuple #[.string ⟨#[]⟩, .int .i64 0, .int .i64 2]) ∧ Below w.heap.size w w' :=
  read_of s ⟨#[]⟩ 0 2 w fun W hC hp hz => by
    have lt := hC.lt
    exact valueStr_throws 18 #[] #[.pointer (some ⟨w.heap.size + 1, 0, none⟩)] 0 2 W [w.heap.size] (fun W => Cur W w.heap.size s 0) (fun x hx => by simp at hx; omega)
      (fun W1 W2 hb h => h.below hb lt) (enter_read1 _) fun W' hW => read1_bad (w.heap.size + 1) w.heap.size s W' (hC.below hW lt) ((hW.cell (p := ⟨w.heap.size + 1, 0, none⟩) (by simp; omega)).trans hp) hq hs

end Go.Proofs.Ytikepdlbjfbgjaa
