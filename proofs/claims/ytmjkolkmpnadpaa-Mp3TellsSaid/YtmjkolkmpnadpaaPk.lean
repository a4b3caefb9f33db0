/-
  The document's own answer for layer 18: rates, frequencies, whether a frame is good, how many bytes it has. Condition: that a number is in a table.
-/
import Derived.Test.YtmjkolkmpnadpaaPf
import Derived.Deep.DeepCutAuto
import Derived.Outline
namespace Go.Proofs.Ytmjkolkmpnadpaa
open Go.RowKit

theorem ratN_at {o : Bool} {n : Nat} (h : n < 15) : (tabL (ratL o))[n]? = some (.int .i64 (ratN o n : Nat)) := by
  have hl : n < (ratL o).length := by rw [ratL_len]; exact h
  rw [tabL_at _ n hl]
  unfold ratN
  rw [List.getD_eq_getElem?_getD, List.getElem?_eq_getElem hl]
  rfl

set_option maxHeartbeats 2000000 in
theorem rrate_any (v : Int) (n : Nat) (w : World) (h : 0 ≤ v ∧ v < 4) (hn : n < 15) :
    Calls Try.prog 25 #[.int .i64 v, .int .i64 n] w fun e w' => e = .returned (.int .i64 (ratN (oddB v) n : Nat)) ∧ Below w.heap.size w w' := by
  obtain ⟨d, hd⟩ : ∃ d : Nat, d = ratN (oddB v) n := ⟨_, rfl⟩
  rw [← hd]
  have hn1 : (n : Int) < 15 := by omega
  have hv2 : (v % 2 == 1) = oddB v := by unfold oddB; rw [Bool.eq_iff_iff, beq_iff_eq, decide_eq_true_eq]
  have HA := Lib.hid (ratN_at (o := true) hn)
  have HB := Lib.hid (ratN_at (o := false) hn)
  have HD := Lib.hid hd
  clear hd
  go_enter Try.func25, Try.ntmps25
  go_upto_region 3 with fail
  rw [show (#[.int .i64 0, .int .i64 32000, .int .i64 40000, .int .i64 48000, .int .i64 56000, .int .i64 64000, .int .i64 80000, .int .i64 96000, .int .i64 112000, .int .i64 128000, .int .i64 160000, .int .i64 192000, .int .i64 224000, .int .i64 256000, .int .i64 320000] : Array Value) = tabL (ratL true) from rfl, show (#[.int .i64 0, .int .i64 8000, .int .i64 16000, .int .i64 24000, .int .i64 32000, .int .i64 40000, .int .i64 48000, .int .i64 56000, .int .i64 64000, .int .i64 80000, .int .i64 96000, .int .i64 112000, .int .i64 128000, .int .i64 144000, .int .i64 160000] : Array Value) = tabL (ratL false) from rfl]
  have HK1 := Lib.hid ((Blk.new w 3 (tabL (ratL true))).alloc (.cells (tabL (ratL false)) 3))
  have HK2 := Lib.hid (Blk.new2 w (.cells (tabL (ratL true)) 3) 3 (tabL (ratL false)))
  have HW := Lib.hid (((Below.refl w.heap.size w).alloc (Nat.le_refl _) (.cells (tabL (ratL true)) 3)).alloc (by simp) (.cells (tabL (ratL false)) 3))
  generalize (w.alloc (.cells (tabL (ratL true)) 3)).alloc (.cells (tabL (ratL false)) 3) = W at *
  cases ho : oddB v
  all_goals
    rw [ho] at hv2 HD
    clear ho
  · have e0 := (HK2.out.cell n).trans HB.out
    go_wp2
    go_ret
    exact ⟨by rw [HD.out]; first | done | rfl, HW.out⟩
  · have e0 := (HK1.out.cell n).trans HA.out
    go_wp2
    go_ret
    exact ⟨by rw [HD.out]; first | done | rfl, HW.out⟩

end Go.Proofs.Ytmjkolkmpnadpaa
