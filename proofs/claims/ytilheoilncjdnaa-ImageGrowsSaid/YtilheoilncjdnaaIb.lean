/-
  What exact and webp of package image answer. Condition: the text has at most 14 bytes.
-/
import Derived.Test.YtilheoilncjdnaaIa
import Derived.Test.YtilheoilncjdnaaMv
import Derived.BigQuiet
import Derived.Deep.QuietTactic
import Derived.OwnWalk
namespace Go.Proofs.Ytilheoilncjdnaa
open Go.RowKit

/-- The mask of the longest pattern. -/
abbrev ffS : ByteArray := ⟨#[255, 255, 255, 255, 255, 255, 255, 255, 255, 255, 255, 255, 255, 255]⟩

set_option maxHeartbeats 400000 in
theorem exact_any (t k : ByteArray) (w : World) (ht : t.size ≤ 14) :
    Calls Try.prog 26 #[.string t, .string k] w fun e w' => e = .returned (patV t (ffS.extract 0 t.size) ⟨#[]⟩ k) ∧ Below w.heap.size w w' := by
  have hsz : ffS.size = 14 := rfl
  have g1 : (t.size : Int) ≤ 14 := by omega
  go_enter Try.func26, Try.ntmps26
  go_wp2
  exact bodyPost_ret (v := patV t (ffS.extract 0 t.size) ⟨#[]⟩ k) (by simp [results, Try.results26, go_sem]) rfl ⟨rfl, (Below.refl w.heap.size w).alloc (Nat.le_refl _) _⟩

set_option maxHeartbeats 1000000 in
theorem webp_any (w : World) :
    Calls Try.prog 27 #[] w fun e w' => e = .returned (patV (imgP 5).b (imgP 5).m ⟨#[]⟩ (imgP 5).t) ∧ Below w.heap.size w w' := by
  have hm : (imgP 5).m = ffS.extract 0 4 ++ ⟨#[0, 0, 0, 0]⟩ ++ ffS.extract 0 6 := by kernel_rfl
  rw [hm]
  clear hm
  go_enter Try.func27, Try.ntmps27
  go_wp2
  go_region
  go_wp2
  exact bodyPost_ret (v := patV (imgP 5).b (ffS.extract 0 4 ++ ⟨#[0, 0, 0, 0]⟩ ++ ffS.extract 0 6) ⟨#[]⟩ (imgP 5).t) (by simp [results, Try.results27, go_sem, imgP]) rfl ⟨rfl, ((Below.refl w.heap.size w).alloc (Nat.le_refl _) _).drew⟩

end Go.Proofs.Ytilheoilncjdnaa
