/-
  Plain facts for function values over captured variables: what is compared with nil, a number in a block of one. No condition.
-/
import Derived.Test.YtmepnfkgfbbkiaaRows
import Derived.Test.YtmepnfkgfbbkiaaMv
import Derived.OneCell
import Derived.WalkKit
namespace Go.Proofs.Ytmepnfkgfbbkiaa
open Go.RowKit

theorem eq_fn_nil (fn : Fn) (fi ca : Array Value) (w : World) : (binOp .eql 53 (.func fn fi ca) .nilFunc).run Try.prog w = .ok (.bool false) w := by kernel_rfl
theorem eq_fnnil_nil (w : World) : (binOp .eql 53 .nilFunc .nilFunc).run Try.prog w = .ok (.bool true) w := by kernel_rfl

/-- The number in a block of one. -/
def cellNat (w : World) (b : Nat) : Nat := match w.cell? ⟨b, 0, none⟩ with
  | some (.int _ n) => n.toNat
  | _ => 0
theorem cellNat_of {w : World} {b n : Nat} {t : TypeId} (h : w.heap[b]? = some (.cells #[.int .i64 n] t (0, 0))) : cellNat w b = n := by
  unfold cellNat
  rw [cell_of_one h]
  simp
theorem one_far {w : World} {b : Nat} {v : Value} {t : TypeId} {p : Addr} (h : w.heap[b]? = some (.cells #[v] t (0, 0))) (hp : b ≠ p.block) (u : Value) : (w.setCell p u).heap[b]? = some (.cells #[v] t (0, 0)) := (Below.heap_setCell w p u b hp).trans h
theorem two_lt {a b n : Nat} (h1 : a < n) (h2 : b < n) : ∀ x ∈ [a, b], x < n := fun x hx => by
  simp at hx
  omega
theorem one_lt' {a n : Nat} (h1 : a < n) : ∀ x ∈ [a], x < n := fun x hx => by
  simp at hx
  omega

end Go.Proofs.Ytmepnfkgfbbkiaa
