/-
  What two and Members of the document's own answer of layer 15. Condition: the text is not longer than memory.
-/
import Derived.Test.YtmjkolkmpnadpaaWb
import Derived.Test.YtmjkolkmpnadpaaCut
import Derived.Test.YtmjkolkmpnadpaaCls
import Derived.Lib.Hide
import Derived.Test.YtmjkolkmpnadpaaMv
import Derived.BigQuiet
import Derived.Deep.QuietTactic
import Derived.OwnWalk
import Derived.LoopTactic
import Derived.WalkKit
namespace Go.Proofs.Ytmjkolkmpnadpaa
open Go.RowKit

def sizeV : Value → Nat
  | .string x => x.size
  | _ => 0
/-- A world that differs from w by draws alone. -/
def Drn (w W : World) : Prop := ∃ d, W = w.drewN d
theorem Drn.drew {w W : World} (h : Drn w W) : Drn w W.drew := by
  obtain ⟨d, rfl⟩ := h
  exact ⟨d + 1, by rw [← World.drewN_drewN]; rfl⟩
theorem Drn.next {w : World} {x : Wld (Drn w)} {W' : World} (h : ∃ d, W' = x.val.drewN d) : Drn w W' := by
  obtain ⟨d, rfl⟩ := h
  obtain ⟨d0, h0⟩ := x.ok
  exact ⟨d0 + d, by rw [h0, World.drewN_drewN]⟩
theorem list_empty {x : ByteArray} (h : x.size = 0) : (x.toList == ([] : List UInt8)) = true := by
  have := toList_size x
  rw [beq_iff_eq]
  exact List.eq_nil_of_length_eq_zero (by omega)
theorem list_full {x : ByteArray} (h : 0 < x.size) : (x.toList == ([] : List UInt8)) = false := by
  have := toList_size x
  rw [beq_eq_false_iff_ne]
  intro e
  rw [e] at this
  simp at this
  omega
theorem byte_ne {a b : UInt8} {n : Int} (h : a ≠ b) (hn : (b.toNat : Int) = n) : ((a.toNat : Int) == n) = false := by
  rw [beq_eq_false_iff_ne, ← hn]
  intro e
  exact h (UInt8.toNat_inj.1 (by omega))

end Go.Proofs.Ytmjkolkmpnadpaa

