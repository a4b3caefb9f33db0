/-
  What takeParams answers of a cursor: a slice of new parameters. Condition: the text is as long as a mebibyte.
-/
import Derived.Test.YtljflkaknhekcaaMim
import Derived.Test.YtljflkaknhekcaaMv
import Derived.Test.YtljflkaknhekcaaQuo
import Derived.Test.YtljflkaknhekcaaRows
import Derived.KernelRfl
import Derived.Laws.Externs
import Derived.WalkKit
import Derived.WalkSpells
import Derived.WalkLawsBesides
import Derived.LoopTactic
import Derived.Lib.Hide
import Derived.Lib.Strings
import Derived.BigQuiet
import Derived.OneCell
import Derived.OwnWalk
import Derived.Laws.IdiomStrings
import Derived.Laws.OwnMore
import Derived.Laws.BytesArg
import Derived.Defers
import Derived.Recover
import Derived.Maps.OwnSet
import Derived.Maps.AppendAt
import Derived.RegionTactic
import Derived.BigRegion
import Derived.Deep.QuietTactic
import Derived.Outline
import Derived.Deep.RegionHeld3
import Derived.StillTailTactics
import Derived.IntWalk
import Derived.Lib.FrozenHead2
import Derived.Deep.RegionWith
import Derived.Laws.AppendOwn
namespace Go.Proofs.Ytljflkaknhekcaa
open Go.RowKit Go.Maps

/-- The cells of some parameters. -/
def prmL (ps : List Prm) : List Value := ps.flatMap fun p => [.string p.n, .string p.v]
theorem prmL_snoc (ps : List Prm) (p : Prm) : prmL (ps ++ [p]) = prmL ps ++ [.string p.n, .string p.v] := by simp [prmL]
theorem own_keep {w w' : World} {base : Nat} {e : TypeId} {size n : Nat} {v : Value} {xs : List Value} {r : List Nat} (h : w.ownsRow base e size v n xs) (hm : Mv w.heap.size r w w') (hr : ∀ x ∈ r, x < base) : w'.ownsRow base e size v n xs := by
  refine ⟨h.1, ?_⟩
  rcases h.2 with h2 | ⟨g, cap, cur, e1, e2, e3, e4⟩
  · exact .inl h2
  · have hl := h.lt g (by rw [e1]; rfl)
    exact .inr ⟨g, cap, cur, e1, e2, (hm.block g hl.2 (fun hx => by have := hr g hx; omega)).trans e3, e4⟩

theorem own_base {w : World} {base b : Nat} {e : TypeId} {size n : Nat} {v : Value} {xs : List Value} (h : w.ownsRow base e size v n xs) (hb : b ≤ base) : w.ownsRow b e size v n xs := by
  refine ⟨h.1, ?_⟩
  rcases h.2 with h2 | ⟨g, cap, cur, e1, e2, e3, e4⟩
  · exact .inl h2
  · exact .inr ⟨g, cap, cur, e1, by omega, e3, e4⟩
theorem Try.infoPrm : (Try.prog.info? 33).map (fun i => (i.zero, i.size, i.bytes)) = some (some (.agg #[.string ⟨#[]⟩, .string ⟨#[]⟩]), 2, 32) := by kernel_rfl

end Go.Proofs.Ytljflkaknhekcaa

