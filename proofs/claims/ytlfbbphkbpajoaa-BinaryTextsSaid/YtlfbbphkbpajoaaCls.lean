/-
  A region that draws its order, all of whose operations read, or call what only makes memory: one walk of the text's order serves, over a class of worlds. Conditions: those of the theorem.
-/
import Derived.Below
import Derived.Deep.QuietTactic
import Derived.BigQuiet
namespace Go.Proofs.Ytlfbbphkbpajoaa
open Go.RowKit

/-- A world of which p holds. -/
structure Wld (p : World → Prop) where
  val : World
  ok : p val

theorem wp_region_class {P : Program} {id : Nat} {Q : Exit → Act → World → Prop} {a : Act} {w : World} {l : List Oper} (p : World → Prop) (hm : P.follows .mixedOrders = true) (hB : Region.lexB .any l.toArray = true) (hp : p w.drew)
    (h : wpQuiet P l.toArray (fun w' => ∃ x : Wld p, w' = x.val) (fun a' => ∀ w', p w' → Q .normal a' w') l a) : (Code.region id l.toArray true).wp P Q a w := by
  refine wp_region_quiet (C := fun w' => ∃ x : Wld p, w' = x.val) hm hB ⟨⟨_, hp⟩, rfl⟩ ?_
  have e : (fun a' => ∀ w', (∃ x : Wld p, w' = x.val) → Q .normal a' w') = fun a' => ∀ w', p w' → Q .normal a' w' := by
    funext a'
    exact propext ⟨fun h w' hw => h _ ⟨⟨w', hw⟩, rfl⟩, fun h w' ⟨x, hx⟩ => hx ▸ h _ x.ok⟩
  rw [e]
  simpa using h

/-- A callee's contract, met in a world of the class. -/
theorem Calls.cls {P : Program} {f : FuncId} {args : Array Value} {p : World → Prop} {x : Wld p} {v : Value} {R : World → Prop}
    (h : Calls P f args x.val fun e w' => e = .returned v ∧ R w') (hR : ∀ w', R w' → p w') : Calls P f args x.val fun e w'' => e = .returned v ∧ ∃ y : Wld p, w'' = y.val :=
  h.mono fun _ w' ⟨he, hw⟩ => ⟨he, ⟨w', hR w' hw⟩, rfl⟩

end Go.Proofs.Ytlfbbphkbpajoaa

