/-
  A region that draws its order, all of whose operations read, or call what only makes memory: one walk of the text's order serves, over a class of worlds. Conditions: those of the theorem.
  What the document's functions of one text, of layer 10, answer, and what it says of parameters. Conditions: texts are as long as a length can be.
  What package status' reason and Good answer, and the document's one, Null, Redirect and Good. Condition: a text is no longer than a length can be.
-/
import Derived.Below
import Derived.Deep.QuietTactic
import Derived.BigQuiet
import Derived.Test.YteeheehoaklnbaaDoorZ5
import Derived.Test.YteeheehoaklnbaaDoorZ2
import Derived.Test.YteeheehoaklnbaaDoorZ4
import Derived.Test.YteeheehoaklnbaaDoorZ6
import Derived.Test.YteeheehoaklnbaaDoorZ7
import Derived.Test.YteeheehoaklnbaaDoorZ1
import Derived.LoopTactic
import Derived.OneCell
import Derived.OwnWalk
import Derived.Laws.IdiomStrings
import Derived.Laws.OwnMore
import Derived.Laws.BytesArg
import Derived.Maps.OwnSet
import Derived.Maps.AppendAt
import Derived.Laws.AppendOwn
import Derived.Test.YteeheehoaklnbaaDoorRows
import Derived.WalkKit
import Derived.WalkSpells
import Derived.WalkLawsBesides
import Derived.Lib.Hide
import Derived.Outline
import Derived.Test.YteeheehoaklnbaaDoorZ8
import Derived.Deep.RegionHeld2
namespace Go.Proofs.YteeheehoaklnbaaDoor
open Go.RowKit

/-- A world of which p holds. -/
structure Wld (p : World → Prop) where
  val : World
  ok : p val

theorem wp_region_class {P : Program} {id : Nat} {Q : Exit → Act → World → Prop} {a : Act} {w : World} {l : List Oper} (p : World → Prop) (hm : P.follows .mixedOrders = true) (hB : Region.lexB .any l.toArray = true) (hp : p w.drew)
    (h : wpQuiet P l.toArray (fun w' => ∃ x : Wld p, w' = x.val) (fun a' => ∀ w', p w' → Q .normal a' w') l a) : (Code.region id l.toArray true).wp P Q a w := by
  refine wp_region_quiet (C := fun w' => ∃ x : Wld p, w' = x.val) hm hB ⟨⟨_, hp⟩, rfl⟩ ?_
  have e : (fun a' => ∀ w', (∃ x : Wld p, w' = x.val) → Q .normal a' w') = fun a' => ∀ w', p w' → Q .normal a' w' := by
    funext a'
    exact propext ⟨fun h w' hw => h _ ⟨⟨w', hw⟩, rfl⟩, fun h w' ⟨x, hx⟩ => hx ▸ h _ x.ok⟩
  rw [e]
  simpa using h

/-- A callee's contract, met in a world of the class. -/
theorem Calls.cls {P : Program} {f : FuncId} {args : Array Value} {p : World → Prop} {x : Wld p} {v : Value} {R : World → Prop}
    (h : Calls P f args x.val fun e w' => e = .returned v ∧ R w') (hR : ∀ w', R w' → p w') : Calls P f args x.val fun e w'' => e = .returned v ∧ ∃ y : Wld p, w'' = y.val :=
  h.mono fun _ w' ⟨he, hw⟩ => ⟨he, ⟨w', hR w' hw⟩, rfl⟩

end Go.Proofs.YteeheehoaklnbaaDoor
namespace Go.Proofs.YteeheehoaklnbaaDoor
open Go.RowKit

theorem allB_all {p : UInt8 → Bool} {s : ByteArray} (h : ∀ j (hj : j < s.size), j < s.size → p s[j] = true) : allB p s = true := allB_yes fun j hj => h j hj hj

set_option maxHeartbeats 1000000 in
theorem rQuoted_any (s : ByteArray) (w : World) (hs : s.size ≤ 9223372036854775807) :
    Calls Tryd.prog 17 #[.string s] w fun e w' => e = .returned (.bool (allB quoB s)) ∧ w = w' := by
  obtain ⟨R, hR⟩ : ∃ R, R = allB quoB s := ⟨_, rfl⟩
  rw [← hR]
  have HR := Lib.hid hR
  clear hR
  go_enter Tryd.func17, Tryd.ntmps17
  go_wp2
  go_loop [3] (fun i => ∃ k : Nat, k ≤ s.size ∧ i = .int .i64 k ∧ ∀ j (hj : j < s.size), j < k → quoB s[j] = true) (fun i => s.size - (intOf i).toNat)
  case atStart => exact ⟨0, by omega, rfl, fun j _ h => absurd h (by omega)⟩
  case round =>
    obtain ⟨k, hk, rfl, hno⟩ := hrel
    have HN := Lib.hid hno
    clear hno
    by_cases hlt : k < s.size
    · have HL := Lib.hid (fun W => refQuoted_any s[k] W)
      cases hb : quoB s[k]
      · rw [hb] at HL
        have HX := Lib.hid (show R = false from by rw [HR.out]; exact allB_no hlt hb)
        clear hb
        go_wp2_with (go_at_call 30; refine (HL.out _).mono ?_; rintro e w' ⟨rfl, rfl⟩)
        go_ret
        exact ⟨by rw [HX.out]; rfl, rfl⟩
      · rw [hb] at HL
        have HB := Lib.hid hb
        clear hb
        go_wp2_with (go_at_call 30; refine (HL.out _).mono ?_; rintro e w' ⟨rfl, rfl⟩)
        go_round
        case rel => exact ⟨k + 1, by omega, by go_num, fun j h1 h => if e : j = k then by subst e; exact HB.out else HN.out j h1 (by omega)⟩
        case measure => first | (simp [intOf]; done) | (simp [intOf]; omega)
    · obtain rfl : k = s.size := by omega
      have HX := Lib.hid (show R = true from by rw [HR.out]; exact allB_all HN.out)
      go_wp2
      go_ret
      exact ⟨by rw [HX.out]; rfl, rfl⟩

end Go.Proofs.YteeheehoaklnbaaDoor
namespace Go.Proofs.YteeheehoaklnbaaDoor
open Go.RowKit

abbrev fnQtd25 : Value := .func (.func 27) #[] #[]

set_option maxHeartbeats 1000000 in
theorem reason_any (r : ByteArray) (w : World) (hs : r.size ≤ 9223372036854775807) : Calls Tryd.prog 14 #[.string r] w fun e w' => e = .returned (.bool (reaB r)) ∧ Below w.heap.size w w' := by
  have HA := Lib.hid (all_Qtd r w hs)
  have HB := Lib.hid (fun W => beginsTab_any r W hs)
  have HE := Lib.hid (fun W => ends_any r W hs)
  unfold reaB
  generalize allB quoB r = a at *
  generalize bgtB r = b at *
  generalize cutP tabB r = t at *
  cases a <;> cases b
  all_goals
    go_enter Tryd.func14, Tryd.ntmps14
    go_wp2_with (first
      | (go_at_call 26; (with_reducible refine HA.out.mono ?_); rintro e w1 ⟨rfl, b1⟩; have HB1 := Lib.hid b1; clear b1)
      | (go_at_call 28; (with_reducible refine (HB.out _).mono ?_); rintro e w2 ⟨rfl, rfl⟩)
      | (go_at_call 23; (with_reducible refine (HE.out _).mono ?_); rintro e w2 ⟨rfl, rfl⟩))
    go_ret
    exact ⟨rfl, HB1.out⟩

theorem sgood_parts (va vb vc rr : Bool) (a b c k : Int) (r : ByteArray) (w : World) (hk : (k != 0) = vc)
    (HA : Hid (∀ W, Calls Tryd.prog 12 #[.int .i64 a] W fun e w' => e = .returned (.bool va) ∧ W = w'))
    (HB : Hid (∀ W, Calls Tryd.prog 12 #[.int .i64 b] W fun e w' => e = .returned (.bool vb) ∧ W = w'))
    (HC : Hid (∀ W, Calls Tryd.prog 13 #[.int .i64 c] W fun e w' => e = .returned (.int .i64 k) ∧ W = w'))
    (HR : Hid (∀ W, Calls Tryd.prog 14 #[.string r] W fun e w' => e = .returned (.bool rr) ∧ Below W.heap.size W w')) :
    Calls Tryd.prog 6 #[stV a b c r] w fun e w' => e = .returned (.bool (va && vb && vc && rr)) ∧ Below w.heap.size w w' := by
  obtain ⟨w0, hw0⟩ : ∃ w0, w0 = w.alloc (stC a b c r) := ⟨_, rfl⟩
  have HB0 := Lib.hid (show Below w.heap.size w w0 from by rw [hw0]; exact (Below.refl w.heap.size w).alloc (Nat.le_refl _) _)
  have HP := Lib.hid (show Blk w0 w.heap.size 23 #[.int .i64 a, .int .i64 b, .int .i64 c, .string r] from by rw [hw0]; exact Blk.new _ _ _)
  have c0 := HP.out.cell 0
  have c1 := HP.out.cell 1
  have c2 := HP.out.cell 2
  have c3 := HP.out.cell 3
  cases va <;> cases vb <;> cases vc
  all_goals
    go_enter Tryd.func6, Tryd.ntmps6
    go_wp2_with fail
    rw [← hw0]
    clear hw0
    have HBx := HB0
    go_wp2_with (first
      | (go_at_call 12; first | (with_reducible refine (HA.out _).mono ?_) | (with_reducible refine (HB.out _).mono ?_)
         rintro e w1 ⟨rfl, rfl⟩)
      | (go_at_call 13; (with_reducible refine (HC.out _).mono ?_); rintro e w1 ⟨rfl, rfl⟩)
      | (go_at_call 14; (with_reducible refine (HR.out _).mono ?_); rintro e w2 ⟨rfl, b2⟩; have HBx := Lib.hid (below_on HB0.out b2); clear b2))
    go_ret
    exact ⟨rfl, HBx.out⟩

theorem sgood_any (a b c : Int) (r : ByteArray) (w : World) (hs : r.size ≤ 9223372036854775807) : Calls Tryd.prog 6 #[stV a b c r] w fun e w' => e = .returned (.bool (stgQ a b c r)) ∧ Below w.heap.size w w' :=
  sgood_parts (verB a) (verB b) (clsZ c != 0) (reaB r) a b c (clsZ c) r w rfl (Lib.hid fun W => version_any a W) (Lib.hid fun W => version_any b W) (Lib.hid fun W => class25_any c W) (Lib.hid fun W => reason_any r W hs)


end Go.Proofs.YteeheehoaklnbaaDoor
