/-
  What the document's Split and Same of layer 4 answer; the pieces of some values, the program's and the document's. Condition: a thousand values of a thousand bytes.
-/
import Derived.Test.YtbibcpbldnedhaaKj
import Derived.Test.YtbibcpbldnedhaaQuo
import Derived.Test.YtbibcpbldnedhaaMv
import Derived.Test.YtbibcpbldnedhaaByte
import Derived.Test.YtbibcpbldnedhaaScan
import Derived.Test.YtbibcpbldnedhaaTexts
import Derived.Test.YtbibcpbldnedhaaMh
import Derived.Test.YtbibcpbldnedhaaRows
import Derived.WalkKit
import Derived.WalkSpells
import Derived.WalkLawsBesides
import Derived.Laws.IdiomStrings
import Derived.LoopTactic
import Derived.Lib.Hide
import Derived.Outline
import Derived.Laws.Externs
namespace Go.Proofs.Ytbibcpbldnedhaa
open Go.RowKit

set_option maxHeartbeats 2000000 in
theorem rsame4_any (A B : Option Addr) (c d : Nat) (xs : List ByteArray) (w : World) (h : TxIn w A xs) (h' : TxIn w B xs) (hn : xs.length ≤ 1048576) :
    Calls Try.prog 13 #[.slice A xs.length c, .slice B xs.length d] w fun e w' => e = .returned (.bool true) ∧ Below w.heap.size w w' := by
  have HA := Lib.hid h
  have HB := Lib.hid h'
  clear h h'
  go_enter Try.func13, Try.ntmps13
  go_wp2
  go_loopw [5] (fun i wr => ∃ k : Nat, k ≤ xs.length ∧ i = .int .i64 k ∧ Below w.heap.size w wr) (fun i _ => xs.length - (intOf i).toNat)
  case atStart => exact ⟨0, Nat.zero_le _, rfl, Below.refl _ _⟩
  case round =>
    obtain ⟨k, hk, rfl, hw⟩ := hrel
    have HW := Lib.hid hw
    clear hw
    by_cases hlt : k < xs.length
    · obtain ⟨g, rfl, hg, hc⟩ := HA.out k hlt
      obtain ⟨g', rfl, hg', hc'⟩ := HB.out k hlt
      have c0 := (HW.out.cell (p := ⟨g, k, none⟩) hg).trans hc
      have c1 := (HW.out.cell (p := ⟨g', k, none⟩) hg').trans hc'
      clear hc hc'
      generalize xs[k] = y at *
      go_wp2_with fail
      go_quiet (fail)
      go_wp2
      go_roundw
      case rel => exact ⟨k + 1, by omega, by go_num, Below.drewN' HW.out _⟩
      case measure => simp [intOf]; omega
    · obtain rfl : k = xs.length := by omega
      go_wp2
      go_ret
      exact ⟨rfl, HW.out⟩

end Go.Proofs.Ytbibcpbldnedhaa

