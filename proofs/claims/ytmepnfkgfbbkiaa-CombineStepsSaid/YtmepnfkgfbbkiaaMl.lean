/-
  What lives of layer 10's statements answers, and the law MimeParses. Condition: texts are as long as a length can be.
-/
import Derived.Test.YtmepnfkgfbbkiaaMrt
import Derived.Test.YtmepnfkgfbbkiaaMuno
import Derived.Test.YtmepnfkgfbbkiaaCut
namespace Go.Proofs.Ytmepnfkgfbbkiaa
open Go.RowKit

abbrev txt0 : ByteArray := ⟨#[32, 84, 101, 120, 116, 47, 72, 84, 77, 76, 59, 67, 104, 97, 114, 115, 101, 116, 61, 34, 117, 116, 102, 45, 56, 34, 32]⟩
abbrev char0 : ByteArray := ⟨#[99, 104, 97, 114, 115, 101, 116]⟩
abbrev utf0 : ByteArray := ⟨#[117, 116, 102, 45, 56]⟩
abbrev ess0 : List UInt8 := [116, 101, 120, 116, 47, 104, 116, 109, 108]
theorem live1 : saysB (trimP whiB txt0) = true := by kernel_rfl
theorem live2 : essL (lowS (tyOf (trimP whiB txt0))) (lowS (suOf (trimP whiB txt0))) = ess0 := by kernel_rfl
theorem live3 : parV (prOf (trimP whiB txt0)) char0 = utf0 := by kernel_rfl
theorem live4 : seenB (prOf (trimP whiB txt0)) char0 = true := by kernel_rfl
theorem live5 : (trimP whiB txt0).size ≤ 100 := of_decide_eq_true (by kernel_rfl)

/-- What is read of a text that says a type. -/
theorem parse_says {s T : ByteArray} (w : World) (hs : s.size ≤ 1048576) (hT : trimP whiB s = T) (h : saysB T = true) :
    Calls Try.prog 35 #[.string s] w fun e w' => ∃ A c, e = .returned (.tuple #[mimV (lowS (tyOf T)) (lowS (suOf T)) A (prOf T).length c, .int .i64 0]) ∧ PsIn w' A (prOf T) ∧ Below w.heap.size w w' := by
  have := parse_any s w hs
  rw [hT, h] at this
  exact this.mono fun e w' hh => by
    obtain ⟨A, c, h1, h2, _, h4⟩ := (show SaysYes T w e w' from hh)
    exact ⟨A, c, h1, h2.ps, h4⟩
theorem parse_says_not {s T : ByteArray} (w : World) (hs : s.size ≤ 1048576) (hT : trimP whiB s = T) (h : saysB T = false) :
    Calls Try.prog 35 #[.string s] w fun e w' => e = .returned (.tuple #[mimV ⟨#[]⟩ ⟨#[]⟩ none 0 0, .int .i64 2]) ∧ Below w.heap.size w w' := by
  have := parse_any s w hs
  rw [hT, h] at this
  exact this
end Go.Proofs.Ytmepnfkgfbbkiaa
