/-
  What Cut answers: the first n bytes. Condition: the text is no longer than a length can be.
-/
import Derived.Test.YtlfbbphkbpajoaaRows
import Derived.WalkKit
import Derived.WalkSpells
import Derived.WalkLawsBesides
namespace Go.Proofs.Ytlfbbphkbpajoaa
open Go.RowKit

/-- The first n bytes. -/
def cutB (s : ByteArray) (n : Nat) : ByteArray := if n < s.size then s.extract 0 n else s
theorem cutB_size (s : ByteArray) (n : Nat) : (cutB s n).size ≤ n := by
  unfold cutB
  split
  · simp; omega
  · omega

set_option maxHeartbeats 400000 in
theorem cut_any (s : ByteArray) (n : Nat) (w : World) (_hs : s.size ≤ 9223372036854775807) :
    Calls Try.prog 9 #[.string s, .int .i64 n] w fun e w' => e = .returned (.string (cutB s n)) ∧ w = w' := by
  by_cases h : n < s.size
  · have hx : cutB s n = s.extract 0 n := by simp [cutB, h]
    have h1 : decide ((n : Int) < (s.size : Int)) = true := by simpa using h
    have h2 : decide (n < s.size) = true := by simpa using h
    rw [hx]
    clear hx
    go_enter Try.func9, Try.ntmps9
    go_wp2
    go_ret
    exact ⟨rfl, rfl⟩
  · have hx : cutB s n = s := by simp [cutB, h]
    have h1 : decide ((n : Int) < (s.size : Int)) = false := by simp; omega
    have h2 : decide (n < s.size) = false := by simpa using h
    rw [hx]
    clear hx
    go_enter Try.func9, Try.ntmps9
    go_wp2
    go_ret
    exact ⟨rfl, rfl⟩

end Go.Proofs.Ytlfbbphkbpajoaa

