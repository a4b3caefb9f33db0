/-
  What layer 4's Serial and Needs answer, and the document's own Serial. Condition: the text takes at most 2^45 bytes.
-/
import Derived.Test.YtmepnfkgfbbkiaaBld
import Derived.Test.YtmepnfkgfbbkiaaQuo
import Derived.Test.YtmepnfkgfbbkiaaCount
import Derived.LoopTactic
namespace Go.Proofs.Ytmepnfkgfbbkiaa
open Go.RowKit

theorem n34 : (((34 : UInt8).toNat : Nat) : Int) = 34 := by kernel_rfl
theorem n92 : (((92 : UInt8).toNat : Nat) : Int) = 92 := by kernel_rfl
/-- What is written of a text in quotes, behind k of its bytes. -/
def serK (s : ByteArray) (k : Nat) : List UInt8 := 34 :: serL (s.data.toList.take k)
theorem serK_zero (s : ByteArray) : serK s 0 = [34] := rfl
theorem serK_yes {s : ByteArray} {k : Nat} (h : k < s.size) (e : s[k].toNat = 34 ∨ s[k].toNat = 92) : serK s (k + 1) = serK s k ++ [92] ++ [s[k]] := by
  unfold serK
  rw [take_snoc s k h, serL_append, serL_yes e]
  simp
theorem serK_no {s : ByteArray} {k : Nat} (h : k < s.size) (e1 : s[k].toNat ≠ 34) (e2 : s[k].toNat ≠ 92) : serK s (k + 1) = serK s k ++ [s[k]] := by
  unfold serK
  rw [take_snoc s k h, serL_append, serL_no e1 e2]
  simp
theorem serK_len (s : ByteArray) (k : Nat) : (serK s k).length ≤ 2 * k + 1 := by
  have := serL_len (s.data.toList.take k)
  have h2 : (s.data.toList.take k).length ≤ k := by simp; omega
  unfold serK
  simp
  omega
theorem serK_all (s : ByteArray) : (⟨(serK s s.size ++ [34]).toArray⟩ : ByteArray) = serS s := by
  unfold serK serS
  rw [List.take_of_length_le (by simp)]

/-- Whether a text is no token. -/
def needB (s : ByteArray) : Bool := s.toList == [] || !allB tokB s

set_option maxHeartbeats 400000 in
theorem needs_any (s : ByteArray) (w : World) (hs : s.size ≤ 9223372036854775807) :
    Calls Try.prog 36 #[.string s] w fun e w' => e = .returned (.bool (needB s)) ∧ Below w.heap.size w w' := by
  have HA := Lib.hid (fun W => all_Tok s W hs)
  unfold needB
  cases h0 : (s.toList == [])
  · go_enter Try.func36, Try.ntmps36
    go_wp2_with (go_at_call 28; refine (HA.out _).mono ?_; rintro e w1 ⟨rfl, hb⟩)
    go_ret
    exact ⟨rfl, hb⟩
  · go_enter Try.func36, Try.ntmps36
    go_wp2
    go_ret
    exact ⟨rfl, Below.refl _ _⟩

end Go.Proofs.Ytmepnfkgfbbkiaa
