/-
  What Lower, Same and Begins answer, and the document's own Lower. Condition: the text is as long as a length can be.
-/
import Derived.Test.YtlfbbphkbpajoaaClass1
import Derived.Test.YtlfbbphkbpajoaaTexts
import Derived.Test.YtlfbbphkbpajoaaMv
import Derived.LoopTactic
import Derived.BigQuiet
import Derived.OneCell
import Derived.OwnWalk
import Derived.Laws.IdiomStrings
import Derived.Laws.OwnMore
import Derived.Laws.BytesArg
namespace Go.Proofs.Ytlfbbphkbpajoaa
open Go.RowKit

section
variable {w w' : World} {g : Nat} {t : TypeId} {cs : Array Value} {fr : Nat × Nat}
end

/-- The cells of a text of which the first k bytes are made small. -/
def Small (s : ByteArray) (k : Nat) (C : Array Value) : Prop := ∀ j (h : j < s.size), C[j]? = some (.int .u8 ((if j < k then lowB s[j] else s[j]).toNat : Int))
theorem Small.zero (s : ByteArray) (cap : Nat) : Small s 0 (bytesRow s cap) := fun j h => by
  rw [bytesRow_at s cap j h, if_neg (by omega)]
  rfl
theorem Small.lt {s : ByteArray} {k j : Nat} {C : Array Value} (h : Small s k C) (hj : j < s.size) : j < C.size := (Array.getElem?_eq_some_iff.1 (h j hj)).1
/-- The cells of the first k bytes, made small. -/
def smallL (s : ByteArray) (k : Nat) : List Value := (s.data.toList.take k).map fun b => .int .u8 ((lowB b).toNat : Int)
theorem smallL_succ {s : ByteArray} {k : Nat} (h : k < s.size) {x : Int} (hx : x = ((lowB s[k]).toNat : Int)) : smallL s (k + 1) = smallL s k ++ [.int .u8 x] := by
  unfold smallL
  rw [hx, List.take_add_one]
  have : s.data.toList[k]? = some s[k] := by
    rw [List.getElem?_eq_getElem (by simpa using h)]
    rfl
  rw [this]
  simp
theorem smallL_at {s : ByteArray} {j : Nat} (h : j < s.size) : (smallL s s.size)[j]? = some (.int .u8 ((lowB s[j]).toNat : Int)) := by
  unfold smallL
  rw [List.take_of_length_le (by simp), List.getElem?_map]
  have : s.data.toList[j]? = some s[j] := by
    rw [List.getElem?_eq_getElem (by simpa using h)]
    rfl
  rw [this]
  rfl
theorem small_back {s : ByteArray} {v : Value} {W : World} {base : Nat} (h : W.ownsRow base 5 1 v s.size (smallL s s.size)) :
    (convert 37 9 v).run Try.prog W = .ok (.string (lowS s)) W := by
  have hl : (lowS s).data.toList.length = s.size := by
    have h3 : (lowS s).data.toList.length = (lowS s).size := by simp
    rw [h3, lowS_size]
  have h' := h
  rcases h.2 with ⟨rfl, h0⟩ | ⟨g, cap, cur, rfl, _⟩
  · have e : lowS s = ByteArray.empty := by
      generalize lowS s = x at *
      cases x with | mk d => have : d = #[] := Array.eq_empty_of_size_eq_zero (by simpa using hl.trans h0); rw [this]; rfl
    rw [e]
    exact run_convert_bytes_nil (P := Try.prog) W 37 5 Try.underlying37 Try.underlying5 0 0 9 Try.underlying9
  · have := run_convert_bytes_back (P := Try.prog) W 37 9 5 ⟨g, 0, none⟩ cap (lowS s).data.toList Try.underlying37 Try.underlying5 Try.underlying9 (fun j hj => by
      have hj' : j < s.size := by omega
      have e : (⟨g, 0, none⟩ : Addr).add j = ⟨g, j, none⟩ := by cases j <;> simp [Addr.add]
      rw [e, h'.cellAt j (by omega), smallL_at hj']
      congr 3
      exact congrArg UInt8.toNat (lowS_at s j hj').symm)
    rw [hl] at this
    simpa using this

theorem Try.info5 : (Try.prog.info? 5).map (fun i => (i.zero, i.size, i.bytes)) = some (some (.int .u8 0), 1, 1) := by kernel_rfl

end Go.Proofs.Ytlfbbphkbpajoaa

