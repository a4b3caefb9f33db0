/-
  Facts of layer 29: what is known of all bytes (whoV), as a verdict (jdgO); four cells of a block written anew. No condition.
  Plain facts on layer 28's document side: the text that tells what is open, from without to within (opT): one more, the innermost one, one less. No condition.
  Plain facts on texts, as layer 3 turns them: small letters, what is cut at the ends. No condition.
-/
import Derived.Test.YtbojbkpplejdmaaZ5
import Derived.Test.YtbojbkpplejdmaaZ3
import Derived.Test.YtbojbkpplejdmaaZ1
import Derived.Lib.Strings
namespace Go.Proofs.Ytbojbkpplejdmaa
open Go.RowKit

/-- Why, and what then. -/
def rsV : Nat → ByteArray
  | 0 => ⟨#[100, 101, 101, 112]⟩
  | 1 => ⟨#[110, 111, 32, 115, 99, 114, 105, 112, 116]⟩
  | 2 => ⟨#[115, 99, 114, 105, 112, 116]⟩
  | 3 => ⟨#[98, 108, 97, 110, 107]⟩
  | 4 => ⟨#[106, 115, 111, 110]⟩
  | 5 => ⟨#[115, 99, 114, 105, 112, 116]⟩
  | _ => ⟨#[99, 117, 116, 32, 111, 102, 102]⟩
def vdV : Nat → Int
  | 0 => 2
  | 1 => 2
  | 2 => 1
  | 3 => 1
  | 4 => 2
  | 5 => 1
  | _ => 2
def jdgV (v : Int) (r : ByteArray) (a : Int) : Value := .agg #[.int .i64 v, .string r, .int .i64 a, .bool false]
/-- What is known of all bytes: what, and behind how many. -/
def whoV (D : Nat) (s : ByteArray) (ended : Bool) : Option (Nat × Nat) := match fstV D [] s.data.toList with
  | some r => some r
  | none => if ended then some (endV D s, s.size) else none
def jdgO : Option (Nat × Nat) → Value
  | none => jdgV 0 ⟨#[]⟩ 0
  | some (c, n) => jdgV (vdV c) (rsV c) (n : Nat)
def zeroJ4 : Array Value := #[.int .i64 0, .string ⟨#[]⟩, .int .i64 0, .bool false]
theorem Try.zeroJudged (w : World) : (zeroValue 40).run Try.prog w = .ok (.agg #[.int .i64 0, .string ⟨#[]⟩, .int .i64 0, .bool false]) w := by kernel_rfl
theorem Blk.set4 {W : World} {g : Nat} {t : TypeId} {u0 u1 u2 u3 : Value} (h : Blk W g t #[u0, u1, u2, u3]) (v0 v1 v2 v3 : Value) :
    Blk ((((W.setCell ⟨g, 0, none⟩ v0).setCell ⟨g, 1, none⟩ v1).setCell ⟨g, 2, none⟩ v2).setCell ⟨g, 3, none⟩ v3) g t #[v0, v1, v2, v3] :=
  (((h.set_ 0 v0).set_ 1 v1).set_ 2 v2).set_ 3 v3
theorem below_set4 {w W : World} {g : Nat} (h : Below w.heap.size w W) (hg : w.heap.size ≤ g) (v0 v1 v2 v3 : Value) :
    Below w.heap.size w ((((W.setCell ⟨g, 0, none⟩ v0).setCell ⟨g, 1, none⟩ v1).setCell ⟨g, 2, none⟩ v2).setCell ⟨g, 3, none⟩ v3) :=
  (((h.setCell hg _).setCell hg _).setCell hg _).setCell hg _
end Go.Proofs.Ytbojbkpplejdmaa
namespace Go.Proofs.Ytbojbkpplejdmaa

def opT (o : List UInt8) : ByteArray := ⟨o.reverse.toArray⟩
theorem opT_list (o : List UInt8) : (opT o).data.toList = o.reverse := rfl
theorem opT_size (o : List UInt8) : (opT o).size = o.length := by
  have h : (opT o).data.toList.length = (opT o).size := by simp
  rw [← h, opT_list, List.length_reverse]
theorem opT_nil : opT [] = ⟨#[]⟩ := rfl
theorem opT_push (c : UInt8) (o : List UInt8) : opT o ++ ⟨#[c]⟩ = opT (c :: o) := by
  apply ByteArray.ext
  apply Array.toList_inj.1
  rw [ByteArray.data_append, Array.toList_append]
  show o.reverse ++ [c] = (c :: o).reverse
  rw [List.reverse_cons]
theorem opT_last (c : UInt8) (o : List UInt8) (h : o.length < (opT (c :: o)).size) : (opT (c :: o))[o.length] = c := by
  show (opT (c :: o)).data[o.length] = c
  rw [← Array.getElem_toList]
  have e : (opT (c :: o)).data.toList = o.reverse ++ [c] := by rw [opT_list, List.reverse_cons]
  rw [List.getElem_of_eq e, List.getElem_append_right (by rw [List.length_reverse]; exact Nat.le_refl _)]
  simp
theorem opT_less (c : UInt8) (o : List UInt8) : (opT (c :: o)).extract 0 o.length = opT o := by
  apply ByteArray.ext
  apply Array.toList_inj.1
  rw [ByteArray.data_extract, Array.toList_extract]
  show ((c :: o).reverse.extract 0 o.length) = o.reverse
  rw [List.reverse_cons, List.extract_eq_take_drop, List.drop_zero, Nat.sub_zero, show o.length = o.reverse.length from List.length_reverse.symm, List.take_left]
theorem opT_empty (o : List UInt8) : (opT o).data.toList.isEmpty = o.isEmpty := by
  rw [opT_list]
  cases o with
  | nil => rfl
  | cons c l => rw [List.reverse_cons]; cases l.reverse <;> rfl
/-- State of the document's own side. -/
theorem said_state (x : Th) : staH x = if x.1.isSome then 0 else if x.2.1 || !x.2.2.1.isEmpty then 1 else 2 := by
  unfold staH
  cases x.1 <;> rfl
end Go.Proofs.Ytbojbkpplejdmaa
namespace Go.Proofs.Ytbojbkpplejdmaa

theorem toList_size (a : ByteArray) : a.toList.length = a.size := by
  rw [Lib.toList_data]
  exact (Lib.size_eq a).symm
theorem extract_at {s : ByteArray} {a b i : Nat} (h : i < (s.extract a b).size) : (s.extract a b)[i]! = s[a + i]! := by
  have h2 : a + i < s.size := by simp at h; omega
  rw [getElem!_pos _ i h, getElem!_pos s _ h2]
  exact ByteArray.getElem_extract h
theorem extract_all (s : ByteArray) : s.extract 0 s.size = s := by simp
theorem scan_at {p : UInt8 → Bool} {s : ByteArray} {i : Nat} (hi : i ≤ s.size) (h : scan p s i < s.size) : p s[scan p s i] = false := by
  induction hn : s.size - i generalizing i with
  | zero =>
    have : i = s.size := by omega
    have := scan_ge p s i
    omega
  | succ n ih =>
    have hi2 : i < s.size := by omega
    cases hp : p s[i] with
    | true =>
      have e := scan_step hi2 hp
      have h' : scan p s (i + 1) < s.size := by omega
      have := ih (by omega) h' (by omega)
      simp only [e] at this
      exact this
    | false =>
      have e := scan_stop hi2 hp
      simp only [e]
      exact hp

end Go.Proofs.Ytbojbkpplejdmaa
