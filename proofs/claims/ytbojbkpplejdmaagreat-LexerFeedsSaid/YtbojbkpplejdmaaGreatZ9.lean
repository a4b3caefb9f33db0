/-
  Plain facts on the number whose digits a text is. No condition.
  Plain facts on layer 24's texts: where a run of bytes ends, the unit, what is asked for (askO). No condition.
  Plain facts on layer 24's texts: what is written is read again. No condition.
-/
import Derived.Test.YtbojbkpplejdmaaGreatZ4
import Derived.Test.YtbojbkpplejdmaaGreatZ1
import Derived.Test.YtbojbkpplejdmaaGreatZ5
import Derived.Lib.Hide
import Derived.Test.YtbojbkpplejdmaaGreatZ6
import Derived.Test.YtbojbkpplejdmaaGreatRows
import Derived.WalkKit
import Derived.WalkSpells
import Derived.WalkLawsBesides
import Derived.Defers
import Derived.Recover
import Derived.RegionTactic
import Derived.BigRegion
import Derived.Deep.QuietTactic
import Derived.BigQuiet
import Derived.Deep.RegionHeld2
import Derived.IntWalk
namespace Go.Proofs.YtbojbkpplejdmaaGreat

theorem scan_all {p : UInt8 → Bool} {s : ByteArray} : ∀ (n i j : Nat), j = i + n → j < scan p s i → (hj : j < s.size) → p s[j] = true
  | 0, i, j, e, h, hj => by
    obtain rfl : j = i := by omega
    cases hp : p s[j]
    · rw [scan_stop hj hp] at h; omega
    · rfl
  | n + 1, i, j, e, h, hj => by
    have hi : i < s.size := by omega
    cases hp : p s[i]
    · rw [scan_stop hi hp] at h; omega
    · exact scan_all n (i + 1) j (by omega) (by rw [scan_step hi hp]; exact h) hj

end Go.Proofs.YtbojbkpplejdmaaGreat
namespace Go.Proofs.YtbojbkpplejdmaaGreat

theorem ext_at {s : ByteArray} {a b i : Nat} (hb : b ≤ s.size) (h : a + i < b) : (s.extract a b)[i]'(by simp; omega) = s[a + i]'(by omega) := ByteArray.getElem_extract (by simp; omega)
/-- Whether a sign stands at a place. -/
def atB (s : ByteArray) (k : Nat) (c : UInt8) : Bool := decide (k < s.size) && s[k]! == c
theorem atB_at {s : ByteArray} {k : Nat} {c : UInt8} (h : k < s.size) : atB s k c = (s[k] == c) := by
  unfold atB
  rw [getElem!_pos s k h, decide_eq_true h, Bool.true_and]
theorem atB_out {s : ByteArray} {k : Nat} {c : UInt8} (h : s.size ≤ k) : atB s k c = false := by
  unfold atB
  rw [decide_eq_false (by omega), Bool.false_and]
end Go.Proofs.YtbojbkpplejdmaaGreat
namespace Go.Proofs.YtbojbkpplejdmaaGreat

theorem scan_of {p : UInt8 → Bool} {s : ByteArray} {l1 l2 l3 : List UInt8} (hl : s.data.toList = l1 ++ (l2 ++ l3)) (h2 : ∀ b ∈ l2, p b = true) (h3 : ∀ b q, l3 = b :: q → p b = false) : scan p s l1.length = l1.length + l2.length := by
  unfold scan
  rw [hl, List.drop_left]
  congr 2
  have h4 : l3.takeWhile p = [] := by
    cases l3 with
    | nil => rfl
    | cons b q => rw [List.takeWhile_cons, if_neg (by rw [h3 b q rfl]; decide)]
  rw [List.takeWhile_append_of_pos h2, h4, List.append_nil]
theorem atB_of {s : ByteArray} {l1 l3 : List UInt8} {b : UInt8} (hl : s.data.toList = l1 ++ b :: l3) : atB s l1.length b = true := by
  have hz : s.size = l1.length + (l3.length + 1) := by
    have := congrArg List.length hl
    simp at this
    exact this
  have h : l1.length < s.size := by omega
  rw [atB_at h, beq_iff_eq]
  have e : s[l1.length] = s.data.toList[l1.length]'(by simpa using h) := rfl
  rw [e]
  have : ∀ (l : List UInt8) (hh : l1.length < l.length), l = l1 ++ b :: l3 → l[l1.length] = b := fun l hh e => by subst e; simp
  exact this _ _ hl
theorem atB_no {s : ByteArray} {l1 l3 : List UInt8} {b c : UInt8} (hl : s.data.toList = l1 ++ b :: l3) (hne : b ≠ c) : atB s l1.length c = false := by
  have hz : s.size = l1.length + (l3.length + 1) := by
    have := congrArg List.length hl
    simp at this
    exact this
  have h : l1.length < s.size := by omega
  have h2 := atB_of hl
  rw [atB_at h, beq_iff_eq] at h2
  rw [atB_at h, h2, beq_eq_false_iff_ne]
  exact hne
theorem ext_of {s : ByteArray} {l1 l2 l3 : List UInt8} (hl : s.data.toList = l1 ++ (l2 ++ l3)) : s.extract l1.length (l1.length + l2.length) = ⟨l2.toArray⟩ := by
  apply ByteArray.ext
  apply Array.toList_inj.1
  rw [ByteArray.data_extract, Array.toList_extract, hl]
  simp [List.extract]
theorem size_of {s : ByteArray} {l : List UInt8} (hl : s.data.toList = l) : s.size = l.length := by
  have := congrArg List.length hl
  simpa using this
theorem app_list (a b : ByteArray) : (a ++ b).data.toList = a.data.toList ++ b.data.toList := by simp

theorem one_head {c : UInt8} {q : List UInt8} {p : UInt8 → Bool} (hc : p c = false) : ∀ b q', c :: q = b :: q' → p b = false := fun b q' e => by cases e; exact hc
theorem none_mem {p : UInt8 → Bool} : ∀ b ∈ ([] : List UInt8), p b = true := fun b h => by cases h
theorem nil_head {p : UInt8 → Bool} : ∀ b q', ([] : List UInt8) = b :: q' → p b = false := fun b q' e => by cases e

end Go.Proofs.YtbojbkpplejdmaaGreat
