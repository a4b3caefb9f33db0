/-
  What Good, Essence, Param and Same of package mime answer of types. Condition: texts are as long as a mebibyte, and parameters as many.
-/
import Derived.Test.YtljflkaknhekcaaMc
import Derived.Test.YtljflkaknhekcaaMd
import Derived.BigQuiet
namespace Go.Proofs.Ytljflkaknhekcaa
open Go.RowKit Go.Maps

theorem essL_eq (t u : ByteArray) : (t ++ ⟨#[47]⟩) ++ u = (⟨(essL t u).toArray⟩ : ByteArray) := by
  apply ByteArray.ext
  rw [ByteArray.data_append, ByteArray.data_append]
  simp [essL]

set_option maxHeartbeats 1000000 in
theorem essence_any (t u : ByteArray) (A : Option Addr) (n c : Nat) (w : World) (ht : t.size ≤ 1048576) (hu : u.size ≤ 1048576) :
    Calls Try.prog 37 #[mimV t u A n c] w fun e w' => e = .returned (.string ⟨(essL t u).toArray⟩) ∧ Below w.heap.size w w' := by
  obtain ⟨w0, hw0⟩ : ∃ w0, w0 = w.alloc (.cells #[.string t, .string u, .slice A n c] 24) := ⟨_, rfl⟩
  have HB0 := Lib.hid (show Below w.heap.size w w0 from by rw [hw0]; exact (Below.refl w.heap.size w).alloc (Nat.le_refl _) _)
  have HP0 := Lib.hid (show Blk w0 w.heap.size 24 #[.string t, .string u, .slice A n c] from by rw [hw0]; exact Blk.new _ _ _)
  have c0 := HP0.out.cell 0
  have c1 := HP0.out.cell 1
  rw [← essL_eq]
  go_enter Try.func37, Try.ntmps37
  go_wp2_with fail
  rw [← hw0]
  clear hw0
  go_wp2
  go_ret
  exact ⟨rfl, HB0.out⟩

end Go.Proofs.Ytljflkaknhekcaa

