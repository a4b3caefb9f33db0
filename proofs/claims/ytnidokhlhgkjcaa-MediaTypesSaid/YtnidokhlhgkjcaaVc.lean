/-
  What Table of the document's own answer of layer 14. No condition.
-/
import Derived.Test.YtnidokhlhgkjcaaVb
import Derived.Test.YtnidokhlhgkjcaaId
namespace Go.Proofs.Ytnidokhlhgkjcaa
open Go.RowKit

theorem medX0 (W : World) : Calls Try.prog 24 #[.string ⟨#[70, 79, 82, 77, 0, 0, 0, 0, 65, 73, 70, 70]⟩, .string ⟨#[97, 117, 100, 105, 111, 47, 97, 105, 102, 102]⟩, .int .i64 4, .int .i64 8] W fun e w' => e = .returned (patV ⟨#[70, 79, 82, 77, 0, 0, 0, 0, 65, 73, 70, 70]⟩ ⟨#[255, 255, 255, 255, 0, 0, 0, 0, 255, 255, 255, 255]⟩ ⟨#[]⟩ ⟨#[97, 117, 100, 105, 111, 47, 97, 105, 102, 102]⟩) ∧ Below W.heap.size W w' := by
  have := rExact_any ⟨#[70, 79, 82, 77, 0, 0, 0, 0, 65, 73, 70, 70]⟩ ⟨#[97, 117, 100, 105, 111, 47, 97, 105, 102, 102]⟩ 4 8 W (by decide)
  rwa [show exM (⟨#[70, 79, 82, 77, 0, 0, 0, 0, 65, 73, 70, 70]⟩ : ByteArray).size 4 8 = ⟨#[255, 255, 255, 255, 0, 0, 0, 0, 255, 255, 255, 255]⟩ from by kernel_rfl] at this
theorem medX1 (W : World) : Calls Try.prog 24 #[.string ⟨#[73, 68, 51]⟩, .string ⟨#[97, 117, 100, 105, 111, 47, 109, 112, 101, 103]⟩, .int .i64 0, .int .i64 0] W fun e w' => e = .returned (patV ⟨#[73, 68, 51]⟩ ⟨#[255, 255, 255]⟩ ⟨#[]⟩ ⟨#[97, 117, 100, 105, 111, 47, 109, 112, 101, 103]⟩) ∧ Below W.heap.size W w' := by
  have := rExact_any ⟨#[73, 68, 51]⟩ ⟨#[97, 117, 100, 105, 111, 47, 109, 112, 101, 103]⟩ 0 0 W (by decide)
  rwa [show exM (⟨#[73, 68, 51]⟩ : ByteArray).size 0 0 = ⟨#[255, 255, 255]⟩ from by kernel_rfl] at this
theorem medX2 (W : World) : Calls Try.prog 24 #[.string ⟨#[79, 103, 103, 83, 0]⟩, .string ⟨#[97, 112, 112, 108, 105, 99, 97, 116, 105, 111, 110, 47, 111, 103, 103]⟩, .int .i64 0, .int .i64 0] W fun e w' => e = .returned (patV ⟨#[79, 103, 103, 83, 0]⟩ ⟨#[255, 255, 255, 255, 255]⟩ ⟨#[]⟩ ⟨#[97, 112, 112, 108, 105, 99, 97, 116, 105, 111, 110, 47, 111, 103, 103]⟩) ∧ Below W.heap.size W w' := by
  have := rExact_any ⟨#[79, 103, 103, 83, 0]⟩ ⟨#[97, 112, 112, 108, 105, 99, 97, 116, 105, 111, 110, 47, 111, 103, 103]⟩ 0 0 W (by decide)
  rwa [show exM (⟨#[79, 103, 103, 83, 0]⟩ : ByteArray).size 0 0 = ⟨#[255, 255, 255, 255, 255]⟩ from by kernel_rfl] at this
theorem medX3 (W : World) : Calls Try.prog 24 #[.string ⟨#[77, 84, 104, 100, 0, 0, 0, 6]⟩, .string ⟨#[97, 117, 100, 105, 111, 47, 109, 105, 100, 105]⟩, .int .i64 0, .int .i64 0] W fun e w' => e = .returned (patV ⟨#[77, 84, 104, 100, 0, 0, 0, 6]⟩ ⟨#[255, 255, 255, 255, 255, 255, 255, 255]⟩ ⟨#[]⟩ ⟨#[97, 117, 100, 105, 111, 47, 109, 105, 100, 105]⟩) ∧ Below W.heap.size W w' := by
  have := rExact_any ⟨#[77, 84, 104, 100, 0, 0, 0, 6]⟩ ⟨#[97, 117, 100, 105, 111, 47, 109, 105, 100, 105]⟩ 0 0 W (by decide)
  rwa [show exM (⟨#[77, 84, 104, 100, 0, 0, 0, 6]⟩ : ByteArray).size 0 0 = ⟨#[255, 255, 255, 255, 255, 255, 255, 255]⟩ from by kernel_rfl] at this
theorem medX4 (W : World) : Calls Try.prog 24 #[.string ⟨#[82, 73, 70, 70, 0, 0, 0, 0, 65, 86, 73, 32]⟩, .string ⟨#[118, 105, 100, 101, 111, 47, 97, 118, 105]⟩, .int .i64 4, .int .i64 8] W fun e w' => e = .returned (patV ⟨#[82, 73, 70, 70, 0, 0, 0, 0, 65, 86, 73, 32]⟩ ⟨#[255, 255, 255, 255, 0, 0, 0, 0, 255, 255, 255, 255]⟩ ⟨#[]⟩ ⟨#[118, 105, 100, 101, 111, 47, 97, 118, 105]⟩) ∧ Below W.heap.size W w' := by
  have := rExact_any ⟨#[82, 73, 70, 70, 0, 0, 0, 0, 65, 86, 73, 32]⟩ ⟨#[118, 105, 100, 101, 111, 47, 97, 118, 105]⟩ 4 8 W (by decide)
  rwa [show exM (⟨#[82, 73, 70, 70, 0, 0, 0, 0, 65, 86, 73, 32]⟩ : ByteArray).size 4 8 = ⟨#[255, 255, 255, 255, 0, 0, 0, 0, 255, 255, 255, 255]⟩ from by kernel_rfl] at this
theorem medX5 (W : World) : Calls Try.prog 24 #[.string ⟨#[82, 73, 70, 70, 0, 0, 0, 0, 87, 65, 86, 69]⟩, .string ⟨#[97, 117, 100, 105, 111, 47, 119, 97, 118, 101]⟩, .int .i64 4, .int .i64 8] W fun e w' => e = .returned (patV ⟨#[82, 73, 70, 70, 0, 0, 0, 0, 87, 65, 86, 69]⟩ ⟨#[255, 255, 255, 255, 0, 0, 0, 0, 255, 255, 255, 255]⟩ ⟨#[]⟩ ⟨#[97, 117, 100, 105, 111, 47, 119, 97, 118, 101]⟩) ∧ Below W.heap.size W w' := by
  have := rExact_any ⟨#[82, 73, 70, 70, 0, 0, 0, 0, 87, 65, 86, 69]⟩ ⟨#[97, 117, 100, 105, 111, 47, 119, 97, 118, 101]⟩ 4 8 W (by decide)
  rwa [show exM (⟨#[82, 73, 70, 70, 0, 0, 0, 0, 87, 65, 86, 69]⟩ : ByteArray).size 4 8 = ⟨#[255, 255, 255, 255, 0, 0, 0, 0, 255, 255, 255, 255]⟩ from by kernel_rfl] at this

set_option maxHeartbeats 2000000 in
set_option maxRecDepth 100000 in
theorem refTable14_any (w : World) :
    Calls Try.prog 9 #[] w fun e w' => ∃ g, e = .returned (.slice (some ⟨g, 0, none⟩) 6 6) ∧ w.heap.size ≤ g ∧ PatsIn w' g medP 6 ∧ Below w.heap.size w w' := by
  have HB := Lib.hid (Below.refl w.heap.size w)
  go_enter Try.func9, Try.ntmps9
  go_wp2_with (go_at_call 24; (first | with_reducible refine (medX0 _).mono ?_ | with_reducible refine (medX1 _).mono ?_ | with_reducible refine (medX2 _).mono ?_ | with_reducible refine (medX3 _).mono ?_ | with_reducible refine (medX4 _).mono ?_ | with_reducible refine (medX5 _).mono ?_); rintro e w1 ⟨rfl, b1⟩; have HB := Lib.hid (HB.out.trans (b1.mono HB.out.size)); clear b1)
  go_ret
  exact ⟨w1.heap.size, rfl, HB.out.size, pats6 (Blk.new w1 _ (cells6 medP)), HB.out.alloc HB.out.size _⟩

end Go.Proofs.Ytnidokhlhgkjcaa
