/-
  What Table of package image answers: the patterns of pictures, in a block of their own. No condition.
-/
import Derived.Test.YtilheoilncjdnaaIb
namespace Go.Proofs.Ytilheoilncjdnaa
open Go.RowKit

theorem imgE0 (W : World) : Calls Try.prog 26 #[.string ⟨#[0, 0, 1, 0]⟩, .string ⟨#[105, 109, 97, 103, 101, 47, 120, 45, 105, 99, 111, 110]⟩] W fun e w' => e = .returned (patV ⟨#[0, 0, 1, 0]⟩ ⟨#[255, 255, 255, 255]⟩ ⟨#[]⟩ ⟨#[105, 109, 97, 103, 101, 47, 120, 45, 105, 99, 111, 110]⟩) ∧ Below W.heap.size W w' := by
  have := exact_any ⟨#[0, 0, 1, 0]⟩ ⟨#[105, 109, 97, 103, 101, 47, 120, 45, 105, 99, 111, 110]⟩ W (by decide)
  rwa [show ffS.extract 0 (⟨#[0, 0, 1, 0]⟩ : ByteArray).size = ⟨#[255, 255, 255, 255]⟩ from by kernel_rfl] at this
theorem imgE1 (W : World) : Calls Try.prog 26 #[.string ⟨#[0, 0, 2, 0]⟩, .string ⟨#[105, 109, 97, 103, 101, 47, 120, 45, 105, 99, 111, 110]⟩] W fun e w' => e = .returned (patV ⟨#[0, 0, 2, 0]⟩ ⟨#[255, 255, 255, 255]⟩ ⟨#[]⟩ ⟨#[105, 109, 97, 103, 101, 47, 120, 45, 105, 99, 111, 110]⟩) ∧ Below W.heap.size W w' := by
  have := exact_any ⟨#[0, 0, 2, 0]⟩ ⟨#[105, 109, 97, 103, 101, 47, 120, 45, 105, 99, 111, 110]⟩ W (by decide)
  rwa [show ffS.extract 0 (⟨#[0, 0, 2, 0]⟩ : ByteArray).size = ⟨#[255, 255, 255, 255]⟩ from by kernel_rfl] at this
theorem imgE2 (W : World) : Calls Try.prog 26 #[.string ⟨#[66, 77]⟩, .string ⟨#[105, 109, 97, 103, 101, 47, 98, 109, 112]⟩] W fun e w' => e = .returned (patV ⟨#[66, 77]⟩ ⟨#[255, 255]⟩ ⟨#[]⟩ ⟨#[105, 109, 97, 103, 101, 47, 98, 109, 112]⟩) ∧ Below W.heap.size W w' := by
  have := exact_any ⟨#[66, 77]⟩ ⟨#[105, 109, 97, 103, 101, 47, 98, 109, 112]⟩ W (by decide)
  rwa [show ffS.extract 0 (⟨#[66, 77]⟩ : ByteArray).size = ⟨#[255, 255]⟩ from by kernel_rfl] at this
theorem imgE3 (W : World) : Calls Try.prog 26 #[.string ⟨#[71, 73, 70, 56, 55, 97]⟩, .string ⟨#[105, 109, 97, 103, 101, 47, 103, 105, 102]⟩] W fun e w' => e = .returned (patV ⟨#[71, 73, 70, 56, 55, 97]⟩ ⟨#[255, 255, 255, 255, 255, 255]⟩ ⟨#[]⟩ ⟨#[105, 109, 97, 103, 101, 47, 103, 105, 102]⟩) ∧ Below W.heap.size W w' := by
  have := exact_any ⟨#[71, 73, 70, 56, 55, 97]⟩ ⟨#[105, 109, 97, 103, 101, 47, 103, 105, 102]⟩ W (by decide)
  rwa [show ffS.extract 0 (⟨#[71, 73, 70, 56, 55, 97]⟩ : ByteArray).size = ⟨#[255, 255, 255, 255, 255, 255]⟩ from by kernel_rfl] at this
theorem imgE4 (W : World) : Calls Try.prog 26 #[.string ⟨#[71, 73, 70, 56, 57, 97]⟩, .string ⟨#[105, 109, 97, 103, 101, 47, 103, 105, 102]⟩] W fun e w' => e = .returned (patV ⟨#[71, 73, 70, 56, 57, 97]⟩ ⟨#[255, 255, 255, 255, 255, 255]⟩ ⟨#[]⟩ ⟨#[105, 109, 97, 103, 101, 47, 103, 105, 102]⟩) ∧ Below W.heap.size W w' := by
  have := exact_any ⟨#[71, 73, 70, 56, 57, 97]⟩ ⟨#[105, 109, 97, 103, 101, 47, 103, 105, 102]⟩ W (by decide)
  rwa [show ffS.extract 0 (⟨#[71, 73, 70, 56, 57, 97]⟩ : ByteArray).size = ⟨#[255, 255, 255, 255, 255, 255]⟩ from by kernel_rfl] at this
theorem imgE6 (W : World) : Calls Try.prog 26 #[.string ⟨#[137, 80, 78, 71, 13, 10, 26, 10]⟩, .string ⟨#[105, 109, 97, 103, 101, 47, 112, 110, 103]⟩] W fun e w' => e = .returned (patV ⟨#[137, 80, 78, 71, 13, 10, 26, 10]⟩ ⟨#[255, 255, 255, 255, 255, 255, 255, 255]⟩ ⟨#[]⟩ ⟨#[105, 109, 97, 103, 101, 47, 112, 110, 103]⟩) ∧ Below W.heap.size W w' := by
  have := exact_any ⟨#[137, 80, 78, 71, 13, 10, 26, 10]⟩ ⟨#[105, 109, 97, 103, 101, 47, 112, 110, 103]⟩ W (by decide)
  rwa [show ffS.extract 0 (⟨#[137, 80, 78, 71, 13, 10, 26, 10]⟩ : ByteArray).size = ⟨#[255, 255, 255, 255, 255, 255, 255, 255]⟩ from by kernel_rfl] at this
theorem imgE7 (W : World) : Calls Try.prog 26 #[.string ⟨#[255, 216, 255]⟩, .string ⟨#[105, 109, 97, 103, 101, 47, 106, 112, 101, 103]⟩] W fun e w' => e = .returned (patV ⟨#[255, 216, 255]⟩ ⟨#[255, 255, 255]⟩ ⟨#[]⟩ ⟨#[105, 109, 97, 103, 101, 47, 106, 112, 101, 103]⟩) ∧ Below W.heap.size W w' := by
  have := exact_any ⟨#[255, 216, 255]⟩ ⟨#[105, 109, 97, 103, 101, 47, 106, 112, 101, 103]⟩ W (by decide)
  rwa [show ffS.extract 0 (⟨#[255, 216, 255]⟩ : ByteArray).size = ⟨#[255, 255, 255]⟩ from by kernel_rfl] at this
/-- The cells of a table of eight patterns. -/
def cells8 (ps : Nat → Pat) : Array Value := #[.string (ps 0).b, .string (ps 0).m, .string (ps 0).k, .string (ps 0).t, .string (ps 1).b, .string (ps 1).m, .string (ps 1).k, .string (ps 1).t, .string (ps 2).b, .string (ps 2).m, .string (ps 2).k, .string (ps 2).t, .string (ps 3).b, .string (ps 3).m, .string (ps 3).k, .string (ps 3).t, .string (ps 4).b, .string (ps 4).m, .string (ps 4).k, .string (ps 4).t, .string (ps 5).b, .string (ps 5).m, .string (ps 5).k, .string (ps 5).t, .string (ps 6).b, .string (ps 6).m, .string (ps 6).k, .string (ps 6).t, .string (ps 7).b, .string (ps 7).m, .string (ps 7).k, .string (ps 7).t]
theorem pats8 {W : World} {g : Nat} {ps : Nat → Pat} (h : Blk W g 35 (cells8 ps)) : PatsIn W g ps 8 :=
  ⟨h.lt, fun i hi => match i, hi with
    | 0, _ => ⟨h.cell 0, h.cell 1, h.cell 2, h.cell 3⟩
    | 1, _ => ⟨h.cell 4, h.cell 5, h.cell 6, h.cell 7⟩
    | 2, _ => ⟨h.cell 8, h.cell 9, h.cell 10, h.cell 11⟩
    | 3, _ => ⟨h.cell 12, h.cell 13, h.cell 14, h.cell 15⟩
    | 4, _ => ⟨h.cell 16, h.cell 17, h.cell 18, h.cell 19⟩
    | 5, _ => ⟨h.cell 20, h.cell 21, h.cell 22, h.cell 23⟩
    | 6, _ => ⟨h.cell 24, h.cell 25, h.cell 26, h.cell 27⟩
    | 7, _ => ⟨h.cell 28, h.cell 29, h.cell 30, h.cell 31⟩
    | n + 8, h => absurd h (by omega)⟩

set_option maxHeartbeats 2000000 in
set_option maxRecDepth 100000 in
theorem imgTable_any (w : World) :
    Calls Try.prog 15 #[] w fun e w' => ∃ g, e = .returned (.slice (some ⟨g, 0, none⟩) 8 8) ∧ w.heap.size ≤ g ∧ PatsIn w' g imgP 8 ∧ Below w.heap.size w w' := by
  have HB := Lib.hid (Below.refl w.heap.size w)
  go_enter Try.func15, Try.ntmps15
  go_wp2_with (first
    | (go_at_call 26; (first | with_reducible refine (imgE0 _).mono ?_ | with_reducible refine (imgE1 _).mono ?_ | with_reducible refine (imgE2 _).mono ?_ | with_reducible refine (imgE3 _).mono ?_ | with_reducible refine (imgE4 _).mono ?_ | with_reducible refine (imgE6 _).mono ?_ | with_reducible refine (imgE7 _).mono ?_); rintro e w1 ⟨rfl, b1⟩; have HB := Lib.hid (HB.out.trans (b1.mono HB.out.size)); clear b1)
    | (go_at_call 27; (with_reducible refine (webp_any _).mono ?_); rintro e w1 ⟨rfl, b1⟩; have HB := Lib.hid (HB.out.trans (b1.mono HB.out.size)); clear b1))
  go_ret
  exact ⟨w1.heap.size, rfl, HB.out.size, pats8 (Blk.new w1 _ (cells8 imgP)), HB.out.alloc HB.out.size _⟩

end Go.Proofs.Ytilheoilncjdnaa
