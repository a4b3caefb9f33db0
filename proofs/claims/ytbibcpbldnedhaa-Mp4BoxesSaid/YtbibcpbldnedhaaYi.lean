/-
  What the document's Box of layer 16 answers. Condition: a box's name and contents are short.
-/
import Derived.Test.YtbibcpbldnedhaaYh
namespace Go.Proofs.Ytbibcpbldnedhaa
open Go.RowKit

theorem four_back (w : World) (a b : UInt8) :
    (convert 46 9 (.slice (some ⟨w.heap.size, 0, none⟩) 4 4)).run Try.prog (w.alloc (.cells #[.int .u8 0, .int .u8 0, .int .u8 (a.toNat : Int), .int .u8 (b.toNat : Int)] 5)) = .ok (.string ⟨#[0, 0, a, b]⟩) (w.alloc (.cells #[.int .u8 0, .int .u8 0, .int .u8 (a.toNat : Int), .int .u8 (b.toNat : Int)] 5)) := by
  refine Lib.run_convert_whole (P := Try.prog) _ 46 5 9 Try.underlying46 Try.underlying5 Try.underlying9 w.heap.size 0 ⟨#[0, 0, a, b]⟩ (fun i hi => ?_) 4
  have h := new_block w (.cells #[.int .u8 0, .int .u8 0, .int .u8 (a.toNat : Int), .int .u8 (b.toNat : Int)] 5)
  rw [Joins.cell_of_block h, Nat.zero_add]
  have hi' : i < 4 := hi
  match i, hi' with
  | 0, _ => rfl
  | 1, _ => rfl
  | 2, _ => rfl
  | 3, _ => rfl
  | n + 4, h => exact absurd h (by omega)

set_option maxHeartbeats 1000000 in
theorem rbox16_any (x y : ByteArray) (w : World) (hx : x.size ≤ 60) (hy : y.size ≤ 60) :
    Calls Try.prog 18 #[.string x, .string y] w fun e w' => e = .returned (.string (boxS x y)) ∧ Below w.heap.size w w' := by
  have HM := Lib.hid (show boxS x y = ⟨#[0, 0, UInt8.ofNat ((8 + y.size) / 256), UInt8.ofNat (8 + y.size)]⟩ ++ x ++ y from rfl)
  obtain ⟨a, ha⟩ : ∃ a, a = UInt8.ofNat ((8 + y.size) / 256) := ⟨_, rfl⟩
  obtain ⟨b, hb⟩ : ∃ b, b = UInt8.ofNat (8 + y.size) := ⟨_, rfl⟩
  rw [← ha, ← hb] at HM
  have ea : (a.toNat : Int) = (8 + (y.size : Int)) / 256 := by rw [ha, UInt8.toNat_ofNat']; omega
  have eb : (b.toNat : Int) = 8 + (y.size : Int) := by rw [hb, UInt8.toNat_ofNat']; omega
  have HK := four_back w a b
  rw [ea, eb] at HK
  have hz : (⟨#[0, 0, a, b]⟩ : ByteArray).size = 4 := rfl
  clear ha hb ea eb
  generalize (⟨#[0, 0, a, b]⟩ : ByteArray) = H at *
  go_enter Try.func18, Try.ntmps18
  go_wp2
  go_ret
  exact ⟨by rw [HM.out]; rfl, (Below.refl _ _).alloc (Nat.le_refl _) _⟩

end Go.Proofs.Ytbibcpbldnedhaa
