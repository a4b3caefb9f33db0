/-
  What Member of the document's own answer of layer 15. Condition: the texts are short.
-/
import Derived.Test.YtcoblepgehjamaaWb
import Derived.Test.YtcoblepgehjamaaId
import Derived.WalkKit
import Derived.Lib.SlBytesConst
import Derived.Lib.SlBytesRow
import Derived.Lib.SmallJoins
namespace Go.Proofs.Ytcoblepgehjamaa
open Go.RowKit

theorem new_block (w : World) (o : Obj) : (w.alloc o).heap[w.heap.size]? = some o := by
  show (w.heap.push o)[w.heap.size]? = some o
  exact Array.getElem?_push_size
theorem head_back {W : World} {g : Nat} {fr : Nat × Nat} (a b c d : UInt8) (h : W.heap[g]? = some (.cells #[.int .u8 80, .int .u8 75, .int .u8 3, .int .u8 4, .int .u8 0, .int .u8 0, .int .u8 0, .int .u8 0, .int .u8 0, .int .u8 0, .int .u8 0, .int .u8 0, .int .u8 0, .int .u8 0, .int .u8 0, .int .u8 0, .int .u8 0, .int .u8 0, .int .u8 0, .int .u8 0, .int .u8 0, .int .u8 0, .int .u8 0, .int .u8 0, .int .u8 0, .int .u8 0, .int .u8 0, .int .u8 0, .int .u8 0, .int .u8 0] 5 fr)) :
    (convert 46 9 (.slice (some ⟨g, 0, none⟩) 30 30)).run Try.prog ((((W.setCell ⟨g, 18, none⟩ (.int .u8 (a.toNat : Int))).setCell ⟨g, 19, none⟩ (.int .u8 (b.toNat : Int))).setCell ⟨g, 26, none⟩ (.int .u8 (c.toNat : Int))).setCell ⟨g, 28, none⟩ (.int .u8 (d.toNat : Int))) = .ok (.string (hedS a b c d)) ((((W.setCell ⟨g, 18, none⟩ (.int .u8 (a.toNat : Int))).setCell ⟨g, 19, none⟩ (.int .u8 (b.toNat : Int))).setCell ⟨g, 26, none⟩ (.int .u8 (c.toNat : Int))).setCell ⟨g, 28, none⟩ (.int .u8 (d.toNat : Int))) := by
  have h1 := Joins.block_setCell (Joins.block_setCell (Joins.block_setCell (Joins.block_setCell h (i := 18) (.int .u8 (a.toNat : Int))) (i := 19) (.int .u8 (b.toNat : Int))) (i := 26) (.int .u8 (c.toNat : Int))) (i := 28) (.int .u8 (d.toNat : Int))
  have h2 : ((((W.setCell ⟨g, 18, none⟩ (.int .u8 (a.toNat : Int))).setCell ⟨g, 19, none⟩ (.int .u8 (b.toNat : Int))).setCell ⟨g, 26, none⟩ (.int .u8 (c.toNat : Int))).setCell ⟨g, 28, none⟩ (.int .u8 (d.toNat : Int))).heap[g]? = some (.cells #[.int .u8 80, .int .u8 75, .int .u8 3, .int .u8 4, .int .u8 0, .int .u8 0, .int .u8 0, .int .u8 0, .int .u8 0, .int .u8 0, .int .u8 0, .int .u8 0, .int .u8 0, .int .u8 0, .int .u8 0, .int .u8 0, .int .u8 0, .int .u8 0, .int .u8 (a.toNat : Int), .int .u8 (b.toNat : Int), .int .u8 0, .int .u8 0, .int .u8 0, .int .u8 0, .int .u8 0, .int .u8 0, .int .u8 (c.toNat : Int), .int .u8 0, .int .u8 (d.toNat : Int), .int .u8 0] 5 fr) := h1
  refine Lib.run_convert_whole (P := Try.prog) _ 46 5 9 Try.underlying46 Try.underlying5 Try.underlying9 g 0 (hedS a b c d) (fun i hi => ?_) 30
  rw [Joins.cell_of_block h2, Nat.zero_add]
  have hi' : i < 30 := hi
  match i, hi' with
  | 0, _ => rfl
  | 1, _ => rfl
  | 2, _ => rfl
  | 3, _ => rfl
  | 4, _ => rfl
  | 5, _ => rfl
  | 6, _ => rfl
  | 7, _ => rfl
  | 8, _ => rfl
  | 9, _ => rfl
  | 10, _ => rfl
  | 11, _ => rfl
  | 12, _ => rfl
  | 13, _ => rfl
  | 14, _ => rfl
  | 15, _ => rfl
  | 16, _ => rfl
  | 17, _ => rfl
  | 18, _ => rfl
  | 19, _ => rfl
  | 20, _ => rfl
  | 21, _ => rfl
  | 22, _ => rfl
  | 23, _ => rfl
  | 24, _ => rfl
  | 25, _ => rfl
  | 26, _ => rfl
  | 27, _ => rfl
  | 28, _ => rfl
  | 29, _ => rfl
  | n + 30, h => exact absurd h (by omega)

set_option maxHeartbeats 2000000 in
set_option maxRecDepth 100000 in
theorem rMember_any (x y z : ByteArray) (w : World) (hx : x.size ≤ 40) (hy : y.size ≤ 40) (hz : z.size ≤ 300) :
    Calls Try.prog 20 #[.string x, .string y, .string z] w fun e w' => e = .returned (.string (memS x y z)) ∧ Below w.heap.size w w' := by
  have HM := Lib.hid (show memS x y z = hedS (UInt8.ofNat z.size) (UInt8.ofNat (z.size / 256)) (UInt8.ofNat x.size) (UInt8.ofNat y.size) ++ x ++ y ++ z from rfl)
  obtain ⟨a, ha⟩ : ∃ a, a = UInt8.ofNat z.size := ⟨_, rfl⟩
  obtain ⟨b, hb⟩ : ∃ b, b = UInt8.ofNat (z.size / 256) := ⟨_, rfl⟩
  obtain ⟨c, hc⟩ : ∃ c, c = UInt8.ofNat x.size := ⟨_, rfl⟩
  obtain ⟨d, hd⟩ : ∃ d, d = UInt8.ofNat y.size := ⟨_, rfl⟩
  rw [← ha, ← hb, ← hc, ← hd] at HM
  have ea : (a.toNat : Int) = (z.size : Int) % 256 := by rw [ha, UInt8.toNat_ofNat']; omega
  have eb : (b.toNat : Int) = (z.size : Int) / 256 := by rw [hb, UInt8.toNat_ofNat']; omega
  have ec : (c.toNat : Int) = (x.size : Int) := by rw [hc, UInt8.toNat_ofNat']; omega
  have ed : (d.toNat : Int) = (y.size : Int) := by rw [hd, UInt8.toNat_ofNat']; omega
  clear ha hb hc hd
  have HC := Lib.hid (Lib.run_convert_bytes_const (P := Try.prog) w 46 5 #[.int .u8 80, .int .u8 75, .int .u8 3, .int .u8 4, .int .u8 0, .int .u8 0, .int .u8 0, .int .u8 0, .int .u8 0, .int .u8 0, .int .u8 0, .int .u8 0, .int .u8 0, .int .u8 0, .int .u8 0, .int .u8 0, .int .u8 0, .int .u8 0, .int .u8 0, .int .u8 0, .int .u8 0, .int .u8 0, .int .u8 0, .int .u8 0, .int .u8 0, .int .u8 0, .int .u8 0, .int .u8 0, .int .u8 0, .int .u8 0] 30 30 Try.underlying46 Try.underlying5)
  obtain ⟨W1, hW1⟩ : ∃ W1, W1 = w.alloc (.cells #[.int .u8 80, .int .u8 75, .int .u8 3, .int .u8 4, .int .u8 0, .int .u8 0, .int .u8 0, .int .u8 0, .int .u8 0, .int .u8 0, .int .u8 0, .int .u8 0, .int .u8 0, .int .u8 0, .int .u8 0, .int .u8 0, .int .u8 0, .int .u8 0, .int .u8 0, .int .u8 0, .int .u8 0, .int .u8 0, .int .u8 0, .int .u8 0, .int .u8 0, .int .u8 0, .int .u8 0, .int .u8 0, .int .u8 0, .int .u8 0] 5 (30, 31)) := ⟨_, rfl⟩
  have HB := Lib.hid (show Below w.heap.size w W1 from by rw [hW1]; exact (Below.refl _ _).alloc (Nat.le_refl _) _)
  have hblk : W1.heap[w.heap.size]? = some (.cells #[.int .u8 80, .int .u8 75, .int .u8 3, .int .u8 4, .int .u8 0, .int .u8 0, .int .u8 0, .int .u8 0, .int .u8 0, .int .u8 0, .int .u8 0, .int .u8 0, .int .u8 0, .int .u8 0, .int .u8 0, .int .u8 0, .int .u8 0, .int .u8 0, .int .u8 0, .int .u8 0, .int .u8 0, .int .u8 0, .int .u8 0, .int .u8 0, .int .u8 0, .int .u8 0, .int .u8 0, .int .u8 0, .int .u8 0, .int .u8 0] 5 (30, 31)) := by rw [hW1]; exact new_block w _
  have HK := Lib.hid (head_back a b c d hblk)
  rw [ea, eb, ec, ed] at HK
  have HCW : Hid ((convert 46 46 (.slice (some ⟨w.heap.size, 0, none⟩) 30 30)).run Try.prog (w.alloc (.cells #[.int .u8 80, .int .u8 75, .int .u8 3, .int .u8 4, .int .u8 0, .int .u8 0, .int .u8 0, .int .u8 0, .int .u8 0, .int .u8 0, .int .u8 0, .int .u8 0, .int .u8 0, .int .u8 0, .int .u8 0, .int .u8 0, .int .u8 0, .int .u8 0, .int .u8 0, .int .u8 0, .int .u8 0, .int .u8 0, .int .u8 0, .int .u8 0, .int .u8 0, .int .u8 0, .int .u8 0, .int .u8 0, .int .u8 0, .int .u8 0] 5)) = .ok (.slice (some ⟨w.heap.size, 0, none⟩) 30 30) W1) := by rw [hW1]; exact HC.out
  have hg18 : W1.cell? ⟨w.heap.size, 18, none⟩ = some (.int .u8 0) := by rw [Joins.cell_of_block hblk]; rfl
  have hg19 : W1.cell? ⟨w.heap.size, 19, none⟩ = some (.int .u8 0) := by rw [Joins.cell_of_block hblk]; rfl
  have hg26 : W1.cell? ⟨w.heap.size, 26, none⟩ = some (.int .u8 0) := by rw [Joins.cell_of_block hblk]; rfl
  have hg28 : W1.cell? ⟨w.heap.size, 28, none⟩ = some (.int .u8 0) := by rw [Joins.cell_of_block hblk]; rfl
  have hf18 : W1.frozen? ⟨w.heap.size, 18, none⟩ = false := by simp [World.frozen?, hblk]
  have hf19 : W1.frozen? ⟨w.heap.size, 19, none⟩ = false := by simp [World.frozen?, hblk]
  have hf26 : W1.frozen? ⟨w.heap.size, 26, none⟩ = false := by simp [World.frozen?, hblk]
  have hf28 : W1.frozen? ⟨w.heap.size, 28, none⟩ = false := by simp [World.frozen?, hblk]
  have hsz : W1.heap.size = w.heap.size + 1 := by rw [hW1]; simp
  have HSZ := Lib.hid hsz
  have hs30 := hedS_size a b c d
  generalize hedS a b c d = H at *
  clear HC hW1 hblk ea eb ec ed hsz
  go_enter Try.func20, Try.ntmps20
  go_wp2
  rw [HCW.out]
  have hback := HK.out
  go_wp2
  go_ret
  exact ⟨by rw [HM.out]; rfl, (((HB.out.setCell (by simp) _).setCell (by simp) _).setCell (by simp) _).setCell (by simp) _⟩

end Go.Proofs.Ytcoblepgehjamaa
