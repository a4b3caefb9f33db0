/-
  What Fonts and Archives of the document's own answer of layer 15. No condition.
-/
import Derived.Test.YtcoblepgehjamaaWa
import Derived.Test.YtcoblepgehjamaaVb
import Derived.Test.YtcoblepgehjamaaId
import Derived.LoopTactic
namespace Go.Proofs.Ytcoblepgehjamaa
open Go.RowKit

/-- k bytes 0. -/
def zerB (k : Nat) : ByteArray := ⟨(List.replicate k (0 : UInt8)).toArray⟩
theorem zerB_size (k : Nat) : (zerB k).size = k := by
  show ((List.replicate k (0 : UInt8)).toArray).size = k
  simp
theorem zerB_succ (k : Nat) : zerB k ++ ⟨#[0]⟩ = zerB (k + 1) := by
  apply ByteArray.ext
  rw [ByteArray.data_append]
  show (List.replicate k (0 : UInt8)).toArray ++ #[0] = (List.replicate (k + 1) (0 : UInt8)).toArray
  rw [List.replicate_succ', ← List.append_toArray]
theorem zerB_none : zerB 0 = ⟨#[]⟩ := rfl
theorem fntX0 (W : World) : Calls Try.prog 22 #[.string (zerB 34 ++ ⟨#[76, 80]⟩), .string ⟨#[97, 112, 112, 108, 105, 99, 97, 116, 105, 111, 110, 47, 118, 110, 100, 46, 109, 115, 45, 102, 111, 110, 116, 111, 98, 106, 101, 99, 116]⟩, .int .i64 0, .int .i64 34] W fun e w' => e = .returned (patV ⟨#[0, 0, 0, 0, 0, 0, 0, 0, 0, 0, 0, 0, 0, 0, 0, 0, 0, 0, 0, 0, 0, 0, 0, 0, 0, 0, 0, 0, 0, 0, 0, 0, 0, 0, 76, 80]⟩ ⟨#[0, 0, 0, 0, 0, 0, 0, 0, 0, 0, 0, 0, 0, 0, 0, 0, 0, 0, 0, 0, 0, 0, 0, 0, 0, 0, 0, 0, 0, 0, 0, 0, 0, 0, 255, 255]⟩ ⟨#[]⟩ ⟨#[97, 112, 112, 108, 105, 99, 97, 116, 105, 111, 110, 47, 118, 110, 100, 46, 109, 115, 45, 102, 111, 110, 116, 111, 98, 106, 101, 99, 116]⟩) ∧ Below W.heap.size W w' := by
  have := rExact_any ⟨#[0, 0, 0, 0, 0, 0, 0, 0, 0, 0, 0, 0, 0, 0, 0, 0, 0, 0, 0, 0, 0, 0, 0, 0, 0, 0, 0, 0, 0, 0, 0, 0, 0, 0, 76, 80]⟩ ⟨#[97, 112, 112, 108, 105, 99, 97, 116, 105, 111, 110, 47, 118, 110, 100, 46, 109, 115, 45, 102, 111, 110, 116, 111, 98, 106, 101, 99, 116]⟩ 0 34 W (by decide)
  rw [show exM (⟨#[0, 0, 0, 0, 0, 0, 0, 0, 0, 0, 0, 0, 0, 0, 0, 0, 0, 0, 0, 0, 0, 0, 0, 0, 0, 0, 0, 0, 0, 0, 0, 0, 0, 0, 76, 80]⟩ : ByteArray).size 0 34 = ⟨#[0, 0, 0, 0, 0, 0, 0, 0, 0, 0, 0, 0, 0, 0, 0, 0, 0, 0, 0, 0, 0, 0, 0, 0, 0, 0, 0, 0, 0, 0, 0, 0, 0, 0, 255, 255]⟩ from by kernel_rfl] at this
  rwa [show zerB 34 ++ ⟨#[76, 80]⟩ = (⟨#[0, 0, 0, 0, 0, 0, 0, 0, 0, 0, 0, 0, 0, 0, 0, 0, 0, 0, 0, 0, 0, 0, 0, 0, 0, 0, 0, 0, 0, 0, 0, 0, 0, 0, 76, 80]⟩ : ByteArray) from by kernel_rfl]
theorem fntX1 (W : World) : Calls Try.prog 22 #[.string ⟨#[0, 1, 0, 0]⟩, .string ⟨#[102, 111, 110, 116, 47, 116, 116, 102]⟩, .int .i64 0, .int .i64 0] W fun e w' => e = .returned (patV ⟨#[0, 1, 0, 0]⟩ ⟨#[255, 255, 255, 255]⟩ ⟨#[]⟩ ⟨#[102, 111, 110, 116, 47, 116, 116, 102]⟩) ∧ Below W.heap.size W w' := by
  have := rExact_any ⟨#[0, 1, 0, 0]⟩ ⟨#[102, 111, 110, 116, 47, 116, 116, 102]⟩ 0 0 W (by decide)
  rwa [show exM (⟨#[0, 1, 0, 0]⟩ : ByteArray).size 0 0 = ⟨#[255, 255, 255, 255]⟩ from by kernel_rfl] at this
theorem fntX2 (W : World) : Calls Try.prog 22 #[.string ⟨#[79, 84, 84, 79]⟩, .string ⟨#[102, 111, 110, 116, 47, 111, 116, 102]⟩, .int .i64 0, .int .i64 0] W fun e w' => e = .returned (patV ⟨#[79, 84, 84, 79]⟩ ⟨#[255, 255, 255, 255]⟩ ⟨#[]⟩ ⟨#[102, 111, 110, 116, 47, 111, 116, 102]⟩) ∧ Below W.heap.size W w' := by
  have := rExact_any ⟨#[79, 84, 84, 79]⟩ ⟨#[102, 111, 110, 116, 47, 111, 116, 102]⟩ 0 0 W (by decide)
  rwa [show exM (⟨#[79, 84, 84, 79]⟩ : ByteArray).size 0 0 = ⟨#[255, 255, 255, 255]⟩ from by kernel_rfl] at this
theorem fntX3 (W : World) : Calls Try.prog 22 #[.string ⟨#[116, 116, 99, 102]⟩, .string ⟨#[102, 111, 110, 116, 47, 99, 111, 108, 108, 101, 99, 116, 105, 111, 110]⟩, .int .i64 0, .int .i64 0] W fun e w' => e = .returned (patV ⟨#[116, 116, 99, 102]⟩ ⟨#[255, 255, 255, 255]⟩ ⟨#[]⟩ ⟨#[102, 111, 110, 116, 47, 99, 111, 108, 108, 101, 99, 116, 105, 111, 110]⟩) ∧ Below W.heap.size W w' := by
  have := rExact_any ⟨#[116, 116, 99, 102]⟩ ⟨#[102, 111, 110, 116, 47, 99, 111, 108, 108, 101, 99, 116, 105, 111, 110]⟩ 0 0 W (by decide)
  rwa [show exM (⟨#[116, 116, 99, 102]⟩ : ByteArray).size 0 0 = ⟨#[255, 255, 255, 255]⟩ from by kernel_rfl] at this
theorem fntX4 (W : World) : Calls Try.prog 22 #[.string ⟨#[119, 79, 70, 70]⟩, .string ⟨#[102, 111, 110, 116, 47, 119, 111, 102, 102]⟩, .int .i64 0, .int .i64 0] W fun e w' => e = .returned (patV ⟨#[119, 79, 70, 70]⟩ ⟨#[255, 255, 255, 255]⟩ ⟨#[]⟩ ⟨#[102, 111, 110, 116, 47, 119, 111, 102, 102]⟩) ∧ Below W.heap.size W w' := by
  have := rExact_any ⟨#[119, 79, 70, 70]⟩ ⟨#[102, 111, 110, 116, 47, 119, 111, 102, 102]⟩ 0 0 W (by decide)
  rwa [show exM (⟨#[119, 79, 70, 70]⟩ : ByteArray).size 0 0 = ⟨#[255, 255, 255, 255]⟩ from by kernel_rfl] at this
theorem fntX5 (W : World) : Calls Try.prog 22 #[.string ⟨#[119, 79, 70, 50]⟩, .string ⟨#[102, 111, 110, 116, 47, 119, 111, 102, 102, 50]⟩, .int .i64 0, .int .i64 0] W fun e w' => e = .returned (patV ⟨#[119, 79, 70, 50]⟩ ⟨#[255, 255, 255, 255]⟩ ⟨#[]⟩ ⟨#[102, 111, 110, 116, 47, 119, 111, 102, 102, 50]⟩) ∧ Below W.heap.size W w' := by
  have := rExact_any ⟨#[119, 79, 70, 50]⟩ ⟨#[102, 111, 110, 116, 47, 119, 111, 102, 102, 50]⟩ 0 0 W (by decide)
  rwa [show exM (⟨#[119, 79, 70, 50]⟩ : ByteArray).size 0 0 = ⟨#[255, 255, 255, 255]⟩ from by kernel_rfl] at this
theorem arcX0 (W : World) : Calls Try.prog 22 #[.string ⟨#[31, 139, 8]⟩, .string ⟨#[97, 112, 112, 108, 105, 99, 97, 116, 105, 111, 110, 47, 120, 45, 103, 122, 105, 112]⟩, .int .i64 0, .int .i64 0] W fun e w' => e = .returned (patV ⟨#[31, 139, 8]⟩ ⟨#[255, 255, 255]⟩ ⟨#[]⟩ ⟨#[97, 112, 112, 108, 105, 99, 97, 116, 105, 111, 110, 47, 120, 45, 103, 122, 105, 112]⟩) ∧ Below W.heap.size W w' := by
  have := rExact_any ⟨#[31, 139, 8]⟩ ⟨#[97, 112, 112, 108, 105, 99, 97, 116, 105, 111, 110, 47, 120, 45, 103, 122, 105, 112]⟩ 0 0 W (by decide)
  rwa [show exM (⟨#[31, 139, 8]⟩ : ByteArray).size 0 0 = ⟨#[255, 255, 255]⟩ from by kernel_rfl] at this
theorem arcX1 (W : World) : Calls Try.prog 22 #[.string ⟨#[80, 75, 3, 4]⟩, .string ⟨#[97, 112, 112, 108, 105, 99, 97, 116, 105, 111, 110, 47, 122, 105, 112]⟩, .int .i64 0, .int .i64 0] W fun e w' => e = .returned (patV ⟨#[80, 75, 3, 4]⟩ ⟨#[255, 255, 255, 255]⟩ ⟨#[]⟩ ⟨#[97, 112, 112, 108, 105, 99, 97, 116, 105, 111, 110, 47, 122, 105, 112]⟩) ∧ Below W.heap.size W w' := by
  have := rExact_any ⟨#[80, 75, 3, 4]⟩ ⟨#[97, 112, 112, 108, 105, 99, 97, 116, 105, 111, 110, 47, 122, 105, 112]⟩ 0 0 W (by decide)
  rwa [show exM (⟨#[80, 75, 3, 4]⟩ : ByteArray).size 0 0 = ⟨#[255, 255, 255, 255]⟩ from by kernel_rfl] at this
theorem arcX2 (W : World) : Calls Try.prog 22 #[.string ⟨#[82, 97, 114, 32, 26, 7, 0]⟩, .string ⟨#[97, 112, 112, 108, 105, 99, 97, 116, 105, 111, 110, 47, 120, 45, 114, 97, 114, 45, 99, 111, 109, 112, 114, 101, 115, 115, 101, 100]⟩, .int .i64 0, .int .i64 0] W fun e w' => e = .returned (patV ⟨#[82, 97, 114, 32, 26, 7, 0]⟩ ⟨#[255, 255, 255, 255, 255, 255, 255]⟩ ⟨#[]⟩ ⟨#[97, 112, 112, 108, 105, 99, 97, 116, 105, 111, 110, 47, 120, 45, 114, 97, 114, 45, 99, 111, 109, 112, 114, 101, 115, 115, 101, 100]⟩) ∧ Below W.heap.size W w' := by
  have := rExact_any ⟨#[82, 97, 114, 32, 26, 7, 0]⟩ ⟨#[97, 112, 112, 108, 105, 99, 97, 116, 105, 111, 110, 47, 120, 45, 114, 97, 114, 45, 99, 111, 109, 112, 114, 101, 115, 115, 101, 100]⟩ 0 0 W (by decide)
  rwa [show exM (⟨#[82, 97, 114, 32, 26, 7, 0]⟩ : ByteArray).size 0 0 = ⟨#[255, 255, 255, 255, 255, 255, 255]⟩ from by kernel_rfl] at this
/-- The cells of a table of three patterns. -/
def cells3 (ps : Nat → Pat) : Array Value := #[.string (ps 0).b, .string (ps 0).m, .string (ps 0).k, .string (ps 0).t, .string (ps 1).b, .string (ps 1).m, .string (ps 1).k, .string (ps 1).t, .string (ps 2).b, .string (ps 2).m, .string (ps 2).k, .string (ps 2).t]
theorem pats3 {W : World} {g : Nat} {ps : Nat → Pat} (h : Blk W g 40 (cells3 ps)) : PatsIn W g ps 3 :=
  ⟨h.lt, fun i hi => match i, hi with
    | 0, _ => ⟨h.cell 0, h.cell 1, h.cell 2, h.cell 3⟩
    | 1, _ => ⟨h.cell 4, h.cell 5, h.cell 6, h.cell 7⟩
    | 2, _ => ⟨h.cell 8, h.cell 9, h.cell 10, h.cell 11⟩
    | n + 3, h => absurd h (by omega)⟩

set_option maxHeartbeats 2000000 in
set_option maxRecDepth 100000 in
theorem refArchives_any (w : World) :
    Calls Try.prog 10 #[] w fun e w' => ∃ g, e = .returned (.slice (some ⟨g, 0, none⟩) 3 3) ∧ w.heap.size ≤ g ∧ PatsIn w' g arcP 3 ∧ Below w.heap.size w w' := by
  have HB := Lib.hid (Below.refl w.heap.size w)
  go_enter Try.func10, Try.ntmps10
  go_wp2_with (go_at_call 22; (first | with_reducible refine (arcX0 _).mono ?_ | with_reducible refine (arcX1 _).mono ?_ | with_reducible refine (arcX2 _).mono ?_); rintro e w1 ⟨rfl, b1⟩; have HB := Lib.hid (HB.out.trans (b1.mono HB.out.size)); clear b1)
  go_ret
  exact ⟨w1.heap.size, rfl, HB.out.size, pats3 (Blk.new w1 _ (cells3 arcP)), HB.out.alloc HB.out.size _⟩

set_option maxHeartbeats 2000000 in
set_option maxRecDepth 100000 in
theorem refFonts_any (w : World) :
    Calls Try.prog 9 #[] w fun e w' => ∃ g, e = .returned (.slice (some ⟨g, 0, none⟩) 6 6) ∧ w.heap.size ≤ g ∧ PatsIn w' g fntP 6 ∧ Below w.heap.size w w' := by
  have HB := Lib.hid (Below.refl w.heap.size w)
  have HZ0 := Lib.hid zerB_none
  have HX := Lib.hid fntX0
  go_enter Try.func9, Try.ntmps9
  go_wp2
  go_loop [1, 2] (fun s i => ∃ k : Nat, k ≤ 34 ∧ i = .int .i64 k ∧ s = .string (zerB k)) (fun _ i => 34 - (intOf i).toNat)
  case atStart => exact ⟨0, by omega, rfl, by rw [HZ0.out]⟩
  case round =>
    obtain ⟨k, hk, rfl, rfl⟩ := hrel
    have hz := zerB_size k
    by_cases hlt : k < 34
    · have HS := Lib.hid (zerB_succ k)
      generalize zerB k = z at *
      go_wp2
      go_round
      case rel => exact ⟨k + 1, by omega, by go_num, by rw [HS.out]⟩
      case measure => simp [intOf]; omega
    · obtain rfl : k = 34 := by omega
      generalize zerB 34 = z at *
      go_wp2_with (go_at_call 22; (first | with_reducible refine (HX.out _).mono ?_ | with_reducible refine (fntX1 _).mono ?_ | with_reducible refine (fntX2 _).mono ?_ | with_reducible refine (fntX3 _).mono ?_ | with_reducible refine (fntX4 _).mono ?_ | with_reducible refine (fntX5 _).mono ?_); rintro e w1 ⟨rfl, b1⟩; have HB := Lib.hid (HB.out.trans (b1.mono HB.out.size)); clear b1)
      go_ret
      exact ⟨w1.heap.size, rfl, HB.out.size, pats6 (Blk.new w1 _ (cells6 fntP)), HB.out.alloc HB.out.size _⟩

end Go.Proofs.Ytcoblepgehjamaa
