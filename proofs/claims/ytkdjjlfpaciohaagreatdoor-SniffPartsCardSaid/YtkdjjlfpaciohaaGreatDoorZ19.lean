/-
  What exact, chunk and Table of package media answer: the patterns of sounds and films, in a block of their own. Condition: a text of exact and chunk has at most 8 bytes.
  What Table of the document's own answer of layer 14. No condition.
  What Fonts and Archives of the document's own answer of layer 15. No condition.
-/
import Derived.Test.YtkdjjlfpaciohaaGreatDoorZ7
import Derived.Test.YtkdjjlfpaciohaaGreatDoorZ2
import Derived.BigQuiet
import Derived.Deep.QuietTactic
import Derived.OwnWalk
import Derived.Test.YtkdjjlfpaciohaaGreatDoorZ16
import Derived.LoopTactic
namespace Go.Proofs.YtkdjjlfpaciohaaGreatDoor
open Go.RowKit

/-- The mask of the longest pattern of which all bytes count. -/
abbrev ff8 : ByteArray := ⟨#[255, 255, 255, 255, 255, 255, 255, 255]⟩
abbrev zz4 : ByteArray := ⟨#[0, 0, 0, 0]⟩

set_option maxHeartbeats 400000 in
theorem mexact_any (t k : ByteArray) (w : World) (ht : t.size ≤ 8) :
    Calls Tryz.prog 114 #[.string t, .string k] w fun e w' => e = .returned (patV t (ff8.extract 0 t.size) ⟨#[]⟩ k) ∧ Below w.heap.size w w' := by
  have hsz : ff8.size = 8 := rfl
  have g1 : (t.size : Int) ≤ 8 := by omega
  go_enter Tryz.func114, Tryz.ntmps114
  go_wp2
  exact bodyPost_ret (v := patV t (ff8.extract 0 t.size) ⟨#[]⟩ k) (by simp [results, Tryz.results114, go_sem]) rfl ⟨rfl, (Below.refl w.heap.size w).alloc (Nat.le_refl _) _⟩

set_option maxHeartbeats 2000000 in
theorem chunk_any (a t k : ByteArray) (w : World) (ha : a.size ≤ 8) (ht : t.size ≤ 8) :
    Calls Tryz.prog 113 #[.string a, .string t, .string k] w fun e w' => e = .returned (patV (a ++ zz4 ++ t) (ff8.extract 0 a.size ++ zz4 ++ ff8.extract 0 t.size) ⟨#[]⟩ k) ∧ Below w.heap.size w w' := by
  have hsz : ff8.size = 8 := rfl
  have hs4 : zz4.size = 4 := rfl
  have g1 : (t.size : Int) ≤ 8 := by omega
  have g2 : (a.size : Int) ≤ 8 := by omega
  have g3 : (ff8.extract 0 t.size).size = t.size := by simp [hsz]; omega
  have g4 : (ff8.extract 0 a.size).size = a.size := by simp [hsz]; omega
  go_enter Tryz.func113, Tryz.ntmps113
  go_wp2
  go_region
  go_wp2
  exact bodyPost_ret (v := patV (a ++ zz4 ++ t) (ff8.extract 0 a.size ++ zz4 ++ ff8.extract 0 t.size) ⟨#[]⟩ k) (by simp [results, Tryz.results113, go_sem]) rfl ⟨rfl, ((Below.refl w.heap.size w).alloc (Nat.le_refl _) _).drew⟩

theorem medE0 (W : World) : Calls Tryz.prog 113 #[.string ⟨#[70, 79, 82, 77]⟩, .string ⟨#[65, 73, 70, 70]⟩, .string ⟨#[97, 117, 100, 105, 111, 47, 97, 105, 102, 102]⟩] W fun e w' => e = .returned (patV ⟨#[70, 79, 82, 77, 0, 0, 0, 0, 65, 73, 70, 70]⟩ ⟨#[255, 255, 255, 255, 0, 0, 0, 0, 255, 255, 255, 255]⟩ ⟨#[]⟩ ⟨#[97, 117, 100, 105, 111, 47, 97, 105, 102, 102]⟩) ∧ Below W.heap.size W w' := by
  have := chunk_any ⟨#[70, 79, 82, 77]⟩ ⟨#[65, 73, 70, 70]⟩ ⟨#[97, 117, 100, 105, 111, 47, 97, 105, 102, 102]⟩ W (by decide) (by decide)
  rwa [show (⟨#[70, 79, 82, 77]⟩ : ByteArray) ++ zz4 ++ ⟨#[65, 73, 70, 70]⟩ = ⟨#[70, 79, 82, 77, 0, 0, 0, 0, 65, 73, 70, 70]⟩ from by kernel_rfl, show ff8.extract 0 (⟨#[70, 79, 82, 77]⟩ : ByteArray).size ++ zz4 ++ ff8.extract 0 (⟨#[65, 73, 70, 70]⟩ : ByteArray).size = ⟨#[255, 255, 255, 255, 0, 0, 0, 0, 255, 255, 255, 255]⟩ from by kernel_rfl] at this
theorem medE1 (W : World) : Calls Tryz.prog 114 #[.string ⟨#[73, 68, 51]⟩, .string ⟨#[97, 117, 100, 105, 111, 47, 109, 112, 101, 103]⟩] W fun e w' => e = .returned (patV ⟨#[73, 68, 51]⟩ ⟨#[255, 255, 255]⟩ ⟨#[]⟩ ⟨#[97, 117, 100, 105, 111, 47, 109, 112, 101, 103]⟩) ∧ Below W.heap.size W w' := by
  have := mexact_any ⟨#[73, 68, 51]⟩ ⟨#[97, 117, 100, 105, 111, 47, 109, 112, 101, 103]⟩ W (by decide)
  rwa [show ff8.extract 0 (⟨#[73, 68, 51]⟩ : ByteArray).size = ⟨#[255, 255, 255]⟩ from by kernel_rfl] at this
theorem medE2 (W : World) : Calls Tryz.prog 114 #[.string ⟨#[79, 103, 103, 83, 0]⟩, .string ⟨#[97, 112, 112, 108, 105, 99, 97, 116, 105, 111, 110, 47, 111, 103, 103]⟩] W fun e w' => e = .returned (patV ⟨#[79, 103, 103, 83, 0]⟩ ⟨#[255, 255, 255, 255, 255]⟩ ⟨#[]⟩ ⟨#[97, 112, 112, 108, 105, 99, 97, 116, 105, 111, 110, 47, 111, 103, 103]⟩) ∧ Below W.heap.size W w' := by
  have := mexact_any ⟨#[79, 103, 103, 83, 0]⟩ ⟨#[97, 112, 112, 108, 105, 99, 97, 116, 105, 111, 110, 47, 111, 103, 103]⟩ W (by decide)
  rwa [show ff8.extract 0 (⟨#[79, 103, 103, 83, 0]⟩ : ByteArray).size = ⟨#[255, 255, 255, 255, 255]⟩ from by kernel_rfl] at this
theorem medE3 (W : World) : Calls Tryz.prog 114 #[.string ⟨#[77, 84, 104, 100, 0, 0, 0, 6]⟩, .string ⟨#[97, 117, 100, 105, 111, 47, 109, 105, 100, 105]⟩] W fun e w' => e = .returned (patV ⟨#[77, 84, 104, 100, 0, 0, 0, 6]⟩ ⟨#[255, 255, 255, 255, 255, 255, 255, 255]⟩ ⟨#[]⟩ ⟨#[97, 117, 100, 105, 111, 47, 109, 105, 100, 105]⟩) ∧ Below W.heap.size W w' := by
  have := mexact_any ⟨#[77, 84, 104, 100, 0, 0, 0, 6]⟩ ⟨#[97, 117, 100, 105, 111, 47, 109, 105, 100, 105]⟩ W (by decide)
  rwa [show ff8.extract 0 (⟨#[77, 84, 104, 100, 0, 0, 0, 6]⟩ : ByteArray).size = ⟨#[255, 255, 255, 255, 255, 255, 255, 255]⟩ from by kernel_rfl] at this
theorem medE4 (W : World) : Calls Tryz.prog 113 #[.string ⟨#[82, 73, 70, 70]⟩, .string ⟨#[65, 86, 73, 32]⟩, .string ⟨#[118, 105, 100, 101, 111, 47, 97, 118, 105]⟩] W fun e w' => e = .returned (patV ⟨#[82, 73, 70, 70, 0, 0, 0, 0, 65, 86, 73, 32]⟩ ⟨#[255, 255, 255, 255, 0, 0, 0, 0, 255, 255, 255, 255]⟩ ⟨#[]⟩ ⟨#[118, 105, 100, 101, 111, 47, 97, 118, 105]⟩) ∧ Below W.heap.size W w' := by
  have := chunk_any ⟨#[82, 73, 70, 70]⟩ ⟨#[65, 86, 73, 32]⟩ ⟨#[118, 105, 100, 101, 111, 47, 97, 118, 105]⟩ W (by decide) (by decide)
  rwa [show (⟨#[82, 73, 70, 70]⟩ : ByteArray) ++ zz4 ++ ⟨#[65, 86, 73, 32]⟩ = ⟨#[82, 73, 70, 70, 0, 0, 0, 0, 65, 86, 73, 32]⟩ from by kernel_rfl, show ff8.extract 0 (⟨#[82, 73, 70, 70]⟩ : ByteArray).size ++ zz4 ++ ff8.extract 0 (⟨#[65, 86, 73, 32]⟩ : ByteArray).size = ⟨#[255, 255, 255, 255, 0, 0, 0, 0, 255, 255, 255, 255]⟩ from by kernel_rfl] at this
theorem medE5 (W : World) : Calls Tryz.prog 113 #[.string ⟨#[82, 73, 70, 70]⟩, .string ⟨#[87, 65, 86, 69]⟩, .string ⟨#[97, 117, 100, 105, 111, 47, 119, 97, 118, 101]⟩] W fun e w' => e = .returned (patV ⟨#[82, 73, 70, 70, 0, 0, 0, 0, 87, 65, 86, 69]⟩ ⟨#[255, 255, 255, 255, 0, 0, 0, 0, 255, 255, 255, 255]⟩ ⟨#[]⟩ ⟨#[97, 117, 100, 105, 111, 47, 119, 97, 118, 101]⟩) ∧ Below W.heap.size W w' := by
  have := chunk_any ⟨#[82, 73, 70, 70]⟩ ⟨#[87, 65, 86, 69]⟩ ⟨#[97, 117, 100, 105, 111, 47, 119, 97, 118, 101]⟩ W (by decide) (by decide)
  rwa [show (⟨#[82, 73, 70, 70]⟩ : ByteArray) ++ zz4 ++ ⟨#[87, 65, 86, 69]⟩ = ⟨#[82, 73, 70, 70, 0, 0, 0, 0, 87, 65, 86, 69]⟩ from by kernel_rfl, show ff8.extract 0 (⟨#[82, 73, 70, 70]⟩ : ByteArray).size ++ zz4 ++ ff8.extract 0 (⟨#[87, 65, 86, 69]⟩ : ByteArray).size = ⟨#[255, 255, 255, 255, 0, 0, 0, 0, 255, 255, 255, 255]⟩ from by kernel_rfl] at this
/-- The cells of a table of six patterns. -/
def cells6 (ps : Nat → Pat) : Array Value := #[.string (ps 0).b, .string (ps 0).m, .string (ps 0).k, .string (ps 0).t, .string (ps 1).b, .string (ps 1).m, .string (ps 1).k, .string (ps 1).t, .string (ps 2).b, .string (ps 2).m, .string (ps 2).k, .string (ps 2).t, .string (ps 3).b, .string (ps 3).m, .string (ps 3).k, .string (ps 3).t, .string (ps 4).b, .string (ps 4).m, .string (ps 4).k, .string (ps 4).t, .string (ps 5).b, .string (ps 5).m, .string (ps 5).k, .string (ps 5).t]
theorem pats6 {W : World} {g : Nat} {ps : Nat → Pat} (h : Blk W g 54 (cells6 ps)) : PatsIn W g ps 6 :=
  ⟨h.lt, fun i hi => match i, hi with
    | 0, _ => ⟨h.cell 0, h.cell 1, h.cell 2, h.cell 3⟩
    | 1, _ => ⟨h.cell 4, h.cell 5, h.cell 6, h.cell 7⟩
    | 2, _ => ⟨h.cell 8, h.cell 9, h.cell 10, h.cell 11⟩
    | 3, _ => ⟨h.cell 12, h.cell 13, h.cell 14, h.cell 15⟩
    | 4, _ => ⟨h.cell 16, h.cell 17, h.cell 18, h.cell 19⟩
    | 5, _ => ⟨h.cell 20, h.cell 21, h.cell 22, h.cell 23⟩
    | n + 6, h => absurd h (by omega)⟩

set_option maxHeartbeats 2000000 in
set_option maxRecDepth 100000 in
theorem medTable_any (w : World) :
    Calls Tryz.prog 85 #[] w fun e w' => ∃ g, e = .returned (.slice (some ⟨g, 0, none⟩) 6 6) ∧ w.heap.size ≤ g ∧ Blk w' g 54 (cells6 medP) ∧ Below w.heap.size w w' := by
  have HB := Lib.hid (Below.refl w.heap.size w)
  go_enter Tryz.func85, Tryz.ntmps85
  go_wp2_with (first
    | (go_at_call 114; (first | with_reducible refine (medE1 _).mono ?_ | with_reducible refine (medE2 _).mono ?_ | with_reducible refine (medE3 _).mono ?_); rintro e w1 ⟨rfl, b1⟩; have HB := Lib.hid (HB.out.trans (b1.mono HB.out.size)); clear b1)
    | (go_at_call 113; (first | with_reducible refine (medE0 _).mono ?_ | with_reducible refine (medE4 _).mono ?_ | with_reducible refine (medE5 _).mono ?_); rintro e w1 ⟨rfl, b1⟩; have HB := Lib.hid (HB.out.trans (b1.mono HB.out.size)); clear b1))
  go_ret
  exact ⟨w1.heap.size, rfl, HB.out.size, Blk.new w1 _ (cells6 medP), HB.out.alloc HB.out.size _⟩

set_option maxHeartbeats 400000 in
theorem medType_any (s : ByteArray) (r : Int) (w : World) (hs : s.size ≤ 140737488351232) (hr : IsFirst s medP 6 r) :
    Calls Tryz.prog 61 #[.string s] w fun e w' => e = .returned (.string (typeOf medP r)) ∧ Below w.heap.size w w' := by
  have HT := Lib.hid (fun W g (h : PatsIn W g medP 6) => type_any g 6 6 s medP r W h (fun i hi => med_ok hi) (by omega) (by decide) hr)
  have HB := Lib.hid (Below.refl w.heap.size w)
  clear hr
  go_enter Tryz.func61, Tryz.ntmps61
  go_wp2_with (first
    | (go_at_call 85; refine (medTable_any _).mono ?_; rintro e w1 ⟨g, rfl, hg, hp, b1⟩; have HB := Lib.hid (HB.out.trans (b1.mono HB.out.size)); have HP := Lib.hid (pats6 hp); clear b1 hp)
    | (go_at_call 57; refine (HT.out _ _ HP.out).mono ?_; rintro e w2 ⟨rfl, b2⟩; have HB := Lib.hid (HB.out.trans (b2.mono HB.out.size)); clear b2))
  go_ret
  exact ⟨rfl, HB.out⟩

end Go.Proofs.YtkdjjlfpaciohaaGreatDoor
namespace Go.Proofs.YtkdjjlfpaciohaaGreatDoor
open Go.RowKit

theorem medX0 (W : World) : Calls Tryz.prog 60 #[.string ⟨#[70, 79, 82, 77, 0, 0, 0, 0, 65, 73, 70, 70]⟩, .string ⟨#[97, 117, 100, 105, 111, 47, 97, 105, 102, 102]⟩, .int .i64 4, .int .i64 8] W fun e w' => e = .returned (patV ⟨#[70, 79, 82, 77, 0, 0, 0, 0, 65, 73, 70, 70]⟩ ⟨#[255, 255, 255, 255, 0, 0, 0, 0, 255, 255, 255, 255]⟩ ⟨#[]⟩ ⟨#[97, 117, 100, 105, 111, 47, 97, 105, 102, 102]⟩) ∧ Below W.heap.size W w' := by
  have := rExact_any ⟨#[70, 79, 82, 77, 0, 0, 0, 0, 65, 73, 70, 70]⟩ ⟨#[97, 117, 100, 105, 111, 47, 97, 105, 102, 102]⟩ 4 8 W (by decide)
  rwa [show exM (⟨#[70, 79, 82, 77, 0, 0, 0, 0, 65, 73, 70, 70]⟩ : ByteArray).size 4 8 = ⟨#[255, 255, 255, 255, 0, 0, 0, 0, 255, 255, 255, 255]⟩ from by kernel_rfl] at this
theorem medX1 (W : World) : Calls Tryz.prog 60 #[.string ⟨#[73, 68, 51]⟩, .string ⟨#[97, 117, 100, 105, 111, 47, 109, 112, 101, 103]⟩, .int .i64 0, .int .i64 0] W fun e w' => e = .returned (patV ⟨#[73, 68, 51]⟩ ⟨#[255, 255, 255]⟩ ⟨#[]⟩ ⟨#[97, 117, 100, 105, 111, 47, 109, 112, 101, 103]⟩) ∧ Below W.heap.size W w' := by
  have := rExact_any ⟨#[73, 68, 51]⟩ ⟨#[97, 117, 100, 105, 111, 47, 109, 112, 101, 103]⟩ 0 0 W (by decide)
  rwa [show exM (⟨#[73, 68, 51]⟩ : ByteArray).size 0 0 = ⟨#[255, 255, 255]⟩ from by kernel_rfl] at this
theorem medX2 (W : World) : Calls Tryz.prog 60 #[.string ⟨#[79, 103, 103, 83, 0]⟩, .string ⟨#[97, 112, 112, 108, 105, 99, 97, 116, 105, 111, 110, 47, 111, 103, 103]⟩, .int .i64 0, .int .i64 0] W fun e w' => e = .returned (patV ⟨#[79, 103, 103, 83, 0]⟩ ⟨#[255, 255, 255, 255, 255]⟩ ⟨#[]⟩ ⟨#[97, 112, 112, 108, 105, 99, 97, 116, 105, 111, 110, 47, 111, 103, 103]⟩) ∧ Below W.heap.size W w' := by
  have := rExact_any ⟨#[79, 103, 103, 83, 0]⟩ ⟨#[97, 112, 112, 108, 105, 99, 97, 116, 105, 111, 110, 47, 111, 103, 103]⟩ 0 0 W (by decide)
  rwa [show exM (⟨#[79, 103, 103, 83, 0]⟩ : ByteArray).size 0 0 = ⟨#[255, 255, 255, 255, 255]⟩ from by kernel_rfl] at this
theorem medX3 (W : World) : Calls Tryz.prog 60 #[.string ⟨#[77, 84, 104, 100, 0, 0, 0, 6]⟩, .string ⟨#[97, 117, 100, 105, 111, 47, 109, 105, 100, 105]⟩, .int .i64 0, .int .i64 0] W fun e w' => e = .returned (patV ⟨#[77, 84, 104, 100, 0, 0, 0, 6]⟩ ⟨#[255, 255, 255, 255, 255, 255, 255, 255]⟩ ⟨#[]⟩ ⟨#[97, 117, 100, 105, 111, 47, 109, 105, 100, 105]⟩) ∧ Below W.heap.size W w' := by
  have := rExact_any ⟨#[77, 84, 104, 100, 0, 0, 0, 6]⟩ ⟨#[97, 117, 100, 105, 111, 47, 109, 105, 100, 105]⟩ 0 0 W (by decide)
  rwa [show exM (⟨#[77, 84, 104, 100, 0, 0, 0, 6]⟩ : ByteArray).size 0 0 = ⟨#[255, 255, 255, 255, 255, 255, 255, 255]⟩ from by kernel_rfl] at this
theorem medX4 (W : World) : Calls Tryz.prog 60 #[.string ⟨#[82, 73, 70, 70, 0, 0, 0, 0, 65, 86, 73, 32]⟩, .string ⟨#[118, 105, 100, 101, 111, 47, 97, 118, 105]⟩, .int .i64 4, .int .i64 8] W fun e w' => e = .returned (patV ⟨#[82, 73, 70, 70, 0, 0, 0, 0, 65, 86, 73, 32]⟩ ⟨#[255, 255, 255, 255, 0, 0, 0, 0, 255, 255, 255, 255]⟩ ⟨#[]⟩ ⟨#[118, 105, 100, 101, 111, 47, 97, 118, 105]⟩) ∧ Below W.heap.size W w' := by
  have := rExact_any ⟨#[82, 73, 70, 70, 0, 0, 0, 0, 65, 86, 73, 32]⟩ ⟨#[118, 105, 100, 101, 111, 47, 97, 118, 105]⟩ 4 8 W (by decide)
  rwa [show exM (⟨#[82, 73, 70, 70, 0, 0, 0, 0, 65, 86, 73, 32]⟩ : ByteArray).size 4 8 = ⟨#[255, 255, 255, 255, 0, 0, 0, 0, 255, 255, 255, 255]⟩ from by kernel_rfl] at this
theorem medX5 (W : World) : Calls Tryz.prog 60 #[.string ⟨#[82, 73, 70, 70, 0, 0, 0, 0, 87, 65, 86, 69]⟩, .string ⟨#[97, 117, 100, 105, 111, 47, 119, 97, 118, 101]⟩, .int .i64 4, .int .i64 8] W fun e w' => e = .returned (patV ⟨#[82, 73, 70, 70, 0, 0, 0, 0, 87, 65, 86, 69]⟩ ⟨#[255, 255, 255, 255, 0, 0, 0, 0, 255, 255, 255, 255]⟩ ⟨#[]⟩ ⟨#[97, 117, 100, 105, 111, 47, 119, 97, 118, 101]⟩) ∧ Below W.heap.size W w' := by
  have := rExact_any ⟨#[82, 73, 70, 70, 0, 0, 0, 0, 87, 65, 86, 69]⟩ ⟨#[97, 117, 100, 105, 111, 47, 119, 97, 118, 101]⟩ 4 8 W (by decide)
  rwa [show exM (⟨#[82, 73, 70, 70, 0, 0, 0, 0, 87, 65, 86, 69]⟩ : ByteArray).size 4 8 = ⟨#[255, 255, 255, 255, 0, 0, 0, 0, 255, 255, 255, 255]⟩ from by kernel_rfl] at this

set_option maxHeartbeats 2000000 in
set_option maxRecDepth 100000 in
theorem refTable14_any (w : World) :
    Calls Tryz.prog 65 #[] w fun e w' => ∃ g, e = .returned (.slice (some ⟨g, 0, none⟩) 6 6) ∧ w.heap.size ≤ g ∧ PatsIn w' g medP 6 ∧ Below w.heap.size w w' := by
  have HB := Lib.hid (Below.refl w.heap.size w)
  go_enter Tryz.func65, Tryz.ntmps65
  go_wp2_with (go_at_call 60; (first | with_reducible refine (medX0 _).mono ?_ | with_reducible refine (medX1 _).mono ?_ | with_reducible refine (medX2 _).mono ?_ | with_reducible refine (medX3 _).mono ?_ | with_reducible refine (medX4 _).mono ?_ | with_reducible refine (medX5 _).mono ?_); rintro e w1 ⟨rfl, b1⟩; have HB := Lib.hid (HB.out.trans (b1.mono HB.out.size)); clear b1)
  go_ret
  exact ⟨w1.heap.size, rfl, HB.out.size, pats6 (Blk.new w1 _ (cells6 medP)), HB.out.alloc HB.out.size _⟩

end Go.Proofs.YtkdjjlfpaciohaaGreatDoor
namespace Go.Proofs.YtkdjjlfpaciohaaGreatDoor
open Go.RowKit

theorem arcX0 (W : World) : Calls Tryz.prog 60 #[.string ⟨#[31, 139, 8]⟩, .string ⟨#[97, 112, 112, 108, 105, 99, 97, 116, 105, 111, 110, 47, 120, 45, 103, 122, 105, 112]⟩, .int .i64 0, .int .i64 0] W fun e w' => e = .returned (patV ⟨#[31, 139, 8]⟩ ⟨#[255, 255, 255]⟩ ⟨#[]⟩ ⟨#[97, 112, 112, 108, 105, 99, 97, 116, 105, 111, 110, 47, 120, 45, 103, 122, 105, 112]⟩) ∧ Below W.heap.size W w' := by
  have := rExact_any ⟨#[31, 139, 8]⟩ ⟨#[97, 112, 112, 108, 105, 99, 97, 116, 105, 111, 110, 47, 120, 45, 103, 122, 105, 112]⟩ 0 0 W (by decide)
  rwa [show exM (⟨#[31, 139, 8]⟩ : ByteArray).size 0 0 = ⟨#[255, 255, 255]⟩ from by kernel_rfl] at this
theorem arcX1 (W : World) : Calls Tryz.prog 60 #[.string ⟨#[80, 75, 3, 4]⟩, .string ⟨#[97, 112, 112, 108, 105, 99, 97, 116, 105, 111, 110, 47, 122, 105, 112]⟩, .int .i64 0, .int .i64 0] W fun e w' => e = .returned (patV ⟨#[80, 75, 3, 4]⟩ ⟨#[255, 255, 255, 255]⟩ ⟨#[]⟩ ⟨#[97, 112, 112, 108, 105, 99, 97, 116, 105, 111, 110, 47, 122, 105, 112]⟩) ∧ Below W.heap.size W w' := by
  have := rExact_any ⟨#[80, 75, 3, 4]⟩ ⟨#[97, 112, 112, 108, 105, 99, 97, 116, 105, 111, 110, 47, 122, 105, 112]⟩ 0 0 W (by decide)
  rwa [show exM (⟨#[80, 75, 3, 4]⟩ : ByteArray).size 0 0 = ⟨#[255, 255, 255, 255]⟩ from by kernel_rfl] at this
theorem arcX2 (W : World) : Calls Tryz.prog 60 #[.string ⟨#[82, 97, 114, 32, 26, 7, 0]⟩, .string ⟨#[97, 112, 112, 108, 105, 99, 97, 116, 105, 111, 110, 47, 120, 45, 114, 97, 114, 45, 99, 111, 109, 112, 114, 101, 115, 115, 101, 100]⟩, .int .i64 0, .int .i64 0] W fun e w' => e = .returned (patV ⟨#[82, 97, 114, 32, 26, 7, 0]⟩ ⟨#[255, 255, 255, 255, 255, 255, 255]⟩ ⟨#[]⟩ ⟨#[97, 112, 112, 108, 105, 99, 97, 116, 105, 111, 110, 47, 120, 45, 114, 97, 114, 45, 99, 111, 109, 112, 114, 101, 115, 115, 101, 100]⟩) ∧ Below W.heap.size W w' := by
  have := rExact_any ⟨#[82, 97, 114, 32, 26, 7, 0]⟩ ⟨#[97, 112, 112, 108, 105, 99, 97, 116, 105, 111, 110, 47, 120, 45, 114, 97, 114, 45, 99, 111, 109, 112, 114, 101, 115, 115, 101, 100]⟩ 0 0 W (by decide)
  rwa [show exM (⟨#[82, 97, 114, 32, 26, 7, 0]⟩ : ByteArray).size 0 0 = ⟨#[255, 255, 255, 255, 255, 255, 255]⟩ from by kernel_rfl] at this
/-- The cells of a table of three patterns. -/
def cells3 (ps : Nat → Pat) : Array Value := #[.string (ps 0).b, .string (ps 0).m, .string (ps 0).k, .string (ps 0).t, .string (ps 1).b, .string (ps 1).m, .string (ps 1).k, .string (ps 1).t, .string (ps 2).b, .string (ps 2).m, .string (ps 2).k, .string (ps 2).t]
theorem pats3 {W : World} {g : Nat} {ps : Nat → Pat} (h : Blk W g 54 (cells3 ps)) : PatsIn W g ps 3 :=
  ⟨h.lt, fun i hi => match i, hi with
    | 0, _ => ⟨h.cell 0, h.cell 1, h.cell 2, h.cell 3⟩
    | 1, _ => ⟨h.cell 4, h.cell 5, h.cell 6, h.cell 7⟩
    | 2, _ => ⟨h.cell 8, h.cell 9, h.cell 10, h.cell 11⟩
    | n + 3, h => absurd h (by omega)⟩

set_option maxHeartbeats 2000000 in
set_option maxRecDepth 100000 in
theorem refArchives_any (w : World) :
    Calls Tryz.prog 48 #[] w fun e w' => ∃ g, e = .returned (.slice (some ⟨g, 0, none⟩) 3 3) ∧ w.heap.size ≤ g ∧ PatsIn w' g arcP 3 ∧ Below w.heap.size w w' := by
  have HB := Lib.hid (Below.refl w.heap.size w)
  go_enter Tryz.func48, Tryz.ntmps48
  go_wp2_with (go_at_call 60; (first | with_reducible refine (arcX0 _).mono ?_ | with_reducible refine (arcX1 _).mono ?_ | with_reducible refine (arcX2 _).mono ?_); rintro e w1 ⟨rfl, b1⟩; have HB := Lib.hid (HB.out.trans (b1.mono HB.out.size)); clear b1)
  go_ret
  exact ⟨w1.heap.size, rfl, HB.out.size, pats3 (Blk.new w1 _ (cells3 arcP)), HB.out.alloc HB.out.size _⟩

end Go.Proofs.YtkdjjlfpaciohaaGreatDoor
