/-
  What strings.Repeat of the library does at this translation: at least two copies of a text that is not empty.
  What exact and webp of package image answer. Condition: the text has at most 14 bytes.
  What Table of package image answers: the patterns of pictures, in a block of their own. No condition.
-/
import Derived.Shelf.Strings.Builder1
import Derived.Shelf.Strings.Builder2
import Derived.Shelf.Strings.BuilderF
import Derived.Shelf.Strings.Prefix
import Derived.Shelf.Bits.Mul64
import Derived.Shelf.Strings.Repeat
import Derived.Test.YtkdjjlfpaciohaaGreatDoorRows
import Derived.WalkKit
import Derived.Test.YtkdjjlfpaciohaaGreatDoorZ7
import Derived.Test.YtkdjjlfpaciohaaGreatDoorZ2
import Derived.BigQuiet
import Derived.Deep.QuietTactic
import Derived.OwnWalk
namespace Go.Proofs.YtkdjjlfpaciohaaGreatDoor
open Go.RowKit Go.Shelf

def lays105_ren : Go.Shelf.Ren := ⟨fun | 105 => 132 | 212 => 146 | 99 => 80 | 165 => 147 | 166 => 148 | 170 => 149 | 169 => 150 | 263 => 162 | 264 => 163 | 206 => 108 | 240 => 164 | 241 => 165 | 276 => 172 | 277 => 173 | n => n, fun | 9 => 9 | 3 => 3 | 4 => 4 | 20 => 20 | 0 => 0 | 46 => 83 | 109 => 102 | 5 => 5 | 72 => 106 | 76 => 110 | 51 => 93 | 146 => 130 | 53 => 96 | 148 => 132 | 70 => 104 | 37 => 62 | 75 => 109 | 127 => 134 | 164 => 144 | 80 => 113 | n => n, fun | n => n⟩

theorem lays105 : Go.Proofs.Lays.n105 Tryz.prog lays105_ren := {
  mixed := by kernel_rfl
  f99 := Tryz.func80.trans (congrArg some (by kernel_rfl))
  f105 := Tryz.func132.trans (congrArg some (by kernel_rfl))
  f165 := Tryz.func147.trans (congrArg some (by kernel_rfl))
  f166 := Tryz.func148.trans (congrArg some (by kernel_rfl))
  f169 := Tryz.func150.trans (congrArg some (by kernel_rfl))
  f170 := Tryz.func149.trans (congrArg some (by kernel_rfl))
  f206 := Tryz.func108.trans (congrArg some (by kernel_rfl))
  f212 := Tryz.func146.trans (congrArg some (by kernel_rfl))
  f240 := Tryz.func164.trans (congrArg some (by kernel_rfl))
  f241 := Tryz.func165.trans (congrArg some (by kernel_rfl))
  f263 := Tryz.func162.trans (congrArg some (by kernel_rfl))
  f264 := Tryz.func163.trans (congrArg some (by kernel_rfl))
  f276 := Tryz.func172.trans (congrArg some (by kernel_rfl))
  f277 := Tryz.func173.trans (congrArg some (by kernel_rfl))
  t0 := Tryz.underlying0
  a0 := Tryz.isAgg0
  z0 := Tryz.sizeOf0
  v0 := Tryz.zeroValue0
  t3 := Tryz.underlying3
  a3 := Tryz.isAgg3
  z3 := Tryz.sizeOf3
  v3 := Tryz.zeroValue3
  t4 := Tryz.underlying4
  a4 := Tryz.isAgg4
  z4 := Tryz.sizeOf4
  v4 := Tryz.zeroValue4
  t5 := Tryz.underlying5
  a5 := Tryz.isAgg5
  z5 := Tryz.sizeOf5
  v5 := Tryz.zeroValue5
  t9 := Tryz.underlying9
  a9 := Tryz.isAgg9
  z9 := Tryz.sizeOf9
  v9 := Tryz.zeroValue9
  t20 := Tryz.underlying20
  a20 := Tryz.isAgg20
  z20 := Tryz.sizeOf20
  v20 := Tryz.zeroValue20
  t37 := Tryz.underlying62
  a37 := Tryz.isAgg62
  z37 := Tryz.sizeOf62
  v37 := Tryz.zeroValue62
  t46 := Tryz.underlying83
  a46 := Tryz.isAgg83
  z46 := Tryz.sizeOf83
  v46 := Tryz.zeroValue83
  t51 := Tryz.underlying93
  a51 := Tryz.isAgg93
  z51 := Tryz.sizeOf93
  v51 := Tryz.zeroValue93
  t53 := Tryz.underlying96
  a53 := Tryz.isAgg96
  z53 := Tryz.sizeOf96
  v53 := Tryz.zeroValue96
  t70 := Tryz.underlying104
  a70 := Tryz.isAgg104
  z70 := Tryz.sizeOf104
  v70 := Tryz.zeroValue104
  t72 := Tryz.underlying106
  a72 := Tryz.isAgg106
  z72 := Tryz.sizeOf106
  v72 := Tryz.zeroValue106
  t75 := Tryz.underlying109
  a75 := Tryz.isAgg109
  z75 := Tryz.sizeOf109
  v75 := Tryz.zeroValue109
  t76 := Tryz.underlying110
  a76 := Tryz.isAgg110
  z76 := Tryz.sizeOf110
  v76 := Tryz.zeroValue110
  t109 := Tryz.underlying102
  a109 := Tryz.isAgg102
  z109 := Tryz.sizeOf102
  v109 := Tryz.zeroValue102
  t127 := Tryz.underlying134
  a127 := Tryz.isAgg134
  z127 := Tryz.sizeOf134
  v127 := Tryz.zeroValue134
  t146 := Tryz.underlying130
  a146 := Tryz.isAgg130
  z146 := Tryz.sizeOf130
  v146 := Tryz.zeroValue130
  t148 := Tryz.underlying132
  a148 := Tryz.isAgg132
  z148 := Tryz.sizeOf132
  v148 := Tryz.zeroValue132
  t164 := Tryz.underlying144
  a164 := Tryz.isAgg144
  z164 := Tryz.sizeOf144
  v164 := Tryz.zeroValue144 }

theorem Builder_Extra_105 : Builder.Extra Tryz.prog lays105_ren := {
  sizeBuilder := by kernel_rfl
  liesBuilder := by kernel_rfl
  t5 := Tryz.underlying5
  a5 := Tryz.isAgg5
  z5 := Tryz.sizeOf5
  v5 := Tryz.zeroValue5
  infoByte := by kernel_rfl
  cellsByte := by kernel_rfl
  sizeByte := by kernel_rfl
  neB5 := by decide }

/-- Any number of copies, of which a memory may hold all. -/
theorem strings_Repeat_some (s : ByteArray) (c : Nat) (w : World) (hc : c ≤ 9223372036854775807) (hlen : s.size * c ≤ 140737488355328) :
    Calls Tryz.prog 132 #[.string s, .int .i64 c] w fun e w' => e = .returned (.string ⟨(Go.Lib.repeatL s.data.toList c).toArray⟩) ∧ Below w.heap.size w w' := Any.strings_Repeat lays105 Builder_Extra_105 s c w hc hlen

end Go.Proofs.YtkdjjlfpaciohaaGreatDoor
namespace Go.Proofs.YtkdjjlfpaciohaaGreatDoor
open Go.RowKit

/-- The mask of the longest pattern. -/
abbrev ffS : ByteArray := ⟨#[255, 255, 255, 255, 255, 255, 255, 255, 255, 255, 255, 255, 255, 255]⟩

set_option maxHeartbeats 400000 in
theorem exact_any (t k : ByteArray) (w : World) (ht : t.size ≤ 14) :
    Calls Tryz.prog 82 #[.string t, .string k] w fun e w' => e = .returned (patV t (ffS.extract 0 t.size) ⟨#[]⟩ k) ∧ Below w.heap.size w w' := by
  have hsz : ffS.size = 14 := rfl
  have g1 : (t.size : Int) ≤ 14 := by omega
  go_enter Tryz.func82, Tryz.ntmps82
  go_wp2
  exact bodyPost_ret (v := patV t (ffS.extract 0 t.size) ⟨#[]⟩ k) (by simp [results, Tryz.results82, go_sem]) rfl ⟨rfl, (Below.refl w.heap.size w).alloc (Nat.le_refl _) _⟩

set_option maxHeartbeats 1000000 in
theorem webp_any (w : World) :
    Calls Tryz.prog 83 #[] w fun e w' => e = .returned (patV (imgP 5).b (imgP 5).m ⟨#[]⟩ (imgP 5).t) ∧ Below w.heap.size w w' := by
  have hm : (imgP 5).m = ffS.extract 0 4 ++ ⟨#[0, 0, 0, 0]⟩ ++ ffS.extract 0 6 := by kernel_rfl
  rw [hm]
  clear hm
  go_enter Tryz.func83, Tryz.ntmps83
  go_wp2
  go_region
  go_wp2
  exact bodyPost_ret (v := patV (imgP 5).b (ffS.extract 0 4 ++ ⟨#[0, 0, 0, 0]⟩ ++ ffS.extract 0 6) ⟨#[]⟩ (imgP 5).t) (by simp [results, Tryz.results83, go_sem, imgP]) rfl ⟨rfl, ((Below.refl w.heap.size w).alloc (Nat.le_refl _) _).drew⟩

end Go.Proofs.YtkdjjlfpaciohaaGreatDoor
namespace Go.Proofs.YtkdjjlfpaciohaaGreatDoor
open Go.RowKit

theorem imgE0 (W : World) : Calls Tryz.prog 82 #[.string ⟨#[0, 0, 1, 0]⟩, .string ⟨#[105, 109, 97, 103, 101, 47, 120, 45, 105, 99, 111, 110]⟩] W fun e w' => e = .returned (patV ⟨#[0, 0, 1, 0]⟩ ⟨#[255, 255, 255, 255]⟩ ⟨#[]⟩ ⟨#[105, 109, 97, 103, 101, 47, 120, 45, 105, 99, 111, 110]⟩) ∧ Below W.heap.size W w' := by
  have := exact_any ⟨#[0, 0, 1, 0]⟩ ⟨#[105, 109, 97, 103, 101, 47, 120, 45, 105, 99, 111, 110]⟩ W (by decide)
  rwa [show ffS.extract 0 (⟨#[0, 0, 1, 0]⟩ : ByteArray).size = ⟨#[255, 255, 255, 255]⟩ from by kernel_rfl] at this
theorem imgE1 (W : World) : Calls Tryz.prog 82 #[.string ⟨#[0, 0, 2, 0]⟩, .string ⟨#[105, 109, 97, 103, 101, 47, 120, 45, 105, 99, 111, 110]⟩] W fun e w' => e = .returned (patV ⟨#[0, 0, 2, 0]⟩ ⟨#[255, 255, 255, 255]⟩ ⟨#[]⟩ ⟨#[105, 109, 97, 103, 101, 47, 120, 45, 105, 99, 111, 110]⟩) ∧ Below W.heap.size W w' := by
  have := exact_any ⟨#[0, 0, 2, 0]⟩ ⟨#[105, 109, 97, 103, 101, 47, 120, 45, 105, 99, 111, 110]⟩ W (by decide)
  rwa [show ffS.extract 0 (⟨#[0, 0, 2, 0]⟩ : ByteArray).size = ⟨#[255, 255, 255, 255]⟩ from by kernel_rfl] at this
theorem imgE2 (W : World) : Calls Tryz.prog 82 #[.string ⟨#[66, 77]⟩, .string ⟨#[105, 109, 97, 103, 101, 47, 98, 109, 112]⟩] W fun e w' => e = .returned (patV ⟨#[66, 77]⟩ ⟨#[255, 255]⟩ ⟨#[]⟩ ⟨#[105, 109, 97, 103, 101, 47, 98, 109, 112]⟩) ∧ Below W.heap.size W w' := by
  have := exact_any ⟨#[66, 77]⟩ ⟨#[105, 109, 97, 103, 101, 47, 98, 109, 112]⟩ W (by decide)
  rwa [show ffS.extract 0 (⟨#[66, 77]⟩ : ByteArray).size = ⟨#[255, 255]⟩ from by kernel_rfl] at this
theorem imgE3 (W : World) : Calls Tryz.prog 82 #[.string ⟨#[71, 73, 70, 56, 55, 97]⟩, .string ⟨#[105, 109, 97, 103, 101, 47, 103, 105, 102]⟩] W fun e w' => e = .returned (patV ⟨#[71, 73, 70, 56, 55, 97]⟩ ⟨#[255, 255, 255, 255, 255, 255]⟩ ⟨#[]⟩ ⟨#[105, 109, 97, 103, 101, 47, 103, 105, 102]⟩) ∧ Below W.heap.size W w' := by
  have := exact_any ⟨#[71, 73, 70, 56, 55, 97]⟩ ⟨#[105, 109, 97, 103, 101, 47, 103, 105, 102]⟩ W (by decide)
  rwa [show ffS.extract 0 (⟨#[71, 73, 70, 56, 55, 97]⟩ : ByteArray).size = ⟨#[255, 255, 255, 255, 255, 255]⟩ from by kernel_rfl] at this
theorem imgE4 (W : World) : Calls Tryz.prog 82 #[.string ⟨#[71, 73, 70, 56, 57, 97]⟩, .string ⟨#[105, 109, 97, 103, 101, 47, 103, 105, 102]⟩] W fun e w' => e = .returned (patV ⟨#[71, 73, 70, 56, 57, 97]⟩ ⟨#[255, 255, 255, 255, 255, 255]⟩ ⟨#[]⟩ ⟨#[105, 109, 97, 103, 101, 47, 103, 105, 102]⟩) ∧ Below W.heap.size W w' := by
  have := exact_any ⟨#[71, 73, 70, 56, 57, 97]⟩ ⟨#[105, 109, 97, 103, 101, 47, 103, 105, 102]⟩ W (by decide)
  rwa [show ffS.extract 0 (⟨#[71, 73, 70, 56, 57, 97]⟩ : ByteArray).size = ⟨#[255, 255, 255, 255, 255, 255]⟩ from by kernel_rfl] at this
theorem imgE6 (W : World) : Calls Tryz.prog 82 #[.string ⟨#[137, 80, 78, 71, 13, 10, 26, 10]⟩, .string ⟨#[105, 109, 97, 103, 101, 47, 112, 110, 103]⟩] W fun e w' => e = .returned (patV ⟨#[137, 80, 78, 71, 13, 10, 26, 10]⟩ ⟨#[255, 255, 255, 255, 255, 255, 255, 255]⟩ ⟨#[]⟩ ⟨#[105, 109, 97, 103, 101, 47, 112, 110, 103]⟩) ∧ Below W.heap.size W w' := by
  have := exact_any ⟨#[137, 80, 78, 71, 13, 10, 26, 10]⟩ ⟨#[105, 109, 97, 103, 101, 47, 112, 110, 103]⟩ W (by decide)
  rwa [show ffS.extract 0 (⟨#[137, 80, 78, 71, 13, 10, 26, 10]⟩ : ByteArray).size = ⟨#[255, 255, 255, 255, 255, 255, 255, 255]⟩ from by kernel_rfl] at this
theorem imgE7 (W : World) : Calls Tryz.prog 82 #[.string ⟨#[255, 216, 255]⟩, .string ⟨#[105, 109, 97, 103, 101, 47, 106, 112, 101, 103]⟩] W fun e w' => e = .returned (patV ⟨#[255, 216, 255]⟩ ⟨#[255, 255, 255]⟩ ⟨#[]⟩ ⟨#[105, 109, 97, 103, 101, 47, 106, 112, 101, 103]⟩) ∧ Below W.heap.size W w' := by
  have := exact_any ⟨#[255, 216, 255]⟩ ⟨#[105, 109, 97, 103, 101, 47, 106, 112, 101, 103]⟩ W (by decide)
  rwa [show ffS.extract 0 (⟨#[255, 216, 255]⟩ : ByteArray).size = ⟨#[255, 255, 255]⟩ from by kernel_rfl] at this
/-- The cells of a table of eight patterns. -/
def cells8 (ps : Nat → Pat) : Array Value := #[.string (ps 0).b, .string (ps 0).m, .string (ps 0).k, .string (ps 0).t, .string (ps 1).b, .string (ps 1).m, .string (ps 1).k, .string (ps 1).t, .string (ps 2).b, .string (ps 2).m, .string (ps 2).k, .string (ps 2).t, .string (ps 3).b, .string (ps 3).m, .string (ps 3).k, .string (ps 3).t, .string (ps 4).b, .string (ps 4).m, .string (ps 4).k, .string (ps 4).t, .string (ps 5).b, .string (ps 5).m, .string (ps 5).k, .string (ps 5).t, .string (ps 6).b, .string (ps 6).m, .string (ps 6).k, .string (ps 6).t, .string (ps 7).b, .string (ps 7).m, .string (ps 7).k, .string (ps 7).t]
theorem pats8 {W : World} {g : Nat} {ps : Nat → Pat} (h : Blk W g 54 (cells8 ps)) : PatsIn W g ps 8 :=
  ⟨h.lt, fun i hi => match i, hi with
    | 0, _ => ⟨h.cell 0, h.cell 1, h.cell 2, h.cell 3⟩
    | 1, _ => ⟨h.cell 4, h.cell 5, h.cell 6, h.cell 7⟩
    | 2, _ => ⟨h.cell 8, h.cell 9, h.cell 10, h.cell 11⟩
    | 3, _ => ⟨h.cell 12, h.cell 13, h.cell 14, h.cell 15⟩
    | 4, _ => ⟨h.cell 16, h.cell 17, h.cell 18, h.cell 19⟩
    | 5, _ => ⟨h.cell 20, h.cell 21, h.cell 22, h.cell 23⟩
    | 6, _ => ⟨h.cell 24, h.cell 25, h.cell 26, h.cell 27⟩
    | 7, _ => ⟨h.cell 28, h.cell 29, h.cell 30, h.cell 31⟩
    | n + 8, h => absurd h (by omega)⟩

set_option maxHeartbeats 2000000 in
set_option maxRecDepth 100000 in
theorem imgTable_any (w : World) :
    Calls Tryz.prog 58 #[] w fun e w' => ∃ g, e = .returned (.slice (some ⟨g, 0, none⟩) 8 8) ∧ w.heap.size ≤ g ∧ PatsIn w' g imgP 8 ∧ Below w.heap.size w w' := by
  have HB := Lib.hid (Below.refl w.heap.size w)
  go_enter Tryz.func58, Tryz.ntmps58
  go_wp2_with (first
    | (go_at_call 82; (first | with_reducible refine (imgE0 _).mono ?_ | with_reducible refine (imgE1 _).mono ?_ | with_reducible refine (imgE2 _).mono ?_ | with_reducible refine (imgE3 _).mono ?_ | with_reducible refine (imgE4 _).mono ?_ | with_reducible refine (imgE6 _).mono ?_ | with_reducible refine (imgE7 _).mono ?_); rintro e w1 ⟨rfl, b1⟩; have HB := Lib.hid (HB.out.trans (b1.mono HB.out.size)); clear b1)
    | (go_at_call 83; (with_reducible refine (webp_any _).mono ?_); rintro e w1 ⟨rfl, b1⟩; have HB := Lib.hid (HB.out.trans (b1.mono HB.out.size)); clear b1))
  go_ret
  exact ⟨w1.heap.size, rfl, HB.out.size, pats8 (Blk.new w1 _ (cells8 imgP)), HB.out.alloc HB.out.size _⟩

end Go.Proofs.YtkdjjlfpaciohaaGreatDoor
