/-
  What Cut answers: the first n bytes. Condition: the text is no longer than a length can be.
  lives of layer 29; the laws LexerJson and LexerNone return true of every input. Condition: the texts are as long as a length can be.
  The law LexerWhole of layer 29 returns true of every input. Condition: the text is as long as a length can be.
-/
import Derived.Test.YtbojbkpplejdmaaGreatRows
import Derived.WalkKit
import Derived.WalkSpells
import Derived.WalkLawsBesides
import Derived.Test.YtbojbkpplejdmaaGreatZ23
import Derived.RegionTactic
import Derived.BigRegion
import Derived.Test.YtbojbkpplejdmaaGreatZ21
import Derived.Deep.RegionHeld2
namespace Go.Proofs.YtbojbkpplejdmaaGreat
open Go.RowKit

/-- The first n bytes. -/
def cutB (s : ByteArray) (n : Nat) : ByteArray := if n < s.size then s.extract 0 n else s
theorem cutB_size (s : ByteArray) (n : Nat) : (cutB s n).size ≤ n := by
  unfold cutB
  split
  · simp; omega
  · omega

set_option maxHeartbeats 400000 in
theorem cut_any (s : ByteArray) (n : Nat) (w : World) (_hs : s.size ≤ 9223372036854775807) :
    Calls Tryz.prog 5 #[.string s, .int .i64 n] w fun e w' => e = .returned (.string (cutB s n)) ∧ w = w' := by
  by_cases h : n < s.size
  · have hx : cutB s n = s.extract 0 n := by simp [cutB, h]
    have h1 : decide ((n : Int) < (s.size : Int)) = true := by simpa using h
    have h2 : decide (n < s.size) = true := by simpa using h
    rw [hx]
    clear hx
    go_enter Tryz.func5, Tryz.ntmps5
    go_wp2
    go_ret
    exact ⟨rfl, rfl⟩
  · have hx : cutB s n = s := by simp [cutB, h]
    have h1 : decide ((n : Int) < (s.size : Int)) = false := by simp; omega
    have h2 : decide (n < s.size) = false := by simpa using h
    rw [hx]
    clear hx
    go_enter Tryz.func5, Tryz.ntmps5
    go_wp2
    go_ret
    exact ⟨rfl, rfl⟩

end Go.Proofs.YtbojbkpplejdmaaGreat
namespace Go.Proofs.YtbojbkpplejdmaaGreat
open Go.RowKit

def lexA : ByteArray := ⟨#[120, 61, 49, 59]⟩
def lexB : ByteArray := ⟨#[91, 49, 93]⟩
theorem lexA_who : jdgO (whoV 9 lexA false) = .agg #[.int .i64 1, .string ⟨#[115, 99, 114, 105, 112, 116]⟩, .int .i64 4, .bool false] := by kernel_rfl
theorem lexB_who : jdgO (whoV 9 lexB true) = .agg #[.int .i64 2, .string ⟨#[106, 115, 111, 110]⟩, .int .i64 3, .bool false] := by kernel_rfl
set_option maxHeartbeats 4000000 in
theorem xlives_any (w : World) : Calls Tryz.prog 8 #[] w fun e w' => e = .returned (.bool true) ∧ Below w.heap.size w w' := by
  have hz4 := Tryz.zeroJudged
  have HA : Hid (∀ W, Calls Tryz.prog 6 #[.string ⟨#[120, 61, 49, 59]⟩, .int .i64 9, .bool false] W fun e w' => e = .returned (.agg #[.int .i64 1, .string ⟨#[115, 99, 114, 105, 112, 116]⟩, .int .i64 4, .bool false]) ∧ Below W.heap.size W w') := Lib.hid fun W => by
    have h := xwhole_any lexA 9 false W (by decide)
    rw [show min 9 200 = 9 from rfl, lexA_who] at h
    exact h
  have HB : Hid (∀ W, Calls Tryz.prog 6 #[.string ⟨#[91, 49, 93]⟩, .int .i64 9, .bool true] W fun e w' => e = .returned (.agg #[.int .i64 2, .string ⟨#[106, 115, 111, 110]⟩, .int .i64 3, .bool false]) ∧ Below W.heap.size W w') := Lib.hid fun W => by
    have h := xwhole_any lexB 9 true W (by decide)
    rw [show min 9 200 = 9 from rfl, lexB_who] at h
    exact h
  go_enter Tryz.func8, Tryz.ntmps8
  go_wp2_with (first
    | (go_at_call 6; (with_reducible refine (HA.out _).mono ?_); rintro e w1 ⟨rfl, hb1⟩; have B1 := Lib.hid hb1; clear hb1)
    | (go_at_call 6; (with_reducible refine (HB.out _).mono ?_); rintro e w2 ⟨rfl, hb2⟩; have B2 := Lib.hid (below_on B1.out hb2); clear hb2))
  go_ret
  exact ⟨rfl, (B2.out.alloc B2.out.size _).alloc (Nat.le_trans B2.out.size (by simp)) _⟩

/-! What is JSON whole. -/
theorem vdF_json {D : Nat} {s x : ByteArray} {y : List UInt8} (h : (whoJ D s).1 = 2) (hl : s.data.toList = x.data.toList ++ y) : (vdF D x != 1) = true := by
  obtain ⟨q, hq⟩ := json_run h
  unfold vdF
  cases hf : fstV D [] x.data.toList with
  | none => rfl
  | some r =>
    obtain ⟨c, n⟩ := r
    have := json_first hq hl hf
    subst this
    rfl
theorem who_json {D c k : Nat} {s : ByteArray} (h : (whoJ D s).1 = 2) (hw : whoV D s true = some (c, k)) : vdV c = 2 := by
  unfold whoV at hw
  cases hf : fstV D [] s.data.toList with
  | none =>
    rw [hf] at hw
    injection hw with hw
    injection hw with h1 h2
    rw [← h1, json_end h]
    rfl
  | some r =>
    obtain ⟨c', n⟩ := r
    rw [hf] at hw
    injection hw with hw
    injection hw with h1 h2
    obtain ⟨q, hq⟩ := json_run h
    have := json_first (y := []) hq (List.append_nil _).symm hf
    rw [← h1, this]
    rfl
theorem cut_join {u : ByteArray} {k : Nat} (hk : k ≤ u.size) : u.extract 0 k ++ u.extract k u.size = u := by
  have := rest29 (T := ⟨#[]⟩) (t := u) hk
  rw [empty_app29, empty_app29] at this
  exact this.symm

end Go.Proofs.YtbojbkpplejdmaaGreat
namespace Go.Proofs.YtbojbkpplejdmaaGreat
open Go.RowKit

theorem jdg_form (q : Option (Nat × Nat)) : ∃ (v : Int) (r : ByteArray) (a : Int), jdgO q = .agg #[.int .i64 v, .string r, .int .i64 a, .bool false] := by
  match q with
  | none => exact ⟨_, _, _, rfl⟩
  | some (c, n) => exact ⟨_, _, _, rfl⟩
/-- The kept answer: its four cells, all else as it was. -/
structure JdW (w : World) (g : Nat) (v : Int) (r : ByteArray) (a : Int) (W : World) : Prop where
  below : Below w.heap.size w W
  own : Blk W g 24 #[.int .i64 v, .string r, .int .i64 a, .bool false]
theorem JdW.to {w : World} {g : Nat} {v : Int} {r : ByteArray} {a : Int} {W W2 : World} (j : JdW w g v r a W) (hb : Below W.heap.size W W2) : JdW w g v r a W2 := ⟨below_on j.below hb, Blk.below j.own hb (Blk.lt j.own)⟩
theorem JdW.drew {w : World} {g : Nat} {v : Int} {r : ByteArray} {a : Int} {W : World} (j : JdW w g v r a W) : JdW w g v r a W.drew := j.to (Below.drewN' (Below.refl _ _) 1)
theorem JdW.keep {w : World} {g : Nat} {v : Int} {r : ByteArray} {a : Int} {W : World} (j : JdW w g v r a W) : W.cell? ⟨g, 0, none⟩ = some (.int .i64 v) ∧ W.cell? ⟨g, 1, none⟩ = some (.string r) ∧ W.cell? ⟨g, 2, none⟩ = some (.int .i64 a) ∧ W.cell? ⟨g, 3, none⟩ = some (.bool false) :=
  ⟨Blk.cell j.own 0, Blk.cell j.own 1, Blk.cell j.own 2, Blk.cell j.own 3⟩

set_option maxHeartbeats 8000000 in
set_option maxRecDepth 10000 in
theorem lexerWhole_any (s : ByteArray) (n : Nat) (ended : Bool) (w : World) (hs : s.size ≤ 9223372036854775807) (hn : n ≤ 255) :
    Calls Tryz.prog 3 #[.string s, .int .u8 (n : Nat), .bool ended] w fun e w' => e = .returned (.bool true) ∧ Below w.heap.size w w' := by
  have HC0 := Lib.hid (fun W => cut_any s 150 W hs)
  have hu := cutB_size s 150
  generalize cutB s 150 = u at *
  have HC : Hid (∀ W, Calls Tryz.prog 5 #[.string s, .int .i64 150] W fun e w' => e = .returned (.string u) ∧ W = w') := HC0
  have hz4 := Tryz.zeroJudged
  have HL := Lib.hid xlives_any
  obtain ⟨m, hm⟩ : ∃ m, m = min n 200 := ⟨_, rfl⟩
  have HX := Lib.hid (fun W => xwhole_any u n ended W (by omega))
  have HR := Lib.hid (fun W => rwhole29_any u m ended W (by omega) (by omega))
  rw [← hm] at HX
  obtain ⟨v, r, a, hj⟩ := jdg_form (whoV m u ended)
  rw [hj] at HX HR
  obtain ⟨mi, hmi⟩ : ∃ mi : Int, mi = (m : Nat) := ⟨_, rfl⟩
  rw [← hmi] at HR
  have hc : (decide ((200 : Int) < (n : Int)) = true ∧ mi = 200) ∨ (decide ((200 : Int) < (n : Int)) = false ∧ mi = (n : Int)) := by
    by_cases h : 200 < n
    · exact Or.inl ⟨by rw [decide_eq_true_iff]; omega, by omega⟩
    · exact Or.inr ⟨by rw [decide_eq_false_iff_not]; omega, by omega⟩
  clear HC0 hj hm hmi
  rcases hc with ⟨c1, rfl⟩ | ⟨c1, rfl⟩
  all_goals
    go_enter Tryz.func3, Tryz.ntmps3
    go_wp2_with (first
      | (go_at_call 5; (with_reducible refine (HC.out _).mono ?_); rintro e w1 ⟨rfl, rfl⟩)
      | (go_at_call 6; (with_reducible refine (HX.out _).mono ?_); rintro e w2 ⟨rfl, hb⟩
         have HJ := Lib.hid (show JdW w w2.heap.size v r a (w2.alloc (.cells #[.int .i64 v, .string r, .int .i64 a, .bool false] 24)) from ⟨hb.alloc hb.size _, Blk.new _ _ _⟩)
         obtain ⟨d0, d1, d2, d3⟩ := HJ.out.keep
         clear hb))
    go_region_held2 (fun w' => w'.cell? ⟨w2.heap.size, 0, none⟩ = some (.int .i64 v) ∧ w'.cell? ⟨w2.heap.size, 1, none⟩ = some (.string r) ∧ w'.cell? ⟨w2.heap.size, 2, none⟩ = some (.int .i64 a) ∧ w'.cell? ⟨w2.heap.size, 3, none⟩ = some (.bool false))
      (first | with_reducible exact HJ.out.keep | with_reducible exact HJ.out.drew.keep | go_keep)
      (first
        | (go_at_call 7; (with_reducible refine (HR.out _).mono ?_); rintro e w3 ⟨rfl, b1⟩
           have HJ := Lib.hid (show JdW w w2.heap.size v r a w3 from by first | exact HJ.out.to b1 | exact HJ.out.drew.to b1)
           clear b1)
        | (go_at_call 8; (with_reducible refine (HL.out _).mono ?_); rintro e w3 ⟨rfl, b1⟩
           have HJ := Lib.hid (show JdW w w2.heap.size v r a w3 from by first | exact HJ.out.to b1 | exact HJ.out.drew.to b1)
           clear b1))
    all_goals
      go_wp2
      go_ret
      exact ⟨rfl, HJ.out.below⟩
end Go.Proofs.YtbojbkpplejdmaaGreat
