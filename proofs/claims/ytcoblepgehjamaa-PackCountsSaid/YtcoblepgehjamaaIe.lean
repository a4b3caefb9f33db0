/-
  What Type, Needs, Most and Same of the document's own answer of a table of patterns. Conditions: texts are as long as a length can be; the slice lies in a block of its own; the patterns are good.
-/
import Derived.Test.YtcoblepgehjamaaIa
import Derived.Test.YtcoblepgehjamaaMk7
import Derived.Test.YtcoblepgehjamaaMv
import Derived.BigQuiet
import Derived.Deep.QuietTactic
import Derived.OwnWalk
import Derived.LoopTactic
namespace Go.Proofs.Ytcoblepgehjamaa
open Go.RowKit

set_option maxHeartbeats 400000 in
theorem rType_any (g n c : Nat) (s : ByteArray) (ps : Nat → Pat) (r : Int) (w : World) (hp : PatsIn w g ps n) (hok : ∀ i, i < n → (ps i).ok) (hs : s.size ≤ 9223372036854775807) (hn : n ≤ 9223372036854775807) (hr : IsFirst s ps n r) :
    Calls Try.prog 8 #[.string s, .slice (some ⟨g, 0, none⟩) n c] w fun e w' => e = .returned (.string (typeOf ps r)) ∧ Below w.heap.size w w' := by
  have HC := Lib.hid (refFirst_any g n c s ps r w hp hok hs hn hr)
  by_cases h : r < 0
  · have HT := Lib.hid (show typeOf ps r = ⟨#[]⟩ from if_pos h)
    clear hr
    go_enter Try.func8, Try.ntmps8
    go_wp2_with (go_at_call 21; refine HC.out.mono ?_; rintro e w1 ⟨rfl, hb1⟩; have HB1 := Lib.hid hb1; clear hb1)
    go_ret
    exact ⟨by rw [HT.out]; rfl, HB1.out⟩
  · obtain ⟨k, rfl, hk⟩ : ∃ k : Nat, r = (k : Int) ∧ k < n := by
      rcases hr with ⟨h1, _⟩ | ⟨k, h1, h2, _⟩
      · omega
      · exact ⟨k, h2, h1⟩
    have HT := Lib.hid (show typeOf ps k = (ps k).t from by unfold typeOf; rw [if_neg h]; rfl)
    have HP := Lib.hid hp
    clear h hr hp
    go_enter Try.func8, Try.ntmps8
    go_wp2_with (go_at_call 21; refine HC.out.mono ?_; rintro e w1 ⟨rfl, hb1⟩; have HB1 := Lib.hid hb1; have c3 := ((HP.out.below hb1 HP.out.1 (Nat.le_refl _)).2 k hk).2.2.2; clear hb1)
    go_ret
    exact ⟨by rw [HT.out]; rfl, HB1.out⟩

set_option maxHeartbeats 1000000 in
set_option maxRecDepth 100000 in
/-- Of two slices of the same patterns. -/
theorem rSame_any (g c h d n : Nat) (ps : Nat → Pat) (w : World) (hp : PatsIn w g ps n) (hq : PatsIn w h ps n) (hn : n ≤ 9223372036854775807) :
    Calls Try.prog 15 #[.slice (some ⟨g, 0, none⟩) n c, .slice (some ⟨h, 0, none⟩) n d] w fun e w' => e = .returned (.bool true) ∧ Below w.heap.size w w' := by
  have HP := Lib.hid hp
  have HQ := Lib.hid hq
  clear hp hq
  go_enter Try.func15, Try.ntmps15
  go_wp2
  go_loopw [5] (fun i wr => ∃ k : Nat, k ≤ n ∧ i = .int .i64 k ∧ ∃ d, wr = w.drewN d) (fun i _ => n - (intOf i).toNat)
  case atStart => exact ⟨0, by omega, rfl, 0, rfl⟩
  case round =>
    obtain ⟨k, hk, rfl, hw⟩ := hrel
    have HW := Lib.hid hw
    clear hw
    by_cases hlt : k < n
    · have HC := Lib.hid (HP.out.2 k hlt)
      have HD := Lib.hid (HQ.out.2 k hlt)
      have c0 : wr.cell? ⟨g, k * 4, none⟩ = some (.string (ps k).b) := by obtain ⟨d, rfl⟩ := HW.out; exact HC.out.1
      have c1 : wr.cell? ⟨g, k * 4 + 1, none⟩ = some (.string (ps k).m) := by obtain ⟨d, rfl⟩ := HW.out; exact HC.out.2.1
      have c2 : wr.cell? ⟨g, k * 4 + 2, none⟩ = some (.string (ps k).k) := by obtain ⟨d, rfl⟩ := HW.out; exact HC.out.2.2.1
      have c3 : wr.cell? ⟨g, k * 4 + 3, none⟩ = some (.string (ps k).t) := by obtain ⟨d, rfl⟩ := HW.out; exact HC.out.2.2.2
      have e0 : wr.cell? ⟨h, k * 4, none⟩ = some (.string (ps k).b) := by obtain ⟨d, rfl⟩ := HW.out; exact HD.out.1
      have e1 : wr.cell? ⟨h, k * 4 + 1, none⟩ = some (.string (ps k).m) := by obtain ⟨d, rfl⟩ := HW.out; exact HD.out.2.1
      have e2 : wr.cell? ⟨h, k * 4 + 2, none⟩ = some (.string (ps k).k) := by obtain ⟨d, rfl⟩ := HW.out; exact HD.out.2.2.1
      have e3 : wr.cell? ⟨h, k * 4 + 3, none⟩ = some (.string (ps k).t) := by obtain ⟨d, rfl⟩ := HW.out; exact HD.out.2.2.2
      go_wp2
      go_quiet (fail)
      go_wp2
      go_roundw
      case rel => exact ⟨k + 1, by omega, by go_num, by obtain ⟨d, hd⟩ := HW.out; rw [hd]; exact ⟨_, World.drewN_drewN _ _ _⟩⟩
      case measure => simp [intOf]; omega
    · obtain rfl : k = n := by omega
      go_wp2
      go_ret
      exact ⟨rfl, by obtain ⟨d, hd⟩ := HW.out; rw [hd]; exact Below.drewN' (Below.refl _ _) _⟩

end Go.Proofs.Ytcoblepgehjamaa

