/-
  The laws Mp3Heads and Mp3Sizes. Condition: what an argument's reading gives.
-/
import Derived.Test.YtmjkolkmpnadpaaPp
import Derived.Test.YtmjkolkmpnadpaaCut
namespace Go.Proofs.Ytmjkolkmpnadpaa
open Go.RowKit

abbrev liveS : ByteArray := ⟨#[255, 251, 144, 100]⟩
set_option maxHeartbeats 1000000 in
theorem lives18_any (w : World) :
    Calls Try.prog 13 #[] w fun e w' => e = .returned (.bool true) ∧ Below w.heap.size w w' := by
  have HH := Lib.hid (fun W => mhead_any liveS W (by decide))
  rw [show hdF liveS = ⟨3, 3, 128000, 44100, false⟩ from by kernel_rfl, show hdO liveS = true from by kernel_rfl] at HH
  have HS := Lib.hid (fun W => size_any ⟨3, 3, 128000, 44100, false⟩ W)
  rw [show szF ⟨3, 3, 128000, 44100, false⟩ = 417 from by kernel_rfl] at HS
  go_enter Try.func13, Try.ntmps13
  go_wp2_with (first
    | (go_at_call 8; (with_reducible refine (HH.out _).mono ?_); rintro e w1 ⟨rfl, hb⟩; have HB1 := Lib.hid (hb.alloc hb.size (.cells #[.int .i64 3, .int .i64 3, .int .i64 128000, .int .i64 44100, .bool false] 24)); clear hb)
    | (go_at_call 11; (with_reducible refine (HS.out _).mono ?_); rintro e w2 ⟨rfl, hb⟩; have HB2 := Lib.hid (HB1.out.trans (hb.mono HB1.out.size)); clear hb))
  go_ret
  exact ⟨rfl, HB2.out⟩

/-- A world that came of w, in which a frame lies in two blocks. -/
def TwoAt (w : World) (g h : Nat) (f : Frm) (W : World) : Prop := Below w.heap.size w W ∧ Blk W g 24 (frmC5 f) ∧ Blk W h 24 (frmC5 f)
theorem TwoAt.drew {w W : World} {g h : Nat} {f : Frm} (k : TwoAt w g h f W) : TwoAt w g h f W.drew := ⟨k.1.drew, k.2.1, k.2.2⟩
theorem TwoAt.step {w W W' : World} {g h : Nat} {f : Frm} (k : TwoAt w g h f W) (hb : Below W.heap.size W W') : TwoAt w g h f W' := ⟨k.1.trans (hb.mono k.1.size), k.2.1.below hb k.2.1.lt, k.2.2.below hb k.2.2.lt⟩
theorem TwoAt.next {w : World} {g h : Nat} {f : Frm} {x : Wld (TwoAt w g h f)} {W' : World} (hb : Below x.val.heap.size x.val W') : TwoAt w g h f W' := x.ok.step hb

set_option maxHeartbeats 4000000 in
set_option maxRecDepth 100000 in
theorem mp3Heads_any (s : ByteArray) (w : World) (hs : s.size ≤ 9223372036854775807) :
    Calls Try.prog 3 #[.string s] w fun e w' => e = .returned (.bool true) ∧ Below w.heap.size w w' := by
  have HCS : Hid (∀ W, Calls Try.prog 7 #[.string s, .int .i64 20] W fun e w' => e = .returned (.string (cutB s 20)) ∧ W = w') := Lib.hid fun W => cut_any s 20 W hs
  have hu := cutB_size s 20
  generalize cutB s 20 = u at *
  have HMH := Lib.hid (fun W => mhead_any u W (by omega))
  have HRH := Lib.hid (fun W => rhead_any u W (by omega))
  have HG := Lib.hid (fun W => good_any (hdF u) W)
  rw [hdF_good] at HG
  have HS := Lib.hid (fun W => size_any (hdF u) W)
  have HR := Lib.hid (fun W => rsize_any (hdF u) W)
  have HLV := Lib.hid lives18_any
  have hp := freq_pos u
  generalize szF (hdF u) = n at *
  generalize hdF u = f at *
  generalize hdO u = o at *
  obtain ⟨v, l, r, q, p⟩ := f
  have hq : decide (0 < q) = o := hp
  clear hp
  go_enter Try.func3, Try.ntmps3
  go_wp2_with (first
    | (go_at_call 7; (with_reducible refine (HCS.out _).mono ?_); rintro e w1 ⟨rfl, rfl⟩)
    | (go_at_call 8; (with_reducible refine (HMH.out _).mono ?_); rintro e w1 ⟨rfl, hb⟩; have HB1 := Lib.hid hb; clear hb))
  refine (HRH.out _).mono ?_
  rintro e w2 ⟨rfl, hb⟩
  have hw2 : w1.heap.size < w2.heap.size := Nat.lt_of_lt_of_le (by simp) hb.size
  have HB2 := Lib.hid (HB1.out.trans ((((Below.refl w1.heap.size w1).alloc (Nat.le_refl _) _).trans (hb.mono (by simp))).mono HB1.out.size))
  have HK2 := Lib.hid ((Blk.new w1 _ _).below hb (Blk.new w1 _ _).lt)
  clear hb
  have hX : TwoAt w w1.heap.size w2.heap.size ⟨v, l, r, q, p⟩ (w2.alloc (.cells (frmC5 ⟨v, l, r, q, p⟩) 24)) := ⟨HB2.out.alloc HB2.out.size _, HK2.out.alloc _, Blk.new w2 _ _⟩
  go_upto_region 4 with fail
  have a0 : ∀ x : Wld (TwoAt w w1.heap.size w2.heap.size ⟨v, l, r, q, p⟩), x.val.cell? ⟨w1.heap.size, 0, none⟩ = some (.int .i64 v) := fun x => x.ok.2.1.cell 0
  have a1 : ∀ x : Wld (TwoAt w w1.heap.size w2.heap.size ⟨v, l, r, q, p⟩), x.val.cell? ⟨w1.heap.size, 1, none⟩ = some (.int .i64 l) := fun x => x.ok.2.1.cell 1
  have a2 : ∀ x : Wld (TwoAt w w1.heap.size w2.heap.size ⟨v, l, r, q, p⟩), x.val.cell? ⟨w1.heap.size, 2, none⟩ = some (.int .i64 r) := fun x => x.ok.2.1.cell 2
  have a3 : ∀ x : Wld (TwoAt w w1.heap.size w2.heap.size ⟨v, l, r, q, p⟩), x.val.cell? ⟨w1.heap.size, 3, none⟩ = some (.int .i64 q) := fun x => x.ok.2.1.cell 3
  have a4 : ∀ x : Wld (TwoAt w w1.heap.size w2.heap.size ⟨v, l, r, q, p⟩), x.val.cell? ⟨w1.heap.size, 4, none⟩ = some (.bool p) := fun x => x.ok.2.1.cell 4
  have b0 : ∀ x : Wld (TwoAt w w1.heap.size w2.heap.size ⟨v, l, r, q, p⟩), x.val.cell? ⟨w2.heap.size, 0, none⟩ = some (.int .i64 v) := fun x => x.ok.2.2.cell 0
  have b1 : ∀ x : Wld (TwoAt w w1.heap.size w2.heap.size ⟨v, l, r, q, p⟩), x.val.cell? ⟨w2.heap.size, 1, none⟩ = some (.int .i64 l) := fun x => x.ok.2.2.cell 1
  have b2 : ∀ x : Wld (TwoAt w w1.heap.size w2.heap.size ⟨v, l, r, q, p⟩), x.val.cell? ⟨w2.heap.size, 2, none⟩ = some (.int .i64 r) := fun x => x.ok.2.2.cell 2
  have b3 : ∀ x : Wld (TwoAt w w1.heap.size w2.heap.size ⟨v, l, r, q, p⟩), x.val.cell? ⟨w2.heap.size, 3, none⟩ = some (.int .i64 q) := fun x => x.ok.2.2.cell 3
  have b4 : ∀ x : Wld (TwoAt w w1.heap.size w2.heap.size ⟨v, l, r, q, p⟩), x.val.cell? ⟨w2.heap.size, 4, none⟩ = some (.bool p) := fun x => x.ok.2.2.cell 4
  have HX := Lib.hid hX
  clear hX
  have inst : Nonempty (Wld (TwoAt w w1.heap.size w2.heap.size ⟨v, l, r, q, p⟩)) := ⟨⟨_, HX.out⟩⟩
  refine wp_region_class (TwoAt w w1.heap.size w2.heap.size ⟨v, l, r, q, p⟩) (by kernel_rfl) (by kernel_rfl) HX.out.drew ?_
  repeat (go_big_quiet_step (first
    | (go_at_call 10; with_reducible exact Calls.cls (HG.out _) fun _ h => TwoAt.next h)
    | (go_at_call 11; with_reducible exact Calls.cls (HS.out _) fun _ h => TwoAt.next h)
    | (go_at_call 12; with_reducible exact Calls.cls (HR.out _) fun _ h => TwoAt.next h)
    | (go_at_call 13; with_reducible exact Calls.cls (HLV.out _) fun _ h => TwoAt.next h)))
  refine wpQuiet_nil ?_
  intro w3 h3
  have HX3 := Lib.hid h3
  clear h3
  go_wp2
  go_ret
  exact ⟨rfl, HX3.out.1⟩

set_option maxHeartbeats 4000000 in
set_option maxRecDepth 100000 in
theorem mp3Sizes_any (v l r q : Int) (p : Bool) (w : World) :
    Calls Try.prog 4 #[frmV ⟨v, l, r, q, p⟩] w fun e w' => e = .returned (.bool true) ∧ Below w.heap.size w w' := by
  have HG := Lib.hid (fun W => good_any ⟨v, l, r, q, p⟩ W)
  have HD := Lib.hid (fun W => rgood_any ⟨v, l, r, q, p⟩ W)
  have HS := Lib.hid (fun W => size_any ⟨v, l, r, q, p⟩ W)
  have HR := Lib.hid (fun W => rsize_any ⟨v, l, r, q, p⟩ W)
  have HLV := Lib.hid lives18_any
  generalize szF ⟨v, l, r, q, p⟩ = n at *
  generalize gdB ⟨v, l, r, q, p⟩ = o at *
  have HX := Lib.hid (FrmAt.new w ⟨v, l, r, q, p⟩)
  have f0 : ∀ x : Wld (FrmAt w w.heap.size ⟨v, l, r, q, p⟩), x.val.cell? ⟨w.heap.size, 0, none⟩ = some (.int .i64 v) := fun x => x.ok.2.cell 0
  have f1 : ∀ x : Wld (FrmAt w w.heap.size ⟨v, l, r, q, p⟩), x.val.cell? ⟨w.heap.size, 1, none⟩ = some (.int .i64 l) := fun x => x.ok.2.cell 1
  have f2 : ∀ x : Wld (FrmAt w w.heap.size ⟨v, l, r, q, p⟩), x.val.cell? ⟨w.heap.size, 2, none⟩ = some (.int .i64 r) := fun x => x.ok.2.cell 2
  have f3 : ∀ x : Wld (FrmAt w w.heap.size ⟨v, l, r, q, p⟩), x.val.cell? ⟨w.heap.size, 3, none⟩ = some (.int .i64 q) := fun x => x.ok.2.cell 3
  have f4 : ∀ x : Wld (FrmAt w w.heap.size ⟨v, l, r, q, p⟩), x.val.cell? ⟨w.heap.size, 4, none⟩ = some (.bool p) := fun x => x.ok.2.cell 4
  have inst : Nonempty (Wld (FrmAt w w.heap.size ⟨v, l, r, q, p⟩)) := ⟨⟨_, HX.out⟩⟩
  go_enter Try.func4, Try.ntmps4
  go_wp2
  refine wp_region_class (FrmAt w w.heap.size ⟨v, l, r, q, p⟩) (by kernel_rfl) (by kernel_rfl) HX.out.drew ?_
  repeat (go_big_quiet_step (first
    | (go_at_call 10; with_reducible exact Calls.cls (HG.out _) fun _ h => FrmAt.next h)
    | (go_at_call 14; with_reducible exact Calls.cls (HD.out _) fun _ h => FrmAt.next h)
    | (go_at_call 11; with_reducible exact Calls.cls (HS.out _) fun _ h => FrmAt.next h)
    | (go_at_call 12; with_reducible exact Calls.cls (HR.out _) fun _ h => FrmAt.next h)
    | (go_at_call 13; with_reducible exact Calls.cls (HLV.out _) fun _ h => FrmAt.next h)))
  refine wpQuiet_nil ?_
  intro w3 h3
  have HX3 := Lib.hid h3
  clear h3
  go_wp2
  go_ret
  exact ⟨rfl, HX3.out.1⟩

end Go.Proofs.Ytmjkolkmpnadpaa
