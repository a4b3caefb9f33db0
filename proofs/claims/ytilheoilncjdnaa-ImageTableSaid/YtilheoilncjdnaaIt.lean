/-
  The law ImageTable. Condition: what an argument's reading gives.
-/
import Derived.Test.YtilheoilncjdnaaIl
namespace Go.Proofs.Ytilheoilncjdnaa
open Go.RowKit

/-- A world behind w in which a pattern lies in the block behind w's. -/
def PicAt (w : World) (cs : Array Value) (W : World) : Prop := Below w.heap.size w W ∧ Blk W w.heap.size 35 cs
theorem PicAt.drew {w W : World} {cs : Array Value} (h : PicAt w cs W) : PicAt w cs W.drew := ⟨h.1.drew, h.2⟩
theorem PicAt.next {w : World} {cs : Array Value} {x : Wld (PicAt w cs)} {W' : World} (hb : Below x.val.heap.size x.val W') : PicAt w cs W' := ⟨x.ok.1.trans (hb.mono x.ok.1.size), x.ok.2.below hb x.ok.2.lt⟩

set_option maxHeartbeats 4000000 in
set_option maxRecDepth 100000 in
theorem imageTable_any (i : Nat) (s : ByteArray) (w : World) (hi : i < 256) (hs : s.size ≤ 9223372036854775807) :
    Calls Try.prog 4 #[.int .u8 (i : Int), .string s] w fun e w' => e = .returned (.bool true) ∧ Below w.heap.size w w' := by
  have HCS : Hid (∀ W, Calls Try.prog 6 #[.string s, .int .i64 50] W fun e w' => e = .returned (.string (cutB s 50)) ∧ W = w') := Lib.hid fun W => cut_any s 50 W hs
  have hv := cutB_size s 50
  generalize cutB s 50 = v at *
  obtain ⟨j, hj⟩ : ∃ j, j = i % 8 := ⟨_, rfl⟩
  have hj8 : j < 8 := by omega
  have hij : (i : Int) % 8 = (j : Int) := by omega
  have hb14 := (img_small hj8).1
  have hm14 := (img_small hj8).2
  have hbv : ((imgP j).b ++ v).size ≤ 140737488351232 := by simp; omega
  have HT := Lib.hid (fun W => imgType_any ((imgP j).b ++ v) j W hbv (img_first hj8 v))
  rw [show typeOf imgP (j : Int) = (imgP j).t from by unfold typeOf; rw [if_neg (by omega)]; rfl] at HT
  have HG := Lib.hid (fun W => refGood_any (imgP j).b (imgP j).m (imgP j).k (imgP j).t W (by omega) (by omega))
  rw [img_good hj8] at HG
  have HSM := Lib.hid (fun W g h (hp : PatsIn W g imgP 8) (hq : PatsIn W h imgP 8) => rSame_any g 8 h 8 8 imgP W hp hq (by decide))
  have HMO := Lib.hid (fun W g (hp : PatsIn W g imgP 8) => rMost_any g 8 8 imgP W hp (fun i hi => img_ok hi) (by decide))
  rw [img_most] at HMO
  have HLV := Lib.hid lives13_any
  have HB := Lib.hid (Below.refl w.heap.size w)
  clear hj
  go_enter Try.func4, Try.ntmps4
  go_wp2_with (first
    | (go_at_call 15; refine (imgTable_any _).mono ?_; rintro e w1 ⟨g0, rfl, hg, hp, b1⟩; have HB := Lib.hid (HB.out.trans (b1.mono HB.out.size)); have HP0 := Lib.hid hp; clear b1 hp hg)
    | (go_at_call 6; (with_reducible refine (HCS.out _).mono ?_); rintro e w1 ⟨rfl, rfl⟩)
    | (go_at_call 16; (with_reducible refine (HSM.out _ _ _ HP0.out HP.out).mono ?_); rintro e w1 ⟨rfl, b1⟩; have HB := Lib.hid (HB.out.trans (b1.mono HB.out.size)); clear b1 HP)
    | (go_at_call 17; refine (imgMost_any _).mono ?_; rintro e w1 ⟨rfl, b1⟩; have HB := Lib.hid (HB.out.trans (b1.mono HB.out.size)); clear b1)
    | (go_at_call 18; (with_reducible refine (HMO.out _ _ HP.out).mono ?_); rintro e w1 ⟨rfl, rfl⟩; clear HP)
    | (go_at_call 8; refine (refTable_any _).mono ?_; rintro e w1 ⟨g, rfl, hg, hp, b1⟩; have HB := Lib.hid (HB.out.trans (b1.mono HB.out.size)); (try have HP0 := Lib.hid (HP0.out.below b1 HP0.out.1 (Nat.le_refl _))); (try obtain ⟨c0, c1, c2, c3⟩ := (HP.out.below b1 HP.out.1 (Nat.le_refl _)).2 j hj8); have HP := Lib.hid hp; clear b1 hp hg))
  have HX := Lib.hid (show PicAt w1 #[.string (imgP j).b, .string (imgP j).m, .string (imgP j).k, .string (imgP j).t] (w1.alloc (.cells #[.string (imgP j).b, .string (imgP j).m, .string (imgP j).k, .string (imgP j).t] 35)) from ⟨(Below.refl _ _).alloc (Nat.le_refl _) _, Blk.new _ _ _⟩)
  generalize w1.alloc (.cells #[.string (imgP j).b, .string (imgP j).m, .string (imgP j).k, .string (imgP j).t] 35) = w2 at *
  have f0 : ∀ x : Wld (PicAt w1 #[.string (imgP j).b, .string (imgP j).m, .string (imgP j).k, .string (imgP j).t]), x.val.cell? ⟨w1.heap.size, 0, none⟩ = some (.string (imgP j).b) := fun x => x.ok.2.cell 0
  have f1 : ∀ x : Wld (PicAt w1 #[.string (imgP j).b, .string (imgP j).m, .string (imgP j).k, .string (imgP j).t]), x.val.cell? ⟨w1.heap.size, 1, none⟩ = some (.string (imgP j).m) := fun x => x.ok.2.cell 1
  have f2 : ∀ x : Wld (PicAt w1 #[.string (imgP j).b, .string (imgP j).m, .string (imgP j).k, .string (imgP j).t]), x.val.cell? ⟨w1.heap.size, 2, none⟩ = some (.string (imgP j).k) := fun x => x.ok.2.cell 2
  have f3 : ∀ x : Wld (PicAt w1 #[.string (imgP j).b, .string (imgP j).m, .string (imgP j).k, .string (imgP j).t]), x.val.cell? ⟨w1.heap.size, 3, none⟩ = some (.string (imgP j).t) := fun x => x.ok.2.cell 3
  have inst : Nonempty (Wld (PicAt w1 #[.string (imgP j).b, .string (imgP j).m, .string (imgP j).k, .string (imgP j).t])) := ⟨⟨_, HX.out⟩⟩
  refine wp_region_class (PicAt w1 #[.string (imgP j).b, .string (imgP j).m, .string (imgP j).k, .string (imgP j).t]) (by kernel_rfl) (by kernel_rfl) HX.out.drew ?_
  repeat (go_big_quiet_step (first
    | (go_at_call 19; exact Calls.cls (HG.out _) fun _ h => PicAt.next h)
    | (go_at_call 10; exact Calls.cls (HT.out _) fun _ h => PicAt.next h)
    | (go_at_call 14; exact Calls.cls (HLV.out _) fun _ h => PicAt.next h)))
  refine wpQuiet_nil ?_
  intro w3 h3
  have HX3 := Lib.hid h3
  go_wp2
  go_ret
  exact ⟨rfl, HB.out.trans (HX3.out.1.mono HB.out.size)⟩

end Go.Proofs.Ytilheoilncjdnaa
