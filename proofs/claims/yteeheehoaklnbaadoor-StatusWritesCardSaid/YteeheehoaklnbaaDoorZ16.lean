/-
  The law StatusWrites. Condition: the library's table of powers of ten is laid.
  From a walk to a law's statement: where a call returns true, and nothing older has turned, the row's post holds. Conditions: those of the lemma's hypotheses.
  An argument that is a status, opened. No condition.
-/
import Derived.Test.YteeheehoaklnbaaDoorZ13
import Derived.Test.YteeheehoaklnbaaDoorZ15
import Derived.Deep.Cut
import Derived.Test.YteeheehoaklnbaaDoorRows
import Derived.ProofKit
import Derived.WideKeyArgs
import Derived.Carry
import Derived.Lib.SmallJoins
import Derived.Test.YteeheehoaklnbaaDoorZ8
import Derived.Deep.Slices
import Derived.ChangeMaps5
import Derived.OpenShut
namespace Go.Proofs.YteeheehoaklnbaaDoor
open Go.RowKit

set_option maxRecDepth 100000 in
set_option maxHeartbeats 8000000 in
theorem swrites_walk (a b c : Int) (r0 r S T : ByteArray) (g : Bool) (w : World)
    (HC : Hid (∀ W, Calls Tryd.prog 4 #[.string r0, .int .i64 60] W fun e w' => e = .returned (.string r) ∧ W = w'))
    (HT : Hid (∀ W, Below w.heap.size w W → Calls Tryd.prog 5 #[stV a b c r] W fun e w' => e = .returned (.string S) ∧ Below W.heap.size W w'))
    (HG : Hid (∀ W, Calls Tryd.prog 6 #[stV a b c r] W fun e w' => e = .returned (.bool g) ∧ Below W.heap.size W w'))
    (HRG : Hid (∀ W, Calls Tryd.prog 7 #[stV a b c r] W fun e w' => e = .returned (.bool g) ∧ Below W.heap.size W w'))
    (HN : Hid (g = false → S = ⟨#[]⟩)) (HY : Hid (g = true → S = T))
    (HRT : Hid (g = true → ∀ W, Calls Tryd.prog 10 #[stV a b c r] W fun e w' => e = .returned (.string T) ∧ Below W.heap.size W w'))
    (HL : Hid (g = true → ∀ W, Calls Tryd.prog 9 #[.string T] W fun e w' => e = .returned (.tuple #[stV a b c r, .int .i64 0]) ∧ Below W.heap.size W w')) :
    Calls Tryd.prog 3 #[stV a b c r0] w fun e w' => e = .returned (.bool true) ∧ Below w.heap.size w w' := by
  have HLV := Lib.hid lives25_any
  obtain ⟨w0, hw0⟩ : ∃ w0, w0 = w.alloc (stC a b c r) := ⟨_, rfl⟩
  have HB := Lib.hid (show Below w.heap.size w w0 from by rw [hw0]; exact (Below.refl w.heap.size w).alloc (Nat.le_refl _) _)
  have HK := Lib.hid (show Blk w0 w.heap.size 23 #[.int .i64 a, .int .i64 b, .int .i64 c, .string r] from by rw [hw0]; exact Blk.new w _ _)
  cases g
  · obtain rfl := HN.out rfl
    clear HN HY HRT HL
    go_enter Tryd.func3, Tryd.ntmps3
    go_wp2_with (go_at_call 4; (with_reducible refine (HC.out _).mono ?_); rintro e w1 ⟨rfl, rfl⟩)
    rw [← hw0]
    clear hw0
    refine (HT.out _ HB.out).mono ?_
    rintro e w1 ⟨rfl, b1⟩
    replace HB := Lib.hid (below_on HB.out b1)
    replace HK := Lib.hid (HK.out.below b1 HK.out.lt)
    clear b1
    obtain ⟨c0, c1, c2, c3⟩ := stat_keep HK.out
    go_wp2_with fail
    go_region_held2 (fun w' => w'.cell? ⟨w.heap.size, 0, none⟩ = some (.int .i64 a) ∧ w'.cell? ⟨w.heap.size, 1, none⟩ = some (.int .i64 b) ∧ w'.cell? ⟨w.heap.size, 2, none⟩ = some (.int .i64 c) ∧ w'.cell? ⟨w.heap.size, 3, none⟩ = some (.string r))
      (first | with_reducible exact stat_keep HK.out | with_reducible exact stat_keep HK.out.drew | go_keep)
      (first
        | (go_at_call 6; (with_reducible refine (HG.out _).mono ?_); rintro e w2 ⟨rfl, b2⟩
           have HK := Lib.hid (show Blk w2 w.heap.size _ _ from by first | exact HK.out.below b2 HK.out.lt | exact HK.out.drew.below b2 HK.out.lt)
           have HB := Lib.hid (show Below w.heap.size w w2 from by first | exact below_on HB.out b2 | exact below_on HB.out.drew b2)
           clear b2)
        | (go_at_call 7; (with_reducible refine (HRG.out _).mono ?_); rintro e w3 ⟨rfl, b2⟩
           have HK := Lib.hid (show Blk w3 w.heap.size _ _ from by first | exact HK.out.below b2 HK.out.lt | exact HK.out.drew.below b2 HK.out.lt)
           have HB := Lib.hid (show Below w.heap.size w w3 from by first | exact below_on HB.out b2 | exact below_on HB.out.drew b2)
           clear b2))
    all_goals
      clear c0 c1 c2 c3
      obtain ⟨c0, c1, c2, c3⟩ := stat_keep HK.out
      go_wp2_with fail
      refine (HRG.out _).mono ?_
      rintro e w4 ⟨rfl, b1⟩
      replace HB := Lib.hid (below_on HB.out b1)
      replace HK := Lib.hid (HK.out.below b1 HK.out.lt)
      clear b1 c0 c1 c2 c3
      obtain ⟨c0, c1, c2, c3⟩ := stat_keep HK.out
      go_wp2_with fail
      refine (HLV.out _).mono ?_
      rintro e w9 ⟨rfl, b1⟩
      replace HB := Lib.hid (below_on HB.out b1)
      clear b1
      go_wp2
      go_ret
      exact ⟨rfl, HB.out⟩
  · obtain rfl := HY.out rfl
    replace HRT := Lib.hid (HRT.out rfl)
    replace HL := Lib.hid (HL.out rfl)
    clear HN HY
    go_enter Tryd.func3, Tryd.ntmps3
    go_wp2_with (go_at_call 4; (with_reducible refine (HC.out _).mono ?_); rintro e w1 ⟨rfl, rfl⟩)
    rw [← hw0]
    clear hw0
    refine (HT.out _ HB.out).mono ?_
    rintro e w1 ⟨rfl, b1⟩
    replace HB := Lib.hid (below_on HB.out b1)
    replace HK := Lib.hid (HK.out.below b1 HK.out.lt)
    clear b1
    obtain ⟨c0, c1, c2, c3⟩ := stat_keep HK.out
    go_wp2_with fail
    go_region_held2 (fun w' => w'.cell? ⟨w.heap.size, 0, none⟩ = some (.int .i64 a) ∧ w'.cell? ⟨w.heap.size, 1, none⟩ = some (.int .i64 b) ∧ w'.cell? ⟨w.heap.size, 2, none⟩ = some (.int .i64 c) ∧ w'.cell? ⟨w.heap.size, 3, none⟩ = some (.string r))
      (first | with_reducible exact stat_keep HK.out | with_reducible exact stat_keep HK.out.drew | go_keep)
      (first
        | (go_at_call 6; (with_reducible refine (HG.out _).mono ?_); rintro e w2 ⟨rfl, b2⟩
           have HK := Lib.hid (show Blk w2 w.heap.size _ _ from by first | exact HK.out.below b2 HK.out.lt | exact HK.out.drew.below b2 HK.out.lt)
           have HB := Lib.hid (show Below w.heap.size w w2 from by first | exact below_on HB.out b2 | exact below_on HB.out.drew b2)
           clear b2)
        | (go_at_call 7; (with_reducible refine (HRG.out _).mono ?_); rintro e w3 ⟨rfl, b2⟩
           have HK := Lib.hid (show Blk w3 w.heap.size _ _ from by first | exact HK.out.below b2 HK.out.lt | exact HK.out.drew.below b2 HK.out.lt)
           have HB := Lib.hid (show Below w.heap.size w w3 from by first | exact below_on HB.out b2 | exact below_on HB.out.drew b2)
           clear b2))
    all_goals
      clear c0 c1 c2 c3
      obtain ⟨c0, c1, c2, c3⟩ := stat_keep HK.out
      go_wp2_with fail
      refine (HRG.out _).mono ?_
      rintro e w4 ⟨rfl, b1⟩
      replace HB := Lib.hid (below_on HB.out b1)
      replace HK := Lib.hid (HK.out.below b1 HK.out.lt)
      clear b1 c0 c1 c2 c3
      obtain ⟨c0, c1, c2, c3⟩ := stat_keep HK.out
      go_wp2_with fail
      refine (HRT.out _).mono ?_
      rintro e w5 ⟨rfl, b1⟩
      replace HB := Lib.hid (below_on HB.out b1)
      replace HK := Lib.hid (HK.out.below b1 HK.out.lt)
      clear b1 c0 c1 c2 c3
      obtain ⟨c0, c1, c2, c3⟩ := stat_keep HK.out
      go_wp2_with fail
      refine (HL.out _).mono ?_
      rintro e w6 ⟨rfl, b1⟩
      obtain ⟨w7, hw7⟩ : ∃ w7, w7 = w6.alloc (stC a b c r) := ⟨_, rfl⟩
      replace b1 : Below w5.heap.size w5 w7 := by rw [hw7]; exact b1.alloc b1.size _
      have HY := Lib.hid (show Blk w7 w6.heap.size 23 #[.int .i64 a, .int .i64 b, .int .i64 c, .string r] from by rw [hw7]; exact Blk.new w6 _ _)
      replace HB := Lib.hid (below_on HB.out b1)
      replace HK := Lib.hid (HK.out.below b1 HK.out.lt)
      clear b1 c0 c1 c2 c3
      obtain ⟨c0, c1, c2, c3⟩ := stat_keep HK.out
      go_upto_region 8 with fail
      rw [← hw7]
      clear hw7
      go_wp2_with fail
      refine (HRT.out _).mono ?_
      rintro e w8 ⟨rfl, b1⟩
      replace HY := Lib.hid (HY.out.below b1 HY.out.lt)
      replace HB := Lib.hid (below_on HB.out b1)
      replace HK := Lib.hid (HK.out.below b1 HK.out.lt)
      clear b1 c0 c1 c2 c3
      obtain ⟨c0, c1, c2, c3⟩ := stat_keep HK.out
      obtain ⟨y0, y1, y2, y3⟩ := stat_keep HY.out
      go_wp2_with fail
      refine (HLV.out _).mono ?_
      rintro e w9 ⟨rfl, b1⟩
      replace HB := Lib.hid (below_on HB.out b1)
      clear b1
      go_wp2
      go_ret
      exact ⟨rfl, HB.out⟩

theorem swrites_any (a b c : Int) (r0 : ByteArray) (w : World) (hs : r0.size ≤ 9223372036854775807) (ht : PowTab w) :
    Calls Tryd.prog 3 #[stV a b c r0] w fun e w' => e = .returned (.bool true) ∧ Below w.heap.size w w' := by
  have hx : (cutB r0 60).size ≤ 60 := cutB_size r0 60
  have HC := fun W => cut_any r0 60 W hs
  generalize cutB r0 60 = r at *
  have HT := fun W (hW : Below w.heap.size w W) => text25_any a b c r W (by omega) (ht.stays hW)
  have HG := fun W => sgood_any a b c r W (by omega)
  have HRG := fun W => rgood25_any a b c r W (by omega)
  cases hg : stgQ a b c r
  · rw [hg] at HT HG HRG
    exact swrites_walk a b c r0 r ⟨#[]⟩ ⟨#[]⟩ false w (Lib.hid HC) (Lib.hid HT) (Lib.hid HG) (Lib.hid HRG) (Lib.hid fun _ => rfl) (Lib.hid fun h => by cases h) (Lib.hid fun h => by cases h) (Lib.hid fun h => by cases h)
  · rw [hg] at HT HG HRG
    have HL := fun W => sline_any (texG a b c r) W (by have := texG_size hg; omega)
    rw [lineV_ok (tex_line hg)] at HL
    exact swrites_walk a b c r0 r (texG a b c r) (texG a b c r) true w (Lib.hid HC) (Lib.hid HT) (Lib.hid HG) (Lib.hid HRG) (Lib.hid fun h => by cases h) (Lib.hid fun _ => rfl) (Lib.hid fun _ W => rtext25_any a b c r W (by omega) hg) (Lib.hid fun _ => HL)

end Go.Proofs.YteeheehoaklnbaaDoor
namespace Go.Proofs.YteeheehoaklnbaaDoor
open Go.ChangeShapes Go.WideShapes Go.ChangeAt Go.RowKit Go.Joins

theorem trodAll_len {H : Type} {enc : TypeId × Value → H} {P : Program} {w : World} {base : Nat} {spare : Nat → Bool} {held : Bool} :
    ∀ (ts : List TypeId) (vs : List Value) (ds : List (DataW H)) (ps : List MemPlace), DataW.TrodAll enc P w base spare held ts vs ds ps → ds.length = ts.length
  | [], [], [], _, _ => rfl
  | _ :: ts, _ :: vs, _ :: ds, _, h => by
    obtain ⟨p, q, _, h2, _⟩ := h
    simpa using trodAll_len ts vs ds q h2
  | [], _ :: _, _, _, h => by cases h
  | [], [], _ :: _, _, h => by cases h
  | _ :: _, [], _, _, h => by cases h
  | _ :: _, _ :: _, [], _, h => by cases h

theorem trodAll_below {H : Type} {enc : TypeId × Value → H} {P : Program} (hl : laidOutB P = true) {W W' : World} (hb : Below W.heap.size W W') :
    ∀ (ts : List TypeId) (vs : List Value) (ds : List (DataW H)) (ps : List MemPlace), DataW.TrodAll enc P W 0 (fun _ => true) true ts vs ds ps →
      (∀ t ∈ ts, P.readableRec t = true ∧ t < P.types.size) → (∀ x ∈ ps, x.block < W.heap.size) →
      DataW.TrodAll enc P W' 0 (fun b => decide (b < W.heap.size)) true ts vs ds ps
  | [], [], [], _, h, _, _ => h
  | t :: ts, v :: vs, d :: ds, ps, h, hr, hlt => by
    obtain ⟨p, q, h1, h2, rfl⟩ := h
    exact ⟨p, q, Below.trod hl (hr t (by simp)).1 (hr t (by simp)).2 h1 hb (fun x hx => hlt x (by simp [hx])),
      trodAll_below hl hb ts vs ds q h2 (fun t ht => hr t (by simp [ht])) (fun x hx => hlt x (by simp [hx])), rfl⟩
  | [], _ :: _, _, _, h, _, _ => by cases h
  | [], [], _ :: _, _, h, _, _ => by cases h
  | _ :: _, [], _, _, h, _, _ => by cases h
  | _ :: _, _ :: _, [], _, h, _, _ => by cases h

/-- A number that can be read as a byte is one's. -/
theorem byte_of {n : Int} (h : (Lit.int .u8 n).wf = true) : ∃ b : UInt8, n = (b.toNat : Int) := by
  have h' : 0 ≤ n ∧ n < 256 := by
    have e1 : IntKind.u8.min = 0 := by kernel_rfl
    have e2 : IntKind.u8.max = 255 := by kernel_rfl
    simp [Lit.wf, e1, e2] at h
    omega
  refine ⟨UInt8.ofNat n.toNat, ?_⟩
  rw [UInt8.toNat_ofNat']
  omega

theorem Tryd.own : ownKnob Tryd.prog.godebug = none := by kernel_rfl
theorem Tryd.laidOut : laidOutB Tryd.prog = true := by kernel_rfl

end Go.Proofs.YteeheehoaklnbaaDoor
namespace Go.Proofs.YteeheehoaklnbaaDoor
open Go.ChangeShapes Go.WideShapes Go.ChangeAt Go.RowKit Go.Joins Go.Deep

theorem Tryd.cellsStat : Tryd.prog.cellsOf 23 = 4 := by kernel_rfl
theorem Tryd.cellsInt25 : Tryd.prog.cellsOf 3 = 1 := by kernel_rfl
theorem Tryd.cellsStr25 : Tryd.prog.cellsOf 9 = 1 := by kernel_rfl
theorem array4 {α : Type} {xs : Array α} (h : xs.size = 4) : ∃ a b c d, xs = #[a, b, c, d] := by
  obtain ⟨l⟩ := xs
  match l, h with
  | [a, b, c, d], _ => exact ⟨a, b, c, d, rfl⟩
theorem open_int25 {H : Type} {enc : TypeId × Value → H} {W : World} {base : Nat} {spare : Nat → Bool} {held : Bool} {n : Nat} {v : Value} {y : DataW H × List MemPlace}
    (h : DataW.trod enc Tryd.prog W base spare held n 3 [v] = some y) : ∃ k : Int, v = .int .i64 k := by
  obtain ⟨k0, e0, _, _⟩ := DataW.trod_int Tryd.underlying3 h
  exact ⟨k0, by simpa using e0⟩
theorem open_str25 {H : Type} {enc : TypeId × Value → H} {W : World} {base : Nat} {spare : Nat → Bool} {held : Bool} {n : Nat} {v : Value} {y : DataW H × List MemPlace}
    (h : DataW.trod enc Tryd.prog W base spare held n 9 [v] = some y) : ∃ s : ByteArray, v = .string s ∧ s.size ≤ 9223372036854775807 := by
  obtain ⟨s, e, _, hs⟩ := DataW.trod_string Tryd.underlying9 h
  unfold maxLen at hs
  exact ⟨s, by simpa using e, hs⟩
theorem open_stat {H : Type} {enc : TypeId × Value → H} {W : World} {base : Nat} {v : Value} {d : DataW H} {p : List MemPlace}
    (hv : Value.okWide Tryd.prog W .any base 23 v) (h : DataW.Trod enc Tryd.prog W 0 (fun _ => true) true 23 v d p) : ∃ (a b c : Int) (r : ByteArray), v = stV a b c r ∧ r.size ≤ 9223372036854775807 := by
  obtain ⟨cs, rfl, hsz⟩ := okWide_struct Tryd.underlying23 hv
  obtain ⟨c0, c1, c2, c3, rfl⟩ := array4 (hsz.trans Tryd.cellsStat)
  obtain ⟨fuel, hf⟩ := h
  obtain ⟨y0, y1, y2, y3, k, _, _, h0, h1, h2, h3⟩ := trod_struct4 Tryd.underlying23 hf
  simp [Value.cells, Tryd.cellsInt25, Tryd.cellsStr25] at h0 h1 h2 h3
  obtain ⟨a, rfl⟩ := open_int25 h0
  obtain ⟨b, rfl⟩ := open_int25 h1
  obtain ⟨c, rfl⟩ := open_int25 h2
  obtain ⟨r, rfl, hr⟩ := open_str25 h3
  exact ⟨a, b, c, r, rfl, hr⟩

end Go.Proofs.YteeheehoaklnbaaDoor
