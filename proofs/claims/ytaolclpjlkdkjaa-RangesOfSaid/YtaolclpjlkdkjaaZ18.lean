/-
  The laws RangesReads and RangesFits. No condition.
  From a walk to a law's statement: where a call returns true, and nothing older has turned, the row's post holds. Conditions: those of the lemma's hypotheses.
  An argument that is a range, and one that is a part, opened. No condition.
-/
import Derived.Test.YtaolclpjlkdkjaaZ12
import Derived.Test.YtaolclpjlkdkjaaZ17
import Derived.Test.YtaolclpjlkdkjaaRows
import Derived.ProofKit
import Derived.WideKeyArgs
import Derived.Carry
import Derived.Lib.SmallJoins
import Derived.Test.YtaolclpjlkdkjaaZ9
import Derived.Deep.Slices
import Derived.ChangeMaps5
import Derived.OpenShut
namespace Go.Proofs.Ytaolclpjlkdkjaa
open Go.RowKit

theorem askV_some (o : Except (Nat × Int) (Int × Int)) : ∃ a b c, askV o = .returned (.tuple #[rngV a b, .int .i64 c]) := by
  cases o with
  | ok v => exact ⟨_, _, _, rfl⟩
  | error v => exact ⟨_, _, _, rfl⟩
theorem contV_some (o : Except (Nat × Int) (Int × Int × Int)) : ∃ a b c d, contV o = .returned (.tuple #[partV a b c, .int .i64 d]) := by
  cases o with
  | ok v => exact ⟨_, _, _, _, rfl⟩
  | error v => exact ⟨_, _, _, _, rfl⟩

set_option maxHeartbeats 2000000 in
theorem reads_walk (s x : ByteArray) (a b e0 p q r f0 : Int) (w : World)
    (HC : Hid (∀ W, Calls Try.prog 6 #[.string s, .int .i64 80] W fun e w' => e = .returned (.string x) ∧ W = w'))
    (HP : Hid (∀ W, Calls Try.prog 7 #[.string x] W fun e w' => e = .returned (.tuple #[rngV a b, .int .i64 e0]) ∧ Below W.heap.size W w'))
    (HRP : Hid (∀ W, Calls Try.prog 8 #[.string x] W fun e w' => e = .returned (.tuple #[rngV a b, .int .i64 e0]) ∧ Below W.heap.size W w'))
    (HN : Hid (∀ W, Calls Try.prog 9 #[.string x] W fun e w' => e = .returned (.tuple #[partV p q r, .int .i64 f0]) ∧ Below W.heap.size W w'))
    (HRN : Hid (∀ W, Calls Try.prog 10 #[.string x] W fun e w' => e = .returned (.tuple #[partV p q r, .int .i64 f0]) ∧ Below W.heap.size W w')) :
    Calls Try.prog 3 #[.string s] w fun e w' => e = .returned (.bool true) ∧ Below w.heap.size w w' := by
  have HLV := Lib.hid lives24_any
  go_enter Try.func3, Try.ntmps3
  go_wp2_with (go_at_call 6; (with_reducible refine (HC.out _).mono ?_); rintro e w1 ⟨rfl, rfl⟩)
  refine (HP.out _).mono ?_
  rintro e w1 ⟨rfl, b1⟩
  have HB1 := Lib.hid (show Below w.heap.size w (w1.alloc (rngC a b)) from b1.alloc b1.size _)
  have HZ1 := Lib.hid (Blk.new w1 24 #[.int .i64 a, .int .i64 b])
  clear b1 HP HC
  go_wp2_with fail
  refine (HRP.out _).mono ?_
  rintro e w2 ⟨rfl, b2⟩
  have HB2 := Lib.hid (show Below w.heap.size w (w2.alloc (rngC a b)) from (below_on HB1.out b2).alloc (below_on HB1.out b2).size _)
  have HZ2 := Lib.hid (Blk.new w2 24 #[.int .i64 a, .int .i64 b])
  replace HZ1 := Lib.hid ((HZ1.out.below b2 HZ1.out.lt).alloc (rngC a b))
  clear b2 HRP HB1
  go_wp2_with fail
  refine (HN.out _).mono ?_
  rintro e w3 ⟨rfl, b3⟩
  have HB3 := Lib.hid (show Below w.heap.size w (w3.alloc (partC p q r)) from (below_on HB2.out b3).alloc (below_on HB2.out b3).size _)
  have HZ3 := Lib.hid (Blk.new w3 29 #[.int .i64 p, .int .i64 q, .int .i64 r])
  replace HZ1 := Lib.hid ((HZ1.out.below b3 HZ1.out.lt).alloc (partC p q r))
  replace HZ2 := Lib.hid ((HZ2.out.below b3 HZ2.out.lt).alloc (partC p q r))
  clear b3 HN HB2
  go_wp2_with fail
  refine (HRN.out _).mono ?_
  rintro e w4 ⟨rfl, b4⟩
  obtain ⟨w5, hw5⟩ : ∃ w5, w5 = w4.alloc (partC p q r) := ⟨_, rfl⟩
  have HB4 := Lib.hid (show Below w.heap.size w w5 from by rw [hw5]; exact (below_on HB3.out b4).alloc (below_on HB3.out b4).size _)
  have HZ4 := Lib.hid (show Blk w5 w4.heap.size 29 #[.int .i64 p, .int .i64 q, .int .i64 r] from by rw [hw5]; exact Blk.new w4 _ _)
  replace HZ1 := Lib.hid (show Blk w5 w1.heap.size _ _ from by rw [hw5]; exact (HZ1.out.below b4 HZ1.out.lt).alloc _)
  replace HZ2 := Lib.hid (show Blk w5 w2.heap.size _ _ from by rw [hw5]; exact (HZ2.out.below b4 HZ2.out.lt).alloc _)
  replace HZ3 := Lib.hid (show Blk w5 w3.heap.size _ _ from by rw [hw5]; exact (HZ3.out.below b4 HZ3.out.lt).alloc _)
  clear b4 HRN HB3
  go_upto_region 6 with fail
  rw [← hw5]
  clear hw5
  have c0 := HZ1.out.cell 0
  have c1 := HZ1.out.cell 1
  have c2 := HZ2.out.cell 0
  have c3 := HZ2.out.cell 1
  have c4 := HZ3.out.cell 0
  have c5 := HZ3.out.cell 1
  have c6 := HZ3.out.cell 2
  have c7 := HZ4.out.cell 0
  have c8 := HZ4.out.cell 1
  have c9 := HZ4.out.cell 2
  go_wp2_with fail
  refine (HLV.out _).mono ?_
  rintro e w6 ⟨rfl, b6⟩
  have HB6 := Lib.hid (below_on HB4.out b6)
  clear b6
  go_wp2
  go_ret
  exact ⟨rfl, HB6.out⟩

theorem reads_any (s : ByteArray) (w : World) (hs : s.size ≤ 9223372036854775807) :
    Calls Try.prog 3 #[.string s] w fun e w' => e = .returned (.bool true) ∧ Below w.heap.size w w' := by
  have hx : (cutB s 80).size ≤ 80 := cutB_size s 80
  obtain ⟨a, b, c, h1⟩ := askV_some (askO (cutB s 80))
  obtain ⟨p, q, r, d, h2⟩ := contV_some (contO (cutB s 80))
  refine reads_walk s (cutB s 80) a b c p q r d w (Lib.hid fun W => cut_any s 80 W hs) (Lib.hid fun W => ?_) (Lib.hid fun W => ?_) (Lib.hid fun W => ?_) (Lib.hid fun W => ?_)
  · rw [← h1]; exact parse24_any _ W (by omega)
  · rw [← h1]; exact rparse24_any _ W (by omega)
  · rw [← h2]; exact content24_any _ W (by omega)
  · rw [← h2]; exact rcontent24_any _ W (by omega)

set_option maxRecDepth 100000 in
set_option maxHeartbeats 4000000 in
theorem lfits_any (x y a b c : Int) (w : World) : Calls Try.prog 4 #[rngV x y, partV a b c] w fun e w' => e = .returned (.bool true) ∧ Below w.heap.size w w' := by
  have HLV := Lib.hid lives24_any
  have HF := Lib.hid (fun W => fits24_any x y a b c W)
  have HRF := Lib.hid (fun W => rfits24_any x y a b c W)
  have H1 := Lib.hid (fun W => first24_any a b c W)
  have HL := Lib.hid (fun W => len_any a b c W)
  have HRL := Lib.hid (fun W => rlen_any a b c W)
  obtain ⟨w0, hw0⟩ : ∃ w0, w0 = (w.alloc (rngC x y)).alloc (partC a b c) := ⟨_, rfl⟩
  have HB := Lib.hid (show Below w.heap.size w w0 from by rw [hw0]; exact ((Below.refl w.heap.size w).alloc (Nat.le_refl _) (rngC x y)).alloc (by simp) (partC a b c))
  have H2 := Lib.hid (show TwoB w.heap.size x y a b c w0 from by rw [hw0]; exact TwoB.new w x y a b c)
  obtain ⟨c0, c1, c2, c3, c4⟩ := H2.out.keep
  generalize fitQ x y a b c = z at *
  generalize lenQ a b c = l at *
  go_enter Try.func4, Try.ntmps4
  go_wp2_with fail
  rw [← hw0]
  clear hw0
  go_region_held2 (fun w' => w'.cell? ⟨w.heap.size, 0, none⟩ = some (.int .i64 x) ∧ w'.cell? ⟨w.heap.size, 1, none⟩ = some (.int .i64 y) ∧ w'.cell? ⟨w.heap.size + 1, 0, none⟩ = some (.int .i64 a) ∧ w'.cell? ⟨w.heap.size + 1, 1, none⟩ = some (.int .i64 b) ∧ w'.cell? ⟨w.heap.size + 1, 2, none⟩ = some (.int .i64 c))
    (first | with_reducible exact H2.out.keep | with_reducible exact H2.out.drew.keep | go_keep)
    (first
      | (go_at_call 12; (with_reducible refine (HF.out _).mono ?_); rintro r w1 ⟨rfl, b1⟩
         have HB := Lib.hid (show Below w.heap.size w w1 from by first | exact below_on HB.out b1 | exact below_on HB.out.drew b1)
         have H2 := Lib.hid (show TwoB w.heap.size x y a b c w1 from by first | exact H2.out.below b1 | exact H2.out.drew.below b1)
         clear b1)
      | (go_at_call 13; (with_reducible refine (HRF.out _).mono ?_); rintro r w1 ⟨rfl, b1⟩
         have HB := Lib.hid (show Below w.heap.size w w1 from by first | exact below_on HB.out b1 | exact below_on HB.out.drew b1)
         have H2 := Lib.hid (show TwoB w.heap.size x y a b c w1 from by first | exact H2.out.below b1 | exact H2.out.drew.below b1)
         clear b1)
      | (go_at_call 14; (with_reducible refine (H1.out _).mono ?_); rintro r w1 ⟨rfl, b1⟩
         have HB := Lib.hid (show Below w.heap.size w w1 from by first | exact below_on HB.out b1 | exact below_on HB.out.drew b1)
         have H2 := Lib.hid (show TwoB w.heap.size x y a b c w1 from by first | exact H2.out.below b1 | exact H2.out.drew.below b1)
         clear b1)
      | (go_at_call 15; (with_reducible refine (HL.out _).mono ?_); rintro r w1 ⟨rfl, b1⟩
         have HB := Lib.hid (show Below w.heap.size w w1 from by first | exact below_on HB.out b1 | exact below_on HB.out.drew b1)
         have H2 := Lib.hid (show TwoB w.heap.size x y a b c w1 from by first | exact H2.out.below b1 | exact H2.out.drew.below b1)
         clear b1)
      | (go_at_call 16; (with_reducible refine (HRL.out _).mono ?_); rintro r w1 ⟨rfl, b1⟩
         have HB := Lib.hid (show Below w.heap.size w w1 from by first | exact below_on HB.out b1 | exact below_on HB.out.drew b1)
         have H2 := Lib.hid (show TwoB w.heap.size x y a b c w1 from by first | exact H2.out.below b1 | exact H2.out.drew.below b1)
         clear b1)
      | (go_at_call 11; (with_reducible refine (HLV.out _).mono ?_); rintro r w1 ⟨rfl, b1⟩
         have HB := Lib.hid (show Below w.heap.size w w1 from by first | exact below_on HB.out b1 | exact below_on HB.out.drew b1)
         have H2 := Lib.hid (show TwoB w.heap.size x y a b c w1 from by first | exact H2.out.below b1 | exact H2.out.drew.below b1)
         clear b1))
  all_goals
    go_wp2
    go_ret
    exact ⟨rfl, HB.out⟩

end Go.Proofs.Ytaolclpjlkdkjaa
namespace Go.Proofs.Ytaolclpjlkdkjaa
open Go.ChangeShapes Go.WideShapes Go.ChangeAt Go.RowKit Go.Joins

theorem trodAll_len {H : Type} {enc : TypeId × Value → H} {P : Program} {w : World} {base : Nat} {spare : Nat → Bool} {held : Bool} :
    ∀ (ts : List TypeId) (vs : List Value) (ds : List (DataW H)) (ps : List MemPlace), DataW.TrodAll enc P w base spare held ts vs ds ps → ds.length = ts.length
  | [], [], [], _, _ => rfl
  | _ :: ts, _ :: vs, _ :: ds, _, h => by
    obtain ⟨p, q, _, h2, _⟩ := h
    simpa using trodAll_len ts vs ds q h2
  | [], _ :: _, _, _, h => by cases h
  | [], [], _ :: _, _, h => by cases h
  | _ :: _, [], _, _, h => by cases h
  | _ :: _, _ :: _, [], _, h => by cases h

theorem trodAll_below {H : Type} {enc : TypeId × Value → H} {P : Program} (hl : laidOutB P = true) {W W' : World} (hb : Below W.heap.size W W') :
    ∀ (ts : List TypeId) (vs : List Value) (ds : List (DataW H)) (ps : List MemPlace), DataW.TrodAll enc P W 0 (fun _ => true) true ts vs ds ps →
      (∀ t ∈ ts, P.readableRec t = true ∧ t < P.types.size) → (∀ x ∈ ps, x.block < W.heap.size) →
      DataW.TrodAll enc P W' 0 (fun b => decide (b < W.heap.size)) true ts vs ds ps
  | [], [], [], _, h, _, _ => h
  | t :: ts, v :: vs, d :: ds, ps, h, hr, hlt => by
    obtain ⟨p, q, h1, h2, rfl⟩ := h
    exact ⟨p, q, Below.trod hl (hr t (by simp)).1 (hr t (by simp)).2 h1 hb (fun x hx => hlt x (by simp [hx])),
      trodAll_below hl hb ts vs ds q h2 (fun t ht => hr t (by simp [ht])) (fun x hx => hlt x (by simp [hx])), rfl⟩
  | [], _ :: _, _, _, h, _, _ => by cases h
  | [], [], _ :: _, _, h, _, _ => by cases h
  | _ :: _, [], _, _, h, _, _ => by cases h
  | _ :: _, _ :: _, [], _, h, _, _ => by cases h

theorem law_lifted {C : Checked} {os : Os} {f : FuncId} {fn : Func} {s : ChangeSpec} {tb : TypeId} {H : Type} {enc : TypeId × Value → H}
    (own : ownKnob C.prog.godebug = none) (started : os.Started) (noInit : C.prog.inits.idxOf? f = none) (hfn : C.prog.funcs[f]? = some fn) (hl : laidOutB C.prog = true)
    (hvars : s.vars = []) (hrt : fn.resultTypes = #[tb]) (htb : C.prog.underlying tb = some .bool)
    (hread : fn.params.toList.all (fun t => C.prog.readableRec t && decide (t < C.prog.types.size)) = true)
    (hs : ∀ ds : List (DataW H), ds.length = fn.params.toList.length → (s.fn H (ds ++ [])).results = [.lit (.bool true)] ∧ (s.fn H (ds ++ [])).args = ds ∧ (s.fn H (ds ++ [])).vars = [])
    (witness : ∃ (w : World) (tape : Tape) (i : Input), w.os = os ∧ (w.forCall tape i).Shaped C.prog ∧ i.vars = [] ∧ Input.okWide C.prog (w.forCall tape i) .any w.heap.size f i ∧
      s.pre6 enc C.prog fn [] false (w.forCall tape i).memory i.args ∧ ({} : Assume).holds C.prog (lone (Frame.enter C.prog f i.args .normal) [] (w.forCall tape i)))
    (hcall : ∀ (W : World) (base : Nat) (args : Array Value) (ds : List (DataW H)) (p : List MemPlace),
      (∀ (j : Nat) t v, fn.params[j]? = some t → args[j]? = some v → Value.okWide C.prog W .any base t v) →
      DataW.TrodAll enc C.prog W 0 (fun _ => true) true fn.params.toList args.toList ds p → (∀ x ∈ p, x.block < W.heap.size) →
      Calls C.prog f args W fun e W' => e = .returned (.bool true) ∧ Below W.heap.size W W') :
    ReturnsInHanded {} C os f .any (s.pre6 enc C.prog fn [] false) (s.post enc C.prog fn false true false false) := by
  refine returnsInHanded_of_change (C := C) own started noInit hfn witness ?_
  intro W base args ds gs before hval hW _ _
  have hW' := hW
  obtain ⟨p, q, hA, hV, rfl, hfz, hnd⟩ := hW
  rw [hvars] at hV
  obtain ⟨rfl, rfl⟩ := trodVars_none hV
  simp only [List.append_nil] at hW'
  have hlt : ∀ x ∈ p, x.block < W.heap.size := fun x hx => by simpa using hW'.lt x hx
  refine (hcall W base args ds p hval hA hlt).mono fun e W' ⟨he, hb⟩ => ?_
  subst he
  obtain ⟨e1, e2, e3⟩ := hs ds (trodAll_len _ _ _ _ hA)
  refine ⟨_, rfl, ds, [], p, [], p, [], hW', ?_, ?_, ?_, hb.frame _, fun h => by cases h⟩
  · rw [e1, hrt]
    exact trodAll_mk1 (shut_bool htb true)
  · rw [e2]
    simp only [List.all_eq_true, Bool.and_eq_true, decide_eq_true_eq] at hread
    exact trodAll_below hl hb _ _ _ _ hA (fun t ht => hread t ht) hlt
  · rw [e3, hvars]
    rfl

/-- A number that can be read as a byte is one's. -/
theorem byte_of {n : Int} (h : (Lit.int .u8 n).wf = true) : ∃ b : UInt8, n = (b.toNat : Int) := by
  have h' : 0 ≤ n ∧ n < 256 := by
    have e1 : IntKind.u8.min = 0 := by kernel_rfl
    have e2 : IntKind.u8.max = 255 := by kernel_rfl
    simp [Lit.wf, e1, e2] at h
    omega
  refine ⟨UInt8.ofNat n.toNat, ?_⟩
  rw [UInt8.toNat_ofNat']
  omega

theorem Try.own : ownKnob Try.prog.godebug = none := by kernel_rfl
theorem Try.laidOut : laidOutB Try.prog = true := by kernel_rfl

end Go.Proofs.Ytaolclpjlkdkjaa
namespace Go.Proofs.Ytaolclpjlkdkjaa
open Go.ChangeShapes Go.WideShapes Go.ChangeAt Go.RowKit Go.Joins Go.Deep

theorem Try.cellsRng : Try.prog.cellsOf 24 = 2 := by kernel_rfl
theorem Try.cellsPart : Try.prog.cellsOf 29 = 3 := by kernel_rfl
theorem Try.cellsInt24 : Try.prog.cellsOf 3 = 1 := by kernel_rfl
theorem array2 {α : Type} {xs : Array α} (h : xs.size = 2) : ∃ a b, xs = #[a, b] := by
  obtain ⟨l⟩ := xs
  match l, h with
  | [a, b], _ => exact ⟨a, b, rfl⟩
theorem array3 {α : Type} {xs : Array α} (h : xs.size = 3) : ∃ a b c, xs = #[a, b, c] := by
  obtain ⟨l⟩ := xs
  match l, h with
  | [a, b, c], _ => exact ⟨a, b, c, rfl⟩
theorem open_int24 {H : Type} {enc : TypeId × Value → H} {W : World} {base : Nat} {spare : Nat → Bool} {held : Bool} {n : Nat} {v : Value} {y : DataW H × List MemPlace}
    (h : DataW.trod enc Try.prog W base spare held n 3 [v] = some y) : ∃ k : Int, v = .int .i64 k := by
  obtain ⟨k0, e0, _, _⟩ := DataW.trod_int Try.underlying3 h
  exact ⟨k0, by simpa using e0⟩
theorem open_rng {H : Type} {enc : TypeId × Value → H} {W : World} {base : Nat} {v : Value} {d : DataW H} {p : List MemPlace}
    (hv : Value.okWide Try.prog W .any base 24 v) (h : DataW.Trod enc Try.prog W 0 (fun _ => true) true 24 v d p) : ∃ a b : Int, v = rngV a b := by
  obtain ⟨cs, rfl, hsz⟩ := okWide_struct Try.underlying24 hv
  obtain ⟨c0, c1, rfl⟩ := array2 (hsz.trans Try.cellsRng)
  obtain ⟨fuel, hf⟩ := h
  obtain ⟨y0, y1, k, _, _, h0, h1⟩ := trod_struct2 Try.underlying24 hf
  simp [Value.cells, Try.cellsInt24] at h0 h1
  obtain ⟨a, rfl⟩ := open_int24 h0
  obtain ⟨b, rfl⟩ := open_int24 h1
  exact ⟨a, b, rfl⟩
theorem open_part {H : Type} {enc : TypeId × Value → H} {W : World} {base : Nat} {v : Value} {d : DataW H} {p : List MemPlace}
    (hv : Value.okWide Try.prog W .any base 29 v) (h : DataW.Trod enc Try.prog W 0 (fun _ => true) true 29 v d p) : ∃ a b c : Int, v = partV a b c := by
  obtain ⟨cs, rfl, hsz⟩ := okWide_struct Try.underlying29 hv
  obtain ⟨c0, c1, c2, rfl⟩ := array3 (hsz.trans Try.cellsPart)
  obtain ⟨fuel, hf⟩ := h
  obtain ⟨y0, y1, y2, k, _, _, h0, h1, h2⟩ := trod_struct3 Try.underlying29 hf
  simp [Value.cells, Try.cellsInt24] at h0 h1 h2
  obtain ⟨a, rfl⟩ := open_int24 h0
  obtain ⟨b, rfl⟩ := open_int24 h1
  obtain ⟨c, rfl⟩ := open_int24 h2
  exact ⟨a, b, c, rfl⟩

end Go.Proofs.Ytaolclpjlkdkjaa
