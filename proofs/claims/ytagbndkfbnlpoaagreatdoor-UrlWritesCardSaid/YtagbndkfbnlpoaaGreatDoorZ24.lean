/-
  From a walk to the statement of a law that lists variables as they are laid: as Lift, with that condition handed on. Conditions: those of the lemma's hypotheses.
  From a walk to the statement of a law of layer 26: the world's shape is handed on; what the rows' conditions give the walk; an argument that is a place, opened. Conditions: those of the lemmas' hypotheses.
  What the law's Few of places leaves; the law UrlWrites. Conditions: texts take at most 2^63 - 1 bytes; the library's variable and tables lie as its text lays them.
-/
import Derived.Test.YtagbndkfbnlpoaaGreatDoorZ23
import Derived.LaidMore
import Derived.MakeChecks
import Derived.Stop.LaidErr
import Derived.Stop.Joined
import Derived.Test.YtagbndkfbnlpoaaGreatDoorZ20
import Derived.HandedShaped
import Derived.Lib.LaidU8T
import Derived.Deep.Slices
import Derived.Lib.SmallJoins
import Derived.ChangeMaps5
import Derived.OpenShut
import Derived.Test.YtagbndkfbnlpoaaGreatDoorZ22
import Derived.StillTailTactics
import Derived.Deep.RegionWith
namespace Go.Proofs.YtagbndkfbnlpoaaGreatDoor
open Go.ChangeShapes Go.WideShapes Go.ChangeAt Go.RowKit Go.Joins

theorem law_lifted_laid {C : Checked} {os : Os} {f : FuncId} {fn : Func} {s : ChangeSpec} {tb : TypeId} {H : Type} {enc : TypeId × Value → H} (L : List (String × DataW Unit))
    (own : ownKnob C.prog.godebug = none) (started : os.Started) (noInit : C.prog.inits.idxOf? f = none) (hfn : C.prog.funcs[f]? = some fn) (hl : laidOutB C.prog = true)
    (hvars : s.vars = []) (hrt : fn.resultTypes = #[tb]) (htb : C.prog.underlying tb = some .bool)
    (hread : fn.params.toList.all (fun t => C.prog.readableRec t && decide (t < C.prog.types.size)) = true)
    (hs : ∀ ds : List (DataW H), ds.length = fn.params.toList.length → (s.fn H (ds ++ [])).results = [.lit (.bool true)] ∧ (s.fn H (ds ++ [])).args = ds ∧ (s.fn H (ds ++ [])).vars = [])
    (witness : ∃ (w : World) (tape : Tape) (i : Input), w.os = os ∧ (w.forCall tape i).Shaped C.prog ∧ i.vars = [] ∧ Input.okWide C.prog (w.forCall tape i) .any w.heap.size f i ∧
      ((s.pre enc C.prog fn [] false (w.forCall tape i).memory i.args ∧ laidMetH C.prog L (w.forCall tape i).memory) ∧ sizedMet enc C.prog fn (OpenSpec.ofChange s) false (w.forCall tape i).memory i.args) ∧ ({} : Assume).holds C.prog (lone (Frame.enter C.prog f i.args .normal) [] (w.forCall tape i)))
    (hcall : ∀ (W : World) (base : Nat) (args : Array Value) (ds : List (DataW H)) (p : List MemPlace),
      (∀ (j : Nat) t v, fn.params[j]? = some t → args[j]? = some v → Value.okWide C.prog W .any base t v) →
      DataW.TrodAll enc C.prog W 0 (fun _ => true) true fn.params.toList args.toList ds p → (∀ x ∈ p, x.block < W.heap.size) → laidMetH C.prog L W →
      Calls C.prog f args W fun e W' => e = .returned (.bool true) ∧ Below W.heap.size W W') :
    ReturnsInHanded {} C os f .any (fun w args => (s.pre enc C.prog fn [] false w args ∧ laidMetH C.prog L w) ∧ sizedMet enc C.prog fn (OpenSpec.ofChange s) false w args) (s.post enc C.prog fn false true false false) := by
  refine returnsInHanded_of_change_and (C := C) (X := fun w _ => laidMetH C.prog L w) (fun _ _ _ hh h => h.of_heap hh) own started noInit hfn witness ?_
  intro W base args ds gs before hval hW _ _ hL _
  have hW' := hW
  obtain ⟨p, q, hA, hV, rfl, hfz, hnd⟩ := hW
  rw [hvars] at hV
  obtain ⟨rfl, rfl⟩ := trodVars_none hV
  simp only [List.append_nil] at hW'
  have hlt : ∀ x ∈ p, x.block < W.heap.size := fun x hx => by simpa using hW'.lt x hx
  refine (hcall W base args ds p hval hA hlt hL).mono fun e W' ⟨he, hb⟩ => ?_
  subst he
  obtain ⟨e1, e2, e3⟩ := hs ds (trodAll_len _ _ _ _ hA)
  refine ⟨_, rfl, ds, [], p, [], p, [], hW', ?_, ?_, ?_, hb.frame _, fun h => by cases h⟩
  · rw [e1, hrt]
    exact trodAll_mk1 (shut_bool htb true)
  · rw [e2]
    simp only [List.all_eq_true, Bool.and_eq_true, decide_eq_true_eq] at hread
    exact trodAll_below hl hb _ _ _ _ hA (fun t ht => hread t ht) hlt
  · rw [e3, hvars]
    rfl

end Go.Proofs.YtagbndkfbnlpoaaGreatDoor
namespace Go.Proofs.YtagbndkfbnlpoaaGreatDoor
open Go.ChangeShapes Go.WideShapes Go.ChangeAt Go.RowKit Go.Joins Go.Deep

theorem law_lifted_shaped {C : Checked} {os : Os} {f : FuncId} {fn : Func} {s : ChangeSpec} {tb : TypeId} {H : Type} {enc : TypeId × Value → H} (L : List (String × DataW Unit))
    (own : ownKnob C.prog.godebug = none) (started : os.Started) (noInit : C.prog.inits.idxOf? f = none) (hfn : C.prog.funcs[f]? = some fn) (hl : laidOutB C.prog = true)
    (hvars : s.vars = []) (hrt : fn.resultTypes = #[tb]) (htb : C.prog.underlying tb = some .bool)
    (hread : fn.params.toList.all (fun t => C.prog.readableRec t && decide (t < C.prog.types.size)) = true)
    (hs : ∀ ds : List (DataW H), ds.length = fn.params.toList.length → (s.fn H (ds ++ [])).results = [.lit (.bool true)] ∧ (s.fn H (ds ++ [])).args = ds ∧ (s.fn H (ds ++ [])).vars = [])
    (witness : ∃ (w : World) (tape : Tape) (i : Input), w.os = os ∧ (w.forCall tape i).Shaped C.prog ∧ i.vars = [] ∧ Input.okWide C.prog (w.forCall tape i) .any w.heap.size f i ∧
      ((s.pre enc C.prog fn [] false (w.forCall tape i).memory i.args ∧ laidMetH C.prog L (w.forCall tape i).memory) ∧ sizedMet enc C.prog fn (OpenSpec.ofChange s) false (w.forCall tape i).memory i.args) ∧ ({} : Assume).holds C.prog (lone (Frame.enter C.prog f i.args .normal) [] (w.forCall tape i)))
    (hcall : ∀ (W : World) (base : Nat) (args : Array Value) (ds : List (DataW H)) (p : List MemPlace),
      (∀ (j : Nat) t v, fn.params[j]? = some t → args[j]? = some v → Value.okWide C.prog W .any base t v) →
      DataW.TrodAll enc C.prog W 0 (fun _ => true) true fn.params.toList args.toList ds p → (∀ x ∈ p, x.block < W.heap.size) → laidMetH C.prog L W → W.ShapedOpen C.prog →
      Calls C.prog f args W fun e W' => e = .returned (.bool true) ∧ Below W.heap.size W W') :
    ReturnsInHanded {} C os f .any (fun w args => (s.pre enc C.prog fn [] false w args ∧ laidMetH C.prog L w) ∧ sizedMet enc C.prog fn (OpenSpec.ofChange s) false w args) (s.post enc C.prog fn false true false false) := by
  refine returnsInHanded_of_calls own started noInit witness ?_
  intro w tape i _ hsh _ hok hpre _
  obtain ⟨_, _, _, fn', hfn', _, _, _, _, hval⟩ := hok
  obtain rfl : fn' = fn := Option.some.inj (hfn'.symm.trans hfn)
  obtain ⟨⟨⟨ds, gs, before, hw, _⟩, hx⟩, _⟩ := hpre
  have hL : laidMetH C.prog L (w.forCall tape i) := hx.of_heap (by rfl)
  have hW := DataW.Whole.of_heap (w' := w.forCall tape i) (by rfl) hw
  have hW' := hW
  obtain ⟨p, q, hA, hV, rfl, hfz, hnd⟩ := hW
  rw [hvars] at hV
  obtain ⟨rfl, rfl⟩ := trodVars_none hV
  simp only [List.append_nil] at hW'
  have hlt : ∀ x ∈ p, x.block < (w.forCall tape i).heap.size := fun x hx => by simpa using hW'.lt x hx
  refine (hcall (w.forCall tape i) w.heap.size i.args ds p hval hA hlt hL hsh).mono fun e W' ⟨he, hb⟩ => ?_
  subst he
  obtain ⟨e1, e2, e3⟩ := hs ds (trodAll_len _ _ _ _ hA)
  refine ChangeSpec.post_blind ⟨ds, [], p, [], p, [], hW', ?_, ?_, ?_, hb.frame _, fun h => by cases h⟩
  · rw [e1, hrt]
    exact trodAll_mk1 (shut_bool htb true)
  · rw [e2]
    simp only [List.all_eq_true, Bool.and_eq_true, decide_eq_true_eq] at hread
    exact trodAll_below hl hb _ _ _ _ hA (fun t ht => hread t ht) hlt
  · rw [e3, hvars]
    rfl

def u8_ren : Go.Shelf.Ren := ⟨fun n => n, fun | 5 => 5 | 119 => 117 | 138 => 119 | 139 => 120 | n => n, fun | 3 => 1 | 4 => 2 | n => n⟩
theorem u8_types : U8Types Tryz.prog u8_ren := ⟨Tryz.underlying5, Tryz.underlying117, Tryz.underlying119, Tryz.underlying120⟩
theorem u8_extra : U8Extra Tryz.prog u8_ren := ⟨by kernel_rfl, by kernel_rfl, by kernel_rfl, by kernel_rfl, by kernel_rfl, by kernel_rfl, by kernel_rfl⟩

theorem powNamed26 : Tryz.prog.globalNamed "internal/strconv.uint64pow10" = some 3 := by kernel_rfl
theorem powGlobal26 : (Tryz.prog.globals[3]?).map (·.type) = some 126 := by kernel_rfl
theorem powCells26 : Tryz.prog.cellsOf 126 = 20 := by kernel_rfl
theorem powCell26 : Tryz.prog.cellsOf 65 = 1 := by kernel_rfl
set_option maxRecDepth 100000 in
theorem pin_first : Rows.laid_unicode_utf8_first = Lib.firstData := by kernel_rfl
set_option maxRecDepth 100000 in
theorem pin_accept : (Rows.laid_unicode_utf8_acceptRanges : DataW Unit) = Lib.acceptData := by kernel_rfl
theorem row_same_w : Rows.urlWritesRow.laid = Rows.urlReadsRow.laid := rfl
theorem row_same_l : Rows.urlLongRow.laid = Rows.urlReadsRow.laid := rfl

set_option maxRecDepth 100000 in
/-- What a row's condition and the world's shape give the walk. -/
theorem lib3_of {W : World} (hsh : W.ShapedOpen Tryz.prog) (h : laidMetH Tryz.prog Rows.urlReadsRow.laid W) : Lib3 W := by
  rw [MakeChecks.laidMetH_plain _ _ _ (by kernel_rfl)] at h
  refine ⟨laysM146.s1_3 W hsh, ?_, ?_⟩
  · have h3 := Lib.laidMet.reads h (n := "unicode/utf8.first") (d := Rows.laid_unicode_utf8_first) (by simp [Rows.urlReadsRow])
    have h4 := Lib.laidMet.reads h (n := "unicode/utf8.acceptRanges") (d := Rows.laid_unicode_utf8_acceptRanges) (by simp [Rows.urlReadsRow])
    rw [pin_first] at h3
    rw [pin_accept] at h4
    exact utf8Tabs_of_readsT u8_types u8_extra h3 h4
  · have h3 : laidMet Tryz.prog ((_, Lib.tabData .u64 Lib.pow10Tab) :: _) W := h.tail.tail
    intro nm hnm
    have e := Lib.tabIs_of_head powNamed26 powGlobal26 Tryz.underlying126 Tryz.underlying65 powCell26 powCells26 h3
    have g : Tryz.prog.globalNamed nm = Tryz.prog.globalNamed _ := hnm.trans powNamed26.symm
    unfold Lib.TabIs World.var? at e ⊢
    rw [g]
    exact e

/-- A number of sixteen bits. -/
theorem bits16q_of {n : Int} (h : (Lit.int .u16 n).wf = true) : ∃ b : Nat, n = (b : Int) ∧ b < 65536 := by
  have h' : 0 ≤ n ∧ n < 65536 := by
    have e1 : IntKind.u16.min = 0 := by kernel_rfl
    have e2 : IntKind.u16.max = 65535 := by kernel_rfl
    simp [Lit.wf, e1, e2] at h
    omega
  exact ⟨n.toNat, by omega, by omega⟩
theorem Tryz.cellsUrl26 : Tryz.prog.cellsOf 24 = 5 := by kernel_rfl
theorem Tryz.cellsInt26 : Tryz.prog.cellsOf 3 = 1 := by kernel_rfl
theorem Tryz.cellsStr26 : Tryz.prog.cellsOf 9 = 1 := by kernel_rfl
theorem array5_26 {α : Type} {xs : Array α} (h : xs.size = 5) : ∃ a b c d e, xs = #[a, b, c, d, e] := by
  obtain ⟨l⟩ := xs
  match l, h with
  | [a, b, c, d, e], _ => exact ⟨a, b, c, d, e, rfl⟩
theorem open_int26 {H : Type} {enc : TypeId × Value → H} {W : World} {base : Nat} {spare : Nat → Bool} {held : Bool} {n : Nat} {v : Value} {y : DataW H × List MemPlace}
    (h : DataW.trod enc Tryz.prog W base spare held n 3 [v] = some y) : ∃ k : Int, v = .int .i64 k := by
  obtain ⟨k0, e0, _, _⟩ := DataW.trod_int Tryz.underlying3 h
  exact ⟨k0, by simpa using e0⟩
theorem open_str26 {H : Type} {enc : TypeId × Value → H} {W : World} {base : Nat} {spare : Nat → Bool} {held : Bool} {n : Nat} {v : Value} {y : DataW H × List MemPlace}
    (h : DataW.trod enc Tryz.prog W base spare held n 9 [v] = some y) : ∃ s : ByteArray, v = .string s ∧ s.size ≤ 9223372036854775807 := by
  obtain ⟨s, e, _, hs⟩ := DataW.trod_string Tryz.underlying9 h
  unfold maxLen at hs
  exact ⟨s, by simpa using e, hs⟩
set_option maxRecDepth 100000 in
theorem open_url {H : Type} {enc : TypeId × Value → H} {W : World} {base : Nat} {v : Value} {d : DataW H} {p : List MemPlace}
    (hv : Value.okWide Tryz.prog W .any base 24 v) (h : DataW.Trod enc Tryz.prog W 0 (fun _ => true) true 24 v d p) :
    ∃ u : Plc, v = plV u ∧ u.sc.size ≤ 9223372036854775807 ∧ u.ho.size ≤ 9223372036854775807 ∧ u.pa.size ≤ 9223372036854775807 ∧ u.qu.size ≤ 9223372036854775807 := by
  obtain ⟨cs, rfl, hsz⟩ := okWide_struct Tryz.underlying24 hv
  obtain ⟨c0, c1, c2, c3, c4, rfl⟩ := array5_26 (hsz.trans Tryz.cellsUrl26)
  obtain ⟨fuel, hf⟩ := h
  obtain ⟨xs, k, _, _, _, hlen, hall⟩ := DataW.trod_struct Tryz.underlying24 hf
  obtain ⟨y0, y1, y2, y3, y4, rfl⟩ : ∃ y0 y1 y2 y3 y4, xs = [y0, y1, y2, y3, y4] := by
    match xs, hlen with
    | [a, b, c, d, e], _ => exact ⟨a, b, c, d, e, rfl⟩
  have h0 := hall 0 _ rfl
  have h1 := hall 1 _ rfl
  have h2 := hall 2 _ rfl
  have h3 := hall 3 _ rfl
  have h4 := hall 4 _ rfl
  simp [Value.cells, Tryz.cellsInt26, Tryz.cellsStr26] at h0 h1 h2 h3 h4
  obtain ⟨a, rfl, ha⟩ := open_str26 h0
  obtain ⟨b, rfl, hb⟩ := open_str26 h1
  obtain ⟨n, rfl⟩ := open_int26 h2
  obtain ⟨q, rfl, hq⟩ := open_str26 h3
  obtain ⟨r, rfl, hr⟩ := open_str26 h4
  exact ⟨⟨a, b, n, q, r⟩, rfl, ha, hb, hq, hr⟩

end Go.Proofs.YtagbndkfbnlpoaaGreatDoor
namespace Go.Proofs.YtagbndkfbnlpoaaGreatDoor
open Go.RowKit

set_option maxHeartbeats 1000000 in
set_option maxRecDepth 100000 in
theorem few26_any (a b : ByteArray) (n : Int) (p q : ByteArray) (w : World) (ha : a.size ≤ 9223372036854775807) (hb : b.size ≤ 9223372036854775807) (hp : p.size ≤ 9223372036854775807) (hq : q.size ≤ 9223372036854775807) :
    Calls Tryz.prog 13 #[urV a b n p q] w fun e w' => e = .returned (urV (cutB a 20) (cutB b 260) n (cutB p 80) (cutB q 60)) ∧ Below w.heap.size w w' := by
  obtain ⟨w0, hw0⟩ : ∃ w0, w0 = (w.alloc (urC a b n p q)).alloc (urC ⟨#[]⟩ ⟨#[]⟩ 0 ⟨#[]⟩ ⟨#[]⟩) := ⟨_, rfl⟩
  have HD := Lib.hid (show UrTwo w (urA a b n p q) (urA ⟨#[]⟩ ⟨#[]⟩ 0 ⟨#[]⟩ ⟨#[]⟩) w0 from by rw [hw0]; exact UrTwo.new w _ _)
  have HB := Lib.hid HD.out.1
  have HK := Lib.hid HD.out.2.1
  have HQ := Lib.hid HD.out.2.2
  clear HD
  obtain ⟨c0, c1, c2, c3, c4⟩ := url_keep HK.out
  obtain ⟨z0, z1, z2, z3, z4⟩ := url_thaw HK.out
  obtain ⟨q0, q1, q2, q3, q4⟩ := url_keep HQ.out
  obtain ⟨y0, y1, y2, y3, y4⟩ := url_thaw HQ.out
  have K0 : Hid (∀ W, Calls Tryz.prog 6 #[.string a, .int .i64 20] W fun e w' => e = .returned (.string (cutB a 20)) ∧ w' = W) := fun W => (cut_any a 20 W ha).mono fun _ _ h => ⟨h.1, h.2.symm⟩
  have K1 : Hid (∀ W, Calls Tryz.prog 6 #[.string b, .int .i64 260] W fun e w' => e = .returned (.string (cutB b 260)) ∧ w' = W) := fun W => (cut_any b 260 W hb).mono fun _ _ h => ⟨h.1, h.2.symm⟩
  have K2 : Hid (∀ W, Calls Tryz.prog 6 #[.string p, .int .i64 80] W fun e w' => e = .returned (.string (cutB p 80)) ∧ w' = W) := fun W => (cut_any p 80 W hp).mono fun _ _ h => ⟨h.1, h.2.symm⟩
  have K3 : Hid (∀ W, Calls Tryz.prog 6 #[.string q, .int .i64 60] W fun e w' => e = .returned (.string (cutB q 60)) ∧ w' = W) := fun W => (cut_any q 60 W hq).mono fun _ _ h => ⟨h.1, h.2.symm⟩
  go_enter Tryz.func13, Tryz.ntmps13
  go_wp2_with fail
  rw [← hw0]
  clear hw0
  refine wp_region_still_tail 13 (by kernel_rfl) (by kernel_rfl) ?_
  simp only [List.take_succ_cons, List.take_zero, List.drop_succ_cons, List.drop_zero]
  repeat still_step
  still_call (K0.out _)
  repeat still_step
  still_call (K1.out _)
  repeat still_step
  still_call (K2.out _)
  repeat still_step
  still_call (K3.out _)
  repeat still_step
  refine wpStill_nil ?_
  change wpList _ _ _ _ _ (World.drew _)
  go_wp2_with fail
  refine bodyPost_ret (v := urV (cutB a 20) (cutB b 260) n (cutB p 80) (cutB q 60)) (by simp [results, Tryz.results13, go_sem, q0, q1, q2, q3, q4]; done) rfl ⟨rfl, ?_⟩
  exact (((((((((HB.out.setCell (by simp) _).setCell (by simp) _).setCell (by simp) _).setCell (by simp) _).setCell (by simp) _).setCell (by simp) _).setCell (by simp) _).setCell (by simp) _).setCell (by simp) _).drew

theorem UrTwo.step {w W W' : World} {cs ds : Array Value} (h : UrTwo w cs ds W) (hb : Below W.heap.size W W') : UrTwo w cs ds W' := ⟨below_on h.1 hb, h.2.1.below hb h.2.1.lt, h.2.2.below hb h.2.2.lt⟩
theorem UrTwo.put {w W : World} {a0 b0 p0 q0 c0 d0 r0 s0 : ByteArray} {n0 m0 : Int} (h : UrTwo w (urA a0 b0 n0 p0 q0) (urA c0 d0 m0 r0 s0) W) (a b : ByteArray) (n : Int) (p q c d : ByteArray) (m : Int) (r s : ByteArray) :
    UrTwo w (urA a b n p q) (urA c d m r s) (put5 (put5 W w.heap.size a b n p q) (w.heap.size + 1) c d m r s) := by
  have h1 := put5_below h.1 (Nat.le_refl _) a b n p q
  have h2 := put5_blk h.2.1 a b n p q
  have h3 : Blk (put5 W w.heap.size a b n p q) (w.heap.size + 1) 24 (urA c0 d0 m0 r0 s0) := ((((h.2.2.far (by simp) _).far (by simp) _).far (by simp) _).far (by simp) _).far (by simp) _
  generalize put5 W w.heap.size a b n p q = W1 at *
  have k1 := put5_below h1 (Nat.le_succ _) c d m r s
  have k3 := put5_blk h3 c d m r s
  have k2 : Blk (put5 W1 (w.heap.size + 1) c d m r s) w.heap.size 24 (urA a b n p q) := ((((h2.far (by simp) _).far (by simp) _).far (by simp) _).far (by simp) _).far (by simp) _
  exact ⟨k1, k2, k3⟩

set_option maxRecDepth 100000 in
set_option maxHeartbeats 4000000 in
theorem uwrites_walk (a0 b0 p0 q0 c0 d0 r0 s0 a b p q c d r s T O O' : ByteArray) (n m k : Int) (g g' V : Bool) (w : World)
    (HF : Hid (∀ W, Below w.heap.size w W → Calls Tryz.prog 13 #[urV a0 b0 n p0 q0] W fun y w' => y = .returned (urV a b n p q) ∧ Below W.heap.size W w'))
    (HF2 : Hid (∀ W, Below w.heap.size w W → Calls Tryz.prog 13 #[urV c0 d0 m r0 s0] W fun y w' => y = .returned (urV c d m r s) ∧ Below W.heap.size W w'))
    (HG0 : Hid (∀ W, Below w.heap.size w W → Calls Tryz.prog 12 #[urV a b n p q] W fun y w' => y = .returned (.bool g) ∧ Below W.heap.size W w'))
    (HRG0 : Hid (∀ W, Below w.heap.size w W → Calls Tryz.prog 14 #[urV a b n p q] W fun y w' => y = .returned (.bool g) ∧ Below W.heap.size W w'))
    (HRG20 : Hid (∀ W, Below w.heap.size w W → Calls Tryz.prog 14 #[urV c d m r s] W fun y w' => y = .returned (.bool g') ∧ Below W.heap.size W w'))
    (HT0 : Hid (∀ W, Below w.heap.size w W → Calls Tryz.prog 15 #[urV a b n p q] W fun y w' => y = .returned (.string T) ∧ Below W.heap.size W w'))
    (HRT0 : Hid (∀ W, Below w.heap.size w W → Calls Tryz.prog 11 #[urV a b n p q] W fun y w' => y = .returned (.string T) ∧ Below W.heap.size W w'))
    (HO0 : Hid (∀ W, Below w.heap.size w W → Calls Tryz.prog 16 #[urV a b n p q] W fun y w' => y = .returned (.string O) ∧ Below W.heap.size W w'))
    (HRO0 : Hid (∀ W, Below w.heap.size w W → Calls Tryz.prog 17 #[urV a b n p q] W fun y w' => y = .returned (.string O) ∧ Below W.heap.size W w'))
    (HRO20 : Hid (∀ W, Below w.heap.size w W → Calls Tryz.prog 17 #[urV c d m r s] W fun y w' => y = .returned (.string O') ∧ Below W.heap.size W w'))
    (HP0 : Hid (∀ W, Below w.heap.size w W → Calls Tryz.prog 18 #[urV a b n p q] W fun y w' => y = .returned (.int .i64 k) ∧ Below W.heap.size W w'))
    (HRP0 : Hid (∀ W, Below w.heap.size w W → Calls Tryz.prog 19 #[urV a b n p q] W fun y w' => y = .returned (.int .i64 k) ∧ Below W.heap.size W w'))
    (HS0 : Hid (∀ W, Below w.heap.size w W → Calls Tryz.prog 20 #[urV a b n p q, urV c d m r s] W fun y w' => y = .returned (.bool V) ∧ Below W.heap.size W w'))
    (HV : Hid (V = (g && g' && (O.toList == O'.toList))))
    (HPA : Hid (g = true → ∀ W, Below w.heap.size w W → Calls Tryz.prog 7 #[.string T] W fun y w' => y = .returned (.tuple #[urV a b n p q, .int .i64 0]) ∧ Below W.heap.size W w'))
    (HLV : Hid (∀ W, Below w.heap.size w W → Calls Tryz.prog 10 #[] W fun y w' => y = .returned (.bool true) ∧ Below W.heap.size W w')) :
    Calls Tryz.prog 4 #[urV a0 b0 n p0 q0, urV c0 d0 m r0 s0] w fun y w' => y = .returned (.bool true) ∧ Below w.heap.size w w' := by
  obtain ⟨w0, hw0⟩ : ∃ w0, w0 = (w.alloc (urC a0 b0 n p0 q0)).alloc (urC c0 d0 m r0 s0) := ⟨_, rfl⟩
  have HD := Lib.hid (show UrTwo w (urA a0 b0 n p0 q0) (urA c0 d0 m r0 s0) w0 from by rw [hw0]; exact UrTwo.new w _ _)
  obtain ⟨e0, e1, e2, e3, e4⟩ := url_keep HD.out.2.1
  obtain ⟨f0, f1, f2, f3, f4⟩ := url_keep HD.out.2.2
  have HB := Lib.hid (show Below w.heap.size w w0.drew from HD.out.1.drew)
  have HK := Lib.hid (show Blk w0.drew w.heap.size 24 (urA a0 b0 n p0 q0) from HD.out.2.1.drew)
  have HQ := Lib.hid (show Blk w0.drew (w.heap.size + 1) 24 (urA c0 d0 m r0 s0) from HD.out.2.2.drew)
  clear HD
  go_enter Tryz.func4, Tryz.ntmps4
  go_wp2_with fail
  rw [← hw0]
  clear hw0
  go_cut [] from 7 to 11 (fun wx => UrTwo w (urA a b n p q) (urA c d m r s) wx)
  case first =>
    go_region_with (first
      | (go_at_call 13; (with_reducible refine (HF.out _ HB.out).mono ?_); rintro y w1 ⟨rfl, b1⟩; replace HB := Lib.hid (below_on HB.out b1); replace HK := Lib.hid (HK.out.below b1 HK.out.lt); replace HQ := Lib.hid (HQ.out.below b1 HQ.out.lt); clear b1
         obtain ⟨e0, e1, e2, e3, e4⟩ := url_keep HK.out
         obtain ⟨f0, f1, f2, f3, f4⟩ := url_keep HQ.out)
      | (go_at_call 13; (with_reducible refine (HF2.out _ HB.out).mono ?_); rintro y w2 ⟨rfl, b1⟩; replace HB := Lib.hid (below_on HB.out b1); replace HK := Lib.hid (HK.out.below b1 HK.out.lt); replace HQ := Lib.hid (HQ.out.below b1 HQ.out.lt); clear b1
         obtain ⟨e0, e1, e2, e3, e4⟩ := url_keep HK.out
         obtain ⟨f0, f1, f2, f3, f4⟩ := url_keep HQ.out
         obtain ⟨x0, x1, x2, x3, x4⟩ := url_thaw HK.out
         obtain ⟨y0, y1, y2, y3, y4⟩ := url_thaw HQ.out))
    all_goals
      go_wp2_with fail
      go_meet
      exact UrTwo.put ⟨HB.out, HK.out, HQ.out⟩ a b n p q c d m r s
  case rest =>
    replace hcut := Lib.hid hcut
    have HD := hcut
    clear hcut
    have inst : Nonempty (Wld (UrTwo w (urA a b n p q) (urA c d m r s))) := ⟨⟨_, HD.out⟩⟩
    have i0 : ∀ x : Wld (UrTwo w (urA a b n p q) (urA c d m r s)), x.val.cell? ⟨w.heap.size, 0, none⟩ = some (.string a) := fun x => x.ok.2.1.cell 0
    have i1 : ∀ x : Wld (UrTwo w (urA a b n p q) (urA c d m r s)), x.val.cell? ⟨w.heap.size, 1, none⟩ = some (.string b) := fun x => x.ok.2.1.cell 1
    have i2 : ∀ x : Wld (UrTwo w (urA a b n p q) (urA c d m r s)), x.val.cell? ⟨w.heap.size, 2, none⟩ = some (.int .i64 n) := fun x => x.ok.2.1.cell 2
    have i3 : ∀ x : Wld (UrTwo w (urA a b n p q) (urA c d m r s)), x.val.cell? ⟨w.heap.size, 3, none⟩ = some (.string p) := fun x => x.ok.2.1.cell 3
    have i4 : ∀ x : Wld (UrTwo w (urA a b n p q) (urA c d m r s)), x.val.cell? ⟨w.heap.size, 4, none⟩ = some (.string q) := fun x => x.ok.2.1.cell 4
    have j0 : ∀ x : Wld (UrTwo w (urA a b n p q) (urA c d m r s)), x.val.cell? ⟨w.heap.size + 1, 0, none⟩ = some (.string c) := fun x => x.ok.2.2.cell 0
    have j1 : ∀ x : Wld (UrTwo w (urA a b n p q) (urA c d m r s)), x.val.cell? ⟨w.heap.size + 1, 1, none⟩ = some (.string d) := fun x => x.ok.2.2.cell 1
    have j2 : ∀ x : Wld (UrTwo w (urA a b n p q) (urA c d m r s)), x.val.cell? ⟨w.heap.size + 1, 2, none⟩ = some (.int .i64 m) := fun x => x.ok.2.2.cell 2
    have j3 : ∀ x : Wld (UrTwo w (urA a b n p q) (urA c d m r s)), x.val.cell? ⟨w.heap.size + 1, 3, none⟩ = some (.string r) := fun x => x.ok.2.2.cell 3
    have j4 : ∀ x : Wld (UrTwo w (urA a b n p q) (urA c d m r s)), x.val.cell? ⟨w.heap.size + 1, 4, none⟩ = some (.string s) := fun x => x.ok.2.2.cell 4
    have HG := Lib.hid (fun (x : Wld (UrTwo w (urA a b n p q) (urA c d m r s))) => HG0.out x.val x.ok.1)
    have HRG := Lib.hid (fun (x : Wld (UrTwo w (urA a b n p q) (urA c d m r s))) => HRG0.out x.val x.ok.1)
    have HRG2 := Lib.hid (fun (x : Wld (UrTwo w (urA a b n p q) (urA c d m r s))) => HRG20.out x.val x.ok.1)
    have HT := Lib.hid (fun (x : Wld (UrTwo w (urA a b n p q) (urA c d m r s))) => HT0.out x.val x.ok.1)
    have HRT := Lib.hid (fun (x : Wld (UrTwo w (urA a b n p q) (urA c d m r s))) => HRT0.out x.val x.ok.1)
    have HO := Lib.hid (fun (x : Wld (UrTwo w (urA a b n p q) (urA c d m r s))) => HO0.out x.val x.ok.1)
    have HRO := Lib.hid (fun (x : Wld (UrTwo w (urA a b n p q) (urA c d m r s))) => HRO0.out x.val x.ok.1)
    have HRO2 := Lib.hid (fun (x : Wld (UrTwo w (urA a b n p q) (urA c d m r s))) => HRO20.out x.val x.ok.1)
    have HP := Lib.hid (fun (x : Wld (UrTwo w (urA a b n p q) (urA c d m r s))) => HP0.out x.val x.ok.1)
    have HRP := Lib.hid (fun (x : Wld (UrTwo w (urA a b n p q) (urA c d m r s))) => HRP0.out x.val x.ok.1)
    have HS := Lib.hid (fun (x : Wld (UrTwo w (urA a b n p q) (urA c d m r s))) => HS0.out x.val x.ok.1)
    cases g
    · have hV : V = false := HV.out
      subst hV
      go_wp2_with fail
      refine wp_region_class (UrTwo w (urA a b n p q) (urA c d m r s)) (by kernel_rfl) (by kernel_rfl) HD.out.drew ?_
      repeat (go_big_quiet_step (first
        | (go_at_call 12; with_reducible exact Calls.cls (HG.out _) fun _ h => UrTwo.next h)
        | (go_at_call 14; first | with_reducible exact Calls.cls (HRG.out _) fun _ h => UrTwo.next h | with_reducible exact Calls.cls (HRG2.out _) fun _ h => UrTwo.next h)
        | (go_at_call 15; with_reducible exact Calls.cls (HT.out _) fun _ h => UrTwo.next h)
        | (go_at_call 11; with_reducible exact Calls.cls (HRT.out _) fun _ h => UrTwo.next h)
        | (go_at_call 16; with_reducible exact Calls.cls (HO.out _) fun _ h => UrTwo.next h)
        | (go_at_call 17; first | with_reducible exact Calls.cls (HRO.out _) fun _ h => UrTwo.next h | with_reducible exact Calls.cls (HRO2.out _) fun _ h => UrTwo.next h)
        | (go_at_call 18; with_reducible exact Calls.cls (HP.out _) fun _ h => UrTwo.next h)
        | (go_at_call 19; with_reducible exact Calls.cls (HRP.out _) fun _ h => UrTwo.next h)
        | (go_at_call 20; with_reducible exact Calls.cls (HS.out _) fun _ h => UrTwo.next h)))
      refine wpQuiet_nil ?_
      intro w3 h3
      replace HD := Lib.hid h3
      clear h3
      go_wp2_with fail
      refine wp_region_class (UrTwo w (urA a b n p q) (urA c d m r s)) (by kernel_rfl) (by kernel_rfl) HD.out.drew ?_
      repeat (go_big_quiet_step (first
        | (go_at_call 12; with_reducible exact Calls.cls (HG.out _) fun _ h => UrTwo.next h)
        | (go_at_call 14; first | with_reducible exact Calls.cls (HRG.out _) fun _ h => UrTwo.next h | with_reducible exact Calls.cls (HRG2.out _) fun _ h => UrTwo.next h)
        | (go_at_call 15; with_reducible exact Calls.cls (HT.out _) fun _ h => UrTwo.next h)
        | (go_at_call 11; with_reducible exact Calls.cls (HRT.out _) fun _ h => UrTwo.next h)
        | (go_at_call 16; with_reducible exact Calls.cls (HO.out _) fun _ h => UrTwo.next h)
        | (go_at_call 17; first | with_reducible exact Calls.cls (HRO.out _) fun _ h => UrTwo.next h | with_reducible exact Calls.cls (HRO2.out _) fun _ h => UrTwo.next h)
        | (go_at_call 18; with_reducible exact Calls.cls (HP.out _) fun _ h => UrTwo.next h)
        | (go_at_call 19; with_reducible exact Calls.cls (HRP.out _) fun _ h => UrTwo.next h)
        | (go_at_call 20; with_reducible exact Calls.cls (HS.out _) fun _ h => UrTwo.next h)))
      refine wpQuiet_nil ?_
      intro w3 h3
      replace HD := Lib.hid h3
      clear h3
      obtain ⟨e0, e1, e2, e3, e4⟩ := url_keep HD.out.2.1
      go_wp2_with fail
      refine (HRG0.out _ HD.out.1).mono ?_
      rintro y w5 ⟨rfl, b5⟩
      replace HD := Lib.hid (HD.out.step b5)
      clear b5
      go_wp2_with fail
      refine (HLV.out _ HD.out.1).mono ?_
      rintro y w6 ⟨rfl, b6⟩
      replace HD := Lib.hid (HD.out.step b6)
      clear b6
      go_wp2
      go_ret
      exact ⟨rfl, HD.out.1⟩
    cases g'
    · have hV : V = false := HV.out
      subst hV
      go_wp2_with fail
      refine wp_region_class (UrTwo w (urA a b n p q) (urA c d m r s)) (by kernel_rfl) (by kernel_rfl) HD.out.drew ?_
      repeat (go_big_quiet_step (first
        | (go_at_call 12; with_reducible exact Calls.cls (HG.out _) fun _ h => UrTwo.next h)
        | (go_at_call 14; first | with_reducible exact Calls.cls (HRG.out _) fun _ h => UrTwo.next h | with_reducible exact Calls.cls (HRG2.out _) fun _ h => UrTwo.next h)
        | (go_at_call 15; with_reducible exact Calls.cls (HT.out _) fun _ h => UrTwo.next h)
        | (go_at_call 11; with_reducible exact Calls.cls (HRT.out _) fun _ h => UrTwo.next h)
        | (go_at_call 16; with_reducible exact Calls.cls (HO.out _) fun _ h => UrTwo.next h)
        | (go_at_call 17; first | with_reducible exact Calls.cls (HRO.out _) fun _ h => UrTwo.next h | with_reducible exact Calls.cls (HRO2.out _) fun _ h => UrTwo.next h)
        | (go_at_call 18; with_reducible exact Calls.cls (HP.out _) fun _ h => UrTwo.next h)
        | (go_at_call 19; with_reducible exact Calls.cls (HRP.out _) fun _ h => UrTwo.next h)
        | (go_at_call 20; with_reducible exact Calls.cls (HS.out _) fun _ h => UrTwo.next h)))
      refine wpQuiet_nil ?_
      intro w3 h3
      replace HD := Lib.hid h3
      clear h3
      go_wp2_with fail
      refine wp_region_class (UrTwo w (urA a b n p q) (urA c d m r s)) (by kernel_rfl) (by kernel_rfl) HD.out.drew ?_
      repeat (go_big_quiet_step (first
        | (go_at_call 12; with_reducible exact Calls.cls (HG.out _) fun _ h => UrTwo.next h)
        | (go_at_call 14; first | with_reducible exact Calls.cls (HRG.out _) fun _ h => UrTwo.next h | with_reducible exact Calls.cls (HRG2.out _) fun _ h => UrTwo.next h)
        | (go_at_call 15; with_reducible exact Calls.cls (HT.out _) fun _ h => UrTwo.next h)
        | (go_at_call 11; with_reducible exact Calls.cls (HRT.out _) fun _ h => UrTwo.next h)
        | (go_at_call 16; with_reducible exact Calls.cls (HO.out _) fun _ h => UrTwo.next h)
        | (go_at_call 17; first | with_reducible exact Calls.cls (HRO.out _) fun _ h => UrTwo.next h | with_reducible exact Calls.cls (HRO2.out _) fun _ h => UrTwo.next h)
        | (go_at_call 18; with_reducible exact Calls.cls (HP.out _) fun _ h => UrTwo.next h)
        | (go_at_call 19; with_reducible exact Calls.cls (HRP.out _) fun _ h => UrTwo.next h)
        | (go_at_call 20; with_reducible exact Calls.cls (HS.out _) fun _ h => UrTwo.next h)))
      refine wpQuiet_nil ?_
      intro w3 h3
      replace HD := Lib.hid h3
      clear h3
      obtain ⟨e0, e1, e2, e3, e4⟩ := url_keep HD.out.2.1
      go_wp2_with fail
      refine (HRG0.out _ HD.out.1).mono ?_
      rintro y w5 ⟨rfl, b5⟩
      replace HD := Lib.hid (HD.out.step b5)
      clear b5
      clear e0 e1 e2 e3 e4
      obtain ⟨e0, e1, e2, e3, e4⟩ := url_keep HD.out.2.1
      go_wp2_with fail
      refine (HRT0.out _ HD.out.1).mono ?_
      rintro y w6 ⟨rfl, b6⟩
      replace HD := Lib.hid (HD.out.step b6)
      clear b6
      go_wp2_with fail
      refine (HPA.out (by trivial) _ HD.out.1).mono ?_
      rintro y w7 ⟨rfl, b7⟩
      replace HD := Lib.hid (HD.out.step b7)
      clear b7
      obtain ⟨w8, hw8⟩ : ∃ w8, w8 = w7.alloc (urC a b n p q) := ⟨_, rfl⟩
      have HX := Lib.hid (show Blk w8 w7.heap.size 24 (urA a b n p q) from by rw [hw8]; exact Blk.new w7 _ _)
      replace HD := Lib.hid (show UrTwo w (urA a b n p q) (urA c d m r s) w8 from by rw [hw8]; exact HD.out.step ((Below.refl _ _).alloc (Nat.le_refl _) _))
      go_upto_region 9 with fail
      rw [← hw8]
      clear hw8 e0 e1 e2 e3 e4
      obtain ⟨e0, e1, e2, e3, e4⟩ := url_keep HD.out.2.1
      obtain ⟨x0, x1, x2, x3, x4⟩ := url_keep HX.out
      go_wp2_with fail
      refine (HLV.out _ HD.out.1).mono ?_
      rintro y w9 ⟨rfl, b9⟩
      replace HD := Lib.hid (HD.out.step b9)
      clear b9
      go_wp2
      go_ret
      exact ⟨rfl, HD.out.1⟩
    · have hV : V = (O.toList == O'.toList) := HV.out
      subst hV
      generalize hE : (O.toList == O'.toList) = E at *
      cases E
      all_goals
        go_wp2_with fail
        refine wp_region_class (UrTwo w (urA a b n p q) (urA c d m r s)) (by kernel_rfl) (by kernel_rfl) HD.out.drew ?_
        repeat (go_big_quiet_step (first
          | (go_at_call 12; with_reducible exact Calls.cls (HG.out _) fun _ h => UrTwo.next h)
          | (go_at_call 14; first | with_reducible exact Calls.cls (HRG.out _) fun _ h => UrTwo.next h | with_reducible exact Calls.cls (HRG2.out _) fun _ h => UrTwo.next h)
          | (go_at_call 15; with_reducible exact Calls.cls (HT.out _) fun _ h => UrTwo.next h)
          | (go_at_call 11; with_reducible exact Calls.cls (HRT.out _) fun _ h => UrTwo.next h)
          | (go_at_call 16; with_reducible exact Calls.cls (HO.out _) fun _ h => UrTwo.next h)
          | (go_at_call 17; first | with_reducible exact Calls.cls (HRO.out _) fun _ h => UrTwo.next h | with_reducible exact Calls.cls (HRO2.out _) fun _ h => UrTwo.next h)
          | (go_at_call 18; with_reducible exact Calls.cls (HP.out _) fun _ h => UrTwo.next h)
          | (go_at_call 19; with_reducible exact Calls.cls (HRP.out _) fun _ h => UrTwo.next h)
          | (go_at_call 20; with_reducible exact Calls.cls (HS.out _) fun _ h => UrTwo.next h)))
        refine wpQuiet_nil ?_
        intro w3 h3
        replace HD := Lib.hid h3
        clear h3
        go_wp2_with fail
        refine wp_region_class (UrTwo w (urA a b n p q) (urA c d m r s)) (by kernel_rfl) (by kernel_rfl) HD.out.drew ?_
        repeat (go_big_quiet_step (first
          | (go_at_call 12; with_reducible exact Calls.cls (HG.out _) fun _ h => UrTwo.next h)
          | (go_at_call 14; first | with_reducible exact Calls.cls (HRG.out _) fun _ h => UrTwo.next h | with_reducible exact Calls.cls (HRG2.out _) fun _ h => UrTwo.next h)
          | (go_at_call 15; with_reducible exact Calls.cls (HT.out _) fun _ h => UrTwo.next h)
          | (go_at_call 11; with_reducible exact Calls.cls (HRT.out _) fun _ h => UrTwo.next h)
          | (go_at_call 16; with_reducible exact Calls.cls (HO.out _) fun _ h => UrTwo.next h)
          | (go_at_call 17; first | with_reducible exact Calls.cls (HRO.out _) fun _ h => UrTwo.next h | with_reducible exact Calls.cls (HRO2.out _) fun _ h => UrTwo.next h)
          | (go_at_call 18; with_reducible exact Calls.cls (HP.out _) fun _ h => UrTwo.next h)
          | (go_at_call 19; with_reducible exact Calls.cls (HRP.out _) fun _ h => UrTwo.next h)
          | (go_at_call 20; with_reducible exact Calls.cls (HS.out _) fun _ h => UrTwo.next h)))
        refine wpQuiet_nil ?_
        intro w3 h3
        replace HD := Lib.hid h3
        clear h3
        obtain ⟨e0, e1, e2, e3, e4⟩ := url_keep HD.out.2.1
        go_wp2_with fail
        refine (HRG0.out _ HD.out.1).mono ?_
        rintro y w5 ⟨rfl, b5⟩
        replace HD := Lib.hid (HD.out.step b5)
        clear b5
        clear e0 e1 e2 e3 e4
        obtain ⟨e0, e1, e2, e3, e4⟩ := url_keep HD.out.2.1
        go_wp2_with fail
        refine (HRT0.out _ HD.out.1).mono ?_
        rintro y w6 ⟨rfl, b6⟩
        replace HD := Lib.hid (HD.out.step b6)
        clear b6
        go_wp2_with fail
        refine (HPA.out (by trivial) _ HD.out.1).mono ?_
        rintro y w7 ⟨rfl, b7⟩
        replace HD := Lib.hid (HD.out.step b7)
        clear b7
        obtain ⟨w8, hw8⟩ : ∃ w8, w8 = w7.alloc (urC a b n p q) := ⟨_, rfl⟩
        have HX := Lib.hid (show Blk w8 w7.heap.size 24 (urA a b n p q) from by rw [hw8]; exact Blk.new w7 _ _)
        replace HD := Lib.hid (show UrTwo w (urA a b n p q) (urA c d m r s) w8 from by rw [hw8]; exact HD.out.step ((Below.refl _ _).alloc (Nat.le_refl _) _))
        go_upto_region 9 with fail
        rw [← hw8]
        clear hw8 e0 e1 e2 e3 e4
        obtain ⟨e0, e1, e2, e3, e4⟩ := url_keep HD.out.2.1
        obtain ⟨x0, x1, x2, x3, x4⟩ := url_keep HX.out
        go_wp2_with fail
        refine (HLV.out _ HD.out.1).mono ?_
        rintro y w9 ⟨rfl, b9⟩
        replace HD := Lib.hid (HD.out.step b9)
        clear b9
        go_wp2
        go_ret
        exact ⟨rfl, HD.out.1⟩

theorem uwrites_any (u v : Plc) (w : World) (h1 : u.sc.size ≤ 9223372036854775807) (h2 : u.ho.size ≤ 9223372036854775807) (h3 : u.pa.size ≤ 9223372036854775807) (h4 : u.qu.size ≤ 9223372036854775807) (k1 : v.sc.size ≤ 9223372036854775807) (k2 : v.ho.size ≤ 9223372036854775807) (k3 : v.pa.size ≤ 9223372036854775807) (k4 : v.qu.size ≤ 9223372036854775807) (hl : Lib3 w) :
    Calls Tryz.prog 4 #[plV u, plV v] w fun e w' => e = .returned (.bool true) ∧ Below w.heap.size w w' := by
  obtain ⟨a0, b0, n, p0, q0⟩ := u
  obtain ⟨c0, d0, m, r0, s0⟩ := v
  simp only at h1 h2 h3 h4 k1 k2 k3 k4
  have HF := fun W => few26_any a0 b0 n p0 q0 W h1 h2 h3 h4
  have HF2 := fun W => few26_any c0 d0 m r0 s0 W k1 k2 k3 k4
  have x1 : (cutB a0 20).size ≤ 20 := cutB_size a0 20
  have x2 : (cutB b0 260).size ≤ 260 := cutB_size b0 260
  have x3 : (cutB p0 80).size ≤ 80 := cutB_size p0 80
  have x4 : (cutB q0 60).size ≤ 60 := cutB_size q0 60
  have y1 : (cutB c0 20).size ≤ 20 := cutB_size c0 20
  have y2 : (cutB d0 260).size ≤ 260 := cutB_size d0 260
  have y3 : (cutB r0 80).size ≤ 80 := cutB_size r0 80
  have y4 : (cutB s0 60).size ≤ 60 := cutB_size s0 60
  generalize cutB a0 20 = a at *
  generalize cutB b0 260 = b at *
  generalize cutB p0 80 = p at *
  generalize cutB q0 60 = q at *
  generalize cutB c0 20 = c at *
  generalize cutB d0 260 = d at *
  generalize cutB r0 80 = r at *
  generalize cutB s0 60 = s at *
  refine uwrites_walk a0 b0 p0 q0 c0 d0 r0 s0 a b p q c d r s (texG26 ⟨a, b, n, p, q⟩) (orgG ⟨a, b, n, p, q⟩) (orgG ⟨c, d, m, r, s⟩) n m (portU ⟨a, b, n, p, q⟩) (goodU ⟨a, b, n, p, q⟩) (goodU ⟨c, d, m, r, s⟩) (samB ⟨a, b, n, p, q⟩ ⟨c, d, m, r, s⟩) w
    (Lib.hid fun W _ => HF W) (Lib.hid fun W _ => HF2 W)
    (Lib.hid fun W hW => ugood_any a b n p q W (by omega) (by omega) (by omega) (hl.stays hW).m)
    (Lib.hid fun W _ => rgood26_any a b n p q W (by omega) (by omega) (by omega)) (Lib.hid fun W _ => rgood26_any c d m r s W (by omega) (by omega) (by omega))
    (Lib.hid fun W hW => text26_any a b n p q W (by omega) (by omega) (by omega) (by omega) (hl.stays hW).m (hl.stays hW).p)
    (Lib.hid fun W _ => rtext26_any a b n p q W (by omega) (by omega) (by omega) (by omega))
    (Lib.hid fun W hW => origin_any a b n p q W (by omega) (by omega) (by omega) (by omega) (hl.stays hW).m (hl.stays hW).p)
    (Lib.hid fun W _ => rorigin_any a b n p q W (by omega) (by omega) (by omega) (by omega)) (Lib.hid fun W _ => rorigin_any c d m r s W (by omega) (by omega) (by omega) (by omega))
    (Lib.hid fun W _ => port_any a b n p q W) (Lib.hid fun W _ => rPort_any a b n p q W)
    (Lib.hid fun W hW => same_any26 ⟨a, b, n, p, q⟩ ⟨c, d, m, r, s⟩ W (Nat.le_trans x2 (by decide)) (Nat.le_trans x3 (by decide)) (Nat.le_trans x4 (by decide)) (Nat.le_trans y2 (by decide)) (Nat.le_trans y3 (by decide)) (Nat.le_trans y4 (by decide)) (hl.stays hW).m)
    (Lib.hid rfl) (Lib.hid fun hg W hW => ?_) (Lib.hid fun W hW => lives26_any W (hl.stays hW))
  have ht := tex_size hg
  simp only at ht
  have hk : texG26 ⟨a, b, n, p, q⟩ = texU ⟨a, b, n, p, q⟩ := by unfold texG26; rw [hg]; rfl
  have hi := tex_url hg (Nat.le_trans ht (by omega))
  have HP := parse26_any (texU ⟨a, b, n, p, q⟩) W (Nat.le_trans ht (by omega)) (hl.stays hW).m (hl.stays hW).u
  rw [hi, plc_two] at HP
  rw [hk]
  exact HP

end Go.Proofs.YtagbndkfbnlpoaaGreatDoor
