/-
  From a walk to a law's statement: where a call returns true, and nothing older has turned, the row's post holds. Conditions: those of the lemma's hypotheses.
  An argument that is a type, written out. No condition.
  An argument that tells what is said of a body, written out. No condition.
-/
import Derived.Test.YtkdjjlfpaciohaaGreatDoorRows
import Derived.ProofKit
import Derived.WideKeyArgs
import Derived.Carry
import Derived.Lib.SmallJoins
import Derived.Test.YtkdjjlfpaciohaaGreatDoorZ11
import Derived.Deep.Slices
import Derived.ChangeMaps5
import Derived.OpenShut
import Derived.Deep.Strs
namespace Go.Proofs.YtkdjjlfpaciohaaGreatDoor
open Go.ChangeShapes Go.WideShapes Go.ChangeAt Go.RowKit Go.Joins

theorem trodAll_len {H : Type} {enc : TypeId × Value → H} {P : Program} {w : World} {base : Nat} {spare : Nat → Bool} {held : Bool} :
    ∀ (ts : List TypeId) (vs : List Value) (ds : List (DataW H)) (ps : List MemPlace), DataW.TrodAll enc P w base spare held ts vs ds ps → ds.length = ts.length
  | [], [], [], _, _ => rfl
  | _ :: ts, _ :: vs, _ :: ds, _, h => by
    obtain ⟨p, q, _, h2, _⟩ := h
    simpa using trodAll_len ts vs ds q h2
  | [], _ :: _, _, _, h => by cases h
  | [], [], _ :: _, _, h => by cases h
  | _ :: _, [], _, _, h => by cases h
  | _ :: _, _ :: _, [], _, h => by cases h

theorem trodAll_below {H : Type} {enc : TypeId × Value → H} {P : Program} (hl : laidOutB P = true) {W W' : World} (hb : Below W.heap.size W W') :
    ∀ (ts : List TypeId) (vs : List Value) (ds : List (DataW H)) (ps : List MemPlace), DataW.TrodAll enc P W 0 (fun _ => true) true ts vs ds ps →
      (∀ t ∈ ts, P.readableRec t = true ∧ t < P.types.size) → (∀ x ∈ ps, x.block < W.heap.size) →
      DataW.TrodAll enc P W' 0 (fun b => decide (b < W.heap.size)) true ts vs ds ps
  | [], [], [], _, h, _, _ => h
  | t :: ts, v :: vs, d :: ds, ps, h, hr, hlt => by
    obtain ⟨p, q, h1, h2, rfl⟩ := h
    exact ⟨p, q, Below.trod hl (hr t (by simp)).1 (hr t (by simp)).2 h1 hb (fun x hx => hlt x (by simp [hx])),
      trodAll_below hl hb ts vs ds q h2 (fun t ht => hr t (by simp [ht])) (fun x hx => hlt x (by simp [hx])), rfl⟩
  | [], _ :: _, _, _, h, _, _ => by cases h
  | [], [], _ :: _, _, h, _, _ => by cases h
  | _ :: _, [], _, _, h, _, _ => by cases h
  | _ :: _, _ :: _, [], _, h, _, _ => by cases h

theorem law_lifted {C : Checked} {os : Os} {f : FuncId} {fn : Func} {s : ChangeSpec} {tb : TypeId} {H : Type} {enc : TypeId × Value → H}
    (own : ownKnob C.prog.godebug = none) (started : os.Started) (noInit : C.prog.inits.idxOf? f = none) (hfn : C.prog.funcs[f]? = some fn) (hl : laidOutB C.prog = true)
    (hvars : s.vars = []) (hrt : fn.resultTypes = #[tb]) (htb : C.prog.underlying tb = some .bool)
    (hread : fn.params.toList.all (fun t => C.prog.readableRec t && decide (t < C.prog.types.size)) = true)
    (hs : ∀ ds : List (DataW H), ds.length = fn.params.toList.length → (s.fn H (ds ++ [])).results = [.lit (.bool true)] ∧ (s.fn H (ds ++ [])).args = ds ∧ (s.fn H (ds ++ [])).vars = [])
    (witness : ∃ (w : World) (tape : Tape) (i : Input), w.os = os ∧ (w.forCall tape i).Shaped C.prog ∧ i.vars = [] ∧ Input.okWide C.prog (w.forCall tape i) .any w.heap.size f i ∧
      s.pre6 enc C.prog fn [] false (w.forCall tape i).memory i.args ∧ ({} : Assume).holds C.prog (lone (Frame.enter C.prog f i.args .normal) [] (w.forCall tape i)))
    (hcall : ∀ (W : World) (base : Nat) (args : Array Value) (ds : List (DataW H)) (p : List MemPlace),
      (∀ (j : Nat) t v, fn.params[j]? = some t → args[j]? = some v → Value.okWide C.prog W .any base t v) →
      DataW.TrodAll enc C.prog W 0 (fun _ => true) true fn.params.toList args.toList ds p → (∀ x ∈ p, x.block < W.heap.size) →
      Calls C.prog f args W fun e W' => e = .returned (.bool true) ∧ Below W.heap.size W W') :
    ReturnsInHanded {} C os f .any (s.pre6 enc C.prog fn [] false) (s.post enc C.prog fn false true false false) := by
  refine returnsInHanded_of_change (C := C) own started noInit hfn witness ?_
  intro W base args ds gs before hval hW _ _
  have hW' := hW
  obtain ⟨p, q, hA, hV, rfl, hfz, hnd⟩ := hW
  rw [hvars] at hV
  obtain ⟨rfl, rfl⟩ := trodVars_none hV
  simp only [List.append_nil] at hW'
  have hlt : ∀ x ∈ p, x.block < W.heap.size := fun x hx => by simpa using hW'.lt x hx
  refine (hcall W base args ds p hval hA hlt).mono fun e W' ⟨he, hb⟩ => ?_
  subst he
  obtain ⟨e1, e2, e3⟩ := hs ds (trodAll_len _ _ _ _ hA)
  refine ⟨_, rfl, ds, [], p, [], p, [], hW', ?_, ?_, ?_, hb.frame _, fun h => by cases h⟩
  · rw [e1, hrt]
    exact trodAll_mk1 (shut_bool htb true)
  · rw [e2]
    simp only [List.all_eq_true, Bool.and_eq_true, decide_eq_true_eq] at hread
    exact trodAll_below hl hb _ _ _ _ hA (fun t ht => hread t ht) hlt
  · rw [e3, hvars]
    rfl

/-- A number that can be read as a byte is one's. -/
theorem byte_of {n : Int} (h : (Lit.int .u8 n).wf = true) : ∃ b : UInt8, n = (b.toNat : Int) := by
  have h' : 0 ≤ n ∧ n < 256 := by
    have e1 : IntKind.u8.min = 0 := by kernel_rfl
    have e2 : IntKind.u8.max = 255 := by kernel_rfl
    simp [Lit.wf, e1, e2] at h
    omega
  refine ⟨UInt8.ofNat n.toNat, ?_⟩
  rw [UInt8.toNat_ofNat']
  omega

theorem Tryz.own : ownKnob Tryz.prog.godebug = none := by kernel_rfl
theorem Tryz.laidOut : laidOutB Tryz.prog = true := by kernel_rfl

end Go.Proofs.YtkdjjlfpaciohaaGreatDoor
namespace Go.Proofs.YtkdjjlfpaciohaaGreatDoor
open Go.ChangeShapes Go.WideShapes Go.ChangeAt Go.RowKit Go.Joins Go.Deep

theorem Tryz.cellsMime : Tryz.prog.cellsOf 24 = 3 := by kernel_rfl
theorem Tryz.cellsPrm : Tryz.prog.cellsOf 47 = 2 := by kernel_rfl
theorem Tryz.cellsStr1 : Tryz.prog.cellsOf 9 = 1 := by kernel_rfl

theorem open_str {H : Type} {enc : TypeId × Value → H} {W : World} {base : Nat} {spare : Nat → Bool} {held : Bool} {n : Nat} {v : Value} {y : DataW H × List MemPlace}
    (h : DataW.trod enc Tryz.prog W base spare held n 9 [v] = some y) : ∃ s : ByteArray, v = .string s ∧ s.size ≤ 9223372036854775807 := by
  obtain ⟨s, e, _, hs⟩ := DataW.trod_string Tryz.underlying9 h
  unfold maxLen at hs
  exact ⟨s, by simpa using e, hs⟩

set_option maxRecDepth 100000 in
theorem open_prms {H : Type} {enc : TypeId × Value → H} {W : World} {f : Nat} {v : Value} {y : DataW H × List MemPlace}
    (h : DataW.trod enc Tryz.prog W 0 (fun _ => true) true f 22 [v] = some y) :
    ∃ (A : Option Addr) (n c : Nat) (lp : Nat → Prm), v = .slice A n c ∧ n ≤ 9223372036854775807 ∧ Came W A n lp := by
  rcases open_slice Tryz.underlying22 h with ⟨hc, _⟩ | ⟨a, len, cap, m, nn, D, Pl, hc, _, hl, hm, hmm, _, hi⟩
  · simp at hc
    subst hc
    exact ⟨none, 0, 0, fun _ => ⟨⟨#[]⟩, ⟨#[]⟩⟩, rfl, by omega, fun i h => absurd h (by omega)⟩
  · simp at hc
    subst hc
    simp at hmm
    unfold maxLen at hm
    have key : ∀ i, i < len → ∃ p : Prm, a.block < W.heap.size ∧ W.cell? (a.add (i * 2)) = some (.string p.n) ∧ W.cell? ⟨(a.add (i * 2)).block, (a.add (i * 2)).off + 1, none⟩ = some (.string p.v) ∧ p.n.size ≤ 9223372036854775807 ∧ p.v.size ≤ 9223372036854775807 := fun i hin => by
      obtain ⟨cs, hcs, ht⟩ := hi i (by omega)
      rw [Tryz.cellsPrm] at hcs
      obtain ⟨_, hlen, hat⟩ := World.cells?_some hcs
      obtain ⟨y0, y1, k, _, _, t0, t1⟩ := trod_struct2 Tryz.underlying47 ht
      match cs, hlen with
      | [v0, v1], _ =>
        simp [Tryz.cellsStr1] at t0 t1
        obtain ⟨s0, rfl, e0⟩ := open_str t0
        obtain ⟨s1, rfl, e1⟩ := open_str t1
        have c0 : W.cell? (a.add (i * 2)) = some (.string s0) := by
          have := hat 0 (by omega)
          simpa [Tryz.cellsPrm, Addr.add] using this
        have c1 := hat 1 (by omega)
        have hblk := World.block_lt_of_cell? W _ c0
        rw [madd_block] at hblk
        exact ⟨⟨s0, s1⟩, hblk, c0, c1, e0, e1⟩
    refine ⟨some a, len, cap, fun i => if hi : i < len then Classical.choose (key i hi) else ⟨⟨#[]⟩, ⟨#[]⟩⟩, rfl, by omega, fun i hin => ?_⟩
    simp only [dif_pos hin]
    exact ⟨a, rfl, Classical.choose_spec (key i hin)⟩

set_option maxRecDepth 100000 in
theorem open_mime {H : Type} {enc : TypeId × Value → H} {W : World} {base : Nat} {v : Value} {d : DataW H} {p : List MemPlace}
    (hv : Value.okWide Tryz.prog W .any base 24 v) (h : DataW.Trod enc Tryz.prog W 0 (fun _ => true) true 24 v d p) :
    ∃ (t u : ByteArray) (A : Option Addr) (n c : Nat) (lp : Nat → Prm), v = mimV t u A n c ∧ t.size ≤ 9223372036854775807 ∧ u.size ≤ 9223372036854775807 ∧ n ≤ 9223372036854775807 ∧ Came W A n lp := by
  obtain ⟨v0, v1, v2, y0, y1, y2, k, rfl, _, _, h0, h1, h2⟩ := open_agg3 Tryz.underlying24 (by kernel_rfl) Tryz.cellsMime hv h
  obtain ⟨s0, rfl, e0⟩ := open_str h0
  obtain ⟨s1, rfl, e1⟩ := open_str h1
  obtain ⟨A, n, c, lp, rfl, hn, hc⟩ := open_prms h2
  exact ⟨s0, s1, A, n, c, lp, rfl, e0, e1, hn, hc⟩

end Go.Proofs.YtkdjjlfpaciohaaGreatDoor
namespace Go.Proofs.YtkdjjlfpaciohaaGreatDoor
open Go.ChangeShapes Go.WideShapes Go.ChangeAt Go.RowKit Go.Joins Go.Deep

/-- What is said, as a value. -/
abbrev saidV (t u : ByteArray) (A : Option Addr) (n c : Nat) (has ns bug : Bool) : Value := .agg #[.string t, .string u, .slice A n c, .bool has, .bool ns, .bool bug]
theorem Tryz.cellsSaid : Tryz.prog.cellsOf 26 = 6 := by kernel_rfl
theorem Tryz.cellsBool1 : Tryz.prog.cellsOf 4 = 1 := by kernel_rfl
theorem array6 {α : Type} {cs : Array α} (h : cs.size = 6) : ∃ c0 c1 c2 c3 c4 c5, cs = #[c0, c1, c2, c3, c4, c5] := by
  obtain ⟨l⟩ := cs
  match l, h with
  | [c0, c1, c2, c3, c4, c5], _ => exact ⟨c0, c1, c2, c3, c4, c5, rfl⟩
theorem open_bool21 {H : Type} {enc : TypeId × Value → H} {W : World} {base : Nat} {spare : Nat → Bool} {held : Bool} {n : Nat} {v : Value} {y : DataW H × List MemPlace}
    (h : DataW.trod enc Tryz.prog W base spare held n 4 [v] = some y) : ∃ b : Bool, v = .bool b := by
  obtain ⟨k0, e0, _⟩ := DataW.trod_bool Tryz.underlying4 h
  exact ⟨k0, by simpa using e0⟩
set_option maxRecDepth 100000 in
theorem open_said {H : Type} {enc : TypeId × Value → H} {W : World} {base : Nat} {v : Value} {d : DataW H} {p : List MemPlace}
    (hv : Value.okWide Tryz.prog W .any base 26 v) (h : DataW.Trod enc Tryz.prog W 0 (fun _ => true) true 26 v d p) :
    ∃ (t u : ByteArray) (A : Option Addr) (n c : Nat) (lp : Nat → Prm) (has ns bug : Bool), v = saidV t u A n c has ns bug ∧ t.size ≤ 9223372036854775807 ∧ u.size ≤ 9223372036854775807 ∧ n ≤ 9223372036854775807 ∧ Came W A n lp := by
  obtain ⟨cs, rfl, hsz⟩ := okWide_struct Tryz.underlying26 hv
  obtain ⟨c0, c1, c2, c3, c4, c5, rfl⟩ := array6 (hsz.trans Tryz.cellsSaid)
  obtain ⟨fuel, hf⟩ := h
  obtain ⟨y0, y1, y2, y3, k, _, _, h0, h1, h2, h3⟩ := trod_struct4 Tryz.underlying26 hf
  simp [Value.cells, Tryz.cellsMime, Tryz.cellsBool1] at h0 h1 h2 h3
  obtain ⟨z0, z1, z2, m, _, _, g0, g1, g2⟩ := trod_struct3 Tryz.underlying24 h0
  simp [Tryz.cellsStr1] at g0 g1 g2
  obtain ⟨s0, rfl, e0⟩ := open_str g0
  obtain ⟨s1, rfl, e1⟩ := open_str g1
  obtain ⟨A, n, c, lp, rfl, hn, hc⟩ := open_prms g2
  obtain ⟨b0, rfl⟩ := open_bool21 h1
  obtain ⟨b1, rfl⟩ := open_bool21 h2
  obtain ⟨b2, rfl⟩ := open_bool21 h3
  exact ⟨s0, s1, A, n, c, lp, b0, b1, b2, rfl, e0, e1, hn, hc⟩

end Go.Proofs.YtkdjjlfpaciohaaGreatDoor
