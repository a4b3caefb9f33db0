/-
  What Few of layer 10's statements answers. Condition: the texts are as long as a length can be; what an argument's reading gives.
  The laws JscriptStays, JscriptWords and JscriptNone of layer 28 return true of every input. Condition: the texts are as long as a length can be.
  From a walk to a law's statement: where a call returns true, and nothing older has turned, the row's post holds. Conditions: those of the lemma's hypotheses.
-/
import Derived.Test.YtlaohbdkoieclaaZ4
import Derived.Test.YtlaohbdkoieclaaZ10
import Derived.Deep.AppendLies
import Derived.Deep.RegionHeld3
import Derived.Deep.RegionWith
import Derived.Deep.DeepCutAuto
import Derived.Test.YtlaohbdkoieclaaRows
import Derived.ProofKit
import Derived.WideKeyArgs
import Derived.Carry
import Derived.Lib.SmallJoins
namespace Go.Proofs.Ytlaohbdkoieclaa
open Go.RowKit

theorem cutB_id {s : ByteArray} {n : Nat} (h : s.size ≤ n) : cutB s n = s := by unfold cutB; rw [if_neg (by omega)]
end Go.Proofs.Ytlaohbdkoieclaa
namespace Go.Proofs.Ytlaohbdkoieclaa
open Go.RowKit

set_option maxHeartbeats 4000000 in
set_option maxRecDepth 10000 in
theorem jscriptStays_any (s t : ByteArray) (n : Nat) (w : World) (hs : s.size ≤ 9223372036854775807) (ht : t.size ≤ 9223372036854775807) (hn : n ≤ 255) :
    Calls Try.prog 3 #[.string s, .string t, .int .u8 (n : Nat)] w fun e w' => e = .returned (.bool true) ∧ Below w.heap.size w w' := by
  have HC0 := Lib.hid (fun W => cut_any s 200 W hs)
  have HD0 := Lib.hid (fun W => cut_any t 100 W ht)
  have hu := cutB_size s 200
  have hv := cutB_size t 100
  generalize cutB s 200 = u at *
  generalize cutB t 100 = v at *
  have HC : Hid (∀ W, Calls Try.prog 6 #[.string s, .int .i64 200] W fun e w' => e = .returned (.string u) ∧ W = w') := HC0
  have HD : Hid (∀ W, Calls Try.prog 6 #[.string t, .int .i64 100] W fun e w' => e = .returned (.string v) ∧ W = w') := HD0
  obtain ⟨m, hm⟩ : ∃ m, m = n % 20 := ⟨_, rfl⟩
  have gm : ((n : Nat) : Int) % 20 = (m : Int) := by omega
  have hm20 : m < 20 := by omega
  have HW := Lib.hid (fun W => hwhole_any u m W (by omega))
  have hz : (u ++ v).size ≤ 1152921504606846976 := by rw [ByteArray.size_append]; omega
  have HX := Lib.hid (fun W => hwhole_any (u ++ v) m W hz)
  rw [show min m 200 = m from by omega] at HW HX
  have HL := Lib.hid hlives_any
  clear HC0 HD0 hm hz hm20
  have hbad := tol_bad (D := m) (s := u) (m := v)
  have hgood := tol_open (D := m) (s := u) (m := v)
  have e1 : endsH (tolH m u) = ((tolH m u).2.2.2.2 : Nat) := rfl
  have e2 : endsH (tolH m (u ++ v)) = ((tolH m (u ++ v)).2.2.2.2 : Nat) := rfl
  generalize staH (tolH m u) = a at *
  generalize staH (tolH m (u ++ v)) = b at *
  generalize plaH u.size (tolH m u) = at_ at *
  generalize plaH (u ++ v).size (tolH m (u ++ v)) = place at *
  generalize endsH (tolH m u) = n1 at *
  generalize endsH (tolH m (u ++ v)) = n2 at *
  generalize (tolH m u).2.2.2.2 = k1 at *
  generalize (tolH m (u ++ v)).2.2.2.2 = k2 at *
  by_cases hst : a = 0
  · obtain ⟨h1, h2, h3, h4, h5⟩ := hbad hst
    subst h1 h2 hst
    have h6 : n2 = n1 := by rw [e1, e2, h3]
    subst h6
    clear hbad hgood e1 e2 h3
    have t1 : decide ((0 : Int) ≤ place) = true := decide_eq_true h4
    have t2 : decide (place < (u.size : Int)) = true := decide_eq_true h5
    clear h4 h5
    go_enter Try.func3, Try.ntmps3
    go_wp2_with (first
      | (go_at_call 6; (with_reducible refine (HC.out _).mono ?_); rintro e w1 ⟨rfl, rfl⟩)
      | (go_at_call 6; (with_reducible refine (HD.out _).mono ?_); rintro e w1 ⟨rfl, rfl⟩)
      | (go_at_call 7; (with_reducible refine (HW.out _).mono ?_); rintro e w2 ⟨rfl, hb⟩; have HB2 := Lib.hid hb; clear hb)
      | (go_at_call 7; (with_reducible refine (HX.out _).mono ?_); rintro e w3 ⟨rfl, hb⟩; have HB3 := Lib.hid (below_on HB2.out hb); clear hb)
      | (go_at_call 8; (with_reducible refine (HL.out _).mono ?_); rintro e w6 ⟨rfl, hb⟩; have HB6 := Lib.hid (below_on HB3.out hb); clear hb))
    go_ret
    exact ⟨rfl, HB6.out⟩
  · have c1 : (a == 0) = false := by rw [beq_eq_false_iff_ne]; exact hst
    obtain ⟨h1, h2, h3⟩ := hgood hst
    subst h1
    have t3 : decide (n1 ≤ n2) = true := decide_eq_true (by rw [e1, e2]; omega)
    have hc : (place == -1) = true ∨ ((place == -1) = false ∧ decide ((u.size : Int) ≤ place) = true) := by
      cases h : (place == -1)
      · rw [beq_eq_false_iff_ne] at h
        rcases h2 with h2 | h2
        · exact absurd h2 h
        · exact Or.inr ⟨rfl, decide_eq_true h2⟩
      · exact Or.inl rfl
    clear hbad hgood hst h2 h3 e1 e2
    rcases hc with c3 | ⟨c3, c4⟩
    all_goals
      go_enter Try.func3, Try.ntmps3
      go_wp2_with (first
        | (go_at_call 6; (with_reducible refine (HC.out _).mono ?_); rintro e w1 ⟨rfl, rfl⟩)
        | (go_at_call 6; (with_reducible refine (HD.out _).mono ?_); rintro e w1 ⟨rfl, rfl⟩)
        | (go_at_call 7; (with_reducible refine (HW.out _).mono ?_); rintro e w2 ⟨rfl, hb⟩; have HB2 := Lib.hid hb; clear hb)
        | (go_at_call 7; (with_reducible refine (HX.out _).mono ?_); rintro e w3 ⟨rfl, hb⟩; have HB3 := Lib.hid (below_on HB2.out hb); clear hb)
        | (go_at_call 8; (with_reducible refine (HL.out _).mono ?_); rintro e w6 ⟨rfl, hb⟩; have HB6 := Lib.hid (below_on HB3.out hb); clear hb))
      go_ret
      exact ⟨rfl, HB6.out⟩

set_option maxHeartbeats 4000000 in
theorem jscriptWords_any (s : ByteArray) (w : World) (hs : s.size ≤ 9223372036854775807) :
    Calls Try.prog 4 #[.string s] w fun e w' => e = .returned (.bool true) ∧ Below w.heap.size w w' := by
  have HC0 := Lib.hid (fun W => cut_any s 40 W hs)
  generalize cutB s 40 = u at *
  have HC : Hid (∀ W, Calls Try.prog 6 #[.string s, .int .i64 40] W fun e w' => e = .returned (.string u) ∧ W = w') := HC0
  have HK := Lib.hid (fun W => keyword_any u W)
  have HR := Lib.hid (fun W => rkeyword28_any u W)
  have HL := Lib.hid hlives_any
  clear HC0
  generalize kwdH u.data.toList = k at *
  cases k
  all_goals
    go_enter Try.func4, Try.ntmps4
    go_wp2_with (first
      | (go_at_call 6; (with_reducible refine (HC.out _).mono ?_); rintro e w1 ⟨rfl, rfl⟩)
      | (go_at_call 9; (with_reducible refine (HK.out _).mono ?_); rintro e w1 ⟨rfl, rfl⟩)
      | (go_at_call 10; (with_reducible refine (HR.out _).mono ?_); rintro e w2 ⟨rfl, hb⟩; have HB2 := Lib.hid hb; clear hb)
      | (go_at_call 8; (with_reducible refine (HL.out _).mono ?_); rintro e w6 ⟨rfl, hb⟩; have HB6 := Lib.hid (below_on HB2.out hb); clear hb))
    go_ret
    exact ⟨rfl, HB6.out⟩

set_option maxHeartbeats 4000000 in
theorem jscriptNone_any (s : ByteArray) (w : World) :
    Calls Try.prog 5 #[.string s] w fun e w' => e = .returned (.bool true) ∧ Below w.heap.size w w' := by
  have HL := Lib.hid hlives_any
  have HF := Lib.hid (fun W => hfeed_nil s W)
  have HS := Lib.hid hstate_nil
  have HP := Lib.hid hplace_nil
  have HB := Lib.hid hpieces_nil
  have HN := Lib.hid hends_nil
  have HD := Lib.hid hdepth_nil
  have HE := Lib.hid hseen_nil
  go_enter Try.func5, Try.ntmps5
  go_wp2_with (first
    | (go_at_call 11; (with_reducible refine (HF.out _).mono ?_); rintro e w1 ⟨rfl, rfl⟩)
    | (go_at_call 12; (with_reducible refine (HS.out _).mono ?_); rintro e w1 ⟨rfl, rfl⟩)
    | (go_at_call 13; (with_reducible refine (HP.out _).mono ?_); rintro e w1 ⟨rfl, rfl⟩)
    | (go_at_call 14; (with_reducible refine (HB.out _).mono ?_); rintro e w1 ⟨rfl, rfl⟩)
    | (go_at_call 15; (with_reducible refine (HN.out _).mono ?_); rintro e w1 ⟨rfl, rfl⟩)
    | (go_at_call 16; (with_reducible refine (HD.out _).mono ?_); rintro e w1 ⟨rfl, rfl⟩)
    | (go_at_call 17; (with_reducible refine (HE.out _).mono ?_); rintro e w1 ⟨rfl, rfl⟩)
    | (go_at_call 8; (with_reducible refine (HL.out _).mono ?_); rintro e w6 ⟨rfl, hb⟩))
  go_ret
  exact ⟨rfl, hb⟩
end Go.Proofs.Ytlaohbdkoieclaa
namespace Go.Proofs.Ytlaohbdkoieclaa
open Go.ChangeShapes Go.WideShapes Go.ChangeAt Go.RowKit Go.Joins

theorem trodAll_len {H : Type} {enc : TypeId × Value → H} {P : Program} {w : World} {base : Nat} {spare : Nat → Bool} {held : Bool} :
    ∀ (ts : List TypeId) (vs : List Value) (ds : List (DataW H)) (ps : List MemPlace), DataW.TrodAll enc P w base spare held ts vs ds ps → ds.length = ts.length
  | [], [], [], _, _ => rfl
  | _ :: ts, _ :: vs, _ :: ds, _, h => by
    obtain ⟨p, q, _, h2, _⟩ := h
    simpa using trodAll_len ts vs ds q h2
  | [], _ :: _, _, _, h => by cases h
  | [], [], _ :: _, _, h => by cases h
  | _ :: _, [], _, _, h => by cases h
  | _ :: _, _ :: _, [], _, h => by cases h

theorem trodAll_below {H : Type} {enc : TypeId × Value → H} {P : Program} (hl : laidOutB P = true) {W W' : World} (hb : Below W.heap.size W W') :
    ∀ (ts : List TypeId) (vs : List Value) (ds : List (DataW H)) (ps : List MemPlace), DataW.TrodAll enc P W 0 (fun _ => true) true ts vs ds ps →
      (∀ t ∈ ts, P.readableRec t = true ∧ t < P.types.size) → (∀ x ∈ ps, x.block < W.heap.size) →
      DataW.TrodAll enc P W' 0 (fun b => decide (b < W.heap.size)) true ts vs ds ps
  | [], [], [], _, h, _, _ => h
  | t :: ts, v :: vs, d :: ds, ps, h, hr, hlt => by
    obtain ⟨p, q, h1, h2, rfl⟩ := h
    exact ⟨p, q, Below.trod hl (hr t (by simp)).1 (hr t (by simp)).2 h1 hb (fun x hx => hlt x (by simp [hx])),
      trodAll_below hl hb ts vs ds q h2 (fun t ht => hr t (by simp [ht])) (fun x hx => hlt x (by simp [hx])), rfl⟩
  | [], _ :: _, _, _, h, _, _ => by cases h
  | [], [], _ :: _, _, h, _, _ => by cases h
  | _ :: _, [], _, _, h, _, _ => by cases h
  | _ :: _, _ :: _, [], _, h, _, _ => by cases h

theorem law_lifted {C : Checked} {os : Os} {f : FuncId} {fn : Func} {s : ChangeSpec} {tb : TypeId} {H : Type} {enc : TypeId × Value → H}
    (own : ownKnob C.prog.godebug = none) (started : os.Started) (noInit : C.prog.inits.idxOf? f = none) (hfn : C.prog.funcs[f]? = some fn) (hl : laidOutB C.prog = true)
    (hvars : s.vars = []) (hrt : fn.resultTypes = #[tb]) (htb : C.prog.underlying tb = some .bool)
    (hread : fn.params.toList.all (fun t => C.prog.readableRec t && decide (t < C.prog.types.size)) = true)
    (hs : ∀ ds : List (DataW H), ds.length = fn.params.toList.length → (s.fn H (ds ++ [])).results = [.lit (.bool true)] ∧ (s.fn H (ds ++ [])).args = ds ∧ (s.fn H (ds ++ [])).vars = [])
    (witness : ∃ (w : World) (tape : Tape) (i : Input), w.os = os ∧ (w.forCall tape i).Shaped C.prog ∧ i.vars = [] ∧ Input.okWide C.prog (w.forCall tape i) .any w.heap.size f i ∧
      s.pre6 enc C.prog fn [] false (w.forCall tape i).memory i.args ∧ ({} : Assume).holds C.prog (lone (Frame.enter C.prog f i.args .normal) [] (w.forCall tape i)))
    (hcall : ∀ (W : World) (base : Nat) (args : Array Value) (ds : List (DataW H)) (p : List MemPlace),
      (∀ (j : Nat) t v, fn.params[j]? = some t → args[j]? = some v → Value.okWide C.prog W .any base t v) →
      DataW.TrodAll enc C.prog W 0 (fun _ => true) true fn.params.toList args.toList ds p → (∀ x ∈ p, x.block < W.heap.size) →
      Calls C.prog f args W fun e W' => e = .returned (.bool true) ∧ Below W.heap.size W W') :
    ReturnsInHanded {} C os f .any (s.pre6 enc C.prog fn [] false) (s.post enc C.prog fn false true false false) := by
  refine returnsInHanded_of_change (C := C) own started noInit hfn witness ?_
  intro W base args ds gs before hval hW _ _
  have hW' := hW
  obtain ⟨p, q, hA, hV, rfl, hfz, hnd⟩ := hW
  rw [hvars] at hV
  obtain ⟨rfl, rfl⟩ := trodVars_none hV
  simp only [List.append_nil] at hW'
  have hlt : ∀ x ∈ p, x.block < W.heap.size := fun x hx => by simpa using hW'.lt x hx
  refine (hcall W base args ds p hval hA hlt).mono fun e W' ⟨he, hb⟩ => ?_
  subst he
  obtain ⟨e1, e2, e3⟩ := hs ds (trodAll_len _ _ _ _ hA)
  refine ⟨_, rfl, ds, [], p, [], p, [], hW', ?_, ?_, ?_, hb.frame _, fun h => by cases h⟩
  · rw [e1, hrt]
    exact trodAll_mk1 (shut_bool htb true)
  · rw [e2]
    simp only [List.all_eq_true, Bool.and_eq_true, decide_eq_true_eq] at hread
    exact trodAll_below hl hb _ _ _ _ hA (fun t ht => hread t ht) hlt
  · rw [e3, hvars]
    rfl

/-- A number that can be read as a byte is one's. -/
theorem byte_of {n : Int} (h : (Lit.int .u8 n).wf = true) : ∃ b : UInt8, n = (b.toNat : Int) := by
  have h' : 0 ≤ n ∧ n < 256 := by
    have e1 : IntKind.u8.min = 0 := by kernel_rfl
    have e2 : IntKind.u8.max = 255 := by kernel_rfl
    simp [Lit.wf, e1, e2] at h
    omega
  refine ⟨UInt8.ofNat n.toNat, ?_⟩
  rw [UInt8.toNat_ofNat']
  omega

theorem Try.own : ownKnob Try.prog.godebug = none := by kernel_rfl
theorem Try.laidOut : laidOutB Try.prog = true := by kernel_rfl

end Go.Proofs.Ytlaohbdkoieclaa
