/-
  The law Mp4Boxes, and an argument that is a slice of twos of texts, written out. Condition: what an argument's reading gives.
-/
import Derived.Test.YtbibcpbldnedhaaYi
import Derived.Test.YtbibcpbldnedhaaYj
import Derived.Test.YtbibcpbldnedhaaWd
import Derived.Test.YtbibcpbldnedhaaWi
import Derived.Test.YtbibcpbldnedhaaIg
import Derived.Test.YtbibcpbldnedhaaLift
import Derived.SizedLaws
import Derived.Deep.Slices
import Derived.Lib.SmallJoins
import Derived.ChangeMaps5
import Derived.OpenShut
namespace Go.Proofs.Ytbibcpbldnedhaa
open Go.ChangeShapes Go.WideShapes Go.ChangeAt Go.RowKit Go.Joins Go.Deep

theorem weightsAll_mem {H : Type} {P : Program} {e : TypeId} : ∀ {ds : List (DataW H)} {d : DataW H}, d ∈ ds → ∀ n ∈ d.weights P e, n ∈ DataW.weightsAll P e ds
  | d0 :: ds, d, h, n, hn => by
    simp only [DataW.weightsAll, List.mem_append]
    rcases List.mem_cons.1 h with rfl | h
    · exact .inl hn
    · exact .inr (weightsAll_mem h n hn)
  | [], _, h, _, _ => by cases h

theorem law_lifted_sized {C : Checked} {os : Os} {f : FuncId} {fn : Func} {s : ChangeSpec} {tb : TypeId} {H : Type} {enc : TypeId × Value → H}
    (own : ownKnob C.prog.godebug = none) (started : os.Started) (noInit : C.prog.inits.idxOf? f = none) (hfn : C.prog.funcs[f]? = some fn) (hl : laidOutB C.prog = true)
    (hvars : s.vars = []) (hrt : fn.resultTypes = #[tb]) (htb : C.prog.underlying tb = some .bool)
    (hread : fn.params.toList.all (fun t => C.prog.readableRec t && decide (t < C.prog.types.size)) = true)
    (hs : ∀ ds : List (DataW H), ds.length = fn.params.toList.length → (s.fn H (ds ++ [])).results = [.lit (.bool true)] ∧ (s.fn H (ds ++ [])).args = ds ∧ (s.fn H (ds ++ [])).vars = [])
    (witness : ∃ (w : World) (tape : Tape) (i : Input), w.os = os ∧ (w.forCall tape i).Shaped C.prog ∧ i.vars = [] ∧ Input.okWide C.prog (w.forCall tape i) .any w.heap.size f i ∧
      s.pre6 enc C.prog fn [] false (w.forCall tape i).memory i.args ∧ ({} : Assume).holds C.prog (lone (Frame.enter C.prog f i.args .normal) [] (w.forCall tape i)))
    (hcall : ∀ (W : World) (base : Nat) (args : Array Value) (ds : List (DataW H)) (p : List MemPlace),
      (∀ (j : Nat) t v, fn.params[j]? = some t → args[j]? = some v → Value.okWide C.prog W .any base t v) →
      DataW.TrodAll enc C.prog W 0 (fun _ => true) true fn.params.toList args.toList ds p → (∀ x ∈ p, x.block < W.heap.size) →
      (DataW.weightsEach C.prog fn.params.toList ds).all (· ≤ reachBytes) = true →
      Calls C.prog f args W fun e W' => e = .returned (.bool true) ∧ Below W.heap.size W W') :
    ReturnsInHanded {} C os f .any (s.pre6 enc C.prog fn [] false) (s.post enc C.prog fn false true false false) := by
  refine returnsInHanded_of_change_sized (C := C) own started noInit hfn witness ?_
  intro W base args ds gs before hval hW _ hsz _
  have hW' := hW
  obtain ⟨p, q, hA, hV, rfl, hfz, hnd⟩ := hW
  rw [hvars] at hV
  obtain ⟨rfl, rfl⟩ := trodVars_none hV
  simp only [List.append_nil] at hW'
  have hvt : s.plain.varTypes C.prog = [] := by
    show s.vars.filterMap _ = []
    rw [hvars]
    rfl
  rw [hvt, List.append_nil, List.append_nil] at hsz
  have hlt : ∀ x ∈ p, x.block < W.heap.size := fun x hx => by simpa using hW'.lt x hx
  refine (hcall W base args ds p hval hA hlt hsz).mono fun e W' ⟨he, hb⟩ => ?_
  subst he
  obtain ⟨e1, e2, e3⟩ := hs ds (trodAll_len _ _ _ _ hA)
  refine ⟨_, rfl, ds, [], p, [], p, [], hW', ?_, ?_, ?_, hb.frame _, fun h => by cases h⟩
  · rw [e1, hrt]
    exact trodAll_mk1 (shut_bool htb true)
  · rw [e2]
    simp only [List.all_eq_true, Bool.and_eq_true, decide_eq_true_eq] at hread
    exact trodAll_below hl hb _ _ _ _ hA (fun t ht => hread t ht) hlt
  · rw [e3, hvars]
    rfl

theorem Try.cellsTwo : Try.prog.cellsOf 33 = 2 := by kernel_rfl
/-- Two texts. -/
structure Tws where
  x : ByteArray
  y : ByteArray
/-- A slice of twos of texts that came in. -/
def TwsCame (W : World) (A : Option Addr) (n : Nat) (lp : Nat → Tws) : Prop := ∀ i, i < n → ∃ a, A = some a ∧ a.block < W.heap.size ∧ W.cell? (a.add (i * 2)) = some (.string (lp i).x) ∧ W.cell? ((a.add (i * 2)).add 1) = some (.string (lp i).y) ∧
  (lp i).x.size ≤ 140737488351232 ∧ (lp i).y.size ≤ 140737488351232

theorem sized_str {H : Type} {enc : TypeId × Value → H} {W : World} {base : Nat} {spare : Nat → Bool} {held : Bool} {n : Nat} {v : Value} {y : DataW H × List MemPlace}
    (h : DataW.trod enc Try.prog W base spare held n 9 [v] = some y) (hw : ∀ n ∈ y.1.weights Try.prog 9, n ≤ reachBytes) : ∃ s : ByteArray, v = .string s ∧ s.size ≤ 140737488351232 := by
  obtain ⟨s, e, hy, _⟩ := DataW.trod_string Try.underlying9 h
  refine ⟨s, by simpa using e, ?_⟩
  have := hw s.data.toList.length (by rw [hy]; simp [DataW.weights])
  unfold reachBytes at this
  simpa using this

set_option maxRecDepth 100000 in
theorem open_twos {H : Type} {enc : TypeId × Value → H} {W : World} {base : Nat} {v : Value} {d : DataW H} {p : List MemPlace}
    (hv : Value.okWide Try.prog W .any base 32 v) (h : DataW.Trod enc Try.prog W 0 (fun _ => true) true 32 v d p) (hw : ∀ n ∈ d.weights Try.prog 32, n ≤ reachBytes) :
    ∃ (A : Option Addr) (n c : Nat) (lp : Nat → Tws), v = .slice A n c ∧ n ≤ 9223372036854775807 ∧ TwsCame W A n lp := by
  obtain ⟨fuel, hf⟩ := h
  obtain ⟨A, n, c, rfl⟩ := okWide_slice Try.underlying32 hv
  rcases open_slice Try.underlying32 hf with ⟨hc, _⟩ | ⟨a, len, cap, m, nn, D, Pl, hc, _, hl, hm, hmm, hx, hi⟩
  · simp [Value.cells] at hc
    obtain ⟨rfl, rfl, rfl⟩ := hc
    exact ⟨none, 0, 0, fun _ => ⟨⟨#[]⟩, ⟨#[]⟩⟩, rfl, by omega, fun i h => absurd h (by omega)⟩
  · simp [Value.cells] at hc
    obtain ⟨rfl, rfl, rfl⟩ := hc
    simp at hmm
    unfold maxLen at hm
    have hd : d = DataW.slice ((List.range n).map D) ((List.range (m - n)).map fun j => D (n + j)) := (Prod.mk.injEq _ _ _ _ ▸ hx).1
    have hwi : ∀ i, i < n → ∀ k ∈ (D i).weights Try.prog 33, k ≤ reachBytes := fun i hin k hk => by
      refine hw k ?_
      rw [hd]
      have h1 : k ∈ DataW.weightsAll Try.prog 33 ((List.range n).map D) := weightsAll_mem (List.mem_map.2 ⟨i, by simpa using hin, rfl⟩) k hk
      simp only [DataW.weights, Try.underlying32, List.mem_cons, List.mem_append]
      exact .inr (.inl h1)
    have key : ∀ i, i < n → ∃ t : Tws, a.block < W.heap.size ∧ W.cell? (a.add (i * 2)) = some (.string t.x) ∧ W.cell? ((a.add (i * 2)).add 1) = some (.string t.y) ∧ t.x.size ≤ 140737488351232 ∧ t.y.size ≤ 140737488351232 := fun i hin => by
      obtain ⟨cs, hcs, ht⟩ := hi i (by omega)
      rw [Try.cellsTwo] at hcs
      obtain ⟨_, hlen, hat⟩ := World.cells?_some hcs
      obtain ⟨xs, m2, _, hxx, _, hl2, hg⟩ := DataW.trod_array Try.underlying33 ht
      have hwd := hwi i hin
      match cs, hlen with
      | [v0, v1], _ =>
        match xs, hl2 with
        | [y0, y1], _ =>
          have hD : D i = .agg [y0.1, y1.1] := by
            have := congrArg Prod.fst hxx
            simpa using this
          rw [hD] at hwd
          have h0 := hg 0 (by omega)
          have h1 := hg 1 (by omega)
          rw [Try.cellsStr3] at h0 h1
          simp at h0 h1
          obtain ⟨s0, rfl, e0⟩ := sized_str h0 (fun k hk => hwd k (by simp only [DataW.weights, Try.underlying33, DataW.weightsAll, List.mem_append]; exact .inl hk))
          obtain ⟨s1, rfl, e1⟩ := sized_str h1 (fun k hk => hwd k (by simp only [DataW.weights, Try.underlying33, DataW.weightsAll, List.mem_append]; exact .inr (.inl hk)))
          have c0 : W.cell? (a.add (i * 2)) = some (.string s0) := by
            have := hat 0 (by omega)
            simpa [Try.cellsTwo, Addr.add] using this
          have c1 : W.cell? ((a.add (i * 2)).add 1) = some (.string s1) := by
            have := hat 1 (by omega)
            simpa [Try.cellsTwo] using this
          have hblk := World.block_lt_of_cell? W _ c0
          have he : (a.add (i * 2)).block = a.block := by unfold Addr.add; split <;> rfl
          rw [he] at hblk
          exact ⟨⟨s0, s1⟩, hblk, c0, c1, e0, e1⟩
    refine ⟨some a, n, c, fun i => if hi : i < n then Classical.choose (key i hi) else ⟨⟨#[]⟩, ⟨#[]⟩⟩, rfl, by omega, fun i hin => ?_⟩
    simp only [dif_pos hin]
    exact ⟨a, rfl, Classical.choose_spec (key i hin)⟩

abbrev blk4 : ByteArray := ⟨#[32, 32, 32, 32]⟩
/-- The box that a two of texts makes. -/
def twsM (t : Tws) : ByteArray := boxS (cutB (t.x ++ blk4) 4) (cutB t.y 60)
theorem cut4 (x : ByteArray) : (cutB (x ++ blk4) 4).size = 4 := by
  have h : (x ++ blk4).size = x.size + 4 := by rw [ByteArray.size_append]; rfl
  unfold cutB
  split
  · rw [ByteArray.size_extract, h]; omega
  · omega
theorem twsM_size (t : Tws) : (twsM t).size ≤ 68 := by
  have h1 := cut4 t.x
  have h2 := cutB_size t.y 60
  unfold twsM
  rw [boxS_size]
  omega
theorem twsM_is (t : Tws) : ∃ nm b, twsM t = boxS nm b ∧ nm.size = 4 ∧ b.size < 65528 := by
  have h2 := cutB_size t.y 60
  exact ⟨_, _, rfl, cut4 t.x, by omega⟩
theorem cat68 {m : Nat → ByteArray} (hm : ∀ i, (m i).size ≤ 68) : ∀ k, (catM m k).size ≤ k * 68
  | 0 => Nat.zero_le _
  | k + 1 => by
    have := cat68 hm k
    have := hm k
    rw [catM, ByteArray.size_append]
    omega

set_option maxHeartbeats 4000000 in
set_option maxRecDepth 100000 in
theorem mp4BoxesLaw_any (s : ByteArray) (A : Option Addr) (n c : Nat) (lp : Nat → Tws) (w : World) (hs : s.size ≤ 9223372036854775807) (hd : TwsCame w A n lp) (hn : n ≤ 9223372036854775807) :
    Calls Try.prog 5 #[.string s, .slice A n c] w fun e w' => e = .returned (.bool true) ∧ Below w.heap.size w w' := by
  have HD := Lib.hid hd
  clear hd
  have HCS : Hid (∀ W, Calls Try.prog 6 #[.string s, .int .i64 300] W fun e w' => e = .returned (.string (cutB s 300)) ∧ W = w') := Lib.hid fun W => cut_any s 300 W hs
  have hu := cutB_size s 300
  generalize cutB s 300 = u at *
  have HSU := Lib.hid (fun W => same16_any u W (by omega))
  have HLV := Lib.hid lives16_any
  obtain ⟨m, hm⟩ : ∃ m : Nat → ByteArray, m = fun i => twsM (lp i) := ⟨_, rfl⟩
  have HSZ := Lib.hid (cat68 (m := m) (fun i => by rw [hm]; exact twsM_size _))
  have HG := Lib.hid (boxG_cat (m := m) (fun i => by rw [hm]; exact twsM_is _))
  have HMI := Lib.hid (fun i => (show m i = twsM (lp i) from by rw [hm]))
  clear hm hs hu
  go_enter Try.func5, Try.ntmps5
  go_wp2_with fail
  refine (HCS.out _).mono ?_
  rintro e w1 ⟨rfl, rfl⟩
  go_wp2_with fail
  refine (HSU.out _).mono ?_
  rintro e w1 ⟨rfl, b1⟩
  have HB1 := Lib.hid b1
  clear b1 HCS HSU
  go_wp2
  go_loopw [5, 6] (fun t i wr => ∃ k : Nat, k ≤ n ∧ k ≤ 6 ∧ i = .int .i64 (k : Nat) ∧ t = .string (catM m k) ∧ Below w.heap.size w wr) (fun _ i _ => 6 - (intOf i).toNat)
  case atStart => exact ⟨0, by omega, by omega, rfl, rfl, HB1.out⟩
  case round =>
    obtain ⟨k, hk, hk6, rfl, rfl, hw⟩ := hrel
    have HW := Lib.hid hw
    clear hw HB1
    have hz := HSZ.out k
    by_cases hlt : k < n ∧ k < 6
    · obtain ⟨hlt, hlt6⟩ := hlt
      obtain ⟨a, rfl, hab, c0, c1, hx0, hx1⟩ := HD.out k hlt
      have hab' : (a.add (k * 2)).block < w.heap.size := by
        have he : (a.add (k * 2)).block = a.block := by unfold Addr.add; split <;> rfl
        rw [he]; exact hab
      have f0 : wr.cell? (a.add (k * 2)) = some (.string (lp k).x) := (HW.out.cell hab').trans c0
      have f1 : wr.cell? ⟨(a.add (k * 2)).block, (a.add (k * 2)).off + 1, none⟩ = some (.string (lp k).y) := (HW.out.cell (p := ⟨(a.add (k * 2)).block, (a.add (k * 2)).off + 1, none⟩) hab').trans c1
      have HC0 : Hid (∀ W, Calls Try.prog 6 #[.string ((lp k).x ++ blk4), .int .i64 4] W fun e w' => e = .returned (.string (cutB ((lp k).x ++ blk4) 4)) ∧ W = w') := Lib.hid (fun W => cut_any ((lp k).x ++ blk4) 4 W (by rw [ByteArray.size_append]; show (lp k).x.size + 4 ≤ _; omega))
      have HC1 : Hid (∀ W, Calls Try.prog 6 #[.string (lp k).y, .int .i64 60] W fun e w' => e = .returned (.string (cutB (lp k).y 60)) ∧ W = w') := Lib.hid (fun W => cut_any (lp k).y 60 W (by omega))
      have HBX := Lib.hid (fun W => rbox16_any (cutB ((lp k).x ++ blk4) 4) (cutB (lp k).y 60) W (by rw [cut4]; omega) (cutB_size _ _))
      have HCAT := Lib.hid (show catM m (k + 1) = catM m k ++ twsM (lp k) from by rw [catM, HMI.out])
      have hts := twsM_size (lp k)
      have HTE := Lib.hid (show twsM (lp k) = boxS (cutB ((lp k).x ++ blk4) 4) (cutB (lp k).y 60) from rfl)
      rw [← HTE.out] at HBX
      clear HTE c0 c1
      have hsum0 : ¬ 9223372036854775807 < (lp k).x.size + 4 := by omega
      generalize twsM (lp k) = M at *
      generalize cutB ((lp k).x ++ blk4) 4 = x0 at *
      generalize cutB (lp k).y 60 = x1 at *
      generalize (lp k).x = xx at *
      generalize (lp k).y = yy at *
      generalize catM m k = z at *
      have hsum : ¬ 9223372036854775807 < z.size + M.size := by omega
      go_wp2_with fail
      with_reducible refine (HC0.out _).mono ?_
      rintro e w2 ⟨rfl, rfl⟩
      go_wp2_with fail
      with_reducible refine (HC1.out _).mono ?_
      rintro e w2 ⟨rfl, rfl⟩
      go_wp2_with fail
      with_reducible refine (HBX.out _).mono ?_
      rintro e w2 ⟨rfl, b2⟩
      have HW2 := Lib.hid (HW.out.trans (b2.mono HW.out.size))
      clear b2
      go_wp2
      go_roundw
      case rel => exact ⟨k + 1, by omega, by omega, by go_num, by rw [HCAT.out], HW2.out⟩
      case measure => simp [intOf]; omega
    · have hg := HG.out k ⟨#[]⟩
      rw [show catM m k ++ (⟨#[]⟩ : ByteArray) = catM m k from ByteArray.append_empty, boxG_none] at hg
      have hg1 : (boxG (catM m k)).1.length = k := by simpa using hg.1
      have hg2 : (boxG (catM m k)).2 = (catM m k).size := by simpa using hg.2
      have HBX := Lib.hid (fun W => mp4Boxes_any (catM m k) W (by omega))
      have HSM := Lib.hid (fun W => same16_any (catM m k) W (by omega))
      clear hg HG HMI HSZ
      generalize catM m k = z at *
      generalize boxG z = bs at *
      obtain ⟨l, q⟩ := bs
      simp only at hg1 hg2
      subst hg2
      have HZ := Lib.hid hz
      have hcase : (n = k) ∨ (k < n ∧ k = 6) := by omega
      have HGL := Lib.hid hg1
      clear hg1
      have hz2 : z.size ≤ 408 := by omega
      clear hz hlt
      rcases hcase with rfl | ⟨h1, rfl⟩
      all_goals
        go_wp2_with fail
        with_reducible refine (HBX.out _).mono ?_
        rintro e w2 ⟨v, rfl, ho, b2⟩
        have HW2 := Lib.hid (HW.out.trans (b2.mono HW.out.size))
        obtain ⟨A2, c2, rfl, _⟩ := BxIn.of_own ho
        simp only [HGL.out]
        clear b2 ho
        go_wp2_with (first
          | (go_at_call 17; (with_reducible refine (HSM.out _).mono ?_); rintro e w3 ⟨rfl, b3⟩; have HW2 := Lib.hid (HW2.out.trans (b3.mono HW2.out.size)); clear b3)
          | (go_at_call 16; (with_reducible refine (HLV.out _).mono ?_); rintro e w3 ⟨rfl, b3⟩; have HW2 := Lib.hid (HW2.out.trans (b3.mono HW2.out.size)); clear b3))
        go_ret
        exact ⟨by simp, HW2.out⟩

end Go.Proofs.Ytbibcpbldnedhaa
