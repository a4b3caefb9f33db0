/-
  Plain facts on layer 26 (how long a place is; codes), that package url is read (lives), and the law UrlReads. Conditions: the library's variable and tables lie as its text lays them.
  The law UrlReads. Conditions: the text takes at most 2^63 - 1 bytes; the library's variable and tables lie as its text lays them.
  From a walk to a law's statement: where a call returns true, and nothing older has turned, the row's post holds. Conditions: those of the lemma's hypotheses.
-/
import Derived.Test.YtagbndkfbnlpoaaGreatDoorZ22
import Derived.Test.YtagbndkfbnlpoaaGreatDoorRows
import Derived.ProofKit
import Derived.WideKeyArgs
import Derived.Carry
import Derived.Lib.SmallJoins
namespace Go.Proofs.YtagbndkfbnlpoaaGreatDoor
open Go.RowKit

/-- Where the library's variables lie as its text lays them. -/
structure Lib3 (w : World) : Prop where
  m : MaxC w
  u : UtfC w
  p : PowTab w
theorem Lib3.stays {w W : World} (h : Lib3 w) (hb : Below w.heap.size w W) : Lib3 W := ⟨h.m.stays hb, h.u.stays hb, h.p.stays hb⟩

theorem red_bound (t : ByteArray) : (redU (upS26 35 t)).sc.size ≤ t.size ∧ (redU (upS26 35 t)).ho.size ≤ t.size ∧ (redU (upS26 35 t)).pa.size ≤ 3 * t.size + 3 ∧ (redU (upS26 35 t)).qu.size ≤ 3 * t.size := by
  obtain ⟨k0, k1, k2, k3, k4, k5, k6, k7, k8, k9⟩ := red_sizes (s := t)
  have hp := pthS_size (redP (upS26 35 t))
  have hx := pqS_size (pthS (redP (upS26 35 t)))
  have hd := dotS_size (pqS (pthS (redP (upS26 35 t))))
  have hq := pqS_size (redQ (upS26 35 t))
  have hl1 := lowS_size (redS (upS26 35 t))
  have hl2 := lowS_size (redJ (upS26 35 t))
  refine ⟨?_, ?_, ?_, ?_⟩
  · show (lowS (redS (upS26 35 t))).size ≤ _; omega
  · show (lowS (redJ (upS26 35 t))).size ≤ _; omega
  · show (dotS (pqS (pthS (redP (upS26 35 t))))).size ≤ _; omega
  · show (pqS (redQ (upS26 35 t))).size ≤ _; omega
theorem prt_cases (D : ByteArray) (U : Plc) (h0 : U.po = 0) : (∃ e, prtO D U = .error e ∧ e ≠ 0) ∨ ∃ n, prtO D U = .ok { U with po := n } := by
  rw [prt_is D U h0]
  generalize ptoE D = e
  by_cases h : e = 0
  · refine .inr ⟨if ptoN D == ownP U.sc then 0 else ptoN D, ?_⟩
    rw [h, if_neg (by decide)]
  · exact .inl ⟨e, if_pos (by simpa using h), h⟩
theorem url_cases (s : ByteArray) : (∃ e, urlO s = .error e ∧ e ≠ 0) ∨ ∃ n, urlO s = .ok { redU (upS26 35 (trimP ledB s)) with po := n } := by
  rw [parO_is]
  have hp := prt_cases (redD (upS26 35 (trimP ledB s))) (redU (upS26 35 (trimP ledB s))) rfl
  generalize (redI (upS26 35 (trimP ledB s)) && goodU (redU (upS26 35 (trimP ledB s)))) = b
  by_cases c : 8192 < (trimP ledB s).size
  · exact .inl ⟨6, if_pos c, by decide⟩
  · rw [if_neg c]
    cases b with
    | false => exact .inl ⟨2, if_neg (by decide), by decide⟩
    | true => rw [if_pos rfl]; exact hp
theorem url_bound {s : ByteArray} {u : Plc} (h : urlO s = .ok u) : u.sc.size ≤ s.size ∧ u.ho.size ≤ s.size ∧ u.pa.size ≤ 3 * s.size + 3 ∧ u.qu.size ≤ 3 * s.size := by
  have ht : (trimP ledB s).size ≤ s.size := trimP_size ledB s
  obtain ⟨b1, b2, b3, b4⟩ := red_bound (trimP ledB s)
  rcases url_cases s with ⟨e, h1, _⟩ | ⟨n, h1⟩
  · rw [h1] at h; cases h
  · rw [h1] at h
    generalize redU (upS26 35 (trimP ledB s)) = U at *
    have h := Except.ok.inj h
    subst h
    exact ⟨Nat.le_trans b1 ht, Nat.le_trans b2 ht, by show U.pa.size ≤ _; omega, by show U.qu.size ≤ _; omega⟩
theorem url_code {s : ByteArray} {e : Int} (h : urlO s = .error e) : e ≠ 0 := by
  rcases url_cases s with ⟨e', h1, h2⟩ | ⟨n, h1⟩
  · rw [h1] at h
    have h := Except.error.inj h
    subst h
    exact h2
  · rw [h1] at h; cases h
theorem tex_size {u : Plc} (h : goodU u = true) : (texU u).size ≤ u.sc.size + u.ho.size + u.pa.size + u.qu.size + 24 := by
  have hp := good_port h
  have h1 : (prtS u.po).size ≤ 21 := by
    unfold prtS
    split
    · have := worS_le (n := u.po) (by omega)
      have h3 : (⟨#[58]⟩ : ByteArray).size = 1 := rfl
      rw [ByteArray.size_append, h3]
      omega
    · show (0 : Nat) ≤ _; omega
  have h3 : (⟨#[58, 47, 47]⟩ : ByteArray).size = 3 := rfl
  unfold texU
  rw [ByteArray.size_append, ByteArray.size_append, ByteArray.size_append, ByteArray.size_append, ByteArray.size_append, h3]
  omega

abbrev livS26 : ByteArray := ⟨#[72, 84, 84, 80, 58, 47, 47, 65, 46, 98, 58, 56, 48, 47, 120, 47, 46, 46, 47, 121, 35, 122]⟩
theorem liv_key : keyS livS26 = ⟨#[104, 116, 116, 112, 58, 47, 47, 97, 46, 98, 47, 121]⟩ := by kernel_rfl
theorem liv_code : plcE (urlO livS26) = 0 := by kernel_rfl
set_option maxHeartbeats 1000000 in
theorem lives26_any (w : World) (hl : Lib3 w) : Calls Tryz.prog 10 #[] w fun e w' => e = .returned (.bool true) ∧ Below w.heap.size w w' := by
  have HC := Lib.hid (key_any livS26 w (by decide) hl.m hl.u hl.p (fun u hu => by
    have hb := url_bound hu
    have hz : livS26.size = 22 := rfl
    rw [hz] at hb
    omega))
  rw [liv_key, liv_code] at HC
  go_enter Tryz.func10, Tryz.ntmps10
  go_wp2_with fail
  refine HC.out.mono ?_
  rintro e w1 ⟨rfl, b1⟩
  have HB1 := Lib.hid b1
  clear b1 HC
  go_wp2
  go_ret
  exact ⟨rfl, HB1.out⟩

end Go.Proofs.YtagbndkfbnlpoaaGreatDoor
namespace Go.Proofs.YtagbndkfbnlpoaaGreatDoor
open Go.RowKit

set_option maxRecDepth 100000 in
set_option maxHeartbeats 4000000 in
theorem ureads_walk (s x a b p q k : ByteArray) (n e : Int) (w : World)
    (HC : Hid (∀ W, Calls Tryz.prog 6 #[.string s, .int .i64 200] W fun e w' => e = .returned (.string x) ∧ W = w'))
    (HP : Hid (∀ W, Below w.heap.size w W → Calls Tryz.prog 7 #[.string x] W fun y w' => y = .returned (.tuple #[urV a b n p q, .int .i64 e]) ∧ Below W.heap.size W w'))
    (HR : Hid (∀ W, Below w.heap.size w W → Calls Tryz.prog 8 #[.string x] W fun y w' => y = .returned (.tuple #[urV a b n p q, .int .i64 e]) ∧ Below W.heap.size W w'))
    (HK : Hid (∀ W, Below w.heap.size w W → Calls Tryz.prog 9 #[.string x] W fun y w' => y = .returned (.tuple #[.string k, .int .i64 e]) ∧ Below W.heap.size W w'))
    (HJ : Hid ((e == 0) = true → ∀ W, Below w.heap.size w W → Calls Tryz.prog 9 #[.string k] W fun y w' => y = .returned (.tuple #[.string k, .int .i64 0]) ∧ Below W.heap.size W w'))
    (HT : Hid (∀ W, Below w.heap.size w W → Calls Tryz.prog 11 #[urV a b n p q] W fun y w' => y = .returned (.string k) ∧ Below W.heap.size W w'))
    (HG : Hid ((e == 0) = true → ∀ W, Below w.heap.size w W → Calls Tryz.prog 12 #[urV a b n p q] W fun y w' => y = .returned (.bool true) ∧ Below W.heap.size W w'))
    (HE : Hid ((e == 0) = false → (k.toList == []) = true))
    (HLV : Hid (∀ W, Below w.heap.size w W → Calls Tryz.prog 10 #[] W fun y w' => y = .returned (.bool true) ∧ Below W.heap.size W w')) :
    Calls Tryz.prog 3 #[.string s] w fun y w' => y = .returned (.bool true) ∧ Below w.heap.size w w' := by
  go_enter Tryz.func3, Tryz.ntmps3
  go_wp2_with (go_at_call 6; (with_reducible refine (HC.out _).mono ?_); rintro y w1 ⟨rfl, rfl⟩)
  refine (HP.out _ (Below.refl _ _)).mono ?_
  rintro y w1 ⟨rfl, b1⟩
  have HB1 := Lib.hid (show Below w.heap.size w (w1.alloc (urC a b n p q)) from b1.alloc b1.size _)
  have HZ1 := Lib.hid (Blk.new w1 24 (urA a b n p q))
  clear b1 HP HC
  go_wp2_with fail
  refine (HR.out _ HB1.out).mono ?_
  rintro y w2 ⟨rfl, b2⟩
  obtain ⟨w3, hw3⟩ : ∃ w3, w3 = w2.alloc (urC a b n p q) := ⟨_, rfl⟩
  have HB2 := Lib.hid (show Below w.heap.size w w3 from by rw [hw3]; exact (below_on HB1.out b2).alloc (below_on HB1.out b2).size _)
  have HZ2 := Lib.hid (show Blk w3 w2.heap.size 24 (urA a b n p q) from by rw [hw3]; exact Blk.new w2 _ _)
  replace HZ1 := Lib.hid (show Blk w3 w1.heap.size 24 (urA a b n p q) from by rw [hw3]; exact (HZ1.out.below b2 HZ1.out.lt).alloc _)
  clear b2 HR HB1
  go_wp2_with fail
  rw [← hw3]
  clear hw3
  refine (HK.out _ HB2.out).mono ?_
  rintro y w4 ⟨rfl, b4⟩
  have HB4 := Lib.hid (below_on HB2.out b4)
  replace HZ1 := Lib.hid (HZ1.out.below b4 HZ1.out.lt)
  replace HZ2 := Lib.hid (HZ2.out.below b4 HZ2.out.lt)
  obtain ⟨c0, c1, c2, c3, c4⟩ := url_keep HZ1.out
  obtain ⟨d0, d1, d2, d3, d4⟩ := url_keep HZ2.out
  clear b4 HK HB2
  cases he : (e == 0)
  · have hne : (e != 0) = true := by simpa using he
    have hk := HE.out he
    clear HJ HG HE
    go_wp2_with fail
    refine (HLV.out _ HB4.out).mono ?_
    rintro y w6 ⟨rfl, b6⟩
    replace HB4 := Lib.hid (below_on HB4.out b6)
    clear b6
    go_wp2
    go_ret
    exact ⟨rfl, HB4.out⟩
  · have h0 : e = 0 := by simpa using he
    subst h0
    replace HJ := Lib.hid (HJ.out rfl)
    replace HG := Lib.hid (HG.out rfl)
    clear HE he
    go_wp2_with fail
    refine (HJ.out _ HB4.out).mono ?_
    rintro y w5 ⟨rfl, b5⟩
    replace HB4 := Lib.hid (below_on HB4.out b5)
    replace HZ1 := Lib.hid (HZ1.out.below b5 HZ1.out.lt)
    replace HZ2 := Lib.hid (HZ2.out.below b5 HZ2.out.lt)
    clear b5 HJ c0 c1 c2 c3 c4 d0 d1 d2 d3 d4
    obtain ⟨c0, c1, c2, c3, c4⟩ := url_keep HZ1.out
    obtain ⟨d0, d1, d2, d3, d4⟩ := url_keep HZ2.out
    go_wp2_with fail
    refine (HT.out _ HB4.out).mono ?_
    rintro y w7 ⟨rfl, b7⟩
    replace HB4 := Lib.hid (below_on HB4.out b7)
    replace HZ1 := Lib.hid (HZ1.out.below b7 HZ1.out.lt)
    clear b7 HT c0 c1 c2 c3 c4 d0 d1 d2 d3 d4 HZ2
    obtain ⟨c0, c1, c2, c3, c4⟩ := url_keep HZ1.out
    go_wp2_with fail
    refine (HG.out _ HB4.out).mono ?_
    rintro y w8 ⟨rfl, b8⟩
    replace HB4 := Lib.hid (below_on HB4.out b8)
    clear b8 HG
    go_wp2_with fail
    refine (HLV.out _ HB4.out).mono ?_
    rintro y w9 ⟨rfl, b9⟩
    replace HB4 := Lib.hid (below_on HB4.out b9)
    clear b9
    go_wp2
    go_ret
    exact ⟨rfl, HB4.out⟩

theorem ureads_any (s : ByteArray) (w : World) (hs : s.size ≤ 9223372036854775807) (hl : Lib3 w) :
    Calls Tryz.prog 3 #[.string s] w fun e w' => e = .returned (.bool true) ∧ Below w.heap.size w w' := by
  have hx : (cutB s 200).size ≤ 200 := cutB_size s 200
  have HC := fun W => cut_any s 200 W hs
  generalize cutB s 200 = x at *
  have HP := fun W (hW : Below w.heap.size w W) => parse26_any x W (by omega) (hl.stays hW).m (hl.stays hW).u
  have HR := fun W => rparse26_any x W (by omega)
  have hz : ∀ u, urlO x = .ok u → u.sc.size ≤ 1024 ∧ u.ho.size ≤ 1024 ∧ u.pa.size ≤ 1024 ∧ u.qu.size ≤ 1024 := fun u hu => by
    have hb := url_bound hu
    omega
  have HK := fun W (hW : Below w.heap.size w W) => key_any x W (by omega) (hl.stays hW).m (hl.stays hW).u (hl.stays hW).p (fun u hu => by have := hz u hu; omega)
  have HLV := fun W (hW : Below w.heap.size w W) => lives26_any W (hl.stays hW)
  have HC2 := Lib.hid HC
  clear HC
  unfold keyS at HK
  simp only [plc_two] at HP HR
  cases hu : urlO x with
  | error e =>
    rw [hu] at HP HR HK
    have he := url_code hu
    have he2 : (e == 0) = false := by simpa using he
    have hg := zer_bad
    have HT := fun W => rtext26_any zerU.sc zerU.ho zerU.po zerU.pa zerU.qu W (Nat.zero_le 1048576) (Nat.zero_le 1048576) (Nat.zero_le 1048576) (Nat.zero_le 1048576)
    exact ureads_walk s x zerU.sc zerU.ho zerU.pa zerU.qu (texG26 zerU) zerU.po e w HC2 (Lib.hid HP) (Lib.hid fun W _ => HR W) (Lib.hid HK) (Lib.hid fun h => by rw [he2] at h; cases h) (Lib.hid fun W _ => HT W) (Lib.hid fun h => by rw [he2] at h; cases h)
      (Lib.hid fun _ => by rw [show texG26 zerU = ⟨#[]⟩ from by unfold texG26; rw [hg]; rfl, Lib.toList_data]; rfl) (Lib.hid HLV)
  | ok u =>
    rw [hu] at HP HR HK
    have hg := url_good hu
    obtain ⟨z1, z2, z3, z4⟩ := hz u hu
    have ht := tex_size hg
    have hk : texG26 u = texU u := by unfold texG26; rw [hg]; rfl
    have hi := tex_url hg (Nat.le_trans ht (by omega))
    have HJ := fun W (hW : Below w.heap.size w W) => key_any (texU u) W (by omega) (hl.stays hW).m (hl.stays hW).u (hl.stays hW).p (fun v hv => by
      rw [hi] at hv
      have := Except.ok.inj hv
      subst this
      omega)
    unfold keyS at HJ
    rw [hi, show plcU (.ok u) = u from rfl, hk] at HJ
    rw [show plcU (.ok u) = u from rfl, hk] at HK
    rw [show plcU (.ok u) = u from rfl] at HP HR
    obtain ⟨a, b, n, p, q⟩ := u
    have HT := fun W => rtext26_any a b n p q W (by simp only at z1; omega) (by simp only at z2; omega) (by simp only at z3; omega) (by simp only at z4; omega)
    rw [hk] at HT
    have HG := fun W (hW : Below w.heap.size w W) => ugood_any a b n p q W (by simp only at z2; omega) (by simp only at z3; omega) (by simp only at z4; omega) (hl.stays hW).m
    rw [hg] at HG
    exact ureads_walk s x a b p q _ n 0 w HC2 (Lib.hid HP) (Lib.hid fun W _ => HR W) (Lib.hid HK) (Lib.hid fun _ => HJ) (Lib.hid fun W _ => HT W) (Lib.hid fun _ => HG) (Lib.hid fun h => by cases h) (Lib.hid HLV)

end Go.Proofs.YtagbndkfbnlpoaaGreatDoor
namespace Go.Proofs.YtagbndkfbnlpoaaGreatDoor
open Go.ChangeShapes Go.WideShapes Go.ChangeAt Go.RowKit Go.Joins

theorem trodAll_len {H : Type} {enc : TypeId × Value → H} {P : Program} {w : World} {base : Nat} {spare : Nat → Bool} {held : Bool} :
    ∀ (ts : List TypeId) (vs : List Value) (ds : List (DataW H)) (ps : List MemPlace), DataW.TrodAll enc P w base spare held ts vs ds ps → ds.length = ts.length
  | [], [], [], _, _ => rfl
  | _ :: ts, _ :: vs, _ :: ds, _, h => by
    obtain ⟨p, q, _, h2, _⟩ := h
    simpa using trodAll_len ts vs ds q h2
  | [], _ :: _, _, _, h => by cases h
  | [], [], _ :: _, _, h => by cases h
  | _ :: _, [], _, _, h => by cases h
  | _ :: _, _ :: _, [], _, h => by cases h

theorem trodAll_below {H : Type} {enc : TypeId × Value → H} {P : Program} (hl : laidOutB P = true) {W W' : World} (hb : Below W.heap.size W W') :
    ∀ (ts : List TypeId) (vs : List Value) (ds : List (DataW H)) (ps : List MemPlace), DataW.TrodAll enc P W 0 (fun _ => true) true ts vs ds ps →
      (∀ t ∈ ts, P.readableRec t = true ∧ t < P.types.size) → (∀ x ∈ ps, x.block < W.heap.size) →
      DataW.TrodAll enc P W' 0 (fun b => decide (b < W.heap.size)) true ts vs ds ps
  | [], [], [], _, h, _, _ => h
  | t :: ts, v :: vs, d :: ds, ps, h, hr, hlt => by
    obtain ⟨p, q, h1, h2, rfl⟩ := h
    exact ⟨p, q, Below.trod hl (hr t (by simp)).1 (hr t (by simp)).2 h1 hb (fun x hx => hlt x (by simp [hx])),
      trodAll_below hl hb ts vs ds q h2 (fun t ht => hr t (by simp [ht])) (fun x hx => hlt x (by simp [hx])), rfl⟩
  | [], _ :: _, _, _, h, _, _ => by cases h
  | [], [], _ :: _, _, h, _, _ => by cases h
  | _ :: _, [], _, _, h, _, _ => by cases h
  | _ :: _, _ :: _, [], _, h, _, _ => by cases h

theorem law_lifted {C : Checked} {os : Os} {f : FuncId} {fn : Func} {s : ChangeSpec} {tb : TypeId} {H : Type} {enc : TypeId × Value → H}
    (own : ownKnob C.prog.godebug = none) (started : os.Started) (noInit : C.prog.inits.idxOf? f = none) (hfn : C.prog.funcs[f]? = some fn) (hl : laidOutB C.prog = true)
    (hvars : s.vars = []) (hrt : fn.resultTypes = #[tb]) (htb : C.prog.underlying tb = some .bool)
    (hread : fn.params.toList.all (fun t => C.prog.readableRec t && decide (t < C.prog.types.size)) = true)
    (hs : ∀ ds : List (DataW H), ds.length = fn.params.toList.length → (s.fn H (ds ++ [])).results = [.lit (.bool true)] ∧ (s.fn H (ds ++ [])).args = ds ∧ (s.fn H (ds ++ [])).vars = [])
    (witness : ∃ (w : World) (tape : Tape) (i : Input), w.os = os ∧ (w.forCall tape i).Shaped C.prog ∧ i.vars = [] ∧ Input.okWide C.prog (w.forCall tape i) .any w.heap.size f i ∧
      s.pre6 enc C.prog fn [] false (w.forCall tape i).memory i.args ∧ ({} : Assume).holds C.prog (lone (Frame.enter C.prog f i.args .normal) [] (w.forCall tape i)))
    (hcall : ∀ (W : World) (base : Nat) (args : Array Value) (ds : List (DataW H)) (p : List MemPlace),
      (∀ (j : Nat) t v, fn.params[j]? = some t → args[j]? = some v → Value.okWide C.prog W .any base t v) →
      DataW.TrodAll enc C.prog W 0 (fun _ => true) true fn.params.toList args.toList ds p → (∀ x ∈ p, x.block < W.heap.size) →
      Calls C.prog f args W fun e W' => e = .returned (.bool true) ∧ Below W.heap.size W W') :
    ReturnsInHanded {} C os f .any (s.pre6 enc C.prog fn [] false) (s.post enc C.prog fn false true false false) := by
  refine returnsInHanded_of_change (C := C) own started noInit hfn witness ?_
  intro W base args ds gs before hval hW _ _
  have hW' := hW
  obtain ⟨p, q, hA, hV, rfl, hfz, hnd⟩ := hW
  rw [hvars] at hV
  obtain ⟨rfl, rfl⟩ := trodVars_none hV
  simp only [List.append_nil] at hW'
  have hlt : ∀ x ∈ p, x.block < W.heap.size := fun x hx => by simpa using hW'.lt x hx
  refine (hcall W base args ds p hval hA hlt).mono fun e W' ⟨he, hb⟩ => ?_
  subst he
  obtain ⟨e1, e2, e3⟩ := hs ds (trodAll_len _ _ _ _ hA)
  refine ⟨_, rfl, ds, [], p, [], p, [], hW', ?_, ?_, ?_, hb.frame _, fun h => by cases h⟩
  · rw [e1, hrt]
    exact trodAll_mk1 (shut_bool htb true)
  · rw [e2]
    simp only [List.all_eq_true, Bool.and_eq_true, decide_eq_true_eq] at hread
    exact trodAll_below hl hb _ _ _ _ hA (fun t ht => hread t ht) hlt
  · rw [e3, hvars]
    rfl

/-- A number that can be read as a byte is one's. -/
theorem byte_of {n : Int} (h : (Lit.int .u8 n).wf = true) : ∃ b : UInt8, n = (b.toNat : Int) := by
  have h' : 0 ≤ n ∧ n < 256 := by
    have e1 : IntKind.u8.min = 0 := by kernel_rfl
    have e2 : IntKind.u8.max = 255 := by kernel_rfl
    simp [Lit.wf, e1, e2] at h
    omega
  refine ⟨UInt8.ofNat n.toNat, ?_⟩
  rw [UInt8.toNat_ofNat']
  omega

theorem Tryz.own : ownKnob Tryz.prog.godebug = none := by kernel_rfl
theorem Tryz.laidOut : laidOutB Tryz.prog = true := by kernel_rfl

end Go.Proofs.YtagbndkfbnlpoaaGreatDoor
