/-
  What the document's Same and Serial of layer 10 answer of types. Conditions: texts are as long as a mebibyte, and parameters as many.
  What All answers, the program's and the document's: a slice of types of the call's own. Condition: a thousand values of a thousand bytes.
  What Step of package combine answers. Condition: texts are as long as a mebibyte, and parameters as many.
-/
import Derived.Test.YtighgoefmccagaaZ11
import Derived.Test.YtighgoefmccagaaZ3
import Derived.Test.YtighgoefmccagaaZ15
import Derived.Test.YtighgoefmccagaaZ14
import Derived.Test.YtighgoefmccagaaZ12
import Derived.Test.YtighgoefmccagaaZ18
import Derived.RegionTactic
import Derived.Deep.DeepCutAuto
import Derived.Deep.RegionHeld3
namespace Go.Proofs.Ytighgoefmccagaa
open Go.RowKit

set_option maxHeartbeats 2000000 in
set_option maxRecDepth 100000 in
theorem rsame_any (t u t' u' : ByteArray) (A B : Option Addr) (ps qs : List Prm) (c d : Nat) (w : World) (h : PsIn w A ps) (h' : PsIn w B qs) (hn : ps.length ≤ 1048576) (_hm : qs.length ≤ 1048576) :
    Calls Try.prog 15 #[mimV t u A ps.length c, mimV t' u' B qs.length d] w fun e w' => e = .returned (.bool (sameM t u ps t' u' qs)) ∧ Below w.heap.size w w' := by
  obtain ⟨w0, hw0⟩ : ∃ w0, w0 = (w.alloc (.cells #[.string t, .string u, .slice A ps.length c] 36)).alloc (.cells #[.string t', .string u', .slice B qs.length d] 36) := ⟨_, rfl⟩
  have HB0 := Lib.hid (show Below w.heap.size w w0 from by rw [hw0]; exact ((Below.refl w.heap.size w).alloc (Nat.le_refl _) _).alloc (by simp) _)
  have HP0 := Lib.hid (show Blk w0 w.heap.size 36 #[.string t, .string u, .slice A ps.length c] from by rw [hw0]; exact (Blk.new _ _ _).alloc _)
  have HQ0 := Lib.hid (show Blk w0 (w.heap.size + 1) 36 #[.string t', .string u', .slice B qs.length d] from by
    have := Blk.new (w.alloc (.cells #[.string t, .string u, .slice A ps.length c] 36)) 36 #[.string t', .string u', .slice B qs.length d]
    rw [hw0]
    simpa using this)
  have c0 := HP0.out.cell 0
  have c1 := HP0.out.cell 1
  have c2 := HP0.out.cell 2
  have d0 := HQ0.out.cell 0
  have d1 := HQ0.out.cell 1
  have d2 := HQ0.out.cell 2
  have HP := Lib.hid h
  have HQ := Lib.hid h'
  show Calls Try.prog 15 #[mimV t u A ps.length c, mimV t' u' B qs.length d] w fun e w' => e = .returned (.bool (eqS t t' && eqS u u' && sameL ps qs)) ∧ Below w.heap.size w w'
  obtain ⟨G, hG⟩ : ∃ G, G = sameL ps qs := ⟨_, rfl⟩
  rw [← hG]
  clear h h'
  cases h1 : eqS t t'
  · have h1' : (t.toList != t'.toList) = true := by rw [bne]; rw [show (t.toList == t'.toList) = false from h1]; rfl
    simp only [Bool.false_and]
    go_enter Try.func15, Try.ntmps15
    go_wp2_with fail
    rw [← hw0]
    clear hw0
    go_wp2
    go_ret
    exact ⟨rfl, HB0.out⟩
  · have h1' : (t.toList != t'.toList) = false := by rw [bne]; rw [show (t.toList == t'.toList) = true from h1]; rfl
    cases h2 : eqS u u'
    · have h2' : (u.toList != u'.toList) = true := by rw [bne]; rw [show (u.toList == u'.toList) = false from h2]; rfl
      simp only [Bool.and_false, Bool.false_and]
      go_enter Try.func15, Try.ntmps15
      go_wp2_with fail
      rw [← hw0]
      clear hw0
      go_wp2
      go_ret
      exact ⟨rfl, HB0.out⟩
    · have h2' : (u.toList != u'.toList) = false := by rw [bne]; rw [show (u.toList == u'.toList) = true from h2]; rfl
      simp only [Bool.true_and]
      by_cases hl : ps.length = qs.length
      · have dl : ((ps.length : Int) != (qs.length : Int)) = false := by simp; omega
        have HLL := Lib.hid hl
        clear hl
        go_enter Try.func15, Try.ntmps15
        go_wp2_with fail
        rw [← hw0]
        clear hw0
        go_wp2
        clear c0 c1 c2 d0 d1 d2 dl h1 h2 h1' h2'
        go_loopw [5] (fun i wr => ∃ k : Nat, k ≤ ps.length ∧ i = .int .i64 k ∧ sameL (ps.drop k) (qs.drop k) = G ∧ Below w.heap.size w wr ∧ Blk wr w.heap.size 36 #[.string t, .string u, .slice A ps.length c] ∧ Blk wr (w.heap.size + 1) 36 #[.string t', .string u', .slice B qs.length d]) (fun i _ => ps.length - (intOf i).toNat)
        case atStart => exact ⟨0, Nat.zero_le _, rfl, hG.symm, HB0.out, HP0.out, HQ0.out⟩
        case round =>
          obtain ⟨k, hk, rfl, hs, hw, hp, hq⟩ := hrel
          have HW := Lib.hid hw
          have HPB := Lib.hid hp
          have HQB := Lib.hid hq
          have c2 := HPB.out.cell 2
          have d2 := HQB.out.cell 2
          clear hw hp hq
          by_cases hlt : k < ps.length
          · have hk2 : k < qs.length := HLL.out ▸ hlt
            obtain ⟨g, rfl, hg1, hc0, hc1⟩ := HP.out k hlt
            obtain ⟨f, rfl, hf1, hd0, hd1⟩ := HQ.out k hk2
            have c0 := (HW.out.cell (p := ⟨g, k * 2, none⟩) hg1).trans hc0
            have c1 := (HW.out.cell (p := ⟨g, k * 2 + 1, none⟩) hg1).trans hc1
            have d0 := (HW.out.cell (p := ⟨f, k * 2, none⟩) hf1).trans hd0
            have d1 := (HW.out.cell (p := ⟨f, k * 2 + 1, none⟩) hf1).trans hd1
            rw [sameL_step hlt hk2] at hs
            have HE := Lib.hid (fun w => neq_prm ps[k] qs[k] w)
            clear hc0 hc1 hd0 hd1
            cases he : eqS ps[k].n qs[k].n && eqS ps[k].v qs[k].v
            · rw [he, Bool.false_and] at hs
              rw [he] at HE
              have HS := Lib.hid hs
              clear he hs
              generalize ps[k] = q at *
              generalize qs[k]'hk2 = r at *
              obtain ⟨qn, qv⟩ := q
              obtain ⟨rn, rv⟩ := r
              have hE : ∀ w, (binOp .neq 55 (.agg #[.string qn, .string qv]) (.agg #[.string rn, .string rv])).run Try.prog w = .ok (.bool true) w := HE.out
              go_wp2_with fail
              go_quiet (fail)
              go_wp2
              go_ret
              exact ⟨by rw [← HS.out]; rfl, Below.drewN' HW.out _⟩
            · rw [he, Bool.true_and] at hs
              rw [he] at HE
              have HS := Lib.hid hs
              clear he hs
              generalize ps[k] = q at *
              generalize qs[k]'hk2 = r at *
              obtain ⟨qn, qv⟩ := q
              obtain ⟨rn, rv⟩ := r
              have hE : ∀ w, (binOp .neq 55 (.agg #[.string qn, .string qv]) (.agg #[.string rn, .string rv])).run Try.prog w = .ok (.bool false) w := HE.out
              go_wp2_with fail
              go_quiet (fail)
              go_wp2
              go_roundw
              case rel => exact ⟨k + 1, by omega, by go_num, HS.out, Below.drewN' HW.out _, HPB.out.drewN _, HQB.out.drewN _⟩
              case measure => simp [intOf]; omega
          · obtain rfl : k = ps.length := by omega
            rw [sameL_end HLL.out] at hs
            have HS := Lib.hid hs
            clear hs
            go_wp2
            go_ret
            exact ⟨by rw [← HS.out]; rfl, HW.out⟩
      · rw [sameL_len hl] at hG
        have HS := Lib.hid hG
        have dl : ((ps.length : Int) != (qs.length : Int)) = true := by simp; omega
        clear hl hG
        go_enter Try.func15, Try.ntmps15
        go_wp2_with fail
        rw [← hw0]
        clear hw0
        go_wp2
        go_ret
        exact ⟨by rw [HS.out]; rfl, HB0.out⟩

end Go.Proofs.Ytighgoefmccagaa
namespace Go.Proofs.Ytighgoefmccagaa
open Go.RowKit

/-- A type, and where its parameters lie. -/
structure Trw where
  m : Mty
  A : Option Addr
  c : Nat
def Mty.small (m : Mty) : Prop := m.t.size ≤ 1048576 ∧ m.u.size ≤ 1048576 ∧ AllIn 1048576 m.ps ∧ m.ps.length + 1 ≤ 1048576
def trwL (R : List Trw) : List Value := R.flatMap fun r => [.string r.m.t, .string r.m.u, .slice r.A r.m.ps.length r.c]
theorem trwL_snoc (R : List Trw) (r : Trw) : trwL (R ++ [r]) = trwL R ++ [.string r.m.t, .string r.m.u, .slice r.A r.m.ps.length r.c] := by simp [trwL]
theorem trwL_at : ∀ (R : List Trw) (i : Nat) (h : i < R.length), (trwL R)[i * 3]? = some (.string R[i].m.t) ∧ (trwL R)[i * 3 + 1]? = some (.string R[i].m.u) ∧ (trwL R)[i * 3 + 2]? = some (.slice R[i].A R[i].m.ps.length R[i].c)
  | r :: q, 0, _ => by
    simp [trwL]
  | r :: q, i + 1, h => by
    have := trwL_at q i (by simpa using h)
    have e : trwL (r :: q) = [.string r.m.t, .string r.m.u, .slice r.A r.m.ps.length r.c] ++ trwL q := by simp [trwL]
    rw [e]
    refine ⟨?_, ?_, ?_⟩ <;> rw [List.getElem?_append_right (by simp; omega)]
    · rw [show (i + 1) * 3 - ([.string r.m.t, .string r.m.u, .slice r.A r.m.ps.length r.c] : List Value).length = i * 3 from by simp; omega]; exact this.1
    · rw [show (i + 1) * 3 + 1 - ([.string r.m.t, .string r.m.u, .slice r.A r.m.ps.length r.c] : List Value).length = i * 3 + 1 from by simp; omega]; exact this.2.1
    · rw [show (i + 1) * 3 + 2 - ([.string r.m.t, .string r.m.u, .slice r.A r.m.ps.length r.c] : List Value).length = i * 3 + 2 from by simp; omega]; exact this.2.2

/-- Types whose parameters are of the call's own. -/
def Rows3 (w : World) (base : Nat) (R : List Trw) : Prop := ∀ r ∈ R, OwnPs w base r.A r.c r.m.ps ∧ r.m.small
theorem Rows3.nil (w : World) (base : Nat) : Rows3 w base [] := fun r hr => by cases hr
theorem Rows3.snoc {w : World} {base : Nat} {R : List Trw} (h : Rows3 w base R) {r : Trw} (h1 : OwnPs w base r.A r.c r.m.ps) (h2 : r.m.small) : Rows3 w base (R ++ [r]) := fun q hq => by
  rcases List.mem_append.1 hq with hq | hq
  · exact h q hq
  · simp at hq; rw [hq]; exact ⟨h1, h2⟩
theorem Rows3.below {w w' : World} {base : Nat} {R : List Trw} (h : Rows3 w base R) (hb : Below w.heap.size w w') : Rows3 w' base R := fun r hr => ⟨own_mv (h r hr).1 (Mv.of_below hb []) (by simp), (h r hr).2⟩
theorem Rows3.base {w : World} {base b : Nat} {R : List Trw} (h : Rows3 w base R) (hb : b ≤ base) : Rows3 w b R := fun r hr => ⟨own_base (h r hr).1 hb, (h r hr).2⟩
/-- An append to a slice of types leaves parameters as they are. -/
theorem own_apart {w w' : World} {base b n m size size' : Nat} {e e' : TypeId} {u v : Value} {ys xs : List Value} (h : w.ownsRow base e size u m ys) (hv : w.ownsRow b e' size' v n xs) (he : e ≠ e') (hg : w.grownBy w' v.ownBlock) : w'.ownsRow base e size u m ys := by
  refine ⟨h.1, ?_⟩
  rcases h.2 with h2 | ⟨g, cap, cur, e1, e2, e3, e4⟩
  · exact .inl h2
  · refine .inr ⟨g, cap, cur, e1, e2, (hg.block g (Array.getElem?_eq_some_iff.1 e3).1 (fun e => ?_)).trans e3, e4⟩
    rcases hv.2 with ⟨hv1, _⟩ | ⟨g', cap', cur', hv1, _, hv3, _⟩
    · rw [hv1] at e; cases e
    · rw [hv1] at e
      cases e
      rw [e3] at hv3
      injection hv3 with hv3
      injection hv3 with _ h9
      exact absurd h9 he
theorem own_other {w w' : World} {base b n : Nat} {A : Option Addr} {c : Nat} {ps : List Prm} {v : Value} {xs : List Value} (h : OwnPs w base A c ps) (hv : w.ownsRow b 36 3 v n xs) (hg : w.grownBy w' v.ownBlock) : OwnPs w' base A c ps := own_apart h hv (by decide) hg
theorem Rows3.grown {w w' : World} {base b n : Nat} {R : List Trw} {v : Value} {xs : List Value} (h : Rows3 w base R) (hv : w.ownsRow b 36 3 v n xs) (hg : w.grownBy w' v.ownBlock) : Rows3 w' base R := fun r hr => ⟨own_other (h r hr).1 hv hg, (h r hr).2⟩

theorem Try.infoMime : (Try.prog.info? 36).map (fun i => (i.zero, i.size, i.bytes)) = some (some (.agg #[.string ⟨#[]⟩, .string ⟨#[]⟩, .slice none 0 0]), 3, 56) := by kernel_rfl

/-- What a call of All gives. -/
def NewTys (l : List Mty) (w : World) (e : Ending) (w' : World) : Prop := ∃ v R, e = .returned v ∧ R.map Trw.m = l ∧ w'.ownsRow w.heap.size 36 3 v R.length (trwL R) ∧ Rows3 w' w.heap.size R ∧ Below w.heap.size w w'

/-- What is read of one piece. -/
def ParseGives (m : Mty) (w : World) (e : Ending) (w' : World) : Prop := ∃ A c, e = .returned (.tuple #[mimV m.t m.u A m.ps.length c, .int .i64 0]) ∧ OwnPs w' w.heap.size A c m.ps ∧ m.small ∧ Below w.heap.size w w'
theorem says_small {T : ByteArray} (h : T.size ≤ 1048575) (ha : AllIn T.size (prOf T)) : (⟨lowS (tyOf T), lowS (suOf T), prOf T⟩ : Mty).small := by
  have h1 := tyOf_size T
  have h2 := suOf_size T
  have h3 := prOf_len T
  refine ⟨?_, ?_, fun p hp => ?_, ?_⟩
  · show (lowS (tyOf T)).size ≤ _
    rw [lowS_size]; omega
  · show (lowS (suOf T)).size ≤ _
    rw [lowS_size]; omega
  · have := ha p hp; omega
  · show (prOf T).length + 1 ≤ _
    omega
theorem parse_gives {T : ByteArray} (p : ByteArray) (w : World) (hs : p.size ≤ 1048575) (hT : trimP whiB p = T) (h : saysB T = true) :
    Calls Try.prog 68 #[.string p] w (ParseGives ⟨lowS (tyOf T), lowS (suOf T), prOf T⟩ w) := by
  have hz : T.size ≤ p.size := by rw [← hT]; exact trimP_size whiB p
  have := parse_any p w (by omega)
  rw [hT, h] at this
  exact this.mono fun e w' hh => by
    obtain ⟨A, c, h1, h2, h3, h4⟩ := (show SaysYes T w e w' from hh)
    exact ⟨A, c, h1, h2, says_small (by omega) h3, h4⟩
theorem parse_not (p : ByteArray) (w : World) (hs : p.size ≤ 1048575) (h : saysB (trimP whiB p) = false) :
    Calls Try.prog 68 #[.string p] w (SaysNo w) := by
  have := parse_any p w (by omega)
  rw [h] at this
  exact this.mono fun _ _ hh => hh
/-- What a piece says, and what becomes of that. -/
def Says (p : ByteArray) (m : Mty) : Prop := ∃ T, trimP whiB p = T ∧ saysB T = true ∧ m = ⟨lowS (tyOf T), lowS (suOf T), prOf T⟩
theorem typO_cases (p : ByteArray) : (saysB (trimP whiB p) = false ∧ typO p = none) ∨ (∃ m, Says p m ∧ anyT m.t m.u = true ∧ typO p = none) ∨ (∃ m, Says p m ∧ anyT m.t m.u = false ∧ typO p = some m) := by
  obtain ⟨T, hT⟩ : ∃ T, trimP whiB p = T := ⟨_, rfl⟩
  unfold typO
  rw [hT]
  cases h1 : saysB T
  · exact .inl ⟨rfl, rfl⟩
  · cases h2 : anyT (lowS (tyOf T)) (lowS (suOf T))
    · exact .inr (.inr ⟨⟨lowS (tyOf T), lowS (suOf T), prOf T⟩, ⟨T, hT, h1, rfl⟩, h2, rfl⟩)
    · exact .inr (.inl ⟨⟨lowS (tyOf T), lowS (suOf T), prOf T⟩, ⟨T, hT, h1, rfl⟩, h2, rfl⟩)
theorem Says.parse {p : ByteArray} {m : Mty} (h : Says p m) (w : World) (hs : p.size ≤ 1048575) : Calls Try.prog 68 #[.string p] w (ParseGives m w) := by
  obtain ⟨T, hT, h1, rfl⟩ := h
  exact parse_gives p w hs hT h1
set_option maxHeartbeats 4000000 in
set_option maxRecDepth 100000 in
theorem all_any (A : Option Addr) (c : Nat) (xs : List ByteArray) (w : World) (h : TxIn w A xs) (hn : xs.length ≤ 700) (hx : ∀ y ∈ xs, y.size ≤ 1000) (hc : xs.length ≤ c) :
    Calls Try.prog 49 #[.slice A xs.length c] w (NewTys (allT (valsL xs)) w) := by
  obtain ⟨i0, hi, hz0, hz1, hz2⟩ := info_parts Try.infoMime
  have HV := Lib.hid (values_any A c xs w h (by omega) hx hc)
  have hj := joinS_size hx
  have hnb : xs.length * (1000 + 2) ≤ 700 * 1002 := Nat.mul_le_mul hn (Nat.le_refl _)
  obtain ⟨hvs, hvn⟩ := valsL_sizes (n := 701400) (by omega : (joinS xs).size ≤ 701400)
  generalize valsL xs = L at *
  clear h hx hj hnb
  have HVS := Lib.hid (fun i (hi : i < L.length) => hvs L[i] (List.getElem_mem hi))
  obtain ⟨Z, hZ⟩ : ∃ Z, Z = allT L := ⟨_, rfl⟩
  rw [← hZ]
  have HZ := Lib.hid hZ
  clear hvs hZ
  go_enter Try.func49, Try.ntmps49
  go_wp2_with fail
  refine HV.out.mono ?_
  rintro e w1 ⟨v1, rfl, ho, b1⟩
  obtain ⟨B, d, rfl, hti, _⟩ := TxIn.of_own ho
  have HTI := Lib.hid hti
  have HB1 := Lib.hid b1
  clear ho hti b1 HV
  go_wp2
  go_loopw [3, 11] (fun v i wr => ∃ (k : Nat) (R : List Trw), k ≤ L.length ∧ i = .int .i64 k ∧ R.length ≤ k ∧ R.map Trw.m = allT (L.take k) ∧ wr.ownsRow w1.heap.size 36 3 v R.length (trwL R) ∧ Rows3 wr w1.heap.size R ∧ Below w1.heap.size w1 wr) (fun _ i _ => L.length - (intOf i).toNat)
  case atStart => exact ⟨0, [], Nat.zero_le _, rfl, Nat.zero_le _, rfl, World.ownsRow_nil _ _ _ _, Rows3.nil _ _, Below.refl _ _⟩
  case round =>
    obtain ⟨k, R, hk, rfl, hrk, hmap, hown, hrows, hw⟩ := hrel
    have HO := Lib.hid hown
    have HR := Lib.hid hrows
    have HW := Lib.hid hw
    have HMP := Lib.hid hmap
    have hws : w1.heap.size ≤ wr.heap.size := hw.size
    clear hown hrows hw hmap
    by_cases hlt : k < L.length
    · obtain ⟨g, rfl, hg, hck⟩ := HTI.out k hlt
      have hck' := (HW.out.cell (p := ⟨g, k, none⟩) hg).trans hck
      have HST := Lib.hid (allT_step hlt)
      have hps := HVS.out k hlt
      generalize L[k] = p at hck' hck HST hps
      clear hck
      rcases typO_cases p with ⟨t1, t2⟩ | ⟨m, t1, t2, t3⟩ | ⟨m, t1, t2, t3⟩
      · have HPA := Lib.hid (fun W => parse_not p W (by omega) t1)
        rw [t2] at HST
        have HE := Lib.hid (show R.map Trw.m = allT (L.take (k + 1)) from by rw [HST.out, HMP.out]; simp)
        clear t1 t2 HST HMP
        obtain ⟨ao, n', cap, rfl⟩ := own_slice HO.out
        go_wp2_with fail
        refine (HPA.out _).mono ?_
        rintro e w2 ⟨rfl, b2⟩
        have b3 : Below wr.heap.size wr (w2.alloc (.cells #[.string ⟨#[]⟩, .string ⟨#[]⟩, .slice none 0 0] 36)) := b2.alloc b2.size _
        have HO2 := Lib.hid (own_mv HO.out (Mv.of_below b3 []) (by simp))
        have HR2 := Lib.hid (HR.out.below b3)
        have HW2 := Lib.hid (below_on HW.out b3)
        clear b2 b3 HO HR HW
        go_wp2
        go_roundw
        case rel => exact ⟨k + 1, R, by omega, by go_num, by omega, HE.out, HO2.out, HR2.out, HW2.out⟩
        case measure => simp [intOf]; omega
      · have HPA := Lib.hid (fun W => t1.parse W (by omega))
        rw [t3] at HST
        have HE := Lib.hid (show R.map Trw.m = allT (L.take (k + 1)) from by rw [HST.out, HMP.out]; simp)
        have t4 : (essS m.t m.u).toList == anyS := t2
        clear t1 t2 t3 HST HMP
        obtain ⟨mt, mu, mp⟩ := m
        obtain ⟨ao, n', cap, rfl⟩ := own_slice HO.out
        go_wp2_with fail
        refine (HPA.out _).mono ?_
        rintro e w2 ⟨A2, c2, rfl, ho2, hs2, b2⟩
        have hs20 : mt.size ≤ 1048576 := hs2.1
        have hs21 : mu.size ≤ 1048576 := hs2.2.1
        obtain ⟨w3, hw3⟩ : ∃ w3, w3 = w2.alloc (.cells #[.string mt, .string mu, .slice A2 mp.length c2] 36) := ⟨_, rfl⟩
        have b3 : Below wr.heap.size wr w3 := by rw [hw3]; exact b2.alloc b2.size _
        have HES := Lib.hid (essence_any mt mu A2 mp.length c2 w3 hs20 hs21)
        have HX := Lib.hid (show (essS mt mu).toList == anyS from t4)
        have HC := Lib.hid (show Blk w3 w2.heap.size 36 _ from by rw [hw3]; exact Blk.new _ _ _)
        have c0 := HC.out.cell 0
        have c1 := HC.out.cell 1
        have c2' := HC.out.cell 2
        rw [hw3] at c0 c1 c2'
        go_wp2_with fail
        rw [← hw3]
        clear hw3
        refine HES.out.mono ?_
        rintro e w4 ⟨rfl, b4⟩
        have b5 := below_on b3 b4
        have HC4 := Lib.hid (HC.out.below b4 HC.out.lt)
        have HO2 := Lib.hid (own_mv HO.out (Mv.of_below b5 []) (by simp))
        have HR2 := Lib.hid (HR.out.below b5)
        have HW2 := Lib.hid (below_on HW.out b5)
        have HX2 : (essS mt mu).toList == anyS := HX.out
        clear b2 b3 b4 b5 HO HR HW HES HC c0 c1 c2' ho2
        have e5 : (⟨(essL mt mu).toArray⟩ : ByteArray) = essS mt mu := rfl
        rw [e5]
        generalize essS mt mu = ex at HX2 ⊢
        go_wp2
        go_roundw
        case rel => exact ⟨k + 1, R, by omega, by go_num, by omega, HE.out, HO2.out, HR2.out, HW2.out⟩
        case measure => simp [intOf]; omega
      · have HPA := Lib.hid (fun W => t1.parse W (by omega))
        rw [t3] at HST
        have HE := Lib.hid (show R.map Trw.m ++ [m] = allT (L.take (k + 1)) from by rw [HST.out, HMP.out]; simp)
        have t4 : ((essS m.t m.u).toList == anyS) = false := t2
        clear t1 t2 t3 HST HMP
        obtain ⟨mt, mu, mp⟩ := m
        obtain ⟨ao, n', cap, rfl⟩ := own_slice HO.out
        go_wp2_with fail
        refine (HPA.out _).mono ?_
        rintro e w2 ⟨A2, c2, rfl, ho2, hs2, b2⟩
        have hs20 : mt.size ≤ 1048576 := hs2.1
        have hs21 : mu.size ≤ 1048576 := hs2.2.1
        have HSM := Lib.hid hs2
        obtain ⟨w3, hw3⟩ : ∃ w3, w3 = w2.alloc (.cells #[.string mt, .string mu, .slice A2 mp.length c2] 36) := ⟨_, rfl⟩
        have b3 : Below wr.heap.size wr w3 := by rw [hw3]; exact b2.alloc b2.size _
        have b23 : Below w2.heap.size w2 w3 := by rw [hw3]; exact (Below.refl _ _).alloc (Nat.le_refl _) _
        have HES := Lib.hid (essence_any mt mu A2 mp.length c2 w3 hs20 hs21)
        have HX := Lib.hid (show ((essS mt mu).toList == anyS) = false from t4)
        have HC := Lib.hid (show Blk w3 w2.heap.size 36 _ from by rw [hw3]; exact Blk.new _ _ _)
        have c0 := HC.out.cell 0
        have c1 := HC.out.cell 1
        have c2' := HC.out.cell 2
        rw [hw3] at c0 c1 c2'
        go_wp2_with fail
        rw [← hw3]
        clear hw3
        refine HES.out.mono ?_
        rintro e w4 ⟨rfl, b4⟩
        have b5 := below_on b3 b4
        have HC4 := Lib.hid (HC.out.below b4 HC.out.lt)
        have HO2 := Lib.hid (own_mv HO.out (Mv.of_below b5 []) (by simp))
        have HR2 := Lib.hid (HR.out.below b5)
        have HW2 := Lib.hid (below_on HW.out b5)
        have HP2 := Lib.hid (show OwnPs w4 w1.heap.size A2 c2 mp from own_mv (own_base ho2 hws) (Mv.of_below (below_on b23 b4) []) (by simp))
        have HX2 : ((essS mt mu).toList == anyS) = false := HX.out
        have hw4 : w1.heap.size ≤ w4.heap.size := Nat.le_trans hws b5.size
        clear b2 b3 b23 b4 b5 HO HR HW HES HC c0 c1 c2' ho2 hs2
        have e5 : (⟨(essL mt mu).toArray⟩ : ByteArray) = essS mt mu := rfl
        rw [e5]
        generalize essS mt mu = ex at HX2 ⊢
        have c0 := HC4.out.cell 0
        have c1 := HC4.out.cell 1
        have c2' := HC4.out.cell 2
        go_wp2_with (at_builtin; refine wpList_append_own _ rfl _ _ 87 rfl w1.heap.size 36 i0 _ 3 56 Try.underlying87 hi hz0 hz1 hz2 rfl (by decide) _ _ _ rfl (HO2.out.alloc _) ⟨w4.heap.size, 0, none⟩ 1 1 [.string mt, .string mu, .slice A2 mp.length c2] rfl rfl ?c1 ?c2 ?c3 ?c4 ?c5 ?_)
        case c1 =>
          intro j u hj
          have hcb := Blk.new w4 36 #[.string mt, .string mu, .slice A2 mp.length c2]
          have e : (⟨w4.heap.size, 0, none⟩ : Addr).add j = ⟨w4.heap.size, j, none⟩ := by cases j <;> simp [Addr.add]
          rw [e, hcb.cell]
          simpa using hj
        case c2 =>
          intro u hu
          simp at hu
          rcases hu with rfl | rfl | rfl <;> rfl
        case c3 => unfold maxLen; omega
        case c4 => omega
        case c5 => simp; omega
        intro v' w5 hown' hgrow _
        have HO5 := Lib.hid (show w5.ownsRow w1.heap.size 36 3 v' (R ++ [(⟨⟨mt, mu, mp⟩, A2, c2⟩ : Trw)]).length (trwL (R ++ [⟨⟨mt, mu, mp⟩, A2, c2⟩])) from by rw [trwL_snoc, List.length_append]; exact hown')
        have HB5 := Lib.hid (Below.grown (HW2.out.alloc HW2.out.size _) hgrow (by simp; omega) (fun g hg => (HO2.out.lt g hg).1))
        have HR5 := Lib.hid (((HR2.out.below ((Below.refl _ _).alloc (Nat.le_refl _) _)).grown (HO2.out.alloc _) hgrow).snoc (r := ⟨⟨mt, mu, mp⟩, A2, c2⟩) (own_other (own_mv HP2.out (Mv.of_below ((Below.refl _ _).alloc (Nat.le_refl _) _) []) (by simp)) (HO2.out.alloc _) hgrow) HSM.out)
        clear hown' hgrow HO2 HR2 HW2 HP2 HC4 c0 c1 c2'
        go_wp2
        go_roundw
        case rel => exact ⟨k + 1, R ++ [⟨⟨mt, mu, mp⟩, A2, c2⟩], by omega, by go_num, by simp; omega, by rw [List.map_append]; exact HE.out, HO5.out, HR5.out, HB5.out⟩
        case measure => simp [intOf]; omega
    · obtain rfl : k = L.length := by omega
      have HE := Lib.hid (show R.map Trw.m = Z from by rw [HZ.out, ← allT_all L]; exact HMP.out)
      go_wp2
      go_ret
      exact ⟨_, R, rfl, HE.out, own_base HO.out HB1.out.size, HR.out.base HB1.out.size, below_on HB1.out HW.out⟩

end Go.Proofs.Ytighgoefmccagaa
namespace Go.Proofs.Ytighgoefmccagaa
open Go.RowKit

/-- What a call of Step gives. -/
def StepGives (r : Mty × ByteArray) (w : World) (e : Ending) (w' : World) : Prop := ∃ A' c', e = .returned (.tuple #[mimV r.1.t r.1.u A' r.1.ps.length c', .string r.2]) ∧ OwnPs w' w.heap.size A' c' r.1.ps ∧ Below w.heap.size w w'

theorem stepT_far {t u set : ByteArray} {n : Mty} (h : eqS (essS n.t n.u) (essS t u) = false) : stepT t u set n = (n, parV n.ps chrS) := by
  unfold stepT
  rw [if_neg (by rw [h]; decide)]
theorem stepT_not {t u set : ByteArray} {n : Mty} (h : eqS (essS n.t n.u) (essS t u) = true) (hm : moreB set n = false) : stepT t u set n = (n, set) := by
  unfold stepT
  rw [if_pos h, hm]
  rfl
theorem stepT_more {t u set : ByteArray} {n : Mty} (h : eqS (essS n.t n.u) (essS t u) = true) (hm : moreB set n = true) : stepT t u set n = (⟨n.t, n.u, n.ps ++ [⟨chrS, set⟩]⟩, set) := by
  unfold stepT
  rw [if_pos h, hm]
  rfl
theorem moreB_with {set : ByteArray} {n : Mty} (h : seenB n.ps chrS = false) (hs : (set.toList == []) = false) : moreB set n = withOk n.t n.u n.ps ⟨chrS, set⟩ := by
  unfold moreB
  rw [good_snoc, h, hs]
  cases withOk n.t n.u n.ps ⟨chrS, set⟩ <;> rfl
theorem moreB_seen {set : ByteArray} {n : Mty} (h : seenB n.ps chrS = true) : moreB set n = false := by
  unfold moreB
  rw [h]
  rfl
theorem moreB_none {set : ByteArray} {n : Mty} (hs : (set.toList == []) = true) : moreB set n = false := by
  unfold moreB
  rw [hs]
  cases seenB n.ps chrS <;> rfl

/-- The three boxes of a call of Step. -/
structure StB (w : World) (tm um : ByteArray) (A0 : Option Addr) (n0 c0 : Nat) (tn un : ByteArray) (A : Option Addr) (n c : Nat) (W : World) : Prop where
  b : Below w.heap.size w W
  m : Blk W w.heap.size 36 #[.string tm, .string um, .slice A0 n0 c0]
  x : Blk W (w.heap.size + 1) 36 #[.string tn, .string un, .slice A n c]
  r : Blk W (w.heap.size + 1 + 1) 36 #[.string ⟨#[]⟩, .string ⟨#[]⟩, .slice none 0 0]
theorem StB.step {w W W' : World} {tm um : ByteArray} {A0 : Option Addr} {n0 c0 : Nat} {tn un : ByteArray} {A : Option Addr} {n c : Nat} (h : StB w tm um A0 n0 c0 tn un A n c W) (hb : Below W.heap.size W W') : StB w tm um A0 n0 c0 tn un A n c W' :=
  ⟨below_on h.b hb, h.m.below hb h.m.lt, h.x.below hb h.x.lt, h.r.below hb h.r.lt⟩
theorem StB.first (w : World) (tm um : ByteArray) (A0 : Option Addr) (n0 c0 : Nat) (tn un : ByteArray) (A : Option Addr) (n c : Nat) :
    StB w tm um A0 n0 c0 tn un A n c (((w.alloc (.cells #[.string tm, .string um, .slice A0 n0 c0] 36)).alloc (.cells #[.string tn, .string un, .slice A n c] 36)).alloc (.cells #[.string ⟨#[]⟩, .string ⟨#[]⟩, .slice none 0 0] 36)) := by
  have h1 := Blk.new (w.alloc (.cells #[.string tm, .string um, .slice A0 n0 c0] 36)) 36 #[.string tn, .string un, .slice A n c]
  have h2 := Blk.new ((w.alloc (.cells #[.string tm, .string um, .slice A0 n0 c0] 36)).alloc (.cells #[.string tn, .string un, .slice A n c] 36)) 36 #[.string ⟨#[]⟩, .string ⟨#[]⟩, .slice none 0 0]
  refine ⟨(((Below.refl w.heap.size w).alloc (Nat.le_refl _) _).alloc (by simp) _).alloc (by simp; omega) _, ((Blk.new _ _ _).alloc _).alloc _, ?_, ?_⟩
  · exact (show Blk _ (w.heap.size + 1) _ _ from by simpa using h1).alloc _
  · simpa using h2
theorem StB.cells {w W : World} {tm um : ByteArray} {A0 : Option Addr} {n0 c0 : Nat} {tn un : ByteArray} {A : Option Addr} {n c : Nat} (h : StB w tm um A0 n0 c0 tn un A n c W) :
    W.cell? ⟨w.heap.size, 0, none⟩ = some (.string tm) ∧ W.cell? ⟨w.heap.size, 1, none⟩ = some (.string um) ∧ W.cell? ⟨w.heap.size, 2, none⟩ = some (.slice A0 n0 c0) ∧
    W.cell? ⟨w.heap.size + 1, 0, none⟩ = some (.string tn) ∧ W.cell? ⟨w.heap.size + 1, 1, none⟩ = some (.string un) ∧ W.cell? ⟨w.heap.size + 1, 2, none⟩ = some (.slice A n c) :=
  ⟨h.m.cell 0, h.m.cell 1, h.m.cell 2, h.x.cell 0, h.x.cell 1, h.x.cell 2⟩

set_option maxHeartbeats 4000000 in
set_option maxRecDepth 100000 in
theorem step_far (tm um : ByteArray) (A0 : Option Addr) (n0 c0 : Nat) (set : ByteArray) (nx : Mty) (A : Option Addr) (c : Nat) (w : World) (h : PsIn w A nx.ps) (hs : nx.small) (htm : tm.size ≤ 1048576) (hum : um.size ≤ 1048576)
    (hd : eqS (essS nx.t nx.u) (essS tm um) = false) :
    Calls Try.prog 50 #[mimV tm um A0 n0 c0, .string set, mimV nx.t nx.u A nx.ps.length c] w (StepGives (stepT tm um set nx) w) := by
  rw [stepT_far hd]
  obtain ⟨tn, un, ps⟩ := nx
  obtain ⟨h1, h2, h3, h4⟩ := hs
  simp only at h h1 h2 h3 h4 hd ⊢
  have HP := Lib.hid h
  obtain ⟨w0, hw0⟩ : ∃ w0, w0 = (((w.alloc (.cells #[.string tm, .string um, .slice A0 n0 c0] 36)).alloc (.cells #[.string tn, .string un, .slice A ps.length c] 36)).alloc (.cells #[.string ⟨#[]⟩, .string ⟨#[]⟩, .slice none 0 0] 36)) := ⟨_, rfl⟩
  have HS0 := Lib.hid (show StB w tm um A0 n0 c0 tn un A ps.length c w0 from by rw [hw0]; exact StB.first _ _ _ _ _ _ _ _ _ _ _)
  have HPM := Lib.hid (fun W (hW : PsIn W A ps) => param_any tn un A ps c chrS W hW (by omega))
  have HEN := Lib.hid (fun W => show Calls Try.prog 69 #[mimV tn un A ps.length c] W fun e w' => e = .returned (.string (essS tn un)) ∧ Below W.heap.size W w' from essence_any tn un A ps.length c W h1 h2)
  have HEM := Lib.hid (fun W => show Calls Try.prog 69 #[mimV tm um A0 n0 c0] W fun e w' => e = .returned (.string (essS tm um)) ∧ Below W.heap.size W w' from essence_any tm um A0 n0 c0 W htm hum)
  have HCO := Lib.hid (fun W (hW : PsIn W A ps) => copied_any tn un A c ps W hW (by omega))
  generalize essS tn un = en at hd HEN
  generalize essS tm um = em at hd HEM
  have hd' : (en.toList == em.toList) = false := hd
  generalize parV ps chrS = pv at HPM ⊢
  generalize seenB ps chrS = sv at HPM
  clear h hd
  obtain ⟨c0', c1', c2', d0, d1, d2⟩ := HS0.out.cells
  rw [hw0] at c0' c1' c2' d0 d1 d2
  go_enter Try.func50, Try.ntmps50
  go_wp2_with fail
  rw [← hw0]
  clear hw0 c0' c1' c2' d0 d1 d2
  refine (HPM.out _ (HP.out.below HS0.out.b)).mono ?_
  rintro e w1 ⟨rfl, b1⟩
  have HS1 := Lib.hid (HS0.out.step b1)
  clear b1 HS0
  obtain ⟨c0', c1', c2', d0, d1, d2⟩ := HS1.out.cells
  have HB := Lib.hid (Below.refl w1.heap.size w1)
  go_wp2_with fail
  go_region_held3 (fun w' => w'.cell? ⟨w.heap.size, 0, none⟩ = some (.string tm) ∧ w'.cell? ⟨w.heap.size, 1, none⟩ = some (.string um) ∧ w'.cell? ⟨w.heap.size, 2, none⟩ = some (.slice A0 n0 c0) ∧
      w'.cell? ⟨w.heap.size + 1, 0, none⟩ = some (.string tn) ∧ w'.cell? ⟨w.heap.size + 1, 1, none⟩ = some (.string un) ∧ w'.cell? ⟨w.heap.size + 1, 2, none⟩ = some (.slice A ps.length c))
    (first | go_keep | exact (HS1.out.step HB.out).cells)
    (first
      | (go_at_call 69; (with_reducible refine (HEN.out _).mono ?_); rintro e w3 ⟨rfl, b3⟩; have HB := Lib.hid (below_on (w := _) (by first | exact HB.out | exact HB.out.drew) b3); clear b3)
      | (go_at_call 69; (with_reducible refine (HEM.out _).mono ?_); rintro e w3 ⟨rfl, b3⟩; have HB := Lib.hid (below_on HB.out b3); clear b3))
  have HS3 := Lib.hid (HS1.out.step HB.out)
  clear HB HS1 c0' c1' c2' d0 d1 d2
  obtain ⟨_, _, _, d0, d1, d2⟩ := HS3.out.cells
  go_wp2_with fail
  refine (HCO.out _ (HP.out.below HS3.out.b)).mono ?_
  rintro e w4 ⟨A4, c4, rfl, hp4, b4⟩
  have HS4 := Lib.hid (HS3.out.step b4)
  have HP4 := Lib.hid (own_base hp4 HS3.out.b.size)
  clear hp4 b4 HS3 d0 d1 d2
  have r0 := HS4.out.r.cell 0
  have r1 := HS4.out.r.cell 1
  have r2 := HS4.out.r.cell 2
  have z0 := HS4.out.r.frozen 0
  have z1 := HS4.out.r.frozen 1
  have z2 := HS4.out.r.frozen 2
  go_wp2
  refine bodyPost_ret (v := .tuple #[mimV tn un A4 ps.length c4, .string pv]) (by simp [results, Try.results50, go_sem, r0, r1, r2]; done) rfl ?_
  exact ⟨A4, c4, rfl, OwnPs.set3 HP4.out HS4.out.r _ _ _, ((HS4.out.b.setCell (by show w.heap.size ≤ w.heap.size + 1 + 1; omega) _).setCell (by show w.heap.size ≤ w.heap.size + 1 + 1; omega) _).setCell (by show w.heap.size ≤ w.heap.size + 1 + 1; omega) _⟩

set_option maxHeartbeats 4000000 in
set_option maxRecDepth 100000 in
theorem step_seen (tm um : ByteArray) (A0 : Option Addr) (n0 c0 : Nat) (set : ByteArray) (nx : Mty) (A : Option Addr) (c : Nat) (w : World) (h : PsIn w A nx.ps) (hs : nx.small) (htm : tm.size ≤ 1048576) (hum : um.size ≤ 1048576)
    (_hset : set.size ≤ 1048576) (hd : eqS (essS nx.t nx.u) (essS tm um) = true) (hv : seenB nx.ps chrS = true) :
    Calls Try.prog 50 #[mimV tm um A0 n0 c0, .string set, mimV nx.t nx.u A nx.ps.length c] w (StepGives (stepT tm um set nx) w) := by
  rw [stepT_not hd (moreB_seen hv)]
  obtain ⟨tn, un, ps⟩ := nx
  obtain ⟨h1, h2, h3, h4⟩ := hs
  simp only at h h1 h2 h3 h4 hd hv ⊢
  have HP := Lib.hid h
  obtain ⟨w0, hw0⟩ : ∃ w0, w0 = (((w.alloc (.cells #[.string tm, .string um, .slice A0 n0 c0] 36)).alloc (.cells #[.string tn, .string un, .slice A ps.length c] 36)).alloc (.cells #[.string ⟨#[]⟩, .string ⟨#[]⟩, .slice none 0 0] 36)) := ⟨_, rfl⟩
  have HS0 := Lib.hid (show StB w tm um A0 n0 c0 tn un A ps.length c w0 from by rw [hw0]; exact StB.first _ _ _ _ _ _ _ _ _ _ _)
  have HPM := Lib.hid (fun W (hW : PsIn W A ps) => param_any tn un A ps c chrS W hW (by omega))
  have HEN := Lib.hid (fun W => show Calls Try.prog 69 #[mimV tn un A ps.length c] W fun e w' => e = .returned (.string (essS tn un)) ∧ Below W.heap.size W w' from essence_any tn un A ps.length c W h1 h2)
  have HEM := Lib.hid (fun W => show Calls Try.prog 69 #[mimV tm um A0 n0 c0] W fun e w' => e = .returned (.string (essS tm um)) ∧ Below W.heap.size W w' from essence_any tm um A0 n0 c0 W htm hum)
  have HCO := Lib.hid (fun W (hW : PsIn W A ps) => copied_any tn un A c ps W hW (by omega))
  generalize essS tn un = en at hd HEN
  generalize essS tm um = em at hd HEM
  have hd' : (en.toList == em.toList) = true := hd
  rw [hv] at HPM
  generalize parV ps chrS = pv at HPM
  clear hv
  clear h hd
  obtain ⟨c0', c1', c2', d0, d1, d2⟩ := HS0.out.cells
  rw [hw0] at c0' c1' c2' d0 d1 d2
  go_enter Try.func50, Try.ntmps50
  go_wp2_with fail
  rw [← hw0]
  clear hw0 c0' c1' c2' d0 d1 d2
  refine (HPM.out _ (HP.out.below HS0.out.b)).mono ?_
  rintro e w1 ⟨rfl, b1⟩
  have HS1 := Lib.hid (HS0.out.step b1)
  clear b1 HS0
  obtain ⟨c0', c1', c2', d0, d1, d2⟩ := HS1.out.cells
  have HB := Lib.hid (Below.refl w1.heap.size w1)
  go_wp2_with fail
  go_region_held3 (fun w' => w'.cell? ⟨w.heap.size, 0, none⟩ = some (.string tm) ∧ w'.cell? ⟨w.heap.size, 1, none⟩ = some (.string um) ∧ w'.cell? ⟨w.heap.size, 2, none⟩ = some (.slice A0 n0 c0) ∧
      w'.cell? ⟨w.heap.size + 1, 0, none⟩ = some (.string tn) ∧ w'.cell? ⟨w.heap.size + 1, 1, none⟩ = some (.string un) ∧ w'.cell? ⟨w.heap.size + 1, 2, none⟩ = some (.slice A ps.length c))
    (first | go_keep | exact (HS1.out.step HB.out).cells)
    (first
      | (go_at_call 69; (with_reducible refine (HEN.out _).mono ?_); rintro e w3 ⟨rfl, b3⟩; have HB := Lib.hid (below_on (w := _) (by first | exact HB.out | exact HB.out.drew) b3); clear b3)
      | (go_at_call 69; (with_reducible refine (HEM.out _).mono ?_); rintro e w3 ⟨rfl, b3⟩; have HB := Lib.hid (below_on HB.out b3); clear b3))
  have HS3 := Lib.hid (HS1.out.step HB.out)
  clear HB HS1 c0' c1' c2' d0 d1 d2
  obtain ⟨_, _, _, d0, d1, d2⟩ := HS3.out.cells
  go_wp2_with fail
  refine (HCO.out _ (HP.out.below HS3.out.b)).mono ?_
  rintro e w4 ⟨A4, c4, rfl, hp4, b4⟩
  have HS4 := Lib.hid (HS3.out.step b4)
  have HP4 := Lib.hid (own_base hp4 HS3.out.b.size)
  clear hp4 b4 HS3 d0 d1 d2
  have r0 := HS4.out.r.cell 0
  have r1 := HS4.out.r.cell 1
  have r2 := HS4.out.r.cell 2
  have z0 := HS4.out.r.frozen 0
  have z1 := HS4.out.r.frozen 1
  have z2 := HS4.out.r.frozen 2
  go_wp2
  refine bodyPost_ret (v := .tuple #[mimV tn un A4 ps.length c4, .string set]) (by simp [results, Try.results50, go_sem, r0, r1, r2]; done) rfl ?_
  exact ⟨A4, c4, rfl, OwnPs.set3 HP4.out HS4.out.r _ _ _, ((HS4.out.b.setCell (by show w.heap.size ≤ w.heap.size + 1 + 1; omega) _).setCell (by show w.heap.size ≤ w.heap.size + 1 + 1; omega) _).setCell (by show w.heap.size ≤ w.heap.size + 1 + 1; omega) _⟩

set_option maxHeartbeats 4000000 in
set_option maxRecDepth 100000 in
theorem step_none (tm um : ByteArray) (A0 : Option Addr) (n0 c0 : Nat) (set : ByteArray) (nx : Mty) (A : Option Addr) (c : Nat) (w : World) (h : PsIn w A nx.ps) (hs : nx.small) (htm : tm.size ≤ 1048576) (hum : um.size ≤ 1048576)
    (_hset : set.size ≤ 1048576) (hd : eqS (essS nx.t nx.u) (essS tm um) = true) (hv : seenB nx.ps chrS = false) (he : (set.toList == []) = true) :
    Calls Try.prog 50 #[mimV tm um A0 n0 c0, .string set, mimV nx.t nx.u A nx.ps.length c] w (StepGives (stepT tm um set nx) w) := by
  rw [stepT_not hd (moreB_none he)]
  obtain ⟨tn, un, ps⟩ := nx
  obtain ⟨h1, h2, h3, h4⟩ := hs
  simp only at h h1 h2 h3 h4 hd hv ⊢
  have HP := Lib.hid h
  obtain ⟨w0, hw0⟩ : ∃ w0, w0 = (((w.alloc (.cells #[.string tm, .string um, .slice A0 n0 c0] 36)).alloc (.cells #[.string tn, .string un, .slice A ps.length c] 36)).alloc (.cells #[.string ⟨#[]⟩, .string ⟨#[]⟩, .slice none 0 0] 36)) := ⟨_, rfl⟩
  have HS0 := Lib.hid (show StB w tm um A0 n0 c0 tn un A ps.length c w0 from by rw [hw0]; exact StB.first _ _ _ _ _ _ _ _ _ _ _)
  have HPM := Lib.hid (fun W (hW : PsIn W A ps) => param_any tn un A ps c chrS W hW (by omega))
  have HEN := Lib.hid (fun W => show Calls Try.prog 69 #[mimV tn un A ps.length c] W fun e w' => e = .returned (.string (essS tn un)) ∧ Below W.heap.size W w' from essence_any tn un A ps.length c W h1 h2)
  have HEM := Lib.hid (fun W => show Calls Try.prog 69 #[mimV tm um A0 n0 c0] W fun e w' => e = .returned (.string (essS tm um)) ∧ Below W.heap.size W w' from essence_any tm um A0 n0 c0 W htm hum)
  have HCO := Lib.hid (fun W (hW : PsIn W A ps) => copied_any tn un A c ps W hW (by omega))
  generalize essS tn un = en at hd HEN
  generalize essS tm um = em at hd HEM
  have hd' : (en.toList == em.toList) = true := hd
  rw [hv] at HPM
  generalize parV ps chrS = pv at HPM
  clear hv
  clear h hd
  obtain ⟨c0', c1', c2', d0, d1, d2⟩ := HS0.out.cells
  rw [hw0] at c0' c1' c2' d0 d1 d2
  go_enter Try.func50, Try.ntmps50
  go_wp2_with fail
  rw [← hw0]
  clear hw0 c0' c1' c2' d0 d1 d2
  refine (HPM.out _ (HP.out.below HS0.out.b)).mono ?_
  rintro e w1 ⟨rfl, b1⟩
  have HS1 := Lib.hid (HS0.out.step b1)
  clear b1 HS0
  obtain ⟨c0', c1', c2', d0, d1, d2⟩ := HS1.out.cells
  have HB := Lib.hid (Below.refl w1.heap.size w1)
  go_wp2_with fail
  go_region_held3 (fun w' => w'.cell? ⟨w.heap.size, 0, none⟩ = some (.string tm) ∧ w'.cell? ⟨w.heap.size, 1, none⟩ = some (.string um) ∧ w'.cell? ⟨w.heap.size, 2, none⟩ = some (.slice A0 n0 c0) ∧
      w'.cell? ⟨w.heap.size + 1, 0, none⟩ = some (.string tn) ∧ w'.cell? ⟨w.heap.size + 1, 1, none⟩ = some (.string un) ∧ w'.cell? ⟨w.heap.size + 1, 2, none⟩ = some (.slice A ps.length c))
    (first | go_keep | exact (HS1.out.step HB.out).cells)
    (first
      | (go_at_call 69; (with_reducible refine (HEN.out _).mono ?_); rintro e w3 ⟨rfl, b3⟩; have HB := Lib.hid (below_on (w := _) (by first | exact HB.out | exact HB.out.drew) b3); clear b3)
      | (go_at_call 69; (with_reducible refine (HEM.out _).mono ?_); rintro e w3 ⟨rfl, b3⟩; have HB := Lib.hid (below_on HB.out b3); clear b3))
  have HS3 := Lib.hid (HS1.out.step HB.out)
  clear HB HS1 c0' c1' c2' d0 d1 d2
  obtain ⟨_, _, _, d0, d1, d2⟩ := HS3.out.cells
  go_wp2_with fail
  refine (HCO.out _ (HP.out.below HS3.out.b)).mono ?_
  rintro e w4 ⟨A4, c4, rfl, hp4, b4⟩
  have HS4 := Lib.hid (HS3.out.step b4)
  have HP4 := Lib.hid (own_base hp4 HS3.out.b.size)
  clear hp4 b4 HS3 d0 d1 d2
  have r0 := HS4.out.r.cell 0
  have r1 := HS4.out.r.cell 1
  have r2 := HS4.out.r.cell 2
  have z0 := HS4.out.r.frozen 0
  have z1 := HS4.out.r.frozen 1
  have z2 := HS4.out.r.frozen 2
  go_wp2
  refine bodyPost_ret (v := .tuple #[mimV tn un A4 ps.length c4, .string set]) (by simp [results, Try.results50, go_sem, r0, r1, r2]; done) rfl ?_
  exact ⟨A4, c4, rfl, OwnPs.set3 HP4.out HS4.out.r _ _ _, ((HS4.out.b.setCell (by show w.heap.size ≤ w.heap.size + 1 + 1; omega) _).setCell (by show w.heap.size ≤ w.heap.size + 1 + 1; omega) _).setCell (by show w.heap.size ≤ w.heap.size + 1 + 1; omega) _⟩

set_option maxHeartbeats 4000000 in
set_option maxRecDepth 100000 in
theorem step_bad (tm um : ByteArray) (A0 : Option Addr) (n0 c0 : Nat) (set : ByteArray) (nx : Mty) (A : Option Addr) (c : Nat) (w : World) (h : PsIn w A nx.ps) (hs : nx.small) (htm : tm.size ≤ 1048576) (hum : um.size ≤ 1048576)
    (hset : set.size ≤ 1048576) (hd : eqS (essS nx.t nx.u) (essS tm um) = true) (hv : seenB nx.ps chrS = false) (he : (set.toList == []) = false) (hwo : withOk nx.t nx.u nx.ps ⟨chrS, set⟩ = false) :
    Calls Try.prog 50 #[mimV tm um A0 n0 c0, .string set, mimV nx.t nx.u A nx.ps.length c] w (StepGives (stepT tm um set nx) w) := by
  rw [stepT_not hd ((moreB_with hv he).trans hwo)]
  obtain ⟨tn, un, ps⟩ := nx
  obtain ⟨h1, h2, h3, h4⟩ := hs
  simp only at h h1 h2 h3 h4 hd hv hwo ⊢
  have HP := Lib.hid h
  obtain ⟨w0, hw0⟩ : ∃ w0, w0 = (((w.alloc (.cells #[.string tm, .string um, .slice A0 n0 c0] 36)).alloc (.cells #[.string tn, .string un, .slice A ps.length c] 36)).alloc (.cells #[.string ⟨#[]⟩, .string ⟨#[]⟩, .slice none 0 0] 36)) := ⟨_, rfl⟩
  have HS0 := Lib.hid (show StB w tm um A0 n0 c0 tn un A ps.length c w0 from by rw [hw0]; exact StB.first _ _ _ _ _ _ _ _ _ _ _)
  have HPM := Lib.hid (fun W (hW : PsIn W A ps) => param_any tn un A ps c chrS W hW (by omega))
  have HEN := Lib.hid (fun W => show Calls Try.prog 69 #[mimV tn un A ps.length c] W fun e w' => e = .returned (.string (essS tn un)) ∧ Below W.heap.size W w' from essence_any tn un A ps.length c W h1 h2)
  have HEM := Lib.hid (fun W => show Calls Try.prog 69 #[mimV tm um A0 n0 c0] W fun e w' => e = .returned (.string (essS tm um)) ∧ Below W.heap.size W w' from essence_any tm um A0 n0 c0 W htm hum)
  have HCO := Lib.hid (fun W (hW : PsIn W A ps) => copied_any tn un A c ps W hW (by omega))
  generalize essS tn un = en at hd HEN
  generalize essS tm um = em at hd HEM
  have hd' : (en.toList == em.toList) = true := hd
  have HWI := Lib.hid (fun W (hW : PsIn W A ps) => with_own tn un A ps c ⟨chrS, set⟩ W ⟨hW, h3, h1, h2, by omega⟩ (by show 7 ≤ _; omega) hset)
  simp only at HWI
  rw [hv] at HPM
  generalize parV ps chrS = pv at HPM
  clear hv
  clear h hd
  obtain ⟨c0', c1', c2', d0, d1, d2⟩ := HS0.out.cells
  rw [hw0] at c0' c1' c2' d0 d1 d2
  go_enter Try.func50, Try.ntmps50
  go_wp2_with fail
  rw [← hw0]
  clear hw0 c0' c1' c2' d0 d1 d2
  refine (HPM.out _ (HP.out.below HS0.out.b)).mono ?_
  rintro e w1 ⟨rfl, b1⟩
  have HS1 := Lib.hid (HS0.out.step b1)
  clear b1 HS0
  obtain ⟨c0', c1', c2', d0, d1, d2⟩ := HS1.out.cells
  have HB := Lib.hid (Below.refl w1.heap.size w1)
  go_wp2_with fail
  go_region_held3 (fun w' => w'.cell? ⟨w.heap.size, 0, none⟩ = some (.string tm) ∧ w'.cell? ⟨w.heap.size, 1, none⟩ = some (.string um) ∧ w'.cell? ⟨w.heap.size, 2, none⟩ = some (.slice A0 n0 c0) ∧
      w'.cell? ⟨w.heap.size + 1, 0, none⟩ = some (.string tn) ∧ w'.cell? ⟨w.heap.size + 1, 1, none⟩ = some (.string un) ∧ w'.cell? ⟨w.heap.size + 1, 2, none⟩ = some (.slice A ps.length c))
    (first | go_keep | exact (HS1.out.step HB.out).cells)
    (first
      | (go_at_call 69; (with_reducible refine (HEN.out _).mono ?_); rintro e w3 ⟨rfl, b3⟩; have HB := Lib.hid (below_on (w := _) (by first | exact HB.out | exact HB.out.drew) b3); clear b3)
      | (go_at_call 69; (with_reducible refine (HEM.out _).mono ?_); rintro e w3 ⟨rfl, b3⟩; have HB := Lib.hid (below_on HB.out b3); clear b3))
  have HS3 := Lib.hid (HS1.out.step HB.out)
  clear HB HS1 c0' c1' c2' d0 d1 d2
  obtain ⟨_, _, _, d0, d1, d2⟩ := HS3.out.cells
  go_wp2_with fail
  refine (HWI.out _ (HP.out.below HS3.out.b)).mono ?_
  rintro e w4 ⟨hw1, _, _, b4⟩
  obtain rfl := hw1 hwo
  clear hw1
  have b5 : Below w4.heap.size w4 (w4.alloc (.cells #[.string ⟨#[]⟩, .string ⟨#[]⟩, .slice none 0 0] 36)) := (Below.refl _ _).alloc (Nat.le_refl _) _
  have HS5 := Lib.hid ((HS3.out.step b4).step b5)
  clear b4 b5 HS3 d0 d1 d2
  obtain ⟨w5, hw5⟩ : ∃ w5, w5 = w4.alloc (.cells #[.string ⟨#[]⟩, .string ⟨#[]⟩, .slice none 0 0] 36) := ⟨_, rfl⟩
  rw [← hw5] at HS5
  obtain ⟨_, _, _, d0, d1, d2⟩ := HS5.out.cells
  rw [hw5] at d0 d1 d2
  go_wp2_with fail
  rw [← hw5]
  clear hw5
  refine (HCO.out _ (HP.out.below HS5.out.b)).mono ?_
  rintro e w6 ⟨A4, c4, rfl, hp4, b6⟩
  have HS4 := Lib.hid (HS5.out.step b6)
  have HP4 := Lib.hid (own_base hp4 HS5.out.b.size)
  clear hp4 b6 HS5 d0 d1 d2
  have r0 := HS4.out.r.cell 0
  have r1 := HS4.out.r.cell 1
  have r2 := HS4.out.r.cell 2
  have z0 := HS4.out.r.frozen 0
  have z1 := HS4.out.r.frozen 1
  have z2 := HS4.out.r.frozen 2
  go_wp2
  refine bodyPost_ret (v := .tuple #[mimV tn un A4 ps.length c4, .string set]) (by simp [results, Try.results50, go_sem, r0, r1, r2]; done) rfl ?_
  exact ⟨A4, c4, rfl, OwnPs.set3 HP4.out HS4.out.r _ _ _, ((HS4.out.b.setCell (by show w.heap.size ≤ w.heap.size + 1 + 1; omega) _).setCell (by show w.heap.size ≤ w.heap.size + 1 + 1; omega) _).setCell (by show w.heap.size ≤ w.heap.size + 1 + 1; omega) _⟩

set_option maxHeartbeats 4000000 in
set_option maxRecDepth 100000 in
theorem step_good (tm um : ByteArray) (A0 : Option Addr) (n0 c0 : Nat) (set : ByteArray) (nx : Mty) (A : Option Addr) (c : Nat) (w : World) (h : PsIn w A nx.ps) (hs : nx.small) (htm : tm.size ≤ 1048576) (hum : um.size ≤ 1048576)
    (hset : set.size ≤ 1048576) (hd : eqS (essS nx.t nx.u) (essS tm um) = true) (hv : seenB nx.ps chrS = false) (he : (set.toList == []) = false) (hwo : withOk nx.t nx.u nx.ps ⟨chrS, set⟩ = true) :
    Calls Try.prog 50 #[mimV tm um A0 n0 c0, .string set, mimV nx.t nx.u A nx.ps.length c] w (StepGives (stepT tm um set nx) w) := by
  rw [stepT_more hd ((moreB_with hv he).trans hwo)]
  obtain ⟨tn, un, ps⟩ := nx
  obtain ⟨h1, h2, h3, h4⟩ := hs
  simp only at h h1 h2 h3 h4 hd hv hwo ⊢
  have HP := Lib.hid h
  obtain ⟨w0, hw0⟩ : ∃ w0, w0 = (((w.alloc (.cells #[.string tm, .string um, .slice A0 n0 c0] 36)).alloc (.cells #[.string tn, .string un, .slice A ps.length c] 36)).alloc (.cells #[.string ⟨#[]⟩, .string ⟨#[]⟩, .slice none 0 0] 36)) := ⟨_, rfl⟩
  have HS0 := Lib.hid (show StB w tm um A0 n0 c0 tn un A ps.length c w0 from by rw [hw0]; exact StB.first _ _ _ _ _ _ _ _ _ _ _)
  have HPM := Lib.hid (fun W (hW : PsIn W A ps) => param_any tn un A ps c chrS W hW (by omega))
  have HEN := Lib.hid (fun W => show Calls Try.prog 69 #[mimV tn un A ps.length c] W fun e w' => e = .returned (.string (essS tn un)) ∧ Below W.heap.size W w' from essence_any tn un A ps.length c W h1 h2)
  have HEM := Lib.hid (fun W => show Calls Try.prog 69 #[mimV tm um A0 n0 c0] W fun e w' => e = .returned (.string (essS tm um)) ∧ Below W.heap.size W w' from essence_any tm um A0 n0 c0 W htm hum)
  have HCO := Lib.hid (fun W (hW : PsIn W A ps) => copied_any tn un A c ps W hW (by omega))
  generalize essS tn un = en at hd HEN
  generalize essS tm um = em at hd HEM
  have hd' : (en.toList == em.toList) = true := hd
  have HWI := Lib.hid (fun W (hW : PsIn W A ps) => with_own tn un A ps c ⟨chrS, set⟩ W ⟨hW, h3, h1, h2, by omega⟩ (by show 7 ≤ _; omega) hset)
  simp only at HWI
  rw [hv] at HPM
  generalize parV ps chrS = pv at HPM
  clear h hd
  obtain ⟨c0', c1', c2', d0, d1, d2⟩ := HS0.out.cells
  rw [hw0] at c0' c1' c2' d0 d1 d2
  go_enter Try.func50, Try.ntmps50
  go_wp2_with fail
  rw [← hw0]
  clear hw0 c0' c1' c2' d0 d1 d2
  refine (HPM.out _ (HP.out.below HS0.out.b)).mono ?_
  rintro e w1 ⟨rfl, b1⟩
  have HS1 := Lib.hid (HS0.out.step b1)
  clear b1 HS0
  obtain ⟨c0', c1', c2', d0, d1, d2⟩ := HS1.out.cells
  have HB := Lib.hid (Below.refl w1.heap.size w1)
  go_wp2_with fail
  go_region_held3 (fun w' => w'.cell? ⟨w.heap.size, 0, none⟩ = some (.string tm) ∧ w'.cell? ⟨w.heap.size, 1, none⟩ = some (.string um) ∧ w'.cell? ⟨w.heap.size, 2, none⟩ = some (.slice A0 n0 c0) ∧
      w'.cell? ⟨w.heap.size + 1, 0, none⟩ = some (.string tn) ∧ w'.cell? ⟨w.heap.size + 1, 1, none⟩ = some (.string un) ∧ w'.cell? ⟨w.heap.size + 1, 2, none⟩ = some (.slice A ps.length c))
    (first | go_keep | exact (HS1.out.step HB.out).cells)
    (first
      | (go_at_call 69; (with_reducible refine (HEN.out _).mono ?_); rintro e w3 ⟨rfl, b3⟩; have HB := Lib.hid (below_on (w := _) (by first | exact HB.out | exact HB.out.drew) b3); clear b3)
      | (go_at_call 69; (with_reducible refine (HEM.out _).mono ?_); rintro e w3 ⟨rfl, b3⟩; have HB := Lib.hid (below_on HB.out b3); clear b3))
  have HS3 := Lib.hid (HS1.out.step HB.out)
  clear HB HS1 c0' c1' c2' d0 d1 d2
  obtain ⟨_, _, _, d0, d1, d2⟩ := HS3.out.cells
  go_wp2_with fail
  refine (HWI.out _ (HP.out.below HS3.out.b)).mono ?_
  rintro e w4 ⟨_, _, hw3, b4⟩
  obtain ⟨A4, c4, rfl, hp4⟩ := hw3 hwo hv
  have HLN := Lib.hid (show ∃ n, n = (ps ++ [(⟨chrS, set⟩ : Prm)]).length from ⟨_, rfl⟩)
  obtain ⟨n, hn⟩ := HLN.out
  rw [← hn]
  have HN := Lib.hid hn
  have b5 : Below w4.heap.size w4 (w4.alloc (.cells #[.string tn, .string un, .slice A4 n c4] 36)) := (Below.refl _ _).alloc (Nat.le_refl _) _
  have HS4 := Lib.hid ((HS3.out.step b4).step b5)
  have HP4 := Lib.hid (own_base (own_mv hp4 (Mv.of_below b5 []) (by simp)) HS3.out.b.size)
  have HX4 := Lib.hid (Blk.new w4 36 #[.string tn, .string un, .slice A4 n c4])
  clear hw3 b4 b5 HS3 d0 d1 d2 HLN hn hp4
  obtain ⟨w5, hw5⟩ : ∃ w5, w5 = w4.alloc (.cells #[.string tn, .string un, .slice A4 n c4] 36) := ⟨_, rfl⟩
  rw [← hw5] at HS4 HP4 HX4
  have r0 := HS4.out.r.cell 0
  have r1 := HS4.out.r.cell 1
  have r2 := HS4.out.r.cell 2
  have z0 := HS4.out.r.frozen 0
  have z1 := HS4.out.r.frozen 1
  have z2 := HS4.out.r.frozen 2
  have x0 := HX4.out.cell 0
  have x1 := HX4.out.cell 1
  have x2 := HX4.out.cell 2
  go_upto_region 7 with fail
  rw [← hw5]
  clear hw5
  go_wp2
  refine bodyPost_ret (v := .tuple #[mimV tn un A4 n c4, .string set]) (by simp [results, Try.results50, go_sem, r0, r1, r2]; done) rfl ?_
  exact ⟨A4, c4, by rw [HN.out], OwnPs.set3 HP4.out HS4.out.r _ _ _, ((HS4.out.b.setCell (by show w.heap.size ≤ w.heap.size + 1 + 1; omega) _).setCell (by show w.heap.size ≤ w.heap.size + 1 + 1; omega) _).setCell (by show w.heap.size ≤ w.heap.size + 1 + 1; omega) _⟩

theorem step_any (tm um : ByteArray) (A0 : Option Addr) (n0 c0 : Nat) (set : ByteArray) (nx : Mty) (A : Option Addr) (c : Nat) (w : World) (h : PsIn w A nx.ps) (hs : nx.small) (htm : tm.size ≤ 1048576) (hum : um.size ≤ 1048576) (hset : set.size ≤ 1048576) :
    Calls Try.prog 50 #[mimV tm um A0 n0 c0, .string set, mimV nx.t nx.u A nx.ps.length c] w (StepGives (stepT tm um set nx) w) := by
  cases hd : eqS (essS nx.t nx.u) (essS tm um)
  · exact step_far tm um A0 n0 c0 set nx A c w h hs htm hum hd
  · cases hv : seenB nx.ps chrS
    · cases he : (set.toList == [])
      · cases hwo : withOk nx.t nx.u nx.ps ⟨chrS, set⟩
        · exact step_bad tm um A0 n0 c0 set nx A c w h hs htm hum hset hd hv he hwo
        · exact step_good tm um A0 n0 c0 set nx A c w h hs htm hum hset hd hv he hwo
      · exact step_none tm um A0 n0 c0 set nx A c w h hs htm hum hset hd hv he
    · exact step_seen tm um A0 n0 c0 set nx A c w h hs htm hum hset hd hv

end Go.Proofs.Ytighgoefmccagaa
