/-
  What the document's Split and Same of layer 4 answer; the pieces of some values, the program's and the document's. Condition: a thousand values of a thousand bytes.
  What the document's Good, Same and Serial of layer 10 answer of types. Conditions: texts are as long as a mebibyte, and parameters as many.
  What the document's Same and Serial of layer 10 answer of types. Conditions: texts are as long as a mebibyte, and parameters as many.
-/
import Derived.Test.YtighgoefmccagaaGreatZ18
import Derived.Test.YtighgoefmccagaaGreatZ12
import Derived.Test.YtighgoefmccagaaGreatZ15
namespace Go.Proofs.YtighgoefmccagaaGreat
open Go.RowKit

theorem piece_end {s : ByteArray} {f i : Nat} (hf : f ≤ s.size) (h : pEnd s f = i) : frontP tabB (cutP tabB (s.extract f i)) = piece s f := by
  rw [piece_is hf, h]
theorem tail_read {s : ByteArray} {i : Nat} (_h : i ≤ s.size) (k : Nat) : quoS (s.extract i s.size) k = quoS s (i + k) := by
  unfold quoS
  rw [bytes_extract]
  have e : s.data.toList.take s.size = s.data.toList := List.take_of_length_le (by show s.data.toList.length ≤ s.data.size; simp)
  rw [e, List.drop_drop]

set_option maxHeartbeats 4000000 in
set_option maxRecDepth 100000 in
theorem rsplit_any (s : ByteArray) (w : World) (hs : s.size ≤ 1099511627776) :
    Calls Tryz.prog 38 #[.string s] w (NewStrs (splitL s 0) w) := by
  have hs' : s.size ≤ 9223372036854775807 := by omega
  obtain ⟨i0, hi, hz0, hz1, hz2⟩ := info_parts Tryz.info9
  obtain ⟨L, hL⟩ : ∃ L, L = splitL s 0 := ⟨_, rfl⟩
  rw [← hL]
  have HL := Lib.hid hL
  clear hL
  go_enter Tryz.func38, Tryz.ntmps38
  go_wp2
  go_loopw [3, 4, 5] (fun v f i wr => ∃ (a k : Nat) (ps : List ByteArray), a ≤ k ∧ k ≤ s.size ∧ ps.length ≤ a ∧ f = .int .i64 a ∧ i = .int .i64 k ∧ wr.ownsRow w.heap.size 9 1 v ps.length (strs ps) ∧ Below w.heap.size w wr ∧ pEnd s k = pEnd s a ∧ ps ++ splitL s a = L) (fun _ _ i _ => s.size - (intOf i).toNat)
  case atStart => exact ⟨0, 0, [], Nat.le_refl _, Nat.zero_le _, Nat.zero_le _, rfl, rfl, World.ownsRow_made w #[] 0 (Nat.le_refl _) (Nat.zero_le _) rfl, (Below.refl _ _).alloc (Nat.le_refl _) _, rfl, HL.out.symm⟩
  case round =>
    obtain ⟨a, k, ps, hak, hk, hl, rfl, rfl, hown, hm, hpe, ht⟩ := hrel
    have HO := Lib.hid hown
    have HM := Lib.hid hm
    have HP := Lib.hid hpe
    have HT := Lib.hid ht
    clear hown hm hpe ht
    by_cases hlt : k < s.size
    · by_cases hq : s[k].toNat = 34
      · have d1 : ((s[k].toNat : Int) == 34) = true := by rw [hq]; rfl
        have HRD := Lib.hid (fun W => refRead_any (s.extract k s.size) W (by rw [ext_size s (Nat.le_refl _)]; omega) (by rw [ext_size s (Nat.le_refl _)]; omega))
        rw [tail_read hk] at HRD
        have HPR := Lib.hid ((pEnd_read hlt hq).trans HP.out)
        have hqle := quoS_le (s := s) (k := k + 1) (by omega)
        obtain ⟨q, hqq⟩ : ∃ q : ByteArray, q = ⟨(quoS s (k + 1)).1.toArray⟩ := ⟨_, rfl⟩
        obtain ⟨n, hnn⟩ : ∃ n : Nat, n = 1 + (quoS s (k + 1)).2 := ⟨_, rfl⟩
        rw [← hqq, ← hnn] at HRD
        have e9 : k + 1 + (quoS s (k + 1)).2 = k + n := by omega
        rw [e9] at hqle HPR
        have hn1 : 0 < n := by omega
        clear hq hqq hnn e9
        go_wp2_with fail
        refine (HRD.out _).mono ?_
        rintro e w1 ⟨rfl, b1⟩
        have HO1 := Lib.hid (own_mv HO.out (Mv.of_below b1 []) (by simp))
        have HM1 := Lib.hid (below_on HM.out b1)
        clear b1 HO HM
        go_wp2
        go_roundw
        case rel => exact ⟨a, k + n, ps, by omega, by omega, hl, rfl, by go_num, HO1.out, HM1.out, HPR.out, HT.out⟩
        case measure => simp [intOf]; omega
      · have d1 : ((s[k].toNat : Int) == 34) = false := by simp; omega
        by_cases hc : s[k].toNat = 44
        · have d2 : ((s[k].toNat : Int) == 44) = true := by rw [hc]; rfl
          have HPA := Lib.hid (show pEnd s a = k from by rw [← HP.out, pEnd_here hlt hc])
          have HTR := Lib.hid (fun W => rtrim_any (s.extract a k) W (by rw [ext_size s hk]; omega))
          have HPC := Lib.hid (piece_end (by omega) HPA.out)
          rw [HPC.out] at HTR
          have HMO := Lib.hid (show splitL s a = piece s a :: splitL s (k + 1) from by
            have := splitL_more (s := s) (k := a) (by omega) (by rw [pTo_is (by omega), HPA.out]; exact hlt)
            rw [pTo_is (by omega), HPA.out] at this
            exact this)
          generalize piece s a = x at HTR HMO
          obtain ⟨ao, n', cap, rfl⟩ := own_slice HO.out
          clear hq hc HPC HPA
          go_wp2_with fail
          refine (HTR.out _).mono ?_
          rintro e wx ⟨rfl, rfl⟩
          go_wp2_with (at_builtin; refine wpList_append_own _ rfl _ _ 47 rfl w.heap.size 9 i0 (.string ⟨#[]⟩) 1 16 Tryz.underlying47 hi hz0 hz1 hz2 rfl (by decide) _ _ _ rfl (HO.out.alloc _) ⟨wr.heap.size, 0, none⟩ 1 1 [.string x] rfl rfl ?c1 ?c2 ?c3 ?c4 ?c5 ?_)
          case c1 =>
            intro j u hj
            match j, hj with
            | 0, hj => simp at hj; subst hj; simp [Addr.add]
          case c2 => intro u hu; simp at hu; subst hu; rfl
          case c3 => unfold maxLen; omega
          case c4 => omega
          case c5 => have := HM.out.size; simp; omega
          intro v' w3 hown' hgrow _
          have HO3 := Lib.hid (show w3.ownsRow w.heap.size 9 1 v' (ps ++ [x]).length (strs (ps ++ [x])) from by simpa [strs] using hown')
          have HM3 := Lib.hid (Below.grown (HM.out.alloc HM.out.size _) hgrow (by have := HM.out.size; simp; omega) (fun g hg => (HO.out.lt g hg).1))
          clear hown' hgrow HO HM
          go_wp2
          go_roundw
          case rel => exact ⟨k + 1, k + 1, ps ++ [x], Nat.le_refl _, by omega, by simp; omega, by go_num, by go_num, HO3.out, HM3.out, rfl, by rw [← HT.out, HMO.out]; simp⟩
          case measure => simp [intOf]; omega
        · have d2 : ((s[k].toNat : Int) == 44) = false := by simp; omega
          have HPO := Lib.hid ((pEnd_over hlt hq hc).trans HP.out)
          clear hq hc
          go_wp2
          go_roundw
          case rel => exact ⟨a, k + 1, ps, by omega, by omega, hl, rfl, by go_num, HO.out, HM.out, HPO.out, HT.out⟩
          case measure => simp [intOf]; omega
    · obtain rfl : k = s.size := by omega
      have HPA := Lib.hid (show pEnd s a = s.size from by rw [← HP.out, pEnd_stop])
      have HTR := Lib.hid (fun W => rtrim_any (s.extract a s.size) W (by rw [ext_size s hk]; omega))
      have HPC := Lib.hid (piece_end hak HPA.out)
      rw [HPC.out] at HTR
      have HLA := Lib.hid (show splitL s a = [piece s a] from splitL_last hak (by rw [pTo_is hak, HPA.out]))
      generalize piece s a = x at HTR HLA
      obtain ⟨ao, n', cap, rfl⟩ := own_slice HO.out
      clear HPC HPA hlt
      go_wp2_with fail
      refine (HTR.out _).mono ?_
      rintro e wx ⟨rfl, rfl⟩
      go_wp2_with (at_builtin; refine wpList_append_own _ rfl _ _ 47 rfl w.heap.size 9 i0 (.string ⟨#[]⟩) 1 16 Tryz.underlying47 hi hz0 hz1 hz2 rfl (by decide) _ _ _ rfl (HO.out.alloc _) ⟨wr.heap.size, 0, none⟩ 1 1 [.string x] rfl rfl ?c1 ?c2 ?c3 ?c4 ?c5 ?_)
      case c1 =>
        intro j u hj
        match j, hj with
        | 0, hj => simp at hj; subst hj; simp [Addr.add]
      case c2 => intro u hu; simp at hu; subst hu; rfl
      case c3 => unfold maxLen; omega
      case c4 => omega
      case c5 => have := HM.out.size; simp; omega
      intro v' w3 hown' hgrow _
      have HO3 := Lib.hid (show w3.ownsRow w.heap.size 9 1 v' (ps ++ [x]).length (strs (ps ++ [x])) from by simpa [strs] using hown')
      have HM3 := Lib.hid (Below.grown (HM.out.alloc HM.out.size _) hgrow (by have := HM.out.size; simp; omega) (fun g hg => (HO.out.lt g hg).1))
      have HE := Lib.hid (show ps ++ [x] = L from by rw [← HT.out, HLA.out])
      clear hown' hgrow HO HM
      go_wp2
      go_ret
      exact ⟨v', rfl, by rw [← HE.out]; exact HO3.out, HM3.out⟩

/-- What a call of the program's or the document's Values gives. -/
theorem vals_nil (w : World) (xs : List ByteArray) (h : xs.length = 0) : w.ownsRow w.heap.size 9 1 (.slice none 0 0) (valsL xs).length (strs (valsL xs)) := by
  unfold valsL
  rw [if_pos h]
  exact World.ownsRow_nil _ _ _ _

set_option maxHeartbeats 1000000 in
theorem values_any (A : Option Addr) (c : Nat) (xs : List ByteArray) (w : World) (h : TxIn w A xs) (hn : xs.length ≤ 1000) (hx : ∀ y ∈ xs, y.size ≤ 1000) (hc : xs.length ≤ c) :
    Calls Tryz.prog 40 #[.slice A xs.length c] w (NewStrs (valsL xs) w) := by
  have hj := joinS_size hx
  have HJ := Lib.hid (cjoin_any A c xs w h hn hx hc)
  have hnb : xs.length * (1000 + 2) ≤ 1000 * 1002 := Nat.mul_le_mul hn (Nat.le_refl _)
  have HS := Lib.hid (fun W => split_any (joinS xs) W (by omega))
  by_cases h0 : xs.length = 0
  · have HN := Lib.hid (fun W => vals_nil W xs h0)
    have d0 : ((xs.length : Int) == 0) = true := beq_iff_eq.2 (by omega)
    generalize valsL xs = L at *
    clear HJ HS h hx hj hnb h0
    go_enter Tryz.func40, Tryz.ntmps40
    go_wp2
    go_ret
    exact ⟨_, rfl, HN.out _, Below.refl _ _⟩
  · have d0 : ((xs.length : Int) == 0) = false := beq_eq_false_iff_ne.2 (by omega)
    have e : valsL xs = splitL (joinS xs) 0 := by unfold valsL; rw [if_neg h0]
    rw [e]
    clear e
    generalize splitL (joinS xs) 0 = L at HS ⊢
    generalize joinS xs = z at HJ HS
    clear h hx hj hnb h0
    go_enter Tryz.func40, Tryz.ntmps40
    go_wp2_with fail
    refine HJ.out.mono ?_
    rintro e w1 ⟨rfl, b1⟩
    have HB := Lib.hid b1
    clear b1
    go_wp2_with fail
    refine (HS.out _).mono ?_
    rintro e w2 ⟨v, rfl, ho, b2⟩
    have HO := Lib.hid (own_base ho HB.out.size)
    have HB2 := Lib.hid (below_on HB.out b2)
    clear ho b2
    go_wp2
    go_ret
    exact ⟨v, rfl, HO.out, HB2.out⟩

set_option maxHeartbeats 1000000 in
theorem rvalues_any (A : Option Addr) (c : Nat) (xs : List ByteArray) (w : World) (h : TxIn w A xs) (hn : xs.length ≤ 1000) (hx : ∀ y ∈ xs, y.size ≤ 1000) :
    Calls Tryz.prog 34 #[.slice A xs.length c] w (NewStrs (valsL xs) w) := by
  have hj := joinS_size hx
  have HJ := Lib.hid (rjoin_any A c xs w h hn hx)
  have hnb : xs.length * (1000 + 2) ≤ 1000 * 1002 := Nat.mul_le_mul hn (Nat.le_refl _)
  have HS := Lib.hid (fun W => rsplit_any (joinS xs) W (by omega))
  by_cases h0 : xs.length = 0
  · have HN := Lib.hid (fun W => vals_nil W xs h0)
    have d0 : ((xs.length : Int) == 0) = true := beq_iff_eq.2 (by omega)
    generalize valsL xs = L at *
    clear HJ HS h hx hj hnb h0
    go_enter Tryz.func34, Tryz.ntmps34
    go_wp2
    go_ret
    exact ⟨_, rfl, HN.out _, Below.refl _ _⟩
  · have d0 : ((xs.length : Int) == 0) = false := beq_eq_false_iff_ne.2 (by omega)
    have e : valsL xs = splitL (joinS xs) 0 := by unfold valsL; rw [if_neg h0]
    rw [e]
    clear e
    generalize splitL (joinS xs) 0 = L at HS ⊢
    generalize joinS xs = z at HJ HS
    clear h hx hj hnb h0
    go_enter Tryz.func34, Tryz.ntmps34
    go_wp2_with fail
    refine HJ.out.mono ?_
    rintro e w1 ⟨rfl, rfl⟩
    go_wp2_with fail
    refine (HS.out _).mono ?_
    rintro e w2 ⟨v, rfl, ho, b2⟩
    have HO := Lib.hid ho
    have HB2 := Lib.hid b2
    clear ho b2
    go_wp2
    go_ret
    exact ⟨v, rfl, HO.out, HB2.out⟩

end Go.Proofs.YtighgoefmccagaaGreat
namespace Go.Proofs.YtighgoefmccagaaGreat
open Go.RowKit

/-- The worlds in which a type lies in the block that came first. -/
def MimAt (w : World) (cs : Array Value) (W : World) : Prop := Below w.heap.size w W ∧ Blk W w.heap.size 26 cs
theorem MimAt.drew {w W : World} {cs : Array Value} (h : MimAt w cs W) : MimAt w cs W.drew := ⟨h.1.drew, h.2⟩
theorem MimAt.step {w W W' : World} {cs : Array Value} (h : MimAt w cs W) (hb : Below W.heap.size W W') : MimAt w cs W' := ⟨below_on h.1 hb, h.2.below hb h.2.lt⟩
theorem MimAt.next {w : World} {cs : Array Value} {x : Wld (MimAt w cs)} {W' : World} (hb : Below x.val.heap.size x.val W') : MimAt w cs W' := x.ok.step hb
theorem MimAt.same {w : World} {cs : Array Value} {x : Wld (MimAt w cs)} {W' : World} (hb : x.val = W') : MimAt w cs W' := hb ▸ x.ok

set_option maxHeartbeats 2000000 in
set_option maxRecDepth 100000 in
theorem rgood_any (t u : ByteArray) (A : Option Addr) (ps : List Prm) (c : Nat) (w : World) (h : MimIn w t u A ps) :
    Calls Tryz.prog 37 #[mimV t u A ps.length c] w fun e w' => e = .returned (.bool (goodM t u ps)) ∧ Below w.heap.size w w' := by
  have HN1 := Lib.hid (fun W => rsmall_any t W h.t)
  have HN2 := Lib.hid (fun W => rsmall_any u W h.u)
  have hn := h.n
  obtain ⟨w0, hw0⟩ : ∃ w0, w0 = w.alloc (.cells #[.string t, .string u, .slice A ps.length c] 26) := ⟨_, rfl⟩
  have HX0 := Lib.hid (show MimAt w #[.string t, .string u, .slice A ps.length c] w0 from ⟨by rw [hw0]; exact (Below.refl w.heap.size w).alloc (Nat.le_refl _) _, by rw [hw0]; exact Blk.new _ _ _⟩)
  have HS := Lib.hid h
  obtain ⟨R, hR⟩ : ∃ R, R = goodM t u ps := ⟨_, rfl⟩
  rw [← hR]
  have HR := Lib.hid hR
  obtain ⟨G, hG⟩ : ∃ G, G = goodL [] ps := ⟨_, rfl⟩
  have HG := Lib.hid hG
  clear hR hG
  go_enter Tryz.func37, Tryz.ntmps37
  go_wp2_with fail
  rw [← hw0]
  clear hw0
  go_loopw [3] (fun i wr => ∃ k : Nat, k ≤ ps.length ∧ i = .int .i64 k ∧ goodL (ps.take k) (ps.drop k) = G ∧ MimAt w #[.string t, .string u, .slice A ps.length c] wr) (fun i _ => ps.length - (intOf i).toNat)
  case atStart => exact ⟨0, Nat.zero_le _, rfl, HG.out.symm, HX0.out⟩
  case round =>
    obtain ⟨k, hk, rfl, hgo, hx⟩ := hrel
    have HX := Lib.hid hx
    have c2 := HX.out.2.cell 2
    clear hx HX0
    by_cases hlt : k < ps.length
    · obtain ⟨g, rfl, hg1, hc0, hc1⟩ := HS.out.lie k hlt
      rw [goodL_step hlt] at hgo
      have hal := HS.out.all.at_ hlt
      have inst : Nonempty (Wld (MimAt w #[.string t, .string u, .slice (some ⟨g, 0, none⟩) ps.length c])) := ⟨⟨_, HX.out⟩⟩
      have f0 : ∀ x : Wld (MimAt w #[.string t, .string u, .slice (some ⟨g, 0, none⟩) ps.length c]), x.val.cell? ⟨w.heap.size, 0, none⟩ = some (.string t) := fun x => x.ok.2.cell 0
      have f1 : ∀ x : Wld (MimAt w #[.string t, .string u, .slice (some ⟨g, 0, none⟩) ps.length c]), x.val.cell? ⟨w.heap.size, 1, none⟩ = some (.string u) := fun x => x.ok.2.cell 1
      have f2 : ∀ x : Wld (MimAt w #[.string t, .string u, .slice (some ⟨g, 0, none⟩) ps.length c]), x.val.cell? ⟨w.heap.size, 2, none⟩ = some (.slice (some ⟨g, 0, none⟩) ps.length c) := fun x => x.ok.2.cell 2
      have g0 : ∀ x : Wld (MimAt w #[.string t, .string u, .slice (some ⟨g, 0, none⟩) ps.length c]), x.val.cell? ⟨g, k * 2, none⟩ = some (.string ps[k].n) := fun x => (x.ok.1.cell (p := ⟨g, k * 2, none⟩) hg1).trans hc0
      have g1 : ∀ x : Wld (MimAt w #[.string t, .string u, .slice (some ⟨g, 0, none⟩) ps.length c]), x.val.cell? ⟨g, k * 2 + 1, none⟩ = some (.string ps[k].v) := fun x => (x.ok.1.cell (p := ⟨g, k * 2 + 1, none⟩) hg1).trans hc1
      have HNA := Lib.hid (fun W => rsmall_any ps[k].n W hal.1)
      have HVA := Lib.hid (fun W => rQuoted_any ps[k].v W (by omega))
      have HAA := Lib.hid (fun (x : Wld (MimAt w #[.string t, .string u, .slice (some ⟨g, 0, none⟩) ps.length c])) => rAt_any t u (some ⟨g, 0, none⟩) ps c ps[k].n x.val (HS.out.lie.below x.ok.1) hn)
      have hself := atN_self hlt
      have hpr : prmB ps[k] = (nameB ps[k].n && allB quoB ps[k].v) := rfl
      rw [hpr] at hgo
      clear hc0 hc1 hpr
      obtain ⟨r, hr⟩ : ∃ r, r = atI ps ps[k].n := ⟨_, rfl⟩
      rw [← hr] at HAA hself
      clear hr
      generalize seenB (ps.take k) ps[k].n = sn at *
      generalize ps[k] = q at *
      obtain ⟨qn, qv⟩ := q
      simp only at HNA HVA HAA g0 g1 hgo hal
      cases h1 : nameB qn
      · rw [h1] at HNA hgo
        simp only [Bool.false_and] at hgo
        have HF := Lib.hid (show R = false from by rw [HR.out]; unfold goodM; rw [← HG.out, ← hgo]; simp)
        clear hgo hself h1 HVA HAA
        go_wp2_with fail
        refine wp_region_class (MimAt w #[.string t, .string u, .slice (some ⟨g, 0, none⟩) ps.length c]) (by kernel_rfl) (by kernel_rfl) HX.out.drew ?_
        repeat (go_big_quiet_step (first
          | (go_at_call 59; exact Calls.cls (HNA.out _) fun _ h => MimAt.next h)))
        refine wpQuiet_nil ?_
        intro w3 hX3
        have HX3 := Lib.hid hX3
        clear hX3
        go_wp2
        go_ret
        exact ⟨by rw [HF.out]; rfl, HX3.out.1⟩
      · rw [h1] at HNA hgo
        simp only [Bool.true_and] at hgo
        cases h2 : allB quoB qv
        · rw [h2] at HVA hgo
          simp only [Bool.false_and] at hgo
          have HF := Lib.hid (show R = false from by rw [HR.out]; unfold goodM; rw [← HG.out, ← hgo]; simp)
          clear hgo hself h1 h2 HAA
          go_wp2_with fail
          refine wp_region_class (MimAt w #[.string t, .string u, .slice (some ⟨g, 0, none⟩) ps.length c]) (by kernel_rfl) (by kernel_rfl) HX.out.drew ?_
          repeat (go_big_quiet_step (first
              | (go_at_call 59; exact Calls.cls (HNA.out _) fun _ h => MimAt.next h)
              | (go_at_call 58; exact Calls.cls (HVA.out _) fun _ h => MimAt.same h)))
          refine wpQuiet_nil ?_
          intro w3 hX3
          have HX3 := Lib.hid hX3
          clear hX3
          go_wp2
          go_ret
          exact ⟨by rw [HF.out]; rfl, HX3.out.1⟩
        · rw [h2] at HVA hgo
          simp only [Bool.true_and] at hgo
          cases h3 : sn
          · rw [h3] at hself hgo
            have d : (r != (k : Int)) = false := by rw [bne]; rw [hself]; rfl
            simp only [Bool.not_false, Bool.true_and] at hgo
            have HGG := Lib.hid hgo
            clear hgo hself h1 h2 h3
            go_wp2_with fail
            refine wp_region_class (MimAt w #[.string t, .string u, .slice (some ⟨g, 0, none⟩) ps.length c]) (by kernel_rfl) (by kernel_rfl) HX.out.drew ?_
            repeat (go_big_quiet_step (first
                | (go_at_call 59; exact Calls.cls (HNA.out _) fun _ h => MimAt.next h)
                | (go_at_call 58; exact Calls.cls (HVA.out _) fun _ h => MimAt.same h)
                | (go_at_call 36; exact Calls.cls (HAA.out _) fun _ h => MimAt.next h)))
            refine wpQuiet_nil ?_
            intro w3 hX3
            have HX3 := Lib.hid hX3
            clear hX3
            go_wp2
            go_roundw
            case rel => exact ⟨k + 1, by omega, by go_num, HGG.out, HX3.out⟩
            case measure => simp [intOf]; omega
          · rw [h3] at hself hgo
            have d : (r != (k : Int)) = true := by rw [bne]; rw [hself]; rfl
            simp only [Bool.not_true, Bool.false_and] at hgo
            have HF := Lib.hid (show R = false from by rw [HR.out]; unfold goodM; rw [← HG.out, ← hgo]; simp)
            clear hgo hself h1 h2 h3
            go_wp2_with fail
            refine wp_region_class (MimAt w #[.string t, .string u, .slice (some ⟨g, 0, none⟩) ps.length c]) (by kernel_rfl) (by kernel_rfl) HX.out.drew ?_
            repeat (go_big_quiet_step (first
                | (go_at_call 59; exact Calls.cls (HNA.out _) fun _ h => MimAt.next h)
                | (go_at_call 58; exact Calls.cls (HVA.out _) fun _ h => MimAt.same h)
                | (go_at_call 36; exact Calls.cls (HAA.out _) fun _ h => MimAt.next h)))
            refine wpQuiet_nil ?_
            intro w3 hX3
            have HX3 := Lib.hid hX3
            clear hX3
            go_wp2
            go_ret
            exact ⟨by rw [HF.out]; rfl, HX3.out.1⟩
    · obtain rfl : k = ps.length := by omega
      rw [goodL_all] at hgo
      have HF := Lib.hid (show R = (nameB t && nameB u) from by rw [HR.out]; unfold goodM; rw [← HG.out, ← hgo]; simp)
      have c0 := HX.out.2.cell 0
      have c1 := HX.out.2.cell 1
      clear hgo
      cases h1 : nameB t
      · rw [h1] at HN1 HF
        go_wp2_with (go_at_call 59; (with_reducible refine (HN1.out _).mono ?_); rintro e w5 ⟨rfl, hb5⟩; have HB5 := Lib.hid hb5; clear hb5)
        go_ret
        exact ⟨by rw [HF.out]; rfl, (HX.out.step HB5.out).1⟩
      · rw [h1] at HN1 HF
        cases h2 : nameB u
        all_goals
          rw [h2] at HN2 HF
          go_wp2_with fail
          refine (HN1.out _).mono ?_
          rintro e w5 ⟨rfl, hb5⟩
          have HX5 := Lib.hid (HX.out.step hb5)
          clear hb5 c0 c1 c2
          have c1 := HX5.out.2.cell 1
          go_wp2_with fail
          refine (HN2.out _).mono ?_
          rintro e w6 ⟨rfl, hb6⟩
          have HX6 := Lib.hid (HX5.out.step hb6)
          clear hb6 c1
          go_wp2
          go_ret
          exact ⟨by rw [HF.out]; rfl, HX6.out.1⟩

end Go.Proofs.YtighgoefmccagaaGreat
namespace Go.Proofs.YtighgoefmccagaaGreat
open Go.RowKit

set_option maxHeartbeats 2000000 in
set_option maxRecDepth 100000 in
theorem rsame_any (t u t' u' : ByteArray) (A B : Option Addr) (ps qs : List Prm) (c d : Nat) (w : World) (h : PsIn w A ps) (h' : PsIn w B qs) (hn : ps.length ≤ 1048576) (_hm : qs.length ≤ 1048576) :
    Calls Tryz.prog 10 #[mimV t u A ps.length c, mimV t' u' B qs.length d] w fun e w' => e = .returned (.bool (sameM t u ps t' u' qs)) ∧ Below w.heap.size w w' := by
  obtain ⟨w0, hw0⟩ : ∃ w0, w0 = (w.alloc (.cells #[.string t, .string u, .slice A ps.length c] 26)).alloc (.cells #[.string t', .string u', .slice B qs.length d] 26) := ⟨_, rfl⟩
  have HB0 := Lib.hid (show Below w.heap.size w w0 from by rw [hw0]; exact ((Below.refl w.heap.size w).alloc (Nat.le_refl _) _).alloc (by simp) _)
  have HP0 := Lib.hid (show Blk w0 w.heap.size 26 #[.string t, .string u, .slice A ps.length c] from by rw [hw0]; exact (Blk.new _ _ _).alloc _)
  have HQ0 := Lib.hid (show Blk w0 (w.heap.size + 1) 26 #[.string t', .string u', .slice B qs.length d] from by
    have := Blk.new (w.alloc (.cells #[.string t, .string u, .slice A ps.length c] 26)) 26 #[.string t', .string u', .slice B qs.length d]
    rw [hw0]
    simpa using this)
  have c0 := HP0.out.cell 0
  have c1 := HP0.out.cell 1
  have c2 := HP0.out.cell 2
  have d0 := HQ0.out.cell 0
  have d1 := HQ0.out.cell 1
  have d2 := HQ0.out.cell 2
  have HP := Lib.hid h
  have HQ := Lib.hid h'
  show Calls Tryz.prog 10 #[mimV t u A ps.length c, mimV t' u' B qs.length d] w fun e w' => e = .returned (.bool (eqS t t' && eqS u u' && sameL ps qs)) ∧ Below w.heap.size w w'
  obtain ⟨G, hG⟩ : ∃ G, G = sameL ps qs := ⟨_, rfl⟩
  rw [← hG]
  clear h h'
  cases h1 : eqS t t'
  · have h1' : (t.toList != t'.toList) = true := by rw [bne]; rw [show (t.toList == t'.toList) = false from h1]; rfl
    simp only [Bool.false_and]
    go_enter Tryz.func10, Tryz.ntmps10
    go_wp2_with fail
    rw [← hw0]
    clear hw0
    go_wp2
    go_ret
    exact ⟨rfl, HB0.out⟩
  · have h1' : (t.toList != t'.toList) = false := by rw [bne]; rw [show (t.toList == t'.toList) = true from h1]; rfl
    cases h2 : eqS u u'
    · have h2' : (u.toList != u'.toList) = true := by rw [bne]; rw [show (u.toList == u'.toList) = false from h2]; rfl
      simp only [Bool.and_false, Bool.false_and]
      go_enter Tryz.func10, Tryz.ntmps10
      go_wp2_with fail
      rw [← hw0]
      clear hw0
      go_wp2
      go_ret
      exact ⟨rfl, HB0.out⟩
    · have h2' : (u.toList != u'.toList) = false := by rw [bne]; rw [show (u.toList == u'.toList) = true from h2]; rfl
      simp only [Bool.true_and]
      by_cases hl : ps.length = qs.length
      · have dl : ((ps.length : Int) != (qs.length : Int)) = false := by simp; omega
        have HLL := Lib.hid hl
        clear hl
        go_enter Tryz.func10, Tryz.ntmps10
        go_wp2_with fail
        rw [← hw0]
        clear hw0
        go_wp2
        clear c0 c1 c2 d0 d1 d2 dl h1 h2 h1' h2'
        go_loopw [5] (fun i wr => ∃ k : Nat, k ≤ ps.length ∧ i = .int .i64 k ∧ sameL (ps.drop k) (qs.drop k) = G ∧ Below w.heap.size w wr ∧ Blk wr w.heap.size 26 #[.string t, .string u, .slice A ps.length c] ∧ Blk wr (w.heap.size + 1) 26 #[.string t', .string u', .slice B qs.length d]) (fun i _ => ps.length - (intOf i).toNat)
        case atStart => exact ⟨0, Nat.zero_le _, rfl, hG.symm, HB0.out, HP0.out, HQ0.out⟩
        case round =>
          obtain ⟨k, hk, rfl, hs, hw, hp, hq⟩ := hrel
          have HW := Lib.hid hw
          have HPB := Lib.hid hp
          have HQB := Lib.hid hq
          have c2 := HPB.out.cell 2
          have d2 := HQB.out.cell 2
          clear hw hp hq
          by_cases hlt : k < ps.length
          · have hk2 : k < qs.length := HLL.out ▸ hlt
            obtain ⟨g, rfl, hg1, hc0, hc1⟩ := HP.out k hlt
            obtain ⟨f, rfl, hf1, hd0, hd1⟩ := HQ.out k hk2
            have c0 := (HW.out.cell (p := ⟨g, k * 2, none⟩) hg1).trans hc0
            have c1 := (HW.out.cell (p := ⟨g, k * 2 + 1, none⟩) hg1).trans hc1
            have d0 := (HW.out.cell (p := ⟨f, k * 2, none⟩) hf1).trans hd0
            have d1 := (HW.out.cell (p := ⟨f, k * 2 + 1, none⟩) hf1).trans hd1
            rw [sameL_step hlt hk2] at hs
            have HE := Lib.hid (fun w => neq_prm ps[k] qs[k] w)
            clear hc0 hc1 hd0 hd1
            cases he : eqS ps[k].n qs[k].n && eqS ps[k].v qs[k].v
            · rw [he, Bool.false_and] at hs
              rw [he] at HE
              have HS := Lib.hid hs
              clear he hs
              generalize ps[k] = q at *
              generalize qs[k]'hk2 = r at *
              obtain ⟨qn, qv⟩ := q
              obtain ⟨rn, rv⟩ := r
              have hE : ∀ w, (binOp .neq 51 (.agg #[.string qn, .string qv]) (.agg #[.string rn, .string rv])).run Tryz.prog w = .ok (.bool true) w := HE.out
              go_wp2_with fail
              go_quiet (fail)
              go_wp2
              go_ret
              exact ⟨by rw [← HS.out]; rfl, Below.drewN' HW.out _⟩
            · rw [he, Bool.true_and] at hs
              rw [he] at HE
              have HS := Lib.hid hs
              clear he hs
              generalize ps[k] = q at *
              generalize qs[k]'hk2 = r at *
              obtain ⟨qn, qv⟩ := q
              obtain ⟨rn, rv⟩ := r
              have hE : ∀ w, (binOp .neq 51 (.agg #[.string qn, .string qv]) (.agg #[.string rn, .string rv])).run Tryz.prog w = .ok (.bool false) w := HE.out
              go_wp2_with fail
              go_quiet (fail)
              go_wp2
              go_roundw
              case rel => exact ⟨k + 1, by omega, by go_num, HS.out, Below.drewN' HW.out _, HPB.out.drewN _, HQB.out.drewN _⟩
              case measure => simp [intOf]; omega
          · obtain rfl : k = ps.length := by omega
            rw [sameL_end HLL.out] at hs
            have HS := Lib.hid hs
            clear hs
            go_wp2
            go_ret
            exact ⟨by rw [← HS.out]; rfl, HW.out⟩
      · rw [sameL_len hl] at hG
        have HS := Lib.hid hG
        have dl : ((ps.length : Int) != (qs.length : Int)) = true := by simp; omega
        clear hl hG
        go_enter Tryz.func10, Tryz.ntmps10
        go_wp2_with fail
        rw [← hw0]
        clear hw0
        go_wp2
        go_ret
        exact ⟨by rw [HS.out]; rfl, HB0.out⟩

end Go.Proofs.YtighgoefmccagaaGreat
