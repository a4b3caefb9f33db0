/-
  What package jnum's Parts answers. Condition: a text of a million bytes at most.
-/
import Derived.Test.YthiclminkbnibaaDoorJq
import Derived.Test.YthiclminkbnibaaDoorJd
import Derived.Test.YthiclminkbnibaaDoorJl
import Derived.Test.YthiclminkbnibaaDoorSums
namespace Go.Proofs.YthiclminkbnibaaDoor
open Go.RowKit

theorem indexE_take : ∀ (l : List UInt8), Lib.indexAny l [101, 69] = if l.dropWhile notE = [] then -1 else ((l.takeWhile notE).length : Int)
  | [] => rfl
  | b :: l => by
    have ih := indexE_take l
    have hc : ([101, 69] : List UInt8).contains b = expB b := by
      unfold expB
      rw [Bool.eq_iff_iff]
      simp
      rw [← UInt8.toNat_inj, ← UInt8.toNat_inj]
      rfl
    unfold Lib.indexAny
    rw [hc]
    cases hb : notE b
    · have he : expB b = true := by unfold notE at hb; simpa using hb
      rw [List.dropWhile_cons_of_neg (by simp [hb]), List.takeWhile_cons_of_neg (by simp [hb]), he]
      rfl
    · have he : expB b = false := by unfold notE at hb; simpa using hb
      rw [List.dropWhile_cons_of_pos hb, List.takeWhile_cons_of_pos hb, he, ih]
      by_cases h : l.dropWhile notE = []
      · rw [if_pos h, if_pos h]; rfl
      · rw [if_neg h, if_neg h]
        simp
theorem take_aL (l : List UInt8) : (mL l).take (aL l).length = aL l := by
  unfold aL
  have := List.takeWhile_append_dropWhile (p := notE) (l := mL l)
  conv => lhs; rw [← this]
  rw [List.takeWhile_append_dropWhile]
  conv => lhs; arg 2; rw [← this]
  rw [List.take_left]
theorem drop_aL (l : List UInt8) : (mL l).drop ((aL l).length + 1) = zL l := by
  unfold aL zL wL
  have := List.takeWhile_append_dropWhile (p := notE) (l := mL l)
  rw [← List.drop_drop]
  congr 1
  conv => lhs; arg 2; rw [← this]
  rw [List.drop_left]
theorem no_e {l : List UInt8} (h : wL l = []) : mL l = aL l ∧ zL l = [] := by
  have := List.takeWhile_append_dropWhile (p := notE) (l := mL l)
  refine ⟨?_, by unfold zL; rw [h]; rfl⟩
  unfold wL at h
  rw [h, List.append_nil] at this
  exact this.symm
theorem mL_ascii {l : List UInt8} (h : ∀ b ∈ l, b.toNat < 128) : ∀ b ∈ mL l, b.toNat < 128 := fun b hb => by
  unfold mL Lib.trimPrefix at hb
  split at hb
  · exact h b (List.mem_of_mem_drop hb)
  · exact h b hb
theorem cla_is (x : Int) : claN x (-9999) 9999 = cla9 x := rfl
theorem bs_append (a b : List UInt8) : bs a ++ bs b = bs (a ++ b) := bs_ext (by simp [bs])

/-- What Parts answers. -/
def prtV (s : ByteArray) : Value := if isB s = true then .tuple #[.bool (negL s.data.toList), .string (bs (dL s.data.toList)), .int .i64 (expL s.data.toList), .bool true] else .tuple #[.bool false, .string ⟨#[]⟩, .int .i64 0, .bool false]
theorem prtV_no {s : ByteArray} (h : isB s = false) : prtV s = .tuple #[.bool false, .string ⟨#[]⟩, .int .i64 0, .bool false] := by unfold prtV; rw [if_neg (by rw [h]; decide)]
theorem prtV_nil {s : ByteArray} (h : isB s = true) (hd : dL s.data.toList = []) : prtV s = .tuple #[.bool (negL s.data.toList), .string ⟨#[]⟩, .int .i64 0, .bool true] := by
  unfold prtV expL
  rw [if_pos h, if_pos hd, hd]
  rfl
theorem prtV_num {s : ByteArray} (h : isB s = true) (hd : dL s.data.toList ≠ []) : prtV s = .tuple #[.bool (negL s.data.toList), .string (bs (dL s.data.toList)), .int .i64 (cla9 (rawX 9007199254740991 s.data.toList)), .bool true] := by
  unfold prtV expL
  rw [if_pos h, if_neg hd]
theorem sta_not {s : ByteArray} (h : isB s = false) : staB (plc s s.size) ≠ 2 := by
  unfold isB at h
  unfold staB
  split
  · decide
  · rw [if_neg (by rw [h]; decide)]
    decide

set_option maxHeartbeats 1000000 in
theorem parts_no (s : ByteArray) (w : World) (hs : s.size ≤ 1000000) (h : isB s = false) :
    Calls Tryd.prog 12 #[.string s] w fun e w' => e = .returned (prtV s) ∧ Below w.heap.size w w' := by
  have HV := Lib.hid (prtV_no h)
  have HS := Lib.hid fun W => state_any s W (by omega)
  have hne : (staB (plc s s.size) != 2) = true := by simpa using sta_not h
  generalize prtV s = v at *
  generalize staB (plc s s.size) = st at *
  clear h
  go_enter Tryd.func12, Tryd.ntmps12
  go_wp2_with (go_at_call 9; refine (HS.out _).mono ?_; rintro e w1 ⟨rfl, hb⟩)
  exact bodyPost_ret (v := .tuple #[.bool false, .string ⟨#[]⟩, .int .i64 0, .bool false]) (by simp [results, Tryd.results12, go_sem]) rfl ⟨by rw [HV.out], hb⟩

set_option maxHeartbeats 4000000 in
set_option maxRecDepth 100000 in
theorem parts_yes (s : ByteArray) (w : World) (hs : s.size ≤ 1000000) (h : isB s = true) :
    Calls Tryd.prog 12 #[.string s] w fun e w' => e = .returned (prtV s) ∧ Below w.heap.size w w' := by
  have hst : staB (plc s s.size) = 2 := staT_full h
  have HS := Lib.hid fun W => state_any s W (by omega)
  rw [hst] at HS
  have hN := numT_of h
  have hlen : s.data.toList.length = s.size := (Lib.size_eq s).symm
  have HVn := fun hd => prtV_nil h hd
  have HVy := fun hd => prtV_num h hd
  have e0 : s = bs s.data.toList := (bs_of s).symm
  generalize prtV s = v at *
  generalize s.data.toList = l at *
  have hl : l.length ≤ 1000000 := by omega
  clear hst h
  have hml := mL_len l
  have hal := aL_len l
  have hub := ub_len (aL l)
  have hgl := gL_len l
  have hdl := dL_len l
  have hzl := zL_len l
  have HC : Hid (∀ W, Calls Tryd.prog 23 #[.string s, .string ⟨#[45]⟩] W fun e w' => e = .returned (.tuple #[.string (bs (mL l)), .bool (negL l)]) ∧ W = w') := fun W => by
    have := strings_CutPrefix s ⟨#[45]⟩ W
    rw [e0, bs_list] at this
    rw [e0]
    exact this.mono fun _ _ h => ⟨h.1, h.2.symm⟩
  have HI : Hid (∀ W, Calls Tryd.prog 24 #[.string (bs (mL l)), .string ⟨#[101, 69]⟩] W fun e w' => e = .returned (.int .i64 (if wL l = [] then -1 else ((aL l).length : Int))) ∧ Below W.heap.size W w') := fun W => by
    have := strings_IndexAny_laid (bs (mL l)) ⟨#[101, 69]⟩ W (by rw [bs_size]; omega) (by decide) (fun j b hj => by
      rw [bs_list] at hj
      exact mL_ascii hN.ascii b (List.mem_of_getElem? hj)) (fun j b hj => by
      have := List.mem_of_getElem? hj
      simp at this
      rcases this with rfl | rfl <;> decide)
    rw [bs_list] at this
    rw [show (⟨#[101, 69]⟩ : ByteArray).data.toList = [101, 69] from rfl, indexE_take] at this
    exact this
  have HK := Lib.hid fun W => cut_dot (aL l) W (by omega)
  have HL : Hid (∀ W, Calls Tryd.prog 26 #[.string (bs (uL (aL l)) ++ bs (bL (aL l))), .string ⟨#[48]⟩] W fun e w' => e = .returned (.string (bs (gL l))) ∧ W = w') := fun W => by
    have := strings_TrimLeft_one (bs (uL (aL l)) ++ bs (bL (aL l))) 48 (by decide) W
    rw [bs_append, bs_list] at this
    rw [bs_append]
    exact this.mono fun _ _ h => ⟨h.1, h.2.symm⟩
  have HR : Hid (∀ W, Calls Tryd.prog 27 #[.string (bs (gL l)), .string ⟨#[48]⟩] W fun e w' => e = .returned (.string (bs (dL l))) ∧ W = w') := fun W => by
    have := strings_TrimRight_one (bs (gL l)) 48 (by decide) W (by rw [bs_size]; omega)
    rw [bs_list] at this
    exact this.mono fun _ _ h => ⟨h.1, h.2.symm⟩
  have HP := Lib.hid fun W => power_any (zL l) W (by omega) (powT_of hN)
  have HX : Hid (rawX 9007199254740991 l = pwZ 9007199254740991 (zL l) - ((bs (bL (aL l))).size : Int) + ((bs (gL l)).size : Int) - ((bs (dL l)).size : Int)) := by
    show _ = _
    rw [bs_size, bs_size, bs_size]
    rfl
  have hbz : (bs (bL (aL l))).size ≤ 1000000 := by rw [bs_size]; omega
  have huz : (bs (uL (aL l))).size ≤ 1000000 := by rw [bs_size]; omega
  have hgz : (bs (gL l)).size ≤ 1000000 := by rw [bs_size]; omega
  have hdz : (bs (dL l)).size ≤ 1000000 := by rw [bs_size]; omega
  have hpw : -9007199254740991 ≤ pwZ 9007199254740991 (zL l) ∧ pwZ 9007199254740991 (zL l) ≤ 9007199254740991 := by
    unfold pwZ
    have h1 := pwN_le 9007199254740991 (mL (zL l))
    have h2 := pwN_le 9007199254740991 (Lib.trimPrefix (zL l) [43])
    split <;> omega
  have HCL : Hid (∀ W, Calls Tryd.prog 29 #[.int .i64 (rawX 9007199254740991 l), .int .i64 (-9999), .int .i64 9999] W fun e w' => e = .returned (.int .i64 (cla9 (rawX 9007199254740991 l))) ∧ W = w') := fun W => (clamp_any _ _ _ W).mono fun _ _ h => h
  have hx : wL l ≠ [] → (bs (mL l)).extract 0 (aL l).length = bs (aL l) := fun _ => bs_ext (by rw [Lib.extract_data, bs_list, bs_list, List.drop_zero, Nat.sub_zero, take_aL])
  have hy : wL l ≠ [] → (bs (mL l)).extract ((aL l).length + 1) (bs (mL l)).size = bs (zL l) := fun _ => bs_ext (by rw [Lib.extract_to_end, bs_list, bs_list, drop_aL])
  have hlt : wL l ≠ [] → (aL l).length < (bs (mL l)).size := fun h => by
    have h1 := congrArg List.length (List.takeWhile_append_dropWhile (p := notE) (l := mL l))
    rw [List.length_append] at h1
    have h2 : 0 < (wL l).length := List.length_pos_iff.2 h
    rw [bs_size]
    unfold wL at h2
    unfold aL
    omega
  have hmz : (bs (mL l)).size ≤ 1000000 := by rw [bs_size]; omega
  have HX2 := Lib.hid HX.out
  clear HX
  by_cases hw : wL l = []
  · rw [if_pos hw] at HI
    obtain ⟨em, ez⟩ := no_e hw
    rw [ez] at HP HX2 hpw
    rw [em] at HC HI
    have ez0 : bs [] = ⟨#[]⟩ := rfl
    rw [ez0] at HP
    by_cases hd : dL l = []
    · have HV := Lib.hid (HVn hd)
      rw [hd, ez0] at HR
      generalize negL l = ng at *
      clear hx hy hlt hw em ez ez0 hd HVn HVy hN e0 HP HCL HX2 hpw
      generalize bs (aL l) = A at *
      generalize bs (uL (aL l)) = U at *
      generalize bs (bL (aL l)) = B at *
      generalize bs (gL l) = G at *
      go_enter Tryd.func12, Tryd.ntmps12
      go_wp2_with (first
          | (go_at_call 9; (with_reducible refine (HS.out _).mono ?_); rintro e w1 ⟨rfl, hb1⟩)
          | (go_at_call 23; (with_reducible refine (HC.out _).mono ?_); rintro e w' ⟨rfl, rfl⟩)
          | (go_at_call 24; (with_reducible refine (HI.out _).mono ?_); rintro e w2 ⟨rfl, hb2⟩)
          | (go_at_call 25; (with_reducible refine (HK.out _).mono ?_); rintro e w' ⟨⟨f, rfl⟩, n3, rfl⟩)
          | (go_at_call 26; (with_reducible refine (HL.out _).mono ?_); rintro e w' ⟨rfl, rfl⟩)
          | (go_at_call 27; (with_reducible refine (HR.out _).mono ?_); rintro e w' ⟨rfl, rfl⟩)
          | (go_at_call 28; (with_reducible refine (HP.out _).mono ?_); rintro e w' ⟨rfl, rfl⟩)
          | (go_at_call 29; (with_reducible refine (HCL.out _).mono ?_); rintro e w' ⟨rfl, rfl⟩))
      exact bodyPost_ret (v := .tuple #[.bool ng, .string ⟨#[]⟩, .int .i64 0, .bool true]) (by simp [results, Tryd.results12, go_sem]) rfl ⟨by rw [HV.out], hb1.trans ((Below.drewN' hb2 _).mono hb1.size)⟩
    · have HV := Lib.hid (HVy hd)
      have hde : ((bs (dL l)).toList == []) = false := by
        rw [Lib.toList_data, bs_list]
        simpa using hd
      generalize negL l = ng at *
      generalize pwZ 9007199254740991 [] = pw at *
      rw [HX2.out] at HCL HV
      clear hx hy hlt hw em ez ez0 hd HVn HVy hN e0 HX2
      generalize bs (aL l) = A at *
      generalize bs (uL (aL l)) = U at *
      generalize bs (bL (aL l)) = B at *
      generalize bs (gL l) = G at *
      generalize bs (dL l) = D at *
      go_enter Tryd.func12, Tryd.ntmps12
      go_wp2_with (first
          | (go_at_call 9; (with_reducible refine (HS.out _).mono ?_); rintro e w1 ⟨rfl, hb1⟩)
          | (go_at_call 23; (with_reducible refine (HC.out _).mono ?_); rintro e w' ⟨rfl, rfl⟩)
          | (go_at_call 24; (with_reducible refine (HI.out _).mono ?_); rintro e w2 ⟨rfl, hb2⟩)
          | (go_at_call 25; (with_reducible refine (HK.out _).mono ?_); rintro e w' ⟨⟨f, rfl⟩, n3, rfl⟩)
          | (go_at_call 26; (with_reducible refine (HL.out _).mono ?_); rintro e w' ⟨rfl, rfl⟩)
          | (go_at_call 27; (with_reducible refine (HR.out _).mono ?_); rintro e w' ⟨rfl, rfl⟩)
          | (go_at_call 28; (with_reducible refine (HP.out _).mono ?_); rintro e w' ⟨rfl, rfl⟩)
          | (go_at_call 29; (with_reducible refine (HCL.out _).mono ?_); rintro e w' ⟨rfl, rfl⟩))
      exact bodyPost_ret (v := .tuple #[.bool ng, .string D, .int .i64 (cla9 (pw - (B.size : Int) + (G.size : Int) - (D.size : Int))), .bool true]) (by simp [results, Tryd.results12, go_sem]) rfl ⟨by rw [HV.out], hb1.trans ((Below.drewN' hb2 _).mono hb1.size)⟩
  · rw [if_neg hw] at HI
    replace hx := hx hw
    replace hy := hy hw
    replace hlt := hlt hw
    generalize (aL l).length = na at *
    have g1 : IntKind.i64.wrap ((na : Int) + 1) = (na : Int) + 1 := IntWalk.i64_in _ (by omega)
    have g2 : 0 ≤ (na : Int) + 1 := by omega
    have g3 : ((na : Int) + 1).toNat = na + 1 := by omega
    have g4 : (na : Int) + 1 ≤ ((bs (mL l)).size : Int) := by omega
    by_cases hd : dL l = []
    · have HV := Lib.hid (HVn hd)
      have ez0 : bs [] = ⟨#[]⟩ := rfl
      rw [hd, ez0] at HR
      generalize negL l = ng at *
      clear hw ez0 hd HVn HVy hN e0 HP HCL HX2 hpw
      generalize bs (zL l) = Z at *
      generalize bs (mL l) = M at *
      generalize bs (aL l) = A at *
      generalize bs (uL (aL l)) = U at *
      generalize bs (bL (aL l)) = B at *
      generalize bs (gL l) = G at *
      go_enter Tryd.func12, Tryd.ntmps12
      go_wp2_with (first
          | (go_at_call 9; (with_reducible refine (HS.out _).mono ?_); rintro e w1 ⟨rfl, hb1⟩)
          | (go_at_call 23; (with_reducible refine (HC.out _).mono ?_); rintro e w' ⟨rfl, rfl⟩)
          | (go_at_call 24; (with_reducible refine (HI.out _).mono ?_); rintro e w2 ⟨rfl, hb2⟩)
          | (go_at_call 25; (with_reducible refine (HK.out _).mono ?_); rintro e w' ⟨⟨f, rfl⟩, n3, rfl⟩)
          | (go_at_call 26; (with_reducible refine (HL.out _).mono ?_); rintro e w' ⟨rfl, rfl⟩)
          | (go_at_call 27; (with_reducible refine (HR.out _).mono ?_); rintro e w' ⟨rfl, rfl⟩)
          | (go_at_call 28; (with_reducible refine (HP.out _).mono ?_); rintro e w' ⟨rfl, rfl⟩)
          | (go_at_call 29; (with_reducible refine (HCL.out _).mono ?_); rintro e w' ⟨rfl, rfl⟩))
      go_quiet (fail)
      go_wp2_with (first
          | (go_at_call 9; (with_reducible refine (HS.out _).mono ?_); rintro e w1 ⟨rfl, hb1⟩)
          | (go_at_call 23; (with_reducible refine (HC.out _).mono ?_); rintro e w' ⟨rfl, rfl⟩)
          | (go_at_call 24; (with_reducible refine (HI.out _).mono ?_); rintro e w2 ⟨rfl, hb2⟩)
          | (go_at_call 25; (with_reducible refine (HK.out _).mono ?_); rintro e w' ⟨⟨f, rfl⟩, n3, rfl⟩)
          | (go_at_call 26; (with_reducible refine (HL.out _).mono ?_); rintro e w' ⟨rfl, rfl⟩)
          | (go_at_call 27; (with_reducible refine (HR.out _).mono ?_); rintro e w' ⟨rfl, rfl⟩)
          | (go_at_call 28; (with_reducible refine (HP.out _).mono ?_); rintro e w' ⟨rfl, rfl⟩)
          | (go_at_call 29; (with_reducible refine (HCL.out _).mono ?_); rintro e w' ⟨rfl, rfl⟩))
      exact bodyPost_ret (v := .tuple #[.bool ng, .string ⟨#[]⟩, .int .i64 0, .bool true]) (by simp [results, Tryd.results12, go_sem]) rfl ⟨by rw [HV.out], hb1.trans ((Below.drewN' hb2 _).mono hb1.size)⟩
    · have HV := Lib.hid (HVy hd)
      have hde : ((bs (dL l)).toList == []) = false := by
        rw [Lib.toList_data, bs_list]
        simpa using hd
      generalize negL l = ng at *
      generalize pwZ 9007199254740991 (zL l) = pw at *
      rw [HX2.out] at HCL HV
      clear hw hd HVn HVy hN e0 HX2
      generalize bs (zL l) = Z at *
      generalize bs (mL l) = M at *
      generalize bs (aL l) = A at *
      generalize bs (uL (aL l)) = U at *
      generalize bs (bL (aL l)) = B at *
      generalize bs (gL l) = G at *
      generalize bs (dL l) = D at *
      go_enter Tryd.func12, Tryd.ntmps12
      go_wp2_with (first
          | (go_at_call 9; (with_reducible refine (HS.out _).mono ?_); rintro e w1 ⟨rfl, hb1⟩)
          | (go_at_call 23; (with_reducible refine (HC.out _).mono ?_); rintro e w' ⟨rfl, rfl⟩)
          | (go_at_call 24; (with_reducible refine (HI.out _).mono ?_); rintro e w2 ⟨rfl, hb2⟩)
          | (go_at_call 25; (with_reducible refine (HK.out _).mono ?_); rintro e w' ⟨⟨f, rfl⟩, n3, rfl⟩)
          | (go_at_call 26; (with_reducible refine (HL.out _).mono ?_); rintro e w' ⟨rfl, rfl⟩)
          | (go_at_call 27; (with_reducible refine (HR.out _).mono ?_); rintro e w' ⟨rfl, rfl⟩)
          | (go_at_call 28; (with_reducible refine (HP.out _).mono ?_); rintro e w' ⟨rfl, rfl⟩)
          | (go_at_call 29; (with_reducible refine (HCL.out _).mono ?_); rintro e w' ⟨rfl, rfl⟩))
      go_quiet (fail)
      go_wp2_with (first
          | (go_at_call 9; (with_reducible refine (HS.out _).mono ?_); rintro e w1 ⟨rfl, hb1⟩)
          | (go_at_call 23; (with_reducible refine (HC.out _).mono ?_); rintro e w' ⟨rfl, rfl⟩)
          | (go_at_call 24; (with_reducible refine (HI.out _).mono ?_); rintro e w2 ⟨rfl, hb2⟩)
          | (go_at_call 25; (with_reducible refine (HK.out _).mono ?_); rintro e w' ⟨⟨f, rfl⟩, n3, rfl⟩)
          | (go_at_call 26; (with_reducible refine (HL.out _).mono ?_); rintro e w' ⟨rfl, rfl⟩)
          | (go_at_call 27; (with_reducible refine (HR.out _).mono ?_); rintro e w' ⟨rfl, rfl⟩)
          | (go_at_call 28; (with_reducible refine (HP.out _).mono ?_); rintro e w' ⟨rfl, rfl⟩)
          | (go_at_call 29; (with_reducible refine (HCL.out _).mono ?_); rintro e w' ⟨rfl, rfl⟩))
      exact bodyPost_ret (v := .tuple #[.bool ng, .string D, .int .i64 (cla9 (pw - (B.size : Int) + (G.size : Int) - (D.size : Int))), .bool true]) (by simp [results, Tryd.results12, go_sem]) rfl ⟨by rw [HV.out], hb1.trans ((Below.drewN' hb2 _).mono hb1.size)⟩

end Go.Proofs.YthiclminkbnibaaDoor
