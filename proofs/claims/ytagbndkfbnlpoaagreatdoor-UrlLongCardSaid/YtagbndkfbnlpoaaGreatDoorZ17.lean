/-
  What package url's Dots answers. Conditions: the text takes at most a mebibyte; the variable MaxLen of the library holds a number.
  What the document's Dots of layer 26 answers. Condition: the text takes at most a mebibyte.
  What free, a good path and a good query are, of both sides of layer 26. Conditions: the text takes at most a mebibyte; the variable MaxLen of the library holds a number.
-/
import Derived.Test.YtagbndkfbnlpoaaGreatDoorZ15
import Derived.BigQuiet
import Derived.IntWalk
import Derived.Test.YtagbndkfbnlpoaaGreatDoorZ16
import Derived.Test.YtagbndkfbnlpoaaGreatDoorZ9
namespace Go.Proofs.YtagbndkfbnlpoaaGreatDoor
open Go.RowKit

/-- The pieces of a path. -/
theorem pieces_of (s : ByteArray) : (Lib.splitB ⟨#[47]⟩ 0 (Lib.countB s ⟨#[47]⟩) s).map (·.data.toList) = slsL s.data.toList := by
  rw [Lib.splitB_data]
  exact split_sls _
theorem lists_append {st : List ByteArray} {x : ByteArray} : (st ++ [x]).map (·.data.toList) = st.map (·.data.toList) ++ [x.data.toList] := by simp
/-- What the loop keeps. -/
structure DRel (P : List ByteArray) (T : List (List UInt8)) (k : Nat) (st : List ByteArray) : Prop where
  hk : k ≤ P.length
  hl : st.length ≤ k
  he : dotF (st.map (·.data.toList)) ((P.drop k).map (·.data.toList)) = T
theorem DRel.step {P : List ByteArray} {T : List (List UInt8)} {k : Nat} {st : List ByteArray} (h : DRel P T k st) (hk : k < P.length) : dotF (st.map (·.data.toList)) (P[k].data.toList :: (P.drop (k + 1)).map (·.data.toList)) = T := by
  rw [← h.he, List.drop_eq_getElem_cons hk]
  rfl
theorem rest_nil26 {P : List ByteArray} {k : Nat} (hk : k < P.length) : ((P.drop (k + 1)).map (·.data.toList) = []) ↔ k + 1 = P.length := by
  rw [List.map_eq_nil_iff, List.drop_eq_nil_iff]
  omega

set_option maxHeartbeats 8000000 in
set_option maxRecDepth 100000 in
theorem dots_path (s t : ByteArray) (w : World) (hs : t.size ≤ 1048576) (hm : MaxC w)
    (HC : Hid (Calls Tryz.prog 45 #[.string s, .string ⟨#[47]⟩] w fun e w' => e = .returned (.tuple #[.string t, .bool true]) ∧ w = w')) :
    Calls Tryz.prog 47 #[.string s] w fun e w' => e = .returned (.string ⟨(joiL (dotF [] (slsL t.data.toList))).toArray⟩) ∧ Below w.heap.size w w' := by
  obtain ⟨i0, hi, hz0, hz1, hz2⟩ := info_parts Tryz.info9
  have HPT := Lib.hid (fun (x : ByteArray) (hx : x.size ≤ 1048576) W (hW : Below w.heap.size w W) => points_any x W (by omega) (hm.stays hW))
  obtain ⟨m, hmc⟩ := hm
  have HSP := Lib.hid (strings_Split t ⟨#[47]⟩ m w (by omega) hmc (by decide))
  have HLN := Lib.hid (Lib.splitB_all ⟨#[47]⟩ (by decide) 0 _ t rfl)
  have HPC := Lib.hid (pieces_of t)
  obtain ⟨T, hT⟩ : ∃ T, T = dotF [] (slsL t.data.toList) := ⟨_, rfl⟩
  have HT := Lib.hid hT
  rw [← hT]
  clear hT hmc
  generalize Lib.splitB ⟨#[47]⟩ 0 (Lib.countB t ⟨#[47]⟩) t = P at HSP HLN HPC
  rw [← HLN.out] at HSP
  have hPx : ∀ x ∈ P, x.size ≤ t.size := fun x hx => by
    have h1 : (joiL (P.map (·.data.toList))).length = t.size + 1 := by rw [HPC.out, sls_len]; simp
    obtain ⟨a, b, rfl⟩ := List.append_of_mem hx
    rw [List.map_append, List.map_cons, joi_append, joi_cons] at h1
    simp at h1
    omega
  have HPX := Lib.hid fun x hx => Nat.le_trans (hPx x hx) hs
  have hPn : P.length ≤ t.size + 1 := by
    have := congrArg List.length HPC.out
    have h2 := sls_count t.data.toList
    simp at this h2
    omega
  have hP1 : 1 ≤ P.length := by have := HLN.out; omega
  have HTL : Hid ((joiL T).length ≤ t.size + 1) := Lib.hid (by
    rw [HT.out]
    have := dot_len (slsL t.data.toList) []
    rw [sls_len] at this
    simpa [joiL] using this)
  have HTN : Hid (T ≠ []) := Lib.hid (by rw [HT.out]; exact dotF_ne _ _ (slsL_ne _))
  have HD0 := Lib.hid (show DRel P T 0 [] from ⟨Nat.zero_le _, Nat.le_refl _, by rw [List.drop_zero, HPC.out, HT.out]; rfl⟩)
  clear hPx HLN HPC HT
  obtain ⟨w0, hw0⟩ : ∃ w0, w0 = w.alloc (.cells (P.map Value.string).toArray 9) := ⟨_, rfl⟩
  rw [← hw0] at HSP
  have HB0 := Lib.hid (show Below w.heap.size w w0 from by rw [hw0]; exact (Below.refl _ _).alloc (Nat.le_refl _) _)
  have HK0 := Lib.hid (show Blk w0 w.heap.size 9 (P.map Value.string).toArray from by rw [hw0]; exact Blk.new _ _ _)
  clear hw0
  go_enter Tryz.func47, Tryz.ntmps47
  go_wp2_with (first
    | (go_at_call 45; (with_reducible refine HC.out.mono ?_); rintro e w1 ⟨rfl, rfl⟩))
  refine HSP.out.mono ?_
  rintro e w1 ⟨rfl, hw1⟩
  rw [hw1]
  clear hw1 HSP HC
  go_wp2_with fail
  go_loopw [6, 20] (fun v i wr => (∃ (k : Nat) (st : List ByteArray), i = .int .i64 k ∧ DRel P T k st ∧ Rws w0.heap.size wr v st) ∧ Below w0.heap.size w0 wr) (fun _ i _ => P.length - (intOf i).toNat)
  case atStart => exact ⟨⟨0, [], rfl, HD0.out, Rws.nil _ _⟩, Below.refl _ _⟩
  case round =>
    obtain ⟨⟨k, st, rfl, hd, hr⟩, hb⟩ := hrel
    have HD := Lib.hid hd
    have HR := Lib.hid hr
    have HB := Lib.hid hb
    have hkP := hd.hk
    clear hd hr hb HD0
    by_cases hlt : k < P.length
    · have hck : wr.cell? ⟨w.heap.size, k, none⟩ = some (.string P[k]) := by
        rw [(HB.out.cell (p := ⟨w.heap.size, k, none⟩) HK0.out.lt), HK0.out.cell k]
        simp [hlt]
      have HST := Lib.hid (HD.out.step hlt)
      have hx := HPX.out P[k] (List.getElem_mem hlt)
      have HN := Lib.hid (rest_nil26 hlt)
      have HPK := Lib.hid (fun W hW => HPT.out P[k] hx W hW)
      generalize P[k] = x at hck HST hx HPK
--WAYS
      have HPK2 := HPK.out wr (HB0.out.trans (HB.out.mono HB0.out.size))
      have hq := ptV_range x.data.toList
      have HST0 := Lib.hid (fun h => (dot_stay (a := st.map (·.data.toList)) (p := x.data.toList) (ps := (P.drop (k + 1)).map (·.data.toList)) h).symm.trans HST.out)
      have HST1 := Lib.hid (fun h => (dot_one (a := st.map (·.data.toList)) (p := x.data.toList) (ps := (P.drop (k + 1)).map (·.data.toList)) h).symm.trans HST.out)
      have HST2 := Lib.hid (fun h => (dot_two (a := st.map (·.data.toList)) (p := x.data.toList) (ps := (P.drop (k + 1)).map (·.data.toList)) h).symm.trans HST.out)
      have hstl := HD.out.hl
      generalize ptV x.data.toList = q at HPK2 hq HST0 HST1 HST2
      clear HPK HST HD HPT
      go_wp2_with fail
      refine HPK2.mono ?_
      rintro e w2 ⟨rfl, b2⟩
      have HR2 := Lib.hid (HR.out.stays b2)
      have HB2 := Lib.hid (HB.out.trans (b2.mono HB.out.size))
      have hln := hlt
      clear b2 HR HB HPK2 hck
      rcases hq with rfl | rfl | rfl
      · have HE := Lib.hid (show dotF ((st ++ [x]).map (·.data.toList)) ((P.drop (k + 1)).map (·.data.toList)) = T from by rw [lists_append]; exact HST0.out rfl)
        clear HST0 HST1 HST2
        go_wp2_with (at_builtin; refine wpList_append_own _ rfl _ _ 61 rfl w0.heap.size 9 i0 (.string ⟨#[]⟩) 1 16 Tryz.underlying61 hi hz0 hz1 hz2 rfl (by decide) _ _ _ rfl (HR2.out.alloc _) ⟨w2.heap.size, 0, none⟩ 1 1 [.string x] rfl rfl ?c1 ?c2 ?c3 ?c4 ?c5 ?_)
        try (case c1 => intro j u hj; (match j, hj with | 0, hj => simp at hj; subst hj; simp [Addr.add]))
        case c2 => first | rfl | (intro u hu; simp at hu; subst hu; rfl)
        case c3 => unfold maxLen; omega
        case c4 => omega
        case c5 => have := HB2.out.size; simp; omega
        intro v' w3 hown' hgrow _
        have HR3 := Lib.hid (show Rws w0.heap.size w3 v' (st ++ [x]) from by simpa [Rws, strs] using hown')
        have HB3 := Lib.hid (Below.grown (HB2.out.alloc HB2.out.size _) hgrow (by have := HB2.out.size; simp; omega) (fun g hg => (HR2.out.lt g hg).1))
        clear hown' hgrow
        go_wp2
        go_roundw
        case rel => exact ⟨⟨k + 1, _, by go_num, ⟨by omega, by first | (simp; omega) | simp, HE.out⟩, HR3.out⟩, HB3.out⟩
        case measure => simp [intOf]; omega
      · have HE2 := Lib.hid (HST1.out rfl)
        clear HST0 HST1 HST2
        by_cases hlast : k + 1 = P.length
        · have HE := Lib.hid (show dotF ((st ++ [(⟨#[]⟩ : ByteArray)]).map (·.data.toList)) ((P.drop (k + 1)).map (·.data.toList)) = T from by
            rw [lists_append, ← HE2.out, if_pos (HN.out.2 hlast)]
            first | rfl | skip)
          have g1 : ((k : Int) == (P.length : Int) - 1) = true := by rw [beq_iff_eq]; omega
          clear hlast HE2 HN
          go_wp2_with (at_builtin; refine wpList_append_own _ rfl _ _ 61 rfl w0.heap.size 9 i0 (.string ⟨#[]⟩) 1 16 Tryz.underlying61 hi hz0 hz1 hz2 rfl (by decide) _ _ _ rfl (HR2.out.alloc _) ⟨w2.heap.size, 0, none⟩ 1 1 [.string ⟨#[]⟩] rfl rfl ?c1 ?c2 ?c3 ?c4 ?c5 ?_)
          try (case c1 => intro j u hj; (match j, hj with | 0, hj => simp at hj; subst hj; simp [Addr.add]))
          case c2 => first | rfl | (intro u hu; simp at hu; subst hu; rfl)
          case c3 => unfold maxLen; omega
          case c4 => omega
          case c5 => have := HB2.out.size; simp; omega
          intro v' w3 hown' hgrow _
          have HR3 := Lib.hid (show Rws w0.heap.size w3 v' (st ++ [⟨#[]⟩]) from by simpa [Rws, strs] using hown')
          have HB3 := Lib.hid (Below.grown (HB2.out.alloc HB2.out.size _) hgrow (by have := HB2.out.size; simp; omega) (fun g hg => (HR2.out.lt g hg).1))
          clear hown' hgrow
          go_wp2
          go_roundw
          case rel => exact ⟨⟨k + 1, _, by go_num, ⟨by omega, by first | (simp; omega) | simp, HE.out⟩, HR3.out⟩, HB3.out⟩
          case measure => simp [intOf]; omega
        · have HE := Lib.hid (show dotF (st.map (·.data.toList)) ((P.drop (k + 1)).map (·.data.toList)) = T from by
            rw [← HE2.out, if_neg (fun h => hlast (HN.out.1 h)), List.append_nil]
            first | rfl | skip)
          have g1 : ((k : Int) == (P.length : Int) - 1) = false := by rw [beq_eq_false_iff_ne]; omega
          clear hlast HE2 HN
          go_wp2
          go_roundw
          case rel => exact ⟨⟨k + 1, _, by go_num, ⟨by omega, by first | omega | simp, HE.out⟩, HR2.out⟩, HB2.out⟩
          case measure => simp [intOf]; omega
      · rcases HR2.out.cases with ⟨rfl, rfl⟩ | ⟨g, c, rfl, hc1, hc2, hgB, _⟩
        · have HE2 := Lib.hid (HST2.out rfl)
          clear HST0 HST1 HST2
          by_cases hlast : k + 1 = P.length
          · have HE := Lib.hid (show dotF ((([] : List ByteArray) ++ [(⟨#[]⟩ : ByteArray)]).map (·.data.toList)) ((P.drop (k + 1)).map (·.data.toList)) = T from by
              rw [lists_append, ← HE2.out, if_pos (HN.out.2 hlast)]
              first | rfl | skip)
            have g1 : ((k : Int) == (P.length : Int) - 1) = true := by rw [beq_iff_eq]; omega
            clear hlast HE2 HN
            go_wp2_with (at_builtin; refine wpList_append_own _ rfl _ _ 61 rfl w0.heap.size 9 i0 (.string ⟨#[]⟩) 1 16 Tryz.underlying61 hi hz0 hz1 hz2 rfl (by decide) _ _ _ rfl (HR2.out.alloc _) ⟨w2.heap.size, 0, none⟩ 1 1 [.string ⟨#[]⟩] rfl rfl ?c1 ?c2 ?c3 ?c4 ?c5 ?_)
            try (case c1 => intro j u hj; (match j, hj with | 0, hj => simp at hj; subst hj; simp [Addr.add]))
            case c2 => first | rfl | (intro u hu; simp at hu; subst hu; rfl)
            case c3 => unfold maxLen; omega
            case c4 => omega
            case c5 => have := HB2.out.size; simp; omega
            intro v' w3 hown' hgrow _
            have HR3 := Lib.hid (show Rws w0.heap.size w3 v' (([] : List ByteArray) ++ [⟨#[]⟩]) from by simpa [Rws, strs] using hown')
            have HB3 := Lib.hid (Below.grown (HB2.out.alloc HB2.out.size _) hgrow (by have := HB2.out.size; simp; omega) (fun g hg => (HR2.out.lt g hg).1))
            clear hown' hgrow
            go_wp2
            go_roundw
            case rel => exact ⟨⟨k + 1, _, by go_num, ⟨by omega, by first | (simp; omega) | simp, HE.out⟩, HR3.out⟩, HB3.out⟩
            case measure => simp [intOf]; omega
          · have HE := Lib.hid (show dotF (([] : List ByteArray).map (·.data.toList)) ((P.drop (k + 1)).map (·.data.toList)) = T from by
              rw [← HE2.out, if_neg (fun h => hlast (HN.out.1 h)), List.append_nil]
              first | rfl | skip)
            have g1 : ((k : Int) == (P.length : Int) - 1) = false := by rw [beq_eq_false_iff_ne]; omega
            clear hlast HE2 HN
            go_wp2
            go_roundw
            case rel => exact ⟨⟨k + 1, _, by go_num, ⟨by omega, by first | omega | simp, HE.out⟩, HR2.out⟩, HB2.out⟩
            case measure => simp [intOf]; omega
        · rcases List.eq_nil_or_concat st with rfl | ⟨sq, y, rfl⟩
          · have HE2 := Lib.hid (HST2.out rfl)
            clear HST0 HST1 HST2
            by_cases hlast : k + 1 = P.length
            · have HE := Lib.hid (show dotF ((([] : List ByteArray) ++ [(⟨#[]⟩ : ByteArray)]).map (·.data.toList)) ((P.drop (k + 1)).map (·.data.toList)) = T from by
                rw [lists_append, ← HE2.out, if_pos (HN.out.2 hlast)]
                first | rfl | skip)
              have g1 : ((k : Int) == (P.length : Int) - 1) = true := by rw [beq_iff_eq]; omega
              clear hlast HE2 HN
              go_wp2_with (at_builtin; refine wpList_append_own _ rfl _ _ 61 rfl w0.heap.size 9 i0 (.string ⟨#[]⟩) 1 16 Tryz.underlying61 hi hz0 hz1 hz2 rfl (by decide) _ _ _ rfl (HR2.out.alloc _) ⟨w2.heap.size, 0, none⟩ 1 1 [.string ⟨#[]⟩] rfl rfl ?c1 ?c2 ?c3 ?c4 ?c5 ?_)
              try (case c1 => intro j u hj; (match j, hj with | 0, hj => simp at hj; subst hj; simp [Addr.add]))
              case c2 => first | rfl | (intro u hu; simp at hu; subst hu; rfl)
              case c3 => unfold maxLen; omega
              case c4 => omega
              case c5 => have := HB2.out.size; simp; omega
              intro v' w3 hown' hgrow _
              have HR3 := Lib.hid (show Rws w0.heap.size w3 v' (([] : List ByteArray) ++ [⟨#[]⟩]) from by simpa [Rws, strs] using hown')
              have HB3 := Lib.hid (Below.grown (HB2.out.alloc HB2.out.size _) hgrow (by have := HB2.out.size; simp; omega) (fun g hg => (HR2.out.lt g hg).1))
              clear hown' hgrow
              go_wp2
              go_roundw
              case rel => exact ⟨⟨k + 1, _, by go_num, ⟨by omega, by first | (simp; omega) | simp, HE.out⟩, HR3.out⟩, HB3.out⟩
              case measure => simp [intOf]; omega
            · have HE := Lib.hid (show dotF (([] : List ByteArray).map (·.data.toList)) ((P.drop (k + 1)).map (·.data.toList)) = T from by
                rw [← HE2.out, if_neg (fun h => hlast (HN.out.1 h)), List.append_nil]
                first | rfl | skip)
              have g1 : ((k : Int) == (P.length : Int) - 1) = false := by rw [beq_eq_false_iff_ne]; omega
              clear hlast HE2 HN
              go_wp2
              go_roundw
              case rel => exact ⟨⟨k + 1, _, by go_num, ⟨by omega, by first | omega | simp, HE.out⟩, HR2.out⟩, HB2.out⟩
              case measure => simp [intOf]; omega
          · rw [List.concat_eq_append] at *
            have HE2 := Lib.hid (show dotF (sq.map (·.data.toList) ++ if (P.drop (k + 1)).map (·.data.toList) = [] then [[]] else []) ((P.drop (k + 1)).map (·.data.toList)) = T from by
              have := HST2.out rfl
              rw [lists_append, List.dropLast_concat] at this
              exact this)
            have hcut := Lib.hid HR2.out.cut
            replace HR2 := hcut
            clear HST0 HST1 HST2 hcut
            simp only [List.length_append, List.length_singleton] at hstl hc1 ⊢
            have hmx : (sq.length : Int) + 1 - 1 = (sq.length : Int) := by omega
            by_cases hlast : k + 1 = P.length
            · have HE := Lib.hid (show dotF ((sq ++ [(⟨#[]⟩ : ByteArray)]).map (·.data.toList)) ((P.drop (k + 1)).map (·.data.toList)) = T from by
                rw [lists_append, ← HE2.out, if_pos (HN.out.2 hlast)]
                first | rfl | skip)
              have g1 : ((k : Int) == (P.length : Int) - 1) = true := by rw [beq_iff_eq]; omega
              clear hlast HE2 HN
              go_wp2_with (at_builtin; refine wpList_append_own _ rfl _ _ 61 rfl w0.heap.size 9 i0 (.string ⟨#[]⟩) 1 16 Tryz.underlying61 hi hz0 hz1 hz2 rfl (by decide) _ _ _ rfl (HR2.out.alloc _) ⟨w2.heap.size, 0, none⟩ 1 1 [.string ⟨#[]⟩] rfl rfl ?c1 ?c2 ?c3 ?c4 ?c5 ?_)
              try (case c1 => intro j u hj; (match j, hj with | 0, hj => simp at hj; subst hj; simp [Addr.add]))
              case c2 => first | rfl | (intro u hu; simp at hu; subst hu; rfl)
              case c3 => unfold maxLen; omega
              case c4 => omega
              case c5 => have := HB2.out.size; simp; omega
              intro v' w3 hown' hgrow _
              have HR3 := Lib.hid (show Rws w0.heap.size w3 v' (sq ++ [⟨#[]⟩]) from by simpa [Rws, strs] using hown')
              have HB3 := Lib.hid (Below.grown (HB2.out.alloc HB2.out.size _) hgrow (by have := HB2.out.size; simp; omega) (fun g hg => (HR2.out.lt g hg).1))
              clear hown' hgrow
              go_wp2
              go_roundw
              case rel => exact ⟨⟨k + 1, _, by go_num, ⟨by omega, by first | (simp; omega) | simp, HE.out⟩, HR3.out⟩, HB3.out⟩
              case measure => simp [intOf]; omega
            · have HE := Lib.hid (show dotF (sq.map (·.data.toList)) ((P.drop (k + 1)).map (·.data.toList)) = T from by
                rw [← HE2.out, if_neg (fun h => hlast (HN.out.1 h)), List.append_nil]
                first | rfl | skip)
              have g1 : ((k : Int) == (P.length : Int) - 1) = false := by rw [beq_eq_false_iff_ne]; omega
              clear hlast HE2 HN
              go_wp2
              go_roundw
              case rel => exact ⟨⟨k + 1, _, by go_num, ⟨by omega, by first | omega | simp, HE.out⟩, HR2.out⟩, HB2.out⟩
              case measure => simp [intOf]; omega
--END
    · obtain rfl : k = P.length := by omega
      have HF := Lib.hid (show st.map (·.data.toList) = T from by
        have := HD.out.he
        rw [List.drop_length] at this
        exact this)
      obtain ⟨q, st', rfl⟩ : ∃ q st', st = q :: st' := by
        cases st with
        | nil => exact absurd HF.out.symm HTN.out
        | cons q st' => exact ⟨q, st', rfl⟩
      rcases HR.out.cases with ⟨rfl, hn⟩ | ⟨g, c, rfl, hc1, hc2, hgB, hgl⟩
      · cases hn
      have HJL := Lib.hid (show 47 :: Lib.join ((q :: st').map (·.data.toList)) [47] = joiL T from by rw [← HF.out]; exact (joi_join _ _).symm)
      have hjl : (Lib.join ((q :: st').map (·.data.toList)) [47]).length ≤ 1048577 := by
        have h1 := congrArg List.length HJL.out
        have h2 := HTL.out
        simp only [List.length_cons] at h1
        omega
      have hstl := HD.out.hl
      have HJ := Lib.hid (strings_Join g 0 c (q :: st') ⟨#[47]⟩ wr (fun j x hx => by rw [Nat.zero_add]; exact HR.out.cells rfl j x hx) hgl (by omega) hc1 (by exact Nat.le_trans hjl (by decide)))
      have hcat : (⟨#[47]⟩ : ByteArray) ++ ⟨(Lib.join ((q :: st').map (·.data.toList)) [47]).toArray⟩ = ⟨(joiL T).toArray⟩ := by
        rw [← HJL.out]
        apply ByteArray.ext
        simp
      obtain ⟨z, hz⟩ : ∃ z : ByteArray, z = ⟨(Lib.join ((q :: st').map (·.data.toList)) [47]).toArray⟩ := ⟨_, rfl⟩
      have hzs : z.size ≤ 1048577 := by rw [hz]; exact hjl
      replace HJ := Lib.hid (show Calls Tryz.prog 70 #[.slice (some ⟨g, 0, none⟩) (q :: st').length c, .string ⟨#[47]⟩] wr fun e w' => e = .returned (.string z) ∧ Below wr.heap.size wr w' from by rw [hz]; exact HJ.out)
      rw [← hz] at hcat
      have HCT := Lib.hid hcat
      clear hz hcat hjl HJL HF HD HR HPT HPX HTL HTN
      generalize (q :: st').length = n at *
      go_wp2_with fail
      refine HJ.out.mono ?_
      rintro e w2 ⟨rfl, b2⟩
      have HBE := Lib.hid ((HB0.out.trans (HB.out.mono HB0.out.size)).trans (b2.mono (Nat.le_trans HB0.out.size HB.out.size)))
      clear b2
      go_wp2
      go_ret
      exact ⟨by rw [← HCT.out]; rfl, HBE.out⟩

set_option maxHeartbeats 1000000 in
theorem dots_not (s t : ByteArray) (w : World)
    (HC : Hid (Calls Tryz.prog 45 #[.string s, .string ⟨#[47]⟩] w fun e w' => e = .returned (.tuple #[.string t, .bool false]) ∧ w = w')) :
    Calls Tryz.prog 47 #[.string s] w fun e w' => e = .returned (.string ⟨#[]⟩) ∧ Below w.heap.size w w' := by
  go_enter Tryz.func47, Tryz.ntmps47
  go_wp2_with (go_at_call 45; (with_reducible refine HC.out.mono ?_); rintro e w1 ⟨rfl, rfl⟩)
  go_ret
  exact ⟨rfl, Below.refl _ _⟩

theorem dots_any (s : ByteArray) (w : World) (hs : s.size ≤ 1048576) (hm : MaxC w) :
    Calls Tryz.prog 47 #[.string s] w fun e w' => e = .returned (.string (dotS s)) ∧ Below w.heap.size w w' := by
  have HC := strings_CutPrefix s ⟨#[47]⟩ w
  cases hl : s.data.toList with
  | nil =>
    have e : dotS s = ⟨#[]⟩ := by unfold dotS; rw [hl]; rfl
    rw [e]
    refine dots_not s ⟨#[]⟩ w (Lib.hid (HC.mono fun e w' h => ⟨?_, h.2.symm⟩))
    rw [h.1, hl]
    rfl
  | cons b l =>
    by_cases hb : b = 47
    · subst hb
      have e : dotS s = ⟨(joiL (dotF [] (slsL l))).toArray⟩ := by unfold dotS; rw [hl]; rfl
      rw [e]
      have hz : s.size = l.length + 1 := by rw [size_of hl]; simp
      refine dots_path s ⟨l.toArray⟩ w (by show l.toArray.size ≤ _; simp; omega) hm (Lib.hid (HC.mono fun e w' h => ⟨?_, h.2.symm⟩))
      rw [h.1, hl]
      have h1 : Lib.hasPrefix (47 :: l) [47] = true := by unfold Lib.hasPrefix; simp [List.isPrefixOf]
      show Ending.returned (Value.tuple #[Value.string ⟨(Lib.trimPrefix (47 :: l) [47]).toArray⟩, Value.bool (Lib.hasPrefix (47 :: l) [47])]) = _
      unfold Lib.trimPrefix
      rw [h1]
      rfl
    · have h2 : (b == 47) = false := by simpa using hb
      have e : dotS s = ⟨#[]⟩ := by unfold dotS; rw [hl, dotL, if_neg (by rw [h2]; decide)]
      rw [e]
      refine dots_not s s w (Lib.hid (HC.mono fun e w' h => ⟨?_, h.2.symm⟩))
      rw [h.1, hl]
      have h1 : Lib.hasPrefix (b :: l) [47] = false := by unfold Lib.hasPrefix; simp [List.isPrefixOf]; exact fun e => hb e.symm
      show Ending.returned (Value.tuple #[Value.string ⟨(Lib.trimPrefix (b :: l) [47]).toArray⟩, Value.bool (Lib.hasPrefix (b :: l) [47])]) = _
      unfold Lib.trimPrefix
      rw [h1]
      rw [if_neg (by decide), arr_of hl]

end Go.Proofs.YtagbndkfbnlpoaaGreatDoor
namespace Go.Proofs.YtagbndkfbnlpoaaGreatDoor
open Go.RowKit

theorem dot_stay2 {a : List (List UInt8)} {p : List UInt8} {ps : List (List UInt8)} {T : List (List UInt8)} (h : dotF a (p :: ps) = T) (h1 : ptsL p 0 ≠ 1) (h2 : ptsL p 0 ≠ 2) : dotF (a ++ [p]) ps = T := by
  rw [← h, dotF, if_neg (by rintro (e | e) <;> contradiction)]
theorem dot_one2 {a : List (List UInt8)} {p : List UInt8} {ps : List (List UInt8)} {T : List (List UInt8)} (h : dotF a (p :: ps) = T) (h1 : ptsL p 0 = 1) : dotF (a ++ (if ps = [] then [[]] else [])) ps = T := by
  rw [dotF, if_pos (show ptsL p 0 = 1 ∨ ptsL p 0 = 2 from .inl h1), if_neg (show ¬ ptsL p 0 = 2 by omega)] at h
  exact h
theorem dot_two2 {a : List (List UInt8)} {p : List UInt8} {ps : List (List UInt8)} {T : List (List UInt8)} (h : dotF a (p :: ps) = T) (h1 : ptsL p 0 = 2) : dotF (a.dropLast ++ (if ps = [] then [[]] else [])) ps = T := by
  rw [dotF, if_pos (show ptsL p 0 = 1 ∨ ptsL p 0 = 2 from .inr h1), if_pos h1] at h
  exact h
/-- What the loop over the text keeps. -/
structure RRel (s : ByteArray) (T : List (List UInt8)) (f i : Nat) (st : List ByteArray) : Prop where
  hi1 : 1 ≤ i
  hh : (i ≤ s.size ∧ 1 ≤ f ∧ f ≤ i ∧ (∀ k, f ≤ k → k < i → (hk : k < s.size) → (s[k] == 47) = false) ∧ st.length < i ∧ dotF (st.map (·.data.toList)) (slsL (s.data.toList.drop f)) = T) ∨ (i = s.size + 1 ∧ st.length < i ∧ st.map (·.data.toList) = T)

set_option maxHeartbeats 16000000 in
set_option maxRecDepth 100000 in
theorem rdots_path (s : ByteArray) (l : List UInt8) (w : World) (hs : s.size ≤ 1048576) (hl : s.data.toList = 47 :: l) :
    Calls Tryz.prog 27 #[.string s] w fun e w' => e = .returned (.string ⟨(joiL (dotF [] (slsL l))).toArray⟩) ∧ Below w.heap.size w w' := by
  obtain ⟨i0, hi, hz0, hz1, hz2⟩ := info_parts Tryz.info9
  have hz : s.size = l.length + 1 := by rw [size_of hl]; simp
  obtain ⟨T, hT⟩ : ∃ T, T = dotF [] (slsL l) := ⟨_, rfl⟩
  rw [← hT]
  have HTL : Hid ((joiL T).length ≤ s.size) := Lib.hid (by
    rw [hT]
    have := dot_len (slsL l) []
    rw [sls_len] at this
    rw [hz]
    simpa [joiL] using this)
  have HTN : Hid (T ≠ []) := Lib.hid (by rw [hT]; exact dotF_ne _ _ (slsL_ne _))
  have HD0 := Lib.hid (show dotF (([] : List ByteArray).map (·.data.toList)) (slsL (s.data.toList.drop 1)) = T from by rw [hT, hl]; rfl)
  have hs0 : 0 < s.size := by omega
  have ha : s[0] = 47 := list_at hl hs0 rfl
  have hse := size_bool s
  rw [decide_eq_false (by omega)] at hse
  have HR0 := Lib.hid (Rws.made w)
  have HB0 := Lib.hid ((Below.refl w.heap.size w).alloc (Nat.le_refl _) (.cells #[] 9))
  clear hT hl hz
  obtain ⟨w0, hw0⟩ : ∃ w0, w0 = w.alloc (.cells #[] 9) := ⟨_, rfl⟩
  rw [← hw0] at HR0 HB0
  go_enter Tryz.func27, Tryz.ntmps27
  go_wp2_with fail
  rw [← hw0]
  clear hw0
  go_loopw [3, 4, 5] (fun v f i wr => (∃ (fn n : Nat) (st : List ByteArray), f = .int .i64 fn ∧ i = .int .i64 n ∧ (1 ≤ n ∧ ((n ≤ s.size ∧ 1 ≤ fn ∧ fn ≤ n ∧ (∀ k, fn ≤ k → k < n → (hk : k < s.size) → (s[k] == 47) = false) ∧ st.length < n ∧ dotF (st.map (·.data.toList)) (slsL (s.data.toList.drop fn)) = T) ∨ (n = s.size + 1 ∧ st.length < n ∧ st.map (·.data.toList) = T))) ∧ Rws w.heap.size wr v st) ∧ Below w.heap.size w wr) (fun _ _ i _ => s.size + 1 - (intOf i).toNat)
  case atStart => exact ⟨⟨1, 1, [], rfl, rfl, ⟨Nat.le_refl _, .inl ⟨by omega, Nat.le_refl _, Nat.le_refl _, fun k h1 h2 => by omega, by simp, HD0.out⟩⟩, HR0.out⟩, HB0.out⟩
  case round =>
    obtain ⟨⟨f, i, st, rfl, rfl, ⟨hi1, hh⟩, hr⟩, hb⟩ := hrel
    have HR := Lib.hid hr
    have HB := Lib.hid hb
    clear hr hb HD0
    rcases hh with ⟨hin, hf1, hfi, hno, hstl, he⟩ | ⟨hin, hstl, he⟩
    · have HN := Lib.hid hno
      have HE0 := Lib.hid he
      clear hno he
      have gi : (i : Int) ≤ (s.size : Int) := by omega
      by_cases hlt : i < s.size
      · have g1 : (i : Int) < (s.size : Int) := by omega
        have g1b : decide (i < s.size) = true := decide_eq_true hlt
        obtain ⟨a, hai⟩ : ∃ a, s[i] = a := ⟨_, rfl⟩
        by_cases h47 : a = 47
        · have g47 : ((a.toNat : Int) != 47) = false := by rw [h47]; rfl
          have hp := sls_piece hfi hlt (hai.trans h47) HN.out
          have hxs : (s.extract f i).size ≤ 1048576 := by simp; omega
          obtain ⟨x, hx⟩ : ∃ x, s.extract f i = x := ⟨_, rfl⟩
          rw [hx] at hp hxs
          have HST := HE0.out
          rw [hp] at HST
          have HST0 := Lib.hid (fun h1 h2 => dot_stay2 HST h1 h2)
          have HST1 := Lib.hid (fun h1 => dot_one2 HST h1)
          have HST2 := Lib.hid (fun h1 => dot_two2 HST h1)
          have gl : ((i : Int) == (s.size : Int)) = false := by rw [beq_eq_false_iff_ne]; omega
          have hfz : (f : Int) ≤ (i : Int) := by omega
          clear hp HST HE0 HN h47
          have HPK := fun W => rpoints_any x W (by omega)
          generalize hqe : ptsL x.data.toList 0 = q at HPK HST0 HST1 HST2
          have hq : (q ≠ 1 ∧ q ≠ 2) ∨ q = 1 ∨ q = 2 := by omega
          clear hqe
          go_wp2_with fail
          refine (HPK wr).mono ?_
          rintro e w2 ⟨rfl, b2⟩
          have HR2 := Lib.hid (HR.out.stays b2)
          have HB2 := Lib.hid (HB.out.trans (b2.mono HB.out.size))
          clear b2 HR HB HPK
          rcases hq with ⟨hq1, hq2⟩ | rfl | rfl
          · have HE := Lib.hid (show dotF ((st ++ [x]).map (·.data.toList)) (slsL (s.data.toList.drop (i + 1))) = T from by rw [lists_append]; exact HST0.out hq1 hq2)
            have q1 : ((q : Int) != 1) = true := by rw [bne_iff_ne]; omega
            have q2 : ((q : Int) != 2) = true := by rw [bne_iff_ne]; omega
            clear HST0 HST1 HST2
            go_wp2_with (at_builtin; refine wpList_append_own _ rfl _ _ 61 rfl w.heap.size 9 i0 (.string ⟨#[]⟩) 1 16 Tryz.underlying61 hi hz0 hz1 hz2 rfl (by decide) _ _ _ rfl (HR2.out.alloc _) ⟨w2.heap.size, 0, none⟩ 1 1 [.string x] rfl rfl ?c1 ?c2 ?c3 ?c4 ?c5 ?_)
            try (case c1 => intro j u hj; (match j, hj with | 0, hj => simp at hj; subst hj; simp [Addr.add]))
            case c2 => first | rfl | (intro u hu; simp at hu; subst hu; rfl)
            case c3 => unfold maxLen; omega
            case c4 => omega
            case c5 => have := HB2.out.size; simp; omega
            intro v' w3 hown' hgrow _
            have HR3 := Lib.hid (show Rws w.heap.size w3 v' (st ++ [x]) from by simpa [Rws, strs] using hown')
            have HB3 := Lib.hid (Below.grown (HB2.out.alloc HB2.out.size _) hgrow (by have := HB2.out.size; simp; omega) (fun g hg => (HR2.out.lt g hg).1))
            clear hown' hgrow
            go_wp2
            go_roundw
            case rel => exact ⟨⟨_, i + 1, _, by go_num, by go_num, ⟨by omega, .inl ⟨by omega, by omega, by omega, fun k h1 h2 => by omega, by first | (simp; omega) | simp | omega, HE.out⟩⟩, HR3.out⟩, HB3.out⟩
            case measure => simp [intOf] <;> omega
          · have HE2 := Lib.hid (show dotF (st.map (·.data.toList)) (slsL (s.data.toList.drop (i + 1))) = T from by have := HST1.out rfl; simpa [slsL_ne] using this)
            clear HST0 HST1 HST2
            have HE := Lib.hid HE2.out
            clear HE2
            go_wp2
            go_roundw
            case rel => exact ⟨⟨_, i + 1, _, by go_num, by go_num, ⟨by omega, .inl ⟨by omega, by omega, by omega, fun k h1 h2 => by omega, by first | (simp; omega) | simp | omega, HE.out⟩⟩, HR2.out⟩, HB2.out⟩
            case measure => simp [intOf] <;> omega
          · rcases HR2.out.cases with ⟨rfl, rfl⟩ | ⟨g, c, rfl, hc1, hc2, hgB, _⟩
            · have HE2 := Lib.hid (show dotF (([] : List ByteArray).map (·.data.toList)) (slsL (s.data.toList.drop (i + 1))) = T from by have := HST2.out rfl; simpa [slsL_ne] using this)
              clear HST0 HST1 HST2
              have HE := Lib.hid HE2.out
              clear HE2
              go_wp2
              go_roundw
              case rel => exact ⟨⟨_, i + 1, _, by go_num, by go_num, ⟨by omega, .inl ⟨by omega, by omega, by omega, fun k h1 h2 => by omega, by first | (simp; omega) | simp | omega, HE.out⟩⟩, HR2.out⟩, HB2.out⟩
              case measure => simp [intOf] <;> omega
            · rcases List.eq_nil_or_concat st with rfl | ⟨sq, y, rfl⟩
              · have HE2 := Lib.hid (show dotF (([] : List ByteArray).map (·.data.toList)) (slsL (s.data.toList.drop (i + 1))) = T from by have := HST2.out rfl; simpa [slsL_ne] using this)
                clear HST0 HST1 HST2
                have HE := Lib.hid HE2.out
                clear HE2
                go_wp2
                go_roundw
                case rel => exact ⟨⟨_, i + 1, _, by go_num, by go_num, ⟨by omega, .inl ⟨by omega, by omega, by omega, fun k h1 h2 => by omega, by first | (simp; omega) | simp | omega, HE.out⟩⟩, HR2.out⟩, HB2.out⟩
                case measure => simp [intOf] <;> omega
              · rw [List.concat_eq_append] at *
                have HE2 := Lib.hid (show dotF (sq.map (·.data.toList)) (slsL (s.data.toList.drop (i + 1))) = T from by have := HST2.out rfl; simpa [slsL_ne, lists_append] using this)
                have hcut := Lib.hid HR2.out.cut
                replace HR2 := hcut
                clear HST0 HST1 HST2 hcut
                simp only [List.length_append, List.length_singleton] at hstl hc1 ⊢
                have hmx : (sq.length : Int) + 1 - 1 = (sq.length : Int) := by omega
                have HE := Lib.hid HE2.out
                clear HE2
                go_wp2
                go_roundw
                case rel => exact ⟨⟨_, i + 1, _, by go_num, by go_num, ⟨by omega, .inl ⟨by omega, by omega, by omega, fun k h1 h2 => by omega, by first | (simp; omega) | simp | omega, HE.out⟩⟩, HR2.out⟩, HB2.out⟩
                case measure => simp [intOf] <;> omega
        · have g47 : ((a.toNat : Int) != 47) = true := by rw [bne_iff_ne]; intro e; exact h47 (UInt8.toNat_inj.1 (by show _ = 47; omega))
          have HNN := Lib.hid (show ∀ k, f ≤ k → k < i + 1 → (hk : k < s.size) → (s[k] == 47) = false from fun k h1 h2 hk => by
            by_cases hki : k = i
            · subst hki
              rw [hai]
              simpa using h47
            · exact HN.out k h1 (by omega) hk)
          clear HN h47
          go_wp2
          go_roundw
          case rel => exact ⟨⟨f, i + 1, st, rfl, by go_num, ⟨by omega, .inl ⟨by omega, hf1, by omega, HNN.out, by omega, HE0.out⟩⟩, HR.out⟩, HB.out⟩
          case measure => simp [intOf] <;> omega
      · obtain rfl : i = s.size := by omega
        have g1 : ¬ (s.size : Int) < (s.size : Int) := by omega
        have hp := sls_end (s := s) (f := f) HN.out
        have hxs : (s.extract f s.size).size ≤ 1048576 := by simp; omega
        obtain ⟨x, hx⟩ : ∃ x, s.extract f s.size = x := ⟨_, rfl⟩
        rw [hx] at hp hxs
        have HST := HE0.out
        rw [hp] at HST
        have HST0 := Lib.hid (fun h1 h2 => dot_stay2 HST h1 h2)
        have HST1 := Lib.hid (fun h1 => dot_one2 HST h1)
        have HST2 := Lib.hid (fun h1 => dot_two2 HST h1)
        have hfz : (f : Int) ≤ (s.size : Int) := by omega
        obtain ⟨i, hii⟩ : ∃ i, i = s.size := ⟨_, rfl⟩
        clear hp HST HE0 HN
        have HPK := fun W => rpoints_any x W (by omega)
        generalize hqe : ptsL x.data.toList 0 = q at HPK HST0 HST1 HST2
        have hq : (q ≠ 1 ∧ q ≠ 2) ∨ q = 1 ∨ q = 2 := by omega
        clear hqe
        go_wp2_with fail
        refine (HPK wr).mono ?_
        rintro e w2 ⟨rfl, b2⟩
        have HR2 := Lib.hid (HR.out.stays b2)
        have HB2 := Lib.hid (HB.out.trans (b2.mono HB.out.size))
        clear b2 HR HB HPK
        rcases hq with ⟨hq1, hq2⟩ | rfl | rfl
        · have HE := Lib.hid (show (st ++ [x]).map (·.data.toList) = T from by rw [lists_append]; have := HST0.out hq1 hq2; simpa [dotF] using this)
          have q1 : ((q : Int) != 1) = true := by rw [bne_iff_ne]; omega
          have q2 : ((q : Int) != 2) = true := by rw [bne_iff_ne]; omega
          clear HST0 HST1 HST2
          go_wp2_with (at_builtin; refine wpList_append_own _ rfl _ _ 61 rfl w.heap.size 9 i0 (.string ⟨#[]⟩) 1 16 Tryz.underlying61 hi hz0 hz1 hz2 rfl (by decide) _ _ _ rfl (HR2.out.alloc _) ⟨w2.heap.size, 0, none⟩ 1 1 [.string x] rfl rfl ?c1 ?c2 ?c3 ?c4 ?c5 ?_)
          try (case c1 => intro j u hj; (match j, hj with | 0, hj => simp at hj; subst hj; simp [Addr.add]))
          case c2 => first | rfl | (intro u hu; simp at hu; subst hu; rfl)
          case c3 => unfold maxLen; omega
          case c4 => omega
          case c5 => have := HB2.out.size; simp; omega
          intro v' w3 hown' hgrow _
          have HR3 := Lib.hid (show Rws w.heap.size w3 v' (st ++ [x]) from by simpa [Rws, strs] using hown')
          have HB3 := Lib.hid (Below.grown (HB2.out.alloc HB2.out.size _) hgrow (by have := HB2.out.size; simp; omega) (fun g hg => (HR2.out.lt g hg).1))
          clear hown' hgrow
          go_wp2
          go_roundw
          case rel => exact ⟨⟨_, s.size + 1, _, by go_num, by go_num, ⟨by omega, .inr ⟨by omega, by first | (simp; omega) | simp | omega, HE.out⟩⟩, HR3.out⟩, HB3.out⟩
          case measure => simp [intOf] <;> omega
        · have HE2 := Lib.hid (show st.map (·.data.toList) ++ [[]] = T from by have := HST1.out rfl; simpa [dotF] using this)
          clear HST0 HST1 HST2
          have HE := Lib.hid (show (st ++ [(⟨#[]⟩ : ByteArray)]).map (·.data.toList) = T from by rw [lists_append, ← HE2.out]; first | rfl | skip)
          clear HE2
          go_wp2_with (at_builtin; refine wpList_append_own _ rfl _ _ 61 rfl w.heap.size 9 i0 (.string ⟨#[]⟩) 1 16 Tryz.underlying61 hi hz0 hz1 hz2 rfl (by decide) _ _ _ rfl (HR2.out.alloc _) ⟨w2.heap.size, 0, none⟩ 1 1 [.string ⟨#[]⟩] rfl rfl ?c1 ?c2 ?c3 ?c4 ?c5 ?_)
          try (case c1 => intro j u hj; (match j, hj with | 0, hj => simp at hj; subst hj; simp [Addr.add]))
          case c2 => first | rfl | (intro u hu; simp at hu; subst hu; rfl)
          case c3 => unfold maxLen; omega
          case c4 => omega
          case c5 => have := HB2.out.size; simp; omega
          intro v' w3 hown' hgrow _
          have HR3 := Lib.hid (show Rws w.heap.size w3 v' (st ++ [⟨#[]⟩]) from by simpa [Rws, strs] using hown')
          have HB3 := Lib.hid (Below.grown (HB2.out.alloc HB2.out.size _) hgrow (by have := HB2.out.size; simp; omega) (fun g hg => (HR2.out.lt g hg).1))
          clear hown' hgrow
          go_wp2
          go_roundw
          case rel => exact ⟨⟨_, s.size + 1, _, by go_num, by go_num, ⟨by omega, .inr ⟨by omega, by first | (simp; omega) | simp | omega, HE.out⟩⟩, HR3.out⟩, HB3.out⟩
          case measure => simp [intOf] <;> omega
        · rcases HR2.out.cases with ⟨rfl, rfl⟩ | ⟨g, c, rfl, hc1, hc2, hgB, _⟩
          · have HE2 := Lib.hid (show ([] : List ByteArray).map (·.data.toList) ++ [[]] = T from by have := HST2.out rfl; simpa [dotF] using this)
            clear HST0 HST1 HST2
            have HE := Lib.hid (show (([] : List ByteArray) ++ [(⟨#[]⟩ : ByteArray)]).map (·.data.toList) = T from by rw [lists_append, ← HE2.out]; first | rfl | skip)
            clear HE2
            go_wp2_with (at_builtin; refine wpList_append_own _ rfl _ _ 61 rfl w.heap.size 9 i0 (.string ⟨#[]⟩) 1 16 Tryz.underlying61 hi hz0 hz1 hz2 rfl (by decide) _ _ _ rfl (HR2.out.alloc _) ⟨w2.heap.size, 0, none⟩ 1 1 [.string ⟨#[]⟩] rfl rfl ?c1 ?c2 ?c3 ?c4 ?c5 ?_)
            try (case c1 => intro j u hj; (match j, hj with | 0, hj => simp at hj; subst hj; simp [Addr.add]))
            case c2 => first | rfl | (intro u hu; simp at hu; subst hu; rfl)
            case c3 => unfold maxLen; omega
            case c4 => omega
            case c5 => have := HB2.out.size; simp; omega
            intro v' w3 hown' hgrow _
            have HR3 := Lib.hid (show Rws w.heap.size w3 v' (([] : List ByteArray) ++ [⟨#[]⟩]) from by simpa [Rws, strs] using hown')
            have HB3 := Lib.hid (Below.grown (HB2.out.alloc HB2.out.size _) hgrow (by have := HB2.out.size; simp; omega) (fun g hg => (HR2.out.lt g hg).1))
            clear hown' hgrow
            go_wp2
            go_roundw
            case rel => exact ⟨⟨_, s.size + 1, _, by go_num, by go_num, ⟨by omega, .inr ⟨by omega, by first | (simp; omega) | simp | omega, HE.out⟩⟩, HR3.out⟩, HB3.out⟩
            case measure => simp [intOf] <;> omega
          · rcases List.eq_nil_or_concat st with rfl | ⟨sq, y, rfl⟩
            · have HE2 := Lib.hid (show ([] : List ByteArray).map (·.data.toList) ++ [[]] = T from by have := HST2.out rfl; simpa [dotF] using this)
              clear HST0 HST1 HST2
              have HE := Lib.hid (show (([] : List ByteArray) ++ [(⟨#[]⟩ : ByteArray)]).map (·.data.toList) = T from by rw [lists_append, ← HE2.out]; first | rfl | skip)
              clear HE2
              go_wp2_with (at_builtin; refine wpList_append_own _ rfl _ _ 61 rfl w.heap.size 9 i0 (.string ⟨#[]⟩) 1 16 Tryz.underlying61 hi hz0 hz1 hz2 rfl (by decide) _ _ _ rfl (HR2.out.alloc _) ⟨w2.heap.size, 0, none⟩ 1 1 [.string ⟨#[]⟩] rfl rfl ?c1 ?c2 ?c3 ?c4 ?c5 ?_)
              try (case c1 => intro j u hj; (match j, hj with | 0, hj => simp at hj; subst hj; simp [Addr.add]))
              case c2 => first | rfl | (intro u hu; simp at hu; subst hu; rfl)
              case c3 => unfold maxLen; omega
              case c4 => omega
              case c5 => have := HB2.out.size; simp; omega
              intro v' w3 hown' hgrow _
              have HR3 := Lib.hid (show Rws w.heap.size w3 v' (([] : List ByteArray) ++ [⟨#[]⟩]) from by simpa [Rws, strs] using hown')
              have HB3 := Lib.hid (Below.grown (HB2.out.alloc HB2.out.size _) hgrow (by have := HB2.out.size; simp; omega) (fun g hg => (HR2.out.lt g hg).1))
              clear hown' hgrow
              go_wp2
              go_roundw
              case rel => exact ⟨⟨_, s.size + 1, _, by go_num, by go_num, ⟨by omega, .inr ⟨by omega, by first | (simp; omega) | simp | omega, HE.out⟩⟩, HR3.out⟩, HB3.out⟩
              case measure => simp [intOf] <;> omega
            · rw [List.concat_eq_append] at *
              have HE2 := Lib.hid (show sq.map (·.data.toList) ++ [[]] = T from by have := HST2.out rfl; simpa [dotF, lists_append] using this)
              have hcut := Lib.hid HR2.out.cut
              replace HR2 := hcut
              clear HST0 HST1 HST2 hcut
              simp only [List.length_append, List.length_singleton] at hstl hc1 ⊢
              have hmx : (sq.length : Int) + 1 - 1 = (sq.length : Int) := by omega
              have HE := Lib.hid (show (sq ++ [(⟨#[]⟩ : ByteArray)]).map (·.data.toList) = T from by rw [lists_append, ← HE2.out]; first | rfl | skip)
              clear HE2
              go_wp2_with (at_builtin; refine wpList_append_own _ rfl _ _ 61 rfl w.heap.size 9 i0 (.string ⟨#[]⟩) 1 16 Tryz.underlying61 hi hz0 hz1 hz2 rfl (by decide) _ _ _ rfl (HR2.out.alloc _) ⟨w2.heap.size, 0, none⟩ 1 1 [.string ⟨#[]⟩] rfl rfl ?c1 ?c2 ?c3 ?c4 ?c5 ?_)
              try (case c1 => intro j u hj; (match j, hj with | 0, hj => simp at hj; subst hj; simp [Addr.add]))
              case c2 => first | rfl | (intro u hu; simp at hu; subst hu; rfl)
              case c3 => unfold maxLen; omega
              case c4 => omega
              case c5 => have := HB2.out.size; simp; omega
              intro v' w3 hown' hgrow _
              have HR3 := Lib.hid (show Rws w.heap.size w3 v' (sq ++ [⟨#[]⟩]) from by simpa [Rws, strs] using hown')
              have HB3 := Lib.hid (Below.grown (HB2.out.alloc HB2.out.size _) hgrow (by have := HB2.out.size; simp; omega) (fun g hg => (HR2.out.lt g hg).1))
              clear hown' hgrow
              go_wp2
              go_roundw
              case rel => exact ⟨⟨_, s.size + 1, _, by go_num, by go_num, ⟨by omega, .inr ⟨by omega, by first | (simp; omega) | simp | omega, HE.out⟩⟩, HR3.out⟩, HB3.out⟩
              case measure => simp [intOf] <;> omega
    · obtain rfl := hin
      have HF := Lib.hid he
      have g1 : ¬ ((s.size + 1 : Nat) : Int) ≤ (s.size : Int) := by omega
      have HTK := Lib.hid (fun (k : Nat) => show (joiL ((st.map (·.data.toList)).take k)).length ≤ s.size from by
        refine Nat.le_trans ?_ HTL.out
        rw [he]
        conv => rhs; rw [← List.take_append_drop k T, joi_append]
        simp)
      clear he hstl
      rcases HR.out.cases with ⟨rfl, rfl⟩ | ⟨g, c, rfl, hc1, hc2, hgB, hgl⟩
      · exact absurd HF.out.symm HTN.out
      go_wp2_with fail
      go_loop [8, 9] (fun o i => ∃ (k : Nat) (z : ByteArray), i = .int .i64 k ∧ k ≤ st.length ∧ o = .string z ∧ z.data.toList = joiL ((st.map (·.data.toList)).take k)) (fun _ i => st.length - (intOf i).toNat)
      case atStart => exact ⟨0, ⟨#[]⟩, rfl, Nat.zero_le _, rfl, rfl⟩
      case round =>
        obtain ⟨k, z, rfl, hk, rfl, hzl⟩ := hrel
        have HZL := Lib.hid hzl
        have hzs : z.size ≤ 1048576 := by rw [size_of hzl]; exact Nat.le_trans (HTK.out k) hs
        clear hzl
        by_cases hlt : k < st.length
        · have hck := HR.out.cells rfl k st[k] (by simp [hlt])
          have HZ2 := Lib.hid (show ((z ++ ⟨#[47]⟩) ++ st[k]).data.toList = joiL ((st.map (·.data.toList)).take (k + 1)) from by
            rw [List.take_succ_eq_append_getElem (by simpa using hlt), joi_append, ← HZL.out]
            simp [joiL])
          have hxs : z.size + 1 + st[k].size ≤ 1048576 := by
            have h1 := size_of HZ2.out
            have h2 := HTK.out (k + 1)
            have h3 : (⟨#[47]⟩ : ByteArray).size = 1 := rfl
            rw [ByteArray.size_append, ByteArray.size_append, h3] at h1
            omega
          generalize st[k] = x at hck HZ2 hxs
          clear HTK
          go_wp2
          go_round
          case rel => exact ⟨k + 1, _, by go_num, by omega, rfl, HZ2.out⟩
          case measure => simp [intOf] <;> omega
        · obtain rfl : k = st.length := by omega
          have HZ2 := Lib.hid (show z = ⟨(joiL T).toArray⟩ from by
            have := HZL.out
            rw [List.take_of_length_le (by simp), HF.out] at this
            exact (arr_of this).symm)
          have hze : (z.toList == []) = false := by
            rw [size_bool, decide_eq_false]
            intro h0
            rw [HZ2.out] at h0
            obtain ⟨q, hq⟩ := joiL_head HTN.out
            rw [hq] at h0
            have : (⟨(47 :: q).toArray⟩ : ByteArray).size = q.length + 1 := by show (47 :: q).toArray.size = _; simp
            omega
          clear HZL HTK HTL HTN HF HR
          go_wp2
          go_ret
          exact ⟨by rw [← HZ2.out]; rfl, HB.out⟩

set_option maxHeartbeats 1000000 in
theorem rdots_not (s : ByteArray) (w : World) (h : s.size = 0 ∨ ∃ a, ∀ h : 0 < s.size, s[0] = a ∧ a ≠ 47) :
    Calls Tryz.prog 27 #[.string s] w fun e w' => e = .returned (.string ⟨#[]⟩) ∧ Below w.heap.size w w' := by
  have hse := size_bool s
  by_cases h0 : s.size = 0
  · rw [decide_eq_true h0] at hse
    clear h h0
    go_enter Tryz.func27, Tryz.ntmps27
    go_wp2
    go_ret
    exact ⟨rfl, Below.refl _ _⟩
  · rw [decide_eq_false h0] at hse
    rcases h with h | ⟨a, ha⟩
    · exact absurd h h0
    have hz : 0 < s.size := by omega
    obtain ⟨h1, h2⟩ := ha hz
    have g47 : ((a.toNat : Int) != 47) = true := by rw [bne_iff_ne]; intro e; exact h2 (UInt8.toNat_inj.1 (by show _ = 47; omega))
    clear ha h2
    go_enter Tryz.func27, Tryz.ntmps27
    go_wp2
    go_ret
    exact ⟨rfl, Below.refl _ _⟩

theorem rdots_any (s : ByteArray) (w : World) (hs : s.size ≤ 1048576) :
    Calls Tryz.prog 27 #[.string s] w fun e w' => e = .returned (.string (dotS s)) ∧ Below w.heap.size w w' := by
  cases hl : s.data.toList with
  | nil =>
    have e : dotS s = ⟨#[]⟩ := by unfold dotS; rw [hl]; rfl
    rw [e]
    exact rdots_not s w (.inl (by rw [size_of hl]; rfl))
  | cons b l =>
    by_cases hb : b = 47
    · subst hb
      have e : dotS s = ⟨(joiL (dotF [] (slsL l))).toArray⟩ := by unfold dotS; rw [hl]; rfl
      rw [e]
      exact rdots_path s l w hs hl
    · have h2 : (b == 47) = false := by simpa using hb
      have e : dotS s = ⟨#[]⟩ := by unfold dotS; rw [hl, dotL, if_neg (by rw [h2]; decide)]
      rw [e]
      exact rdots_not s w (.inr ⟨b, fun h => ⟨list_at hl h rfl, hb⟩⟩)

end Go.Proofs.YtagbndkfbnlpoaaGreatDoor
namespace Go.Proofs.YtagbndkfbnlpoaaGreatDoor
open Go.RowKit

set_option maxHeartbeats 2000000 in
theorem free_any (s t : ByteArray) (w : World) (hs : s.size ≤ 9223372036854775807) (ht : t.size ≤ 9223372036854775807) :
    Calls Tryz.prog 38 #[.string s, .string t] w fun e w' => e = .returned (.bool (allB (fun b => !hasB t b) s)) ∧ w = w' := by
  obtain ⟨V, hV⟩ : ∃ V, V = allB (fun b => !hasB t b) s := ⟨_, rfl⟩
  have HVN := Lib.hid (fun k (hk : k < s.size) (h : hasB t s[k] = true) => hV.trans (allB_no (p := fun b => !hasB t b) hk (by show (!hasB t s[k]) = false; rw [h]; rfl)))
  have HVE := Lib.hid (fun h => hV.trans (allB_yes (p := fun b => !hasB t b) (s := s) h))
  rw [← hV]
  clear hV
  go_enter Tryz.func38, Tryz.ntmps38
  go_wp2_with fail
  go_loop [5] (fun i => ∃ k : Nat, i = .int .i64 k ∧ k ≤ s.size ∧ ∀ j (hj : j < s.size), j < k → (!hasB t s[j]) = true) (fun i => s.size - (intOf i).toNat)
  case atStart => exact ⟨0, rfl, Nat.zero_le _, fun j _ h => by omega⟩
  case round =>
    obtain ⟨k, rfl, hk, hno⟩ := hrel
    have HN := Lib.hid hno
    clear hno
    by_cases hlt : k < s.size
    · obtain ⟨b, hb⟩ : ∃ b, s[k] = b := ⟨_, rfl⟩
      have HH := Lib.hid (fun W => has_any t b W ht)
      cases hh : hasB t b
      · have HY := Lib.hid (show ∀ j (hj : j < s.size), j < k + 1 → (!hasB t s[j]) = true from fun j hj hjk => by
          by_cases e : j = k
          · subst e; rw [hb, hh]; rfl
          · exact HN.out j hj (by omega))
        rw [hh] at HH
        clear HVN HVE HN hh
        go_wp2_with (go_at_call 50; (with_reducible refine (HH.out _).mono ?_); rintro e w1 ⟨rfl, rfl⟩)
        go_round
        case rel => exact ⟨k + 1, by go_num, by omega, HY.out⟩
        case measure => simp [intOf] <;> omega
      · have HY := Lib.hid (HVN.out k hlt (by rw [hb, hh]))
        rw [hh] at HH
        clear HVN HVE HN hh
        go_wp2_with (go_at_call 50; (with_reducible refine (HH.out _).mono ?_); rintro e w1 ⟨rfl, rfl⟩)
        go_ret
        exact ⟨by rw [HY.out]; rfl, rfl⟩
    · obtain rfl : k = s.size := by omega
      have HV := Lib.hid (HVE.out fun j hj => HN.out j hj hj)
      have g1 : ¬ (s.size : Int) < (s.size : Int) := by omega
      clear HVN HVE HN hlt hk
      go_wp2
      go_ret
      exact ⟨by rw [HV.out]; rfl, rfl⟩

theorem allB_all26 (p : UInt8 → Bool) (s : ByteArray) : allB p s = s.data.toList.all p := by
  rw [Bool.eq_iff_iff, List.all_eq_true]
  constructor
  · intro h b hb
    obtain ⟨i, hi, e⟩ := List.getElem_of_mem hb
    have hi2 : i < s.size := by simpa using hi
    have e2 : s[i] = b := e
    cases hp : p b with
    | true => rfl
    | false => rw [allB_no hi2 (by rw [e2]; exact hp)] at h; cases h
  · intro h
    exact allB_yes fun j hj => h _ (by exact List.getElem_mem (l := s.data.toList) (by simpa using hj))
theorem any_none26 (cs : List UInt8) : ∀ l : List UInt8, decide (0 ≤ Lib.indexAny l cs) = !l.all fun b => !cs.contains b
  | [] => rfl
  | b :: l => by
    have ih := any_none26 cs l
    have hg := Lib.indexAny_ge cs l
    rw [Lib.indexAny, List.all_cons]
    cases hb : cs.contains b
    · rw [if_neg (by decide)]
      by_cases h1 : Lib.indexAny l cs = -1
      · rw [if_pos (by rw [h1]; rfl), Bool.not_false, Bool.true_and, ← ih, h1]
      · rw [if_neg (by simpa using h1), Bool.not_false, Bool.true_and, ← ih, decide_eq_decide]
        omega
    · rfl
theorem con_any (s : ByteArray) : Lib.containsAny s.data.toList [63, 35] = !allB (nonB #[63, 35]) s := by
  rw [allB_all26]
  exact any_none26 [63, 35] s.data.toList
theorem byte_none (c : UInt8) : ∀ l : List UInt8, decide (0 ≤ Lib.indexByte l c) = !l.all fun b => !([c] : List UInt8).contains b
  | [] => rfl
  | b :: l => by
    have ih := byte_none c l
    have hc : ([c] : List UInt8).contains b = (b == c) := by simp; rfl
    rw [List.all_cons, hc, Lib.indexByte]
    by_cases hb : b = c
    · subst hb
      rw [if_pos (by simp)]
      simp
    · rw [if_neg (by simp [hb]), show (b == c) = false from by simpa using hb, Bool.not_false, Bool.true_and, ← ih]
      by_cases h1 : Lib.indexByte l c = -1
      · rw [if_pos (by rw [h1]; rfl), h1]
      · have hg : -1 ≤ Lib.indexByte l c := by rw [← Lib.index_one]; exact Lib.index_ge _ _
        rw [if_neg (by simpa using h1), decide_eq_decide]
        omega
theorem con_hash (s : ByteArray) : decide (0 ≤ Lib.indexByte s.data.toList 35) = !allB (nonB #[35]) s := by
  rw [allB_all26]
  exact byte_none 35 s.data.toList

theorem pth_is (s : ByteArray) : pthB s = (Lib.hasPrefix s.data.toList [47] && ((dotS s).toList == s.toList) && ((pqS s).toList == s.toList) && allB (nonB #[63, 35]) s) := by
  unfold pthB
  have h : (!(s.toList == []) && ((dotS s).toList == s.toList)) = (Lib.hasPrefix s.data.toList [47] && ((dotS s).toList == s.toList)) := by
    cases hd : (dotS s).toList == s.toList
    · rw [Bool.and_false, Bool.and_false]
    · rw [Bool.and_true, Bool.and_true]
      have hd2 := self_of hd
      by_cases h0 : s.data.toList = []
      · rw [Lib.toList_data, h0]
        rfl
      · obtain ⟨q, hq⟩ := dotS_head hd2 h0
        rw [Lib.toList_data, hq]
        unfold Lib.hasPrefix
        simp [List.isPrefixOf]
  rw [h]
theorem has_q (l : List UInt8) (c : UInt8) : Lib.hasPrefix l [c] = true ↔ l[0]? = some c := by
  unfold Lib.hasPrefix
  match l with
  | [] => simp [List.isPrefixOf]
  | a :: q => simp [List.isPrefixOf]; exact eq_comm
theorem qry_is (s : ByteArray) : qryB s = ((s.toList == []) || (Lib.hasPrefix s.data.toList [63] && ((pqS s).toList == s.toList) && allB (nonB #[35]) s)) := by
  unfold qryB
  cases h0 : s.toList == []
  · have hz : 0 < s.size := by rw [size_bool, decide_eq_false_iff_not] at h0; omega
    have : (s[0]! == 63) = Lib.hasPrefix s.data.toList [63] := by
      rw [getElem!_pos s 0 hz, Bool.eq_iff_iff, has_q, at_some hz, beq_iff_eq]
      exact ⟨fun h => by rw [h], fun h => Option.some.inj h⟩
    rw [this]
  · rfl

set_option maxRecDepth 100000 in
set_option maxHeartbeats 4000000 in
theorem goodPath_any (s : ByteArray) (w : World) (hs : s.size ≤ 1048576) (hm : MaxC w) :
    Calls Tryz.prog 35 #[.string s] w fun e w' => e = .returned (.bool (pthB s)) ∧ Below w.heap.size w w' := by
  have HP : Hid (∀ W, Calls Tryz.prog 55 #[.string s, .string ⟨#[47]⟩] W fun e w' => e = .returned (.bool (Lib.hasPrefix s.data.toList [47])) ∧ W = w') := Lib.hid (fun W => (strings_HasPrefix s ⟨#[47]⟩ W).mono fun _ _ h => (⟨h.1, h.2.symm⟩ : _ ∧ _))
  have HD := Lib.hid (dots_any s w hs hm)
  have HQ := Lib.hid (fun W => quote_any s W (by omega))
  have HC : Hid (((pqS s).toList == s.toList) = true → ∀ W, Calls Tryz.prog 60 #[.string s, .string ⟨#[63, 35]⟩] W fun e w' => e = .returned (.bool (!allB (nonB #[63, 35]) s)) ∧ Below W.heap.size W w') := Lib.hid (fun hq W => by
    have hown := pqS_self (self_of hq)
    have := strings_ContainsAny_laid s ⟨#[63, 35]⟩ W (by omega) (by decide) (fun j b hb => by
      have := hown b (List.mem_of_getElem? hb)
      unfold ownB at this
      simp only [Bool.and_eq_true, decide_eq_true_eq] at this
      omega) (fun j b hb => by
      match j, hb with
      | 0, hb => cases hb; decide
      | 1, hb => cases hb; decide)
    rw [← con_any]
    exact this)
  have HV := Lib.hid (pth_is s)
  generalize pthB s = v at *
  generalize Lib.hasPrefix s.data.toList [47] = p at *
  generalize allB (nonB #[63, 35]) s = n at *
  generalize dotS s = d at *
  generalize pqS s = q at *
  cases p
  · go_enter Tryz.func35, Tryz.ntmps35
    go_wp2_with (go_at_call 55; (with_reducible refine (HP.out _).mono ?_); rintro e w1 ⟨rfl, rfl⟩)
    go_ret
    exact ⟨by rw [HV.out]; rfl, Below.refl _ _⟩
  cases g1 : d.toList == s.toList
  · rw [g1] at HV
    go_enter Tryz.func35, Tryz.ntmps35
    go_wp2_with (go_at_call 55; (with_reducible refine (HP.out _).mono ?_); rintro e w1 ⟨rfl, rfl⟩)
    refine HD.out.mono ?_
    rintro e w2 ⟨rfl, b2⟩
    have HB := Lib.hid b2
    clear b2
    go_wp2
    go_ret
    exact ⟨by rw [HV.out]; rfl, HB.out⟩
  cases g2 : q.toList == s.toList
  · rw [g1, g2] at HV
    go_enter Tryz.func35, Tryz.ntmps35
    go_wp2_with (go_at_call 55; (with_reducible refine (HP.out _).mono ?_); rintro e w1 ⟨rfl, rfl⟩)
    refine HD.out.mono ?_
    rintro e w2 ⟨rfl, b2⟩
    have HB := Lib.hid b2
    clear b2
    go_wp2_with fail
    refine (HQ.out _).mono ?_
    rintro e w3 ⟨rfl, b2⟩
    replace HB := Lib.hid (below_on HB.out b2)
    clear b2
    go_wp2
    go_ret
    exact ⟨by rw [HV.out]; rfl, HB.out⟩
  · rw [g1, g2] at HV
    replace HC := Lib.hid (HC.out g2)
    cases n
    all_goals
      have HB := Lib.hid (Below.refl w.heap.size w)
      go_enter Tryz.func35, Tryz.ntmps35
      go_wp2_with (go_at_call 55; (with_reducible refine (HP.out _).mono ?_); rintro e w1 ⟨rfl, rfl⟩)
      refine HD.out.mono ?_
      rintro e w2 ⟨rfl, b2⟩
      replace HB := Lib.hid b2
      clear b2
      go_wp2_with fail
      refine (HQ.out _).mono ?_
      rintro e w3 ⟨rfl, b2⟩
      replace HB := Lib.hid (below_on HB.out b2)
      clear b2
      go_wp2_with fail
      refine (HC.out _).mono ?_
      rintro e w4 ⟨rfl, b2⟩
      replace HB := Lib.hid (below_on HB.out b2)
      clear b2
      go_wp2
      go_ret
      exact ⟨by rw [HV.out]; rfl, HB.out⟩

set_option maxRecDepth 100000 in
set_option maxHeartbeats 4000000 in
theorem goodQuery_any (s : ByteArray) (w : World) (hs : s.size ≤ 1048576) :
    Calls Tryz.prog 36 #[.string s] w fun e w' => e = .returned (.bool (qryB s)) ∧ Below w.heap.size w w' := by
  have HP : Hid (∀ W, Calls Tryz.prog 55 #[.string s, .string ⟨#[63]⟩] W fun e w' => e = .returned (.bool (Lib.hasPrefix s.data.toList [63])) ∧ W = w') := Lib.hid (fun W => (strings_HasPrefix s ⟨#[63]⟩ W).mono fun _ _ h => (⟨h.1, h.2.symm⟩ : _ ∧ _))
  have HQ := Lib.hid (fun W => quote_any s W (by omega))
  have HC : Hid (∀ W, Calls Tryz.prog 56 #[.string s, .string ⟨#[35]⟩] W fun e w' => e = .returned (.bool (!allB (nonB #[35]) s)) ∧ W = w') := Lib.hid (fun W => by
    rw [← con_hash]
    exact (strings_Contains_one s 35 W).mono fun _ _ h => (⟨h.1, h.2.symm⟩ : _ ∧ _))
  have HV := Lib.hid (qry_is s)
  generalize qryB s = v at *
  generalize Lib.hasPrefix s.data.toList [63] = p at *
  generalize allB (nonB #[35]) s = n at *
  generalize pqS s = q at *
  cases g0 : s.toList == []
  rotate_left
  · rw [g0] at HV
    go_enter Tryz.func36, Tryz.ntmps36
    go_wp2
    go_ret
    exact ⟨by rw [HV.out]; rfl, Below.refl _ _⟩
  cases p
  · rw [g0] at HV
    go_enter Tryz.func36, Tryz.ntmps36
    go_wp2_with (go_at_call 55; (with_reducible refine (HP.out _).mono ?_); rintro e w1 ⟨rfl, rfl⟩)
    go_ret
    exact ⟨by rw [HV.out]; rfl, Below.refl _ _⟩
  cases g2 : q.toList == s.toList
  · rw [g0, g2] at HV
    go_enter Tryz.func36, Tryz.ntmps36
    go_wp2_with (go_at_call 55; (with_reducible refine (HP.out _).mono ?_); rintro e w1 ⟨rfl, rfl⟩)
    refine (HQ.out _).mono ?_
    rintro e w3 ⟨rfl, b2⟩
    have HB := Lib.hid b2
    clear b2
    go_wp2
    go_ret
    exact ⟨by rw [HV.out]; rfl, HB.out⟩
  · rw [g0, g2] at HV
    cases n
    all_goals
      have HB := Lib.hid (Below.refl w.heap.size w)
      go_enter Tryz.func36, Tryz.ntmps36
      go_wp2_with (go_at_call 55; (with_reducible refine (HP.out _).mono ?_); rintro e w1 ⟨rfl, rfl⟩)
      refine (HQ.out _).mono ?_
      rintro e w3 ⟨rfl, b2⟩
      replace HB := Lib.hid b2
      clear b2
      go_wp2_with fail
      refine (HC.out _).mono ?_
      rintro e w4 ⟨rfl, rfl⟩
      go_wp2
      go_ret
      exact ⟨by rw [HV.out]; rfl, HB.out⟩

end Go.Proofs.YtagbndkfbnlpoaaGreatDoor
