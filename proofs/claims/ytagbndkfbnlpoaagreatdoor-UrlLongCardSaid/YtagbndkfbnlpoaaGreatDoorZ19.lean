/-
  What package url's Parse answers. Conditions: the text is as long as a length can be; the variable MaxLen of the library holds a number, its tables of UTF-8 lie as its text lays them.
  What the document's test of a good place of layer 26 answers. Condition: texts take at most a mebibyte.
  What the document's own Parse answers, and lives of layer 5. Condition: the text is as long as a length can be.
-/
import Derived.Test.YtagbndkfbnlpoaaGreatDoorZ18
import Derived.Deep.RegionHeld3
import Derived.Test.YtagbndkfbnlpoaaGreatDoorZ12
namespace Go.Proofs.YtagbndkfbnlpoaaGreatDoor
open Go.RowKit

abbrev zerU : Plc := ⟨⟨#[]⟩, ⟨#[]⟩, 0, ⟨#[]⟩, ⟨#[]⟩⟩
/-- What is answered of a place, or a code. -/
def plcV : Except Int Plc → Value
  | .ok u => .tuple #[plV u, .int .i64 0]
  | .error e => .tuple #[plV zerU, .int .i64 e]
theorem prt_is (D : ByteArray) (U : Plc) (h0 : U.po = 0) : prtO D U = if ptoE D != 0 then .error (ptoE D) else .ok { U with po := if ptoN D == ownP U.sc then 0 else ptoN D } := by
  unfold prtO ptoE ptoN
  rw [size_bool]
  by_cases hz : D.size = 0
  · simp only [hz, if_true, decide_true]
    rw [if_neg (by decide)]
    congr 1
    cases U
    simp only at h0
    subst h0
    split <;> rfl
  · rw [if_neg hz]
    simp only [hz, decide_false, Bool.false_eq_true, if_false]
    by_cases h1 : parE D = 0
    · rw [if_neg (by simpa using h1)]
      simp only [h1, bne_self_eq_false, Bool.false_eq_true, if_false]
      by_cases h2 : parN D = 0
      · rw [if_pos (.inl h2)]
        simp only [h2, beq_self_eq_true, if_true]
        rfl
      · have h2b : (parN D == 0) = false := by simpa using h2
        simp only [h2b, Bool.false_eq_true, if_false]
        by_cases h3 : 65535 < parN D
        · rw [if_pos (.inr h3)]
          simp only [h3, decide_true, if_true]
          rfl
        · rw [if_neg (by omega)]
          simp only [h3, decide_false, Bool.false_eq_true, if_false, bne_self_eq_false]
          congr 2
          simp
    · have h1b : (parE D != 0) = true := by simpa using h1
      rw [if_pos h1]
      simp only [h1b, if_true]

set_option maxRecDepth 100000 in
set_option maxHeartbeats 8000000 in
theorem parse_walk (s t sc ho pa qu D : ByteArray) (ok : Bool) (n e k : Int) (A : Ending) (w : World)
    (HT : Hid (∀ W, Below w.heap.size w W → Calls Tryz.prog 21 #[.string s] W fun x w' => x = .returned (.string t) ∧ Below W.heap.size W w'))
    (HR : Hid (decide ((8192 : Int) < (t.size : Int)) = false → ∀ W, Below w.heap.size w W → Calls Tryz.prog 22 #[.string t] W fun x w' => x = .returned (.tuple #[urV sc ho 0 pa qu, .string D, .bool ok]) ∧ Below W.heap.size W w'))
    (HP : Hid (∀ W, Calls Tryz.prog 23 #[.string D] W fun x w' => x = .returned (.tuple #[.int .i64 n, .int .i64 e]) ∧ Below W.heap.size W w'))
    (HO : Hid (∀ W, Calls Tryz.prog 18 #[urV sc ho 0 pa qu] W fun x w' => x = .returned (.int .i64 k) ∧ Below W.heap.size W w'))
    (HA : Hid (A = if decide ((8192 : Int) < (t.size : Int)) then .returned (plcV (.error 6)) else if ok then (if e != 0 then .returned (plcV (.error e)) else .returned (plcV (.ok ⟨sc, ho, if n == k then 0 else n, pa, qu⟩))) else .returned (plcV (.error 2)))) :
    Calls Tryz.prog 7 #[.string s] w fun x w' => x = A ∧ Below w.heap.size w w' := by
  obtain ⟨w0, hw0⟩ : ∃ w0, w0 = w.alloc (urC ⟨#[]⟩ ⟨#[]⟩ 0 ⟨#[]⟩ ⟨#[]⟩) := ⟨_, rfl⟩
  have HB := Lib.hid (show Below w.heap.size w w0 from by rw [hw0]; exact (Below.refl w.heap.size w).alloc (Nat.le_refl _) _)
  have HK := Lib.hid (show Blk w0 w.heap.size 24 (urA ⟨#[]⟩ ⟨#[]⟩ 0 ⟨#[]⟩ ⟨#[]⟩) from by rw [hw0]; exact Blk.new w _ _)
  cases g0 : decide ((8192 : Int) < (t.size : Int))
  rotate_left
  · rw [g0] at HA
    go_enter Tryz.func7, Tryz.ntmps7
    go_wp2_with fail
    rw [← hw0]
    clear hw0
    refine (HT.out _ HB.out).mono ?_
    rintro x w1 ⟨rfl, b9⟩
    replace HK := Lib.hid (HK.out.below b9 HK.out.lt)
    replace HB := Lib.hid (below_on HB.out b9)
    clear b9
    obtain ⟨c0, c1, c2, c3, c4⟩ := url_keep HK.out
    obtain ⟨z0, z1, z2, z3, z4⟩ := url_thaw HK.out
    have j := url_keep (put5_blk HK.out ⟨#[]⟩ ⟨#[]⟩ 0 ⟨#[]⟩ ⟨#[]⟩)
    unfold put5 at j
    obtain ⟨j0, j1, j2, j3, j4⟩ := j
    go_wp2
    exact bodyPost_ret (v := .tuple #[plV zerU, .int .i64 6]) (by simp [results, Tryz.results7, go_sem, j0, j1, j2, j3, j4]) rfl ⟨by rw [HA.out]; rfl, put5_below HB.out (Nat.le_refl _) _ _ _ _ _⟩
  replace HR := Lib.hid (HR.out g0)
  rw [g0] at HA
  cases ok
  · go_enter Tryz.func7, Tryz.ntmps7
    go_wp2_with fail
    rw [← hw0]
    clear hw0
    refine (HT.out _ HB.out).mono ?_
    rintro x w1 ⟨rfl, b9⟩
    replace HK := Lib.hid (HK.out.below b9 HK.out.lt)
    replace HB := Lib.hid (below_on HB.out b9)
    clear b9
    go_wp2_with fail
    refine (HR.out _ HB.out).mono ?_
    rintro x w2 ⟨rfl, b9⟩
    replace HK := Lib.hid (HK.out.below b9 HK.out.lt)
    replace HB := Lib.hid (below_on HB.out b9)
    clear b9
    obtain ⟨w3, hw3⟩ : ∃ w3, w3 = w2.alloc (urC sc ho 0 pa qu) := ⟨_, rfl⟩
    have hlt := HK.out.lt
    replace HK := Lib.hid (show Blk w3 w.heap.size _ _ from by rw [hw3]; exact HK.out.alloc _)
    replace HB := Lib.hid (show Below w.heap.size w w3 from by rw [hw3]; exact HB.out.alloc HB.out.size _)
    have HL := Lib.hid (show Blk w3 w2.heap.size 24 (urA sc ho 0 pa qu) from by rw [hw3]; exact Blk.new w2 _ _)
    have HNE := Lib.hid (show w.heap.size < w2.heap.size from hlt)
    clear hlt
    go_upto_region 5 with fail
    rw [← hw3]
    clear hw3
    obtain ⟨c0, c1, c2, c3, c4⟩ := url_keep HK.out
    obtain ⟨z0, z1, z2, z3, z4⟩ := url_thaw HK.out
    have j := url_keep (put5_blk HK.out ⟨#[]⟩ ⟨#[]⟩ 0 ⟨#[]⟩ ⟨#[]⟩)
    unfold put5 at j
    obtain ⟨j0, j1, j2, j3, j4⟩ := j
    go_wp2
    exact bodyPost_ret (v := .tuple #[plV zerU, .int .i64 2]) (by simp [results, Tryz.results7, go_sem, j0, j1, j2, j3, j4]) rfl ⟨by rw [HA.out]; rfl, put5_below HB.out (Nat.le_refl _) _ _ _ _ _⟩
  cases g1 : e != 0
  rotate_left
  · rw [g1] at HA
    go_enter Tryz.func7, Tryz.ntmps7
    go_wp2_with fail
    rw [← hw0]
    clear hw0
    refine (HT.out _ HB.out).mono ?_
    rintro x w1 ⟨rfl, b9⟩
    replace HK := Lib.hid (HK.out.below b9 HK.out.lt)
    replace HB := Lib.hid (below_on HB.out b9)
    clear b9
    go_wp2_with fail
    refine (HR.out _ HB.out).mono ?_
    rintro x w2 ⟨rfl, b9⟩
    replace HK := Lib.hid (HK.out.below b9 HK.out.lt)
    replace HB := Lib.hid (below_on HB.out b9)
    clear b9
    obtain ⟨w3, hw3⟩ : ∃ w3, w3 = w2.alloc (urC sc ho 0 pa qu) := ⟨_, rfl⟩
    have hlt := HK.out.lt
    replace HK := Lib.hid (show Blk w3 w.heap.size _ _ from by rw [hw3]; exact HK.out.alloc _)
    replace HB := Lib.hid (show Below w.heap.size w w3 from by rw [hw3]; exact HB.out.alloc HB.out.size _)
    have HL := Lib.hid (show Blk w3 w2.heap.size 24 (urA sc ho 0 pa qu) from by rw [hw3]; exact Blk.new w2 _ _)
    have HNE := Lib.hid (show w.heap.size < w2.heap.size from hlt)
    clear hlt
    go_upto_region 5 with fail
    rw [← hw3]
    clear hw3
    go_wp2_with fail
    refine (HP.out _).mono ?_
    rintro x w4 ⟨rfl, b9⟩
    replace HK := Lib.hid (HK.out.below b9 HK.out.lt)
    replace HL := Lib.hid (HL.out.below b9 HL.out.lt)
    replace HB := Lib.hid (below_on HB.out b9)
    clear b9
    obtain ⟨c0, c1, c2, c3, c4⟩ := url_keep HK.out
    obtain ⟨z0, z1, z2, z3, z4⟩ := url_thaw HK.out
    have j := url_keep (put5_blk HK.out ⟨#[]⟩ ⟨#[]⟩ 0 ⟨#[]⟩ ⟨#[]⟩)
    unfold put5 at j
    obtain ⟨j0, j1, j2, j3, j4⟩ := j
    go_wp2
    exact bodyPost_ret (v := .tuple #[plV zerU, .int .i64 e]) (by simp [results, Tryz.results7, go_sem, j0, j1, j2, j3, j4]) rfl ⟨by rw [HA.out]; rfl, put5_below HB.out (Nat.le_refl _) _ _ _ _ _⟩
  rw [g1] at HA
  cases g2 : n == k
  · rw [g2] at HA
    have g3 : (n != k) = true := by rw [bne, g2]; rfl
    go_enter Tryz.func7, Tryz.ntmps7
    go_wp2_with fail
    rw [← hw0]
    clear hw0
    refine (HT.out _ HB.out).mono ?_
    rintro x w1 ⟨rfl, b9⟩
    replace HK := Lib.hid (HK.out.below b9 HK.out.lt)
    replace HB := Lib.hid (below_on HB.out b9)
    clear b9
    go_wp2_with fail
    refine (HR.out _ HB.out).mono ?_
    rintro x w2 ⟨rfl, b9⟩
    replace HK := Lib.hid (HK.out.below b9 HK.out.lt)
    replace HB := Lib.hid (below_on HB.out b9)
    clear b9
    obtain ⟨w3, hw3⟩ : ∃ w3, w3 = w2.alloc (urC sc ho 0 pa qu) := ⟨_, rfl⟩
    have hlt := HK.out.lt
    replace HK := Lib.hid (show Blk w3 w.heap.size _ _ from by rw [hw3]; exact HK.out.alloc _)
    replace HB := Lib.hid (show Below w.heap.size w w3 from by rw [hw3]; exact HB.out.alloc HB.out.size _)
    have HL := Lib.hid (show Blk w3 w2.heap.size 24 (urA sc ho 0 pa qu) from by rw [hw3]; exact Blk.new w2 _ _)
    have HNE := Lib.hid (show w.heap.size < w2.heap.size from hlt)
    clear hlt
    go_upto_region 5 with fail
    rw [← hw3]
    clear hw3
    go_wp2_with fail
    refine (HP.out _).mono ?_
    rintro x w4 ⟨rfl, b9⟩
    replace HK := Lib.hid (HK.out.below b9 HK.out.lt)
    replace HL := Lib.hid (HL.out.below b9 HL.out.lt)
    replace HB := Lib.hid (below_on HB.out b9)
    clear b9
    obtain ⟨l0, l1, l2, l3, l4⟩ := url_keep HL.out
    go_wp2_with fail
    refine (HO.out _).mono ?_
    rintro x w5 ⟨rfl, b9⟩
    clear l0 l1 l2 l3 l4
    replace HK := Lib.hid (HK.out.below b9 HK.out.lt)
    replace HL := Lib.hid (HL.out.below b9 HL.out.lt)
    replace HB := Lib.hid (below_on HB.out b9)
    clear b9
    obtain ⟨c0, c1, c2, c3, c4⟩ := url_keep HK.out
    obtain ⟨z0, z1, z2, z3, z4⟩ := url_thaw HK.out
    obtain ⟨l0, l1, l2, l3, l4⟩ := url_keep HL.out
    have y2 := HL.out.frozen 2
    obtain ⟨w6, hw6⟩ : ∃ w6, w6 = w5.setCell ⟨w2.heap.size, 2, none⟩ (.int .i64 n) := ⟨_, rfl⟩
    have hg := HNE.out
    have HK6 := Lib.hid (show Blk w6 w.heap.size 24 (urA ⟨#[]⟩ ⟨#[]⟩ 0 ⟨#[]⟩ ⟨#[]⟩) from by rw [hw6]; exact HK.out.far (by show w.heap.size ≠ w2.heap.size; omega) _)
    have HL6 := Lib.hid (show Blk w6 w2.heap.size 24 (urA sc ho n pa qu) from by rw [hw6]; exact HL.out.set_ 2 _)
    have HB6 := Lib.hid (show Below w.heap.size w w6 from by rw [hw6]; exact HB.out.setCell (by show w.heap.size ≤ w2.heap.size; omega) _)
    clear hg
    go_upto_region 12 with fail
    rw [← hw6]
    clear hw6 c0 c1 c2 c3 c4 z0 z1 z2 z3 z4 l0 l1 l2 l3 l4 y2 HK HL HB
    obtain ⟨c0, c1, c2, c3, c4⟩ := url_keep HK6.out
    obtain ⟨z0, z1, z2, z3, z4⟩ := url_thaw HK6.out
    obtain ⟨l0, l1, l2, l3, l4⟩ := url_keep HL6.out
    have j := url_keep (put5_blk HK6.out sc ho n pa qu)
    unfold put5 at j
    obtain ⟨j0, j1, j2, j3, j4⟩ := j
    go_wp2
    exact bodyPost_ret (v := .tuple #[urV sc ho n pa qu, .int .i64 0]) (by simp [results, Tryz.results7, go_sem, j0, j1, j2, j3, j4]) rfl ⟨by rw [HA.out]; rfl, put5_below HB6.out (Nat.le_refl _) _ _ _ _ _⟩
  · rw [g2] at HA
    have g3 : (n != k) = false := by rw [bne, g2]; rfl
    go_enter Tryz.func7, Tryz.ntmps7
    go_wp2_with fail
    rw [← hw0]
    clear hw0
    refine (HT.out _ HB.out).mono ?_
    rintro x w1 ⟨rfl, b9⟩
    replace HK := Lib.hid (HK.out.below b9 HK.out.lt)
    replace HB := Lib.hid (below_on HB.out b9)
    clear b9
    go_wp2_with fail
    refine (HR.out _ HB.out).mono ?_
    rintro x w2 ⟨rfl, b9⟩
    replace HK := Lib.hid (HK.out.below b9 HK.out.lt)
    replace HB := Lib.hid (below_on HB.out b9)
    clear b9
    obtain ⟨w3, hw3⟩ : ∃ w3, w3 = w2.alloc (urC sc ho 0 pa qu) := ⟨_, rfl⟩
    have hlt := HK.out.lt
    replace HK := Lib.hid (show Blk w3 w.heap.size _ _ from by rw [hw3]; exact HK.out.alloc _)
    replace HB := Lib.hid (show Below w.heap.size w w3 from by rw [hw3]; exact HB.out.alloc HB.out.size _)
    have HL := Lib.hid (show Blk w3 w2.heap.size 24 (urA sc ho 0 pa qu) from by rw [hw3]; exact Blk.new w2 _ _)
    have HNE := Lib.hid (show w.heap.size < w2.heap.size from hlt)
    clear hlt
    go_upto_region 5 with fail
    rw [← hw3]
    clear hw3
    go_wp2_with fail
    refine (HP.out _).mono ?_
    rintro x w4 ⟨rfl, b9⟩
    replace HK := Lib.hid (HK.out.below b9 HK.out.lt)
    replace HL := Lib.hid (HL.out.below b9 HL.out.lt)
    replace HB := Lib.hid (below_on HB.out b9)
    clear b9
    obtain ⟨l0, l1, l2, l3, l4⟩ := url_keep HL.out
    go_wp2_with fail
    refine (HO.out _).mono ?_
    rintro x w5 ⟨rfl, b9⟩
    clear l0 l1 l2 l3 l4
    replace HK := Lib.hid (HK.out.below b9 HK.out.lt)
    replace HL := Lib.hid (HL.out.below b9 HL.out.lt)
    replace HB := Lib.hid (below_on HB.out b9)
    clear b9
    obtain ⟨c0, c1, c2, c3, c4⟩ := url_keep HK.out
    obtain ⟨z0, z1, z2, z3, z4⟩ := url_thaw HK.out
    obtain ⟨l0, l1, l2, l3, l4⟩ := url_keep HL.out
    have j := url_keep (put5_blk HK.out sc ho 0 pa qu)
    unfold put5 at j
    obtain ⟨j0, j1, j2, j3, j4⟩ := j
    go_wp2
    exact bodyPost_ret (v := .tuple #[urV sc ho 0 pa qu, .int .i64 0]) (by simp [results, Tryz.results7, go_sem, j0, j1, j2, j3, j4]) rfl ⟨by rw [HA.out]; rfl, put5_below HB.out (Nat.le_refl _) _ _ _ _ _⟩

/-- What is asked of a text, as it stands in package url. -/
theorem parO_is (s : ByteArray) : urlO s = if 8192 < (trimP ledB s).size then .error 6 else if redI (upS26 35 (trimP ledB s)) && goodU (redU (upS26 35 (trimP ledB s))) then prtO (redD (upS26 35 (trimP ledB s))) (redU (upS26 35 (trimP ledB s))) else .error 2 := by
  unfold urlO
  simp only [non_one]
  show (if _ then _ else schO (upS26 35 (trimP ledB s))) = _
  rw [red_is]
theorem port_zero (U : Plc) (h : U.po = 0) : portU U = ownP U.sc := by
  unfold portU
  rw [if_neg (fun h2 => h2.2 h)]
theorem parse26_any (s : ByteArray) (w : World) (hs : s.size ≤ 9223372036854775807) (hm : MaxC w) (hu : UtfC w) :
    Calls Tryz.prog 7 #[.string s] w fun x w' => x = .returned (plcV (urlO s)) ∧ Below w.heap.size w w' := by
  rw [parO_is]
  generalize ht : trimP ledB s = t
  refine parse_walk s t (lowS (redS (upS26 35 t))) (lowS (redJ (upS26 35 t))) (dotS (pqS (pthS (redP (upS26 35 t))))) (pqS (redQ (upS26 35 t))) (redD (upS26 35 t)) (redI (upS26 35 t) && goodU (redU (upS26 35 t))) (ptoN (redD (upS26 35 t))) (ptoE (redD (upS26 35 t))) (portU (redU (upS26 35 t))) _ w
    (Lib.hid fun W hW => by rw [← ht]; exact bare_any s W hs (hu.stays hW)) (Lib.hid fun h W hW => ?_) (Lib.hid fun W => ?_) (Lib.hid fun W => port_any _ _ _ _ _ W) (Lib.hid ?_)
  · have h2 : t.size ≤ 8192 := by
      have := of_decide_eq_false h
      omega
    exact uread_any t W (by omega) (hm.stays hW)
  · by_cases h2 : t.size ≤ 9223372036854775807
    · have := (red_sizes (s := t)).2.2.2.2.2.2.2.2.2
      exact portOf_any _ W (by omega)
    · exfalso
      have : (trimP ledB s).size ≤ s.size := trimP_size ledB s
      rw [ht] at this
      omega
  · rw [port_zero _ (by rfl), prt_is _ _ (by rfl)]
    by_cases h1 : 8192 < t.size
    · have hd : decide ((8192 : Int) < (t.size : Int)) = true := decide_eq_true (by omega)
      rw [if_pos h1, hd]
      rfl
    · have hd : decide ((8192 : Int) < (t.size : Int)) = false := decide_eq_false (by omega)
      rw [if_neg h1, hd]
      cases redI (upS26 35 t) && goodU (redU (upS26 35 t))
      · rfl
      · simp only [if_true, Bool.false_eq_true, if_false]
        cases ptoE (redD (upS26 35 t)) != 0 <;> rfl

end Go.Proofs.YtagbndkfbnlpoaaGreatDoor
namespace Go.Proofs.YtagbndkfbnlpoaaGreatDoor
open Go.RowKit

set_option maxRecDepth 100000 in
set_option maxHeartbeats 16000000 in
theorem rgood_walk (a b : ByteArray) (n : Int) (p q : ByteArray) (k : Int) (h : Bool) (d x y : ByteArray) (f1 f2 V : Bool) (w : World)
    (HO : Hid (∀ W, Calls Tryz.prog 30 #[.string a] W fun e w' => e = .returned (.int .i64 k) ∧ w' = W))
    (HH : Hid (∀ W, Calls Tryz.prog 37 #[.string b] W fun e w' => e = .returned (.bool h) ∧ w' = W))
    (HDD : Hid (∀ W, Calls Tryz.prog 27 #[.string p] W fun e w' => e = .returned (.string d) ∧ Below W.heap.size W w'))
    (HX : Hid (∀ W, Calls Tryz.prog 28 #[.string p] W fun e w' => e = .returned (.string x) ∧ Below W.heap.size W w'))
    (HY : Hid (∀ W, Calls Tryz.prog 28 #[.string q] W fun e w' => e = .returned (.string y) ∧ Below W.heap.size W w'))
    (HF1 : Hid (∀ W, Calls Tryz.prog 38 #[.string p, .string ⟨#[63, 35]⟩] W fun e w' => e = .returned (.bool f1) ∧ Below W.heap.size W w'))
    (HF2 : Hid (∀ W, Calls Tryz.prog 38 #[.string q, .string ⟨#[35]⟩] W fun e w' => e = .returned (.bool f2) ∧ Below W.heap.size W w'))
    (HV : Hid (V = (!(k == 0) && h && !decide (n < 0) && !decide (65535 < n) && !(n == k) && (!(p.toList == []) && (d.toList == p.toList) && (x.toList == p.toList) && f1) && ((q.toList == []) || (((q[0]!.toNat : Int) == 63) && (y.toList == q.toList) && f2))))) :
    Calls Tryz.prog 14 #[urV a b n p q] w fun e w' => e = .returned (.bool V) ∧ Below w.heap.size w w' := by
  obtain ⟨w0, hw0⟩ : ∃ w0, w0 = w.alloc (urC a b n p q) := ⟨_, rfl⟩
  have HD := Lib.hid (show UrAt w (urA a b n p q) w0 from by rw [hw0]; exact UrAt.new w _)
  have i0 : ∀ x : Wld (UrAt w (urA a b n p q)), x.val.cell? ⟨w.heap.size, 0, none⟩ = some (.string a) := fun x => x.ok.2.cell 0
  have i1 : ∀ x : Wld (UrAt w (urA a b n p q)), x.val.cell? ⟨w.heap.size, 1, none⟩ = some (.string b) := fun x => x.ok.2.cell 1
  have i2 : ∀ x : Wld (UrAt w (urA a b n p q)), x.val.cell? ⟨w.heap.size, 2, none⟩ = some (.int .i64 n) := fun x => x.ok.2.cell 2
  have i3 : ∀ x : Wld (UrAt w (urA a b n p q)), x.val.cell? ⟨w.heap.size, 3, none⟩ = some (.string p) := fun x => x.ok.2.cell 3
  have i4 : ∀ x : Wld (UrAt w (urA a b n p q)), x.val.cell? ⟨w.heap.size, 4, none⟩ = some (.string q) := fun x => x.ok.2.cell 4
  have inst : Nonempty (Wld (UrAt w (urA a b n p q))) := ⟨⟨_, HD.out⟩⟩
  cases e1 : (k == 0)
  rotate_left
  · rw [e1] at HV
    go_enter Tryz.func14, Tryz.ntmps14
    go_wp2_with fail
    rw [← hw0]
    clear hw0
    refine wp_region_class (UrAt w (urA a b n p q)) (by kernel_rfl) (by kernel_rfl) HD.out.drew ?_
    repeat (go_big_quiet_step (first | (go_at_call 30; exact Calls.cls (HO.out _) fun _ h => UrAt.same h) | (go_at_call 37; exact Calls.cls (HH.out _) fun _ h => UrAt.same h) | (go_at_call 27; exact Calls.cls (HDD.out _) fun _ h => UrAt.next h) | (go_at_call 28; first | with_reducible exact Calls.cls (HX.out _) fun _ h => UrAt.next h | with_reducible exact Calls.cls (HY.out _) fun _ h => UrAt.next h) | (go_at_call 38; first | with_reducible exact Calls.cls (HF1.out _) fun _ h => UrAt.next h | with_reducible exact Calls.cls (HF2.out _) fun _ h => UrAt.next h)))
    refine wpQuiet_nil ?_
    intro w2 h2
    replace HD := Lib.hid h2
    clear h2
    go_wp2
    go_ret
    exact ⟨by rw [HV.out]; rfl, HD.out.1⟩
  cases h
  · rw [e1] at HV
    go_enter Tryz.func14, Tryz.ntmps14
    go_wp2_with fail
    rw [← hw0]
    clear hw0
    refine wp_region_class (UrAt w (urA a b n p q)) (by kernel_rfl) (by kernel_rfl) HD.out.drew ?_
    repeat (go_big_quiet_step (first | (go_at_call 30; exact Calls.cls (HO.out _) fun _ h => UrAt.same h) | (go_at_call 37; exact Calls.cls (HH.out _) fun _ h => UrAt.same h) | (go_at_call 27; exact Calls.cls (HDD.out _) fun _ h => UrAt.next h) | (go_at_call 28; first | with_reducible exact Calls.cls (HX.out _) fun _ h => UrAt.next h | with_reducible exact Calls.cls (HY.out _) fun _ h => UrAt.next h) | (go_at_call 38; first | with_reducible exact Calls.cls (HF1.out _) fun _ h => UrAt.next h | with_reducible exact Calls.cls (HF2.out _) fun _ h => UrAt.next h)))
    refine wpQuiet_nil ?_
    intro w2 h2
    replace HD := Lib.hid h2
    clear h2
    go_wp2
    go_ret
    exact ⟨by rw [HV.out]; rfl, HD.out.1⟩
  cases e2 : decide (n < 0)
  rotate_left
  · rw [e1, e2] at HV
    go_enter Tryz.func14, Tryz.ntmps14
    go_wp2_with fail
    rw [← hw0]
    clear hw0
    refine wp_region_class (UrAt w (urA a b n p q)) (by kernel_rfl) (by kernel_rfl) HD.out.drew ?_
    repeat (go_big_quiet_step (first | (go_at_call 30; exact Calls.cls (HO.out _) fun _ h => UrAt.same h) | (go_at_call 37; exact Calls.cls (HH.out _) fun _ h => UrAt.same h) | (go_at_call 27; exact Calls.cls (HDD.out _) fun _ h => UrAt.next h) | (go_at_call 28; first | with_reducible exact Calls.cls (HX.out _) fun _ h => UrAt.next h | with_reducible exact Calls.cls (HY.out _) fun _ h => UrAt.next h) | (go_at_call 38; first | with_reducible exact Calls.cls (HF1.out _) fun _ h => UrAt.next h | with_reducible exact Calls.cls (HF2.out _) fun _ h => UrAt.next h)))
    refine wpQuiet_nil ?_
    intro w2 h2
    replace HD := Lib.hid h2
    clear h2
    go_wp2
    go_ret
    exact ⟨by rw [HV.out]; rfl, HD.out.1⟩
  cases e3 : decide (65535 < n)
  rotate_left
  · rw [e1, e2, e3] at HV
    go_enter Tryz.func14, Tryz.ntmps14
    go_wp2_with fail
    rw [← hw0]
    clear hw0
    refine wp_region_class (UrAt w (urA a b n p q)) (by kernel_rfl) (by kernel_rfl) HD.out.drew ?_
    repeat (go_big_quiet_step (first | (go_at_call 30; exact Calls.cls (HO.out _) fun _ h => UrAt.same h) | (go_at_call 37; exact Calls.cls (HH.out _) fun _ h => UrAt.same h) | (go_at_call 27; exact Calls.cls (HDD.out _) fun _ h => UrAt.next h) | (go_at_call 28; first | with_reducible exact Calls.cls (HX.out _) fun _ h => UrAt.next h | with_reducible exact Calls.cls (HY.out _) fun _ h => UrAt.next h) | (go_at_call 38; first | with_reducible exact Calls.cls (HF1.out _) fun _ h => UrAt.next h | with_reducible exact Calls.cls (HF2.out _) fun _ h => UrAt.next h)))
    refine wpQuiet_nil ?_
    intro w2 h2
    replace HD := Lib.hid h2
    clear h2
    go_wp2
    go_ret
    exact ⟨by rw [HV.out]; rfl, HD.out.1⟩
  cases e4 : (n == k)
  rotate_left
  · rw [e1, e2, e3, e4] at HV
    go_enter Tryz.func14, Tryz.ntmps14
    go_wp2_with fail
    rw [← hw0]
    clear hw0
    refine wp_region_class (UrAt w (urA a b n p q)) (by kernel_rfl) (by kernel_rfl) HD.out.drew ?_
    repeat (go_big_quiet_step (first | (go_at_call 30; exact Calls.cls (HO.out _) fun _ h => UrAt.same h) | (go_at_call 37; exact Calls.cls (HH.out _) fun _ h => UrAt.same h) | (go_at_call 27; exact Calls.cls (HDD.out _) fun _ h => UrAt.next h) | (go_at_call 28; first | with_reducible exact Calls.cls (HX.out _) fun _ h => UrAt.next h | with_reducible exact Calls.cls (HY.out _) fun _ h => UrAt.next h) | (go_at_call 38; first | with_reducible exact Calls.cls (HF1.out _) fun _ h => UrAt.next h | with_reducible exact Calls.cls (HF2.out _) fun _ h => UrAt.next h)))
    refine wpQuiet_nil ?_
    intro w2 h2
    replace HD := Lib.hid h2
    clear h2
    go_wp2
    go_ret
    exact ⟨by rw [HV.out]; rfl, HD.out.1⟩
  cases e5 : (p.toList == [])
  rotate_left
  · rw [e1, e2, e3, e4, e5] at HV
    go_enter Tryz.func14, Tryz.ntmps14
    go_wp2_with fail
    rw [← hw0]
    clear hw0
    refine wp_region_class (UrAt w (urA a b n p q)) (by kernel_rfl) (by kernel_rfl) HD.out.drew ?_
    repeat (go_big_quiet_step (first | (go_at_call 30; exact Calls.cls (HO.out _) fun _ h => UrAt.same h) | (go_at_call 37; exact Calls.cls (HH.out _) fun _ h => UrAt.same h) | (go_at_call 27; exact Calls.cls (HDD.out _) fun _ h => UrAt.next h) | (go_at_call 28; first | with_reducible exact Calls.cls (HX.out _) fun _ h => UrAt.next h | with_reducible exact Calls.cls (HY.out _) fun _ h => UrAt.next h) | (go_at_call 38; first | with_reducible exact Calls.cls (HF1.out _) fun _ h => UrAt.next h | with_reducible exact Calls.cls (HF2.out _) fun _ h => UrAt.next h)))
    refine wpQuiet_nil ?_
    intro w2 h2
    replace HD := Lib.hid h2
    clear h2
    go_wp2_with fail
    refine wp_region_class (UrAt w (urA a b n p q)) (by kernel_rfl) (by kernel_rfl) HD.out.drew ?_
    repeat (go_big_quiet_step (first | (go_at_call 30; exact Calls.cls (HO.out _) fun _ h => UrAt.same h) | (go_at_call 37; exact Calls.cls (HH.out _) fun _ h => UrAt.same h) | (go_at_call 27; exact Calls.cls (HDD.out _) fun _ h => UrAt.next h) | (go_at_call 28; first | with_reducible exact Calls.cls (HX.out _) fun _ h => UrAt.next h | with_reducible exact Calls.cls (HY.out _) fun _ h => UrAt.next h) | (go_at_call 38; first | with_reducible exact Calls.cls (HF1.out _) fun _ h => UrAt.next h | with_reducible exact Calls.cls (HF2.out _) fun _ h => UrAt.next h)))
    refine wpQuiet_nil ?_
    intro w2 h2
    replace HD := Lib.hid h2
    clear h2
    go_wp2
    go_ret
    exact ⟨by rw [HV.out]; rfl, HD.out.1⟩
  cases e6 : (d.toList == p.toList)
  · rw [e1, e2, e3, e4, e5, e6] at HV
    have e6n : (d.toList != p.toList) = true := by rw [bne, e6]; rfl
    go_enter Tryz.func14, Tryz.ntmps14
    go_wp2_with fail
    rw [← hw0]
    clear hw0
    refine wp_region_class (UrAt w (urA a b n p q)) (by kernel_rfl) (by kernel_rfl) HD.out.drew ?_
    repeat (go_big_quiet_step (first | (go_at_call 30; exact Calls.cls (HO.out _) fun _ h => UrAt.same h) | (go_at_call 37; exact Calls.cls (HH.out _) fun _ h => UrAt.same h) | (go_at_call 27; exact Calls.cls (HDD.out _) fun _ h => UrAt.next h) | (go_at_call 28; first | with_reducible exact Calls.cls (HX.out _) fun _ h => UrAt.next h | with_reducible exact Calls.cls (HY.out _) fun _ h => UrAt.next h) | (go_at_call 38; first | with_reducible exact Calls.cls (HF1.out _) fun _ h => UrAt.next h | with_reducible exact Calls.cls (HF2.out _) fun _ h => UrAt.next h)))
    refine wpQuiet_nil ?_
    intro w2 h2
    replace HD := Lib.hid h2
    clear h2
    go_wp2_with fail
    refine wp_region_class (UrAt w (urA a b n p q)) (by kernel_rfl) (by kernel_rfl) HD.out.drew ?_
    repeat (go_big_quiet_step (first | (go_at_call 30; exact Calls.cls (HO.out _) fun _ h => UrAt.same h) | (go_at_call 37; exact Calls.cls (HH.out _) fun _ h => UrAt.same h) | (go_at_call 27; exact Calls.cls (HDD.out _) fun _ h => UrAt.next h) | (go_at_call 28; first | with_reducible exact Calls.cls (HX.out _) fun _ h => UrAt.next h | with_reducible exact Calls.cls (HY.out _) fun _ h => UrAt.next h) | (go_at_call 38; first | with_reducible exact Calls.cls (HF1.out _) fun _ h => UrAt.next h | with_reducible exact Calls.cls (HF2.out _) fun _ h => UrAt.next h)))
    refine wpQuiet_nil ?_
    intro w2 h2
    replace HD := Lib.hid h2
    clear h2
    go_wp2
    go_ret
    exact ⟨by rw [HV.out]; rfl, HD.out.1⟩
  have e6n : (d.toList != p.toList) = false := by rw [bne, e6]; rfl
  cases e7 : (x.toList == p.toList)
  · rw [e1, e2, e3, e4, e5, e6, e7] at HV
    have e7n : (x.toList != p.toList) = true := by rw [bne, e7]; rfl
    go_enter Tryz.func14, Tryz.ntmps14
    go_wp2_with fail
    rw [← hw0]
    clear hw0
    refine wp_region_class (UrAt w (urA a b n p q)) (by kernel_rfl) (by kernel_rfl) HD.out.drew ?_
    repeat (go_big_quiet_step (first | (go_at_call 30; exact Calls.cls (HO.out _) fun _ h => UrAt.same h) | (go_at_call 37; exact Calls.cls (HH.out _) fun _ h => UrAt.same h) | (go_at_call 27; exact Calls.cls (HDD.out _) fun _ h => UrAt.next h) | (go_at_call 28; first | with_reducible exact Calls.cls (HX.out _) fun _ h => UrAt.next h | with_reducible exact Calls.cls (HY.out _) fun _ h => UrAt.next h) | (go_at_call 38; first | with_reducible exact Calls.cls (HF1.out _) fun _ h => UrAt.next h | with_reducible exact Calls.cls (HF2.out _) fun _ h => UrAt.next h)))
    refine wpQuiet_nil ?_
    intro w2 h2
    replace HD := Lib.hid h2
    clear h2
    go_wp2_with fail
    refine wp_region_class (UrAt w (urA a b n p q)) (by kernel_rfl) (by kernel_rfl) HD.out.drew ?_
    repeat (go_big_quiet_step (first | (go_at_call 30; exact Calls.cls (HO.out _) fun _ h => UrAt.same h) | (go_at_call 37; exact Calls.cls (HH.out _) fun _ h => UrAt.same h) | (go_at_call 27; exact Calls.cls (HDD.out _) fun _ h => UrAt.next h) | (go_at_call 28; first | with_reducible exact Calls.cls (HX.out _) fun _ h => UrAt.next h | with_reducible exact Calls.cls (HY.out _) fun _ h => UrAt.next h) | (go_at_call 38; first | with_reducible exact Calls.cls (HF1.out _) fun _ h => UrAt.next h | with_reducible exact Calls.cls (HF2.out _) fun _ h => UrAt.next h)))
    refine wpQuiet_nil ?_
    intro w2 h2
    replace HD := Lib.hid h2
    clear h2
    go_wp2
    go_ret
    exact ⟨by rw [HV.out]; rfl, HD.out.1⟩
  have e7n : (x.toList != p.toList) = false := by rw [bne, e7]; rfl
  cases f1
  · rw [e1, e2, e3, e4, e5, e6, e7] at HV
    go_enter Tryz.func14, Tryz.ntmps14
    go_wp2_with fail
    rw [← hw0]
    clear hw0
    refine wp_region_class (UrAt w (urA a b n p q)) (by kernel_rfl) (by kernel_rfl) HD.out.drew ?_
    repeat (go_big_quiet_step (first | (go_at_call 30; exact Calls.cls (HO.out _) fun _ h => UrAt.same h) | (go_at_call 37; exact Calls.cls (HH.out _) fun _ h => UrAt.same h) | (go_at_call 27; exact Calls.cls (HDD.out _) fun _ h => UrAt.next h) | (go_at_call 28; first | with_reducible exact Calls.cls (HX.out _) fun _ h => UrAt.next h | with_reducible exact Calls.cls (HY.out _) fun _ h => UrAt.next h) | (go_at_call 38; first | with_reducible exact Calls.cls (HF1.out _) fun _ h => UrAt.next h | with_reducible exact Calls.cls (HF2.out _) fun _ h => UrAt.next h)))
    refine wpQuiet_nil ?_
    intro w2 h2
    replace HD := Lib.hid h2
    clear h2
    go_wp2_with fail
    refine wp_region_class (UrAt w (urA a b n p q)) (by kernel_rfl) (by kernel_rfl) HD.out.drew ?_
    repeat (go_big_quiet_step (first | (go_at_call 30; exact Calls.cls (HO.out _) fun _ h => UrAt.same h) | (go_at_call 37; exact Calls.cls (HH.out _) fun _ h => UrAt.same h) | (go_at_call 27; exact Calls.cls (HDD.out _) fun _ h => UrAt.next h) | (go_at_call 28; first | with_reducible exact Calls.cls (HX.out _) fun _ h => UrAt.next h | with_reducible exact Calls.cls (HY.out _) fun _ h => UrAt.next h) | (go_at_call 38; first | with_reducible exact Calls.cls (HF1.out _) fun _ h => UrAt.next h | with_reducible exact Calls.cls (HF2.out _) fun _ h => UrAt.next h)))
    refine wpQuiet_nil ?_
    intro w2 h2
    replace HD := Lib.hid h2
    clear h2
    go_wp2
    go_ret
    exact ⟨by rw [HV.out]; rfl, HD.out.1⟩
  cases e8 : (q.toList == [])
  rotate_left
  · rw [e1, e2, e3, e4, e5, e6, e7, e8] at HV
    go_enter Tryz.func14, Tryz.ntmps14
    go_wp2_with fail
    rw [← hw0]
    clear hw0
    refine wp_region_class (UrAt w (urA a b n p q)) (by kernel_rfl) (by kernel_rfl) HD.out.drew ?_
    repeat (go_big_quiet_step (first | (go_at_call 30; exact Calls.cls (HO.out _) fun _ h => UrAt.same h) | (go_at_call 37; exact Calls.cls (HH.out _) fun _ h => UrAt.same h) | (go_at_call 27; exact Calls.cls (HDD.out _) fun _ h => UrAt.next h) | (go_at_call 28; first | with_reducible exact Calls.cls (HX.out _) fun _ h => UrAt.next h | with_reducible exact Calls.cls (HY.out _) fun _ h => UrAt.next h) | (go_at_call 38; first | with_reducible exact Calls.cls (HF1.out _) fun _ h => UrAt.next h | with_reducible exact Calls.cls (HF2.out _) fun _ h => UrAt.next h)))
    refine wpQuiet_nil ?_
    intro w2 h2
    replace HD := Lib.hid h2
    clear h2
    go_wp2_with fail
    refine wp_region_class (UrAt w (urA a b n p q)) (by kernel_rfl) (by kernel_rfl) HD.out.drew ?_
    repeat (go_big_quiet_step (first | (go_at_call 30; exact Calls.cls (HO.out _) fun _ h => UrAt.same h) | (go_at_call 37; exact Calls.cls (HH.out _) fun _ h => UrAt.same h) | (go_at_call 27; exact Calls.cls (HDD.out _) fun _ h => UrAt.next h) | (go_at_call 28; first | with_reducible exact Calls.cls (HX.out _) fun _ h => UrAt.next h | with_reducible exact Calls.cls (HY.out _) fun _ h => UrAt.next h) | (go_at_call 38; first | with_reducible exact Calls.cls (HF1.out _) fun _ h => UrAt.next h | with_reducible exact Calls.cls (HF2.out _) fun _ h => UrAt.next h)))
    refine wpQuiet_nil ?_
    intro w2 h2
    replace HD := Lib.hid h2
    clear h2
    go_wp2_with fail
    refine wp_region_class (UrAt w (urA a b n p q)) (by kernel_rfl) (by kernel_rfl) HD.out.drew ?_
    repeat (go_big_quiet_step (first | (go_at_call 30; exact Calls.cls (HO.out _) fun _ h => UrAt.same h) | (go_at_call 37; exact Calls.cls (HH.out _) fun _ h => UrAt.same h) | (go_at_call 27; exact Calls.cls (HDD.out _) fun _ h => UrAt.next h) | (go_at_call 28; first | with_reducible exact Calls.cls (HX.out _) fun _ h => UrAt.next h | with_reducible exact Calls.cls (HY.out _) fun _ h => UrAt.next h) | (go_at_call 38; first | with_reducible exact Calls.cls (HF1.out _) fun _ h => UrAt.next h | with_reducible exact Calls.cls (HF2.out _) fun _ h => UrAt.next h)))
    refine wpQuiet_nil ?_
    intro w2 h2
    replace HD := Lib.hid h2
    clear h2
    go_wp2
    go_ret
    exact ⟨by rw [HV.out]; rfl, HD.out.1⟩
  have hq0 : 0 < q.size := by rw [size_bool, decide_eq_false_iff_not] at e8; omega
  rw [getElem!_pos q 0 hq0] at HV
  obtain ⟨u, hu⟩ : ∃ u, q[0] = u := ⟨_, rfl⟩
  rw [hu] at HV
  cases e9 : ((u.toNat : Int) == 63)
  · rw [e1, e2, e3, e4, e5, e6, e7, e8, e9] at HV
    go_enter Tryz.func14, Tryz.ntmps14
    go_wp2_with fail
    rw [← hw0]
    clear hw0
    refine wp_region_class (UrAt w (urA a b n p q)) (by kernel_rfl) (by kernel_rfl) HD.out.drew ?_
    repeat (go_big_quiet_step (first | (go_at_call 30; exact Calls.cls (HO.out _) fun _ h => UrAt.same h) | (go_at_call 37; exact Calls.cls (HH.out _) fun _ h => UrAt.same h) | (go_at_call 27; exact Calls.cls (HDD.out _) fun _ h => UrAt.next h) | (go_at_call 28; first | with_reducible exact Calls.cls (HX.out _) fun _ h => UrAt.next h | with_reducible exact Calls.cls (HY.out _) fun _ h => UrAt.next h) | (go_at_call 38; first | with_reducible exact Calls.cls (HF1.out _) fun _ h => UrAt.next h | with_reducible exact Calls.cls (HF2.out _) fun _ h => UrAt.next h)))
    refine wpQuiet_nil ?_
    intro w2 h2
    replace HD := Lib.hid h2
    clear h2
    go_wp2_with fail
    refine wp_region_class (UrAt w (urA a b n p q)) (by kernel_rfl) (by kernel_rfl) HD.out.drew ?_
    repeat (go_big_quiet_step (first | (go_at_call 30; exact Calls.cls (HO.out _) fun _ h => UrAt.same h) | (go_at_call 37; exact Calls.cls (HH.out _) fun _ h => UrAt.same h) | (go_at_call 27; exact Calls.cls (HDD.out _) fun _ h => UrAt.next h) | (go_at_call 28; first | with_reducible exact Calls.cls (HX.out _) fun _ h => UrAt.next h | with_reducible exact Calls.cls (HY.out _) fun _ h => UrAt.next h) | (go_at_call 38; first | with_reducible exact Calls.cls (HF1.out _) fun _ h => UrAt.next h | with_reducible exact Calls.cls (HF2.out _) fun _ h => UrAt.next h)))
    refine wpQuiet_nil ?_
    intro w2 h2
    replace HD := Lib.hid h2
    clear h2
    go_wp2_with fail
    refine wp_region_class (UrAt w (urA a b n p q)) (by kernel_rfl) (by kernel_rfl) HD.out.drew ?_
    repeat (go_big_quiet_step (first | (go_at_call 30; exact Calls.cls (HO.out _) fun _ h => UrAt.same h) | (go_at_call 37; exact Calls.cls (HH.out _) fun _ h => UrAt.same h) | (go_at_call 27; exact Calls.cls (HDD.out _) fun _ h => UrAt.next h) | (go_at_call 28; first | with_reducible exact Calls.cls (HX.out _) fun _ h => UrAt.next h | with_reducible exact Calls.cls (HY.out _) fun _ h => UrAt.next h) | (go_at_call 38; first | with_reducible exact Calls.cls (HF1.out _) fun _ h => UrAt.next h | with_reducible exact Calls.cls (HF2.out _) fun _ h => UrAt.next h)))
    refine wpQuiet_nil ?_
    intro w2 h2
    replace HD := Lib.hid h2
    clear h2
    go_wp2
    go_ret
    exact ⟨by rw [HV.out]; rfl, HD.out.1⟩
  cases e10 : (y.toList == q.toList)
  · rw [e1, e2, e3, e4, e5, e6, e7, e8, e9, e10] at HV
    go_enter Tryz.func14, Tryz.ntmps14
    go_wp2_with fail
    rw [← hw0]
    clear hw0
    refine wp_region_class (UrAt w (urA a b n p q)) (by kernel_rfl) (by kernel_rfl) HD.out.drew ?_
    repeat (go_big_quiet_step (first | (go_at_call 30; exact Calls.cls (HO.out _) fun _ h => UrAt.same h) | (go_at_call 37; exact Calls.cls (HH.out _) fun _ h => UrAt.same h) | (go_at_call 27; exact Calls.cls (HDD.out _) fun _ h => UrAt.next h) | (go_at_call 28; first | with_reducible exact Calls.cls (HX.out _) fun _ h => UrAt.next h | with_reducible exact Calls.cls (HY.out _) fun _ h => UrAt.next h) | (go_at_call 38; first | with_reducible exact Calls.cls (HF1.out _) fun _ h => UrAt.next h | with_reducible exact Calls.cls (HF2.out _) fun _ h => UrAt.next h)))
    refine wpQuiet_nil ?_
    intro w2 h2
    replace HD := Lib.hid h2
    clear h2
    go_wp2_with fail
    refine wp_region_class (UrAt w (urA a b n p q)) (by kernel_rfl) (by kernel_rfl) HD.out.drew ?_
    repeat (go_big_quiet_step (first | (go_at_call 30; exact Calls.cls (HO.out _) fun _ h => UrAt.same h) | (go_at_call 37; exact Calls.cls (HH.out _) fun _ h => UrAt.same h) | (go_at_call 27; exact Calls.cls (HDD.out _) fun _ h => UrAt.next h) | (go_at_call 28; first | with_reducible exact Calls.cls (HX.out _) fun _ h => UrAt.next h | with_reducible exact Calls.cls (HY.out _) fun _ h => UrAt.next h) | (go_at_call 38; first | with_reducible exact Calls.cls (HF1.out _) fun _ h => UrAt.next h | with_reducible exact Calls.cls (HF2.out _) fun _ h => UrAt.next h)))
    refine wpQuiet_nil ?_
    intro w2 h2
    replace HD := Lib.hid h2
    clear h2
    go_wp2_with fail
    refine wp_region_class (UrAt w (urA a b n p q)) (by kernel_rfl) (by kernel_rfl) HD.out.drew ?_
    repeat (go_big_quiet_step (first | (go_at_call 30; exact Calls.cls (HO.out _) fun _ h => UrAt.same h) | (go_at_call 37; exact Calls.cls (HH.out _) fun _ h => UrAt.same h) | (go_at_call 27; exact Calls.cls (HDD.out _) fun _ h => UrAt.next h) | (go_at_call 28; first | with_reducible exact Calls.cls (HX.out _) fun _ h => UrAt.next h | with_reducible exact Calls.cls (HY.out _) fun _ h => UrAt.next h) | (go_at_call 38; first | with_reducible exact Calls.cls (HF1.out _) fun _ h => UrAt.next h | with_reducible exact Calls.cls (HF2.out _) fun _ h => UrAt.next h)))
    refine wpQuiet_nil ?_
    intro w2 h2
    replace HD := Lib.hid h2
    clear h2
    go_wp2
    go_ret
    exact ⟨by rw [HV.out]; rfl, HD.out.1⟩
  cases f2
  · rw [e1, e2, e3, e4, e5, e6, e7, e8, e9, e10] at HV
    go_enter Tryz.func14, Tryz.ntmps14
    go_wp2_with fail
    rw [← hw0]
    clear hw0
    refine wp_region_class (UrAt w (urA a b n p q)) (by kernel_rfl) (by kernel_rfl) HD.out.drew ?_
    repeat (go_big_quiet_step (first | (go_at_call 30; exact Calls.cls (HO.out _) fun _ h => UrAt.same h) | (go_at_call 37; exact Calls.cls (HH.out _) fun _ h => UrAt.same h) | (go_at_call 27; exact Calls.cls (HDD.out _) fun _ h => UrAt.next h) | (go_at_call 28; first | with_reducible exact Calls.cls (HX.out _) fun _ h => UrAt.next h | with_reducible exact Calls.cls (HY.out _) fun _ h => UrAt.next h) | (go_at_call 38; first | with_reducible exact Calls.cls (HF1.out _) fun _ h => UrAt.next h | with_reducible exact Calls.cls (HF2.out _) fun _ h => UrAt.next h)))
    refine wpQuiet_nil ?_
    intro w2 h2
    replace HD := Lib.hid h2
    clear h2
    go_wp2_with fail
    refine wp_region_class (UrAt w (urA a b n p q)) (by kernel_rfl) (by kernel_rfl) HD.out.drew ?_
    repeat (go_big_quiet_step (first | (go_at_call 30; exact Calls.cls (HO.out _) fun _ h => UrAt.same h) | (go_at_call 37; exact Calls.cls (HH.out _) fun _ h => UrAt.same h) | (go_at_call 27; exact Calls.cls (HDD.out _) fun _ h => UrAt.next h) | (go_at_call 28; first | with_reducible exact Calls.cls (HX.out _) fun _ h => UrAt.next h | with_reducible exact Calls.cls (HY.out _) fun _ h => UrAt.next h) | (go_at_call 38; first | with_reducible exact Calls.cls (HF1.out _) fun _ h => UrAt.next h | with_reducible exact Calls.cls (HF2.out _) fun _ h => UrAt.next h)))
    refine wpQuiet_nil ?_
    intro w2 h2
    replace HD := Lib.hid h2
    clear h2
    go_wp2_with fail
    refine wp_region_class (UrAt w (urA a b n p q)) (by kernel_rfl) (by kernel_rfl) HD.out.drew ?_
    repeat (go_big_quiet_step (first | (go_at_call 30; exact Calls.cls (HO.out _) fun _ h => UrAt.same h) | (go_at_call 37; exact Calls.cls (HH.out _) fun _ h => UrAt.same h) | (go_at_call 27; exact Calls.cls (HDD.out _) fun _ h => UrAt.next h) | (go_at_call 28; first | with_reducible exact Calls.cls (HX.out _) fun _ h => UrAt.next h | with_reducible exact Calls.cls (HY.out _) fun _ h => UrAt.next h) | (go_at_call 38; first | with_reducible exact Calls.cls (HF1.out _) fun _ h => UrAt.next h | with_reducible exact Calls.cls (HF2.out _) fun _ h => UrAt.next h)))
    refine wpQuiet_nil ?_
    intro w2 h2
    replace HD := Lib.hid h2
    clear h2
    go_wp2
    go_ret
    exact ⟨by rw [HV.out]; rfl, HD.out.1⟩
  rw [e1, e2, e3, e4, e5, e6, e7, e8, e9, e10] at HV
  go_enter Tryz.func14, Tryz.ntmps14
  go_wp2_with fail
  rw [← hw0]
  clear hw0
  refine wp_region_class (UrAt w (urA a b n p q)) (by kernel_rfl) (by kernel_rfl) HD.out.drew ?_
  repeat (go_big_quiet_step (first | (go_at_call 30; exact Calls.cls (HO.out _) fun _ h => UrAt.same h) | (go_at_call 37; exact Calls.cls (HH.out _) fun _ h => UrAt.same h) | (go_at_call 27; exact Calls.cls (HDD.out _) fun _ h => UrAt.next h) | (go_at_call 28; first | with_reducible exact Calls.cls (HX.out _) fun _ h => UrAt.next h | with_reducible exact Calls.cls (HY.out _) fun _ h => UrAt.next h) | (go_at_call 38; first | with_reducible exact Calls.cls (HF1.out _) fun _ h => UrAt.next h | with_reducible exact Calls.cls (HF2.out _) fun _ h => UrAt.next h)))
  refine wpQuiet_nil ?_
  intro w2 h2
  replace HD := Lib.hid h2
  clear h2
  go_wp2_with fail
  refine wp_region_class (UrAt w (urA a b n p q)) (by kernel_rfl) (by kernel_rfl) HD.out.drew ?_
  repeat (go_big_quiet_step (first | (go_at_call 30; exact Calls.cls (HO.out _) fun _ h => UrAt.same h) | (go_at_call 37; exact Calls.cls (HH.out _) fun _ h => UrAt.same h) | (go_at_call 27; exact Calls.cls (HDD.out _) fun _ h => UrAt.next h) | (go_at_call 28; first | with_reducible exact Calls.cls (HX.out _) fun _ h => UrAt.next h | with_reducible exact Calls.cls (HY.out _) fun _ h => UrAt.next h) | (go_at_call 38; first | with_reducible exact Calls.cls (HF1.out _) fun _ h => UrAt.next h | with_reducible exact Calls.cls (HF2.out _) fun _ h => UrAt.next h)))
  refine wpQuiet_nil ?_
  intro w2 h2
  replace HD := Lib.hid h2
  clear h2
  go_wp2_with fail
  refine wp_region_class (UrAt w (urA a b n p q)) (by kernel_rfl) (by kernel_rfl) HD.out.drew ?_
  repeat (go_big_quiet_step (first | (go_at_call 30; exact Calls.cls (HO.out _) fun _ h => UrAt.same h) | (go_at_call 37; exact Calls.cls (HH.out _) fun _ h => UrAt.same h) | (go_at_call 27; exact Calls.cls (HDD.out _) fun _ h => UrAt.next h) | (go_at_call 28; first | with_reducible exact Calls.cls (HX.out _) fun _ h => UrAt.next h | with_reducible exact Calls.cls (HY.out _) fun _ h => UrAt.next h) | (go_at_call 38; first | with_reducible exact Calls.cls (HF1.out _) fun _ h => UrAt.next h | with_reducible exact Calls.cls (HF2.out _) fun _ h => UrAt.next h)))
  refine wpQuiet_nil ?_
  intro w2 h2
  replace HD := Lib.hid h2
  clear h2
  go_wp2
  go_ret
  exact ⟨by rw [HV.out]; rfl, HD.out.1⟩

theorem rgood_is (a b : ByteArray) (n : Int) (p q : ByteArray) : goodU ⟨a, b, n, p, q⟩ = (!(ownP a == 0) && namB b && !decide (n < 0) && !decide (65535 < n) && !(n == ownP a) && (!(p.toList == []) && ((dotS p).toList == p.toList) && ((pqS p).toList == p.toList) && allB (nonB #[63, 35]) p) && ((q.toList == []) || (((q[0]!.toNat : Int) == 63) && ((pqS q).toList == q.toList) && allB (nonB #[35]) q))) := by
  have e1 : decide (0 ≤ n) = !decide (n < 0) := by
    by_cases h : n < 0
    · rw [decide_eq_true h, decide_eq_false (by omega)]; rfl
    · rw [decide_eq_false h, decide_eq_true (by omega)]; rfl
  have e2 : decide (n ≤ 65535) = !decide (65535 < n) := by
    by_cases h : 65535 < n
    · rw [decide_eq_true h, decide_eq_false (by omega)]; rfl
    · rw [decide_eq_false h, decide_eq_true (by omega)]; rfl
  have e3 : (q[0]! == 63) = ((q[0]!.toNat : Int) == 63) := by
    rw [Bool.eq_iff_iff, beq_iff_eq, beq_iff_eq, ← UInt8.toNat_inj]
    show q[0]!.toNat = 63 ↔ _
    omega
  rw [good_is]
  unfold prtB pthB qryB
  rw [e1, e2, e3]
  show ((!(ownP a == 0)) && namB b && (!decide (n < 0) && !decide (65535 < n) && !(n == ownP a)) && _ && _) = _
  simp only [Bool.and_assoc]
theorem rgood26_any (a b : ByteArray) (n : Int) (p q : ByteArray) (w : World) (hb : b.size ≤ 1048576) (hp : p.size ≤ 1048576) (hq : q.size ≤ 1048576) :
    Calls Tryz.prog 14 #[urV a b n p q] w fun e w' => e = .returned (.bool (goodU ⟨a, b, n, p, q⟩)) ∧ Below w.heap.size w w' :=
  rgood_walk a b n p q (ownP a) (namB b) (dotS p) (pqS p) (pqS q) (allB (nonB #[63, 35]) p) (allB (nonB #[35]) q) _ w (Lib.hid fun W => (rOwn_any a W).mono fun _ _ h => (⟨h.1, h.2.symm⟩ : _ ∧ _)) (Lib.hid fun W => (rnamed26_any b W (by omega)).mono fun _ _ h => (⟨h.1, h.2.symm⟩ : _ ∧ _))
    (Lib.hid fun W => rdots_any p W hp) (Lib.hid fun W => rquote_any p W (by omega)) (Lib.hid fun W => rquote_any q W (by omega)) (Lib.hid fun W => (free_any p ⟨#[63, 35]⟩ W (by omega) (by decide)).mono fun _ _ h => (⟨h.1, h.2 ▸ Below.refl _ _⟩ : _ ∧ _)) (Lib.hid fun W => (free_any q ⟨#[35]⟩ W (by omega) (by decide)).mono fun _ _ h => (⟨h.1, h.2 ▸ Below.refl _ _⟩ : _ ∧ _)) (Lib.hid (rgood_is a b n p q))

end Go.Proofs.YtagbndkfbnlpoaaGreatDoor
namespace Go.Proofs.YtagbndkfbnlpoaaGreatDoor
open Go.RowKit

set_option maxHeartbeats 2000000 in
theorem refParse_any (s : ByteArray) (w : World) (hs : s.size ≤ 9223372036854775807) :
    Calls Tryz.prog 29 #[.string s] w fun e w' => e = .returned (parV s) ∧ w = w' := by
  by_cases h0 : s.size = 0
  · have HV := Lib.hid (parV_empty h0)
    obtain rfl : s = ⟨#[]⟩ := by
      cases s with | mk d => simp at h0; rw [h0]; rfl
    go_enter Tryz.func29, Tryz.ntmps29
    go_wp2
    refine wp_loop_rounds 1 ?_
    rw [rounds_succ]
    go_wp2
    go_ret2
    exact ⟨by rw [HV.out]; first | done | rfl, rfl⟩
  have e0 : (s.toList == []) = false := by
    rw [beq_eq_false_iff_ne]
    intro h
    rw [Lib.toList_data] at h
    have := congrArg List.length h
    rw [Array.length_toList] at this
    exact h0 this
  go_enter Tryz.func29, Tryz.ntmps29
  go_wp2
  go_loop [6, 4, 5] (fun i n o => ∃ (k : Nat) (v : Int), k ≤ s.size ∧ i = .int .i64 k ∧ n = .int .i64 v ∧ (∀ j (hj : j < s.size), j < k → digB s[j] = true) ∧
    (o = .bool false ∧ v = (numK s k : Nat) ∧ numK s k ≤ 9007199254740991 ∨ o = .bool true ∧ 9007199254740991 < numK s k)) (fun i _ _ => s.size - (intOf i).toNat)
  case atStart => exact ⟨0, 0, by omega, rfl, rfl, fun j _ h => absurd h (by omega), .inl ⟨rfl, rfl, by rw [numK_zero]; omega⟩⟩
  case round =>
    obtain ⟨k, v, hk, rfl, rfl, hd, ho⟩ := hrel
    have HD := Lib.hid hd
    clear hd
    by_cases hlt : k < s.size
    · have HL := Lib.hid (fun W => refDigit_any s[k] W)
      cases hb : digB s[k]
      · have HV := Lib.hid (parV_form (s := s) (allB_no hlt hb))
        have HL2 : Hid (∀ W, Calls Tryz.prog 53 #[.int .u8 (s[k].toNat : Int)] W fun e w' => e = .returned (.bool false) ∧ W = w') := fun W => by have := HL.out W; rwa [hb] at this
        clear HL hb
        rcases ho with ⟨rfl, rfl, _⟩ | ⟨rfl, _⟩ <;>
        · go_wp2_with (go_at_call 53; refine (HL2.out _).mono ?_; rintro e w' ⟨rfl, rfl⟩)
          go_ret2
          exact ⟨by rw [HV.out]; first | done | rfl, rfl⟩
      · obtain ⟨g1, g2⟩ := digB_range hb
        have HN := Lib.hid (numK_succ hlt)
        have HE : Hid (∀ j (hj : j < s.size), j < k + 1 → digB s[j] = true) := fun j hj h => if e : j = k then by subst e; exact hb else HD.out j hj (by omega)
        have HL2 : Hid (∀ W, Calls Tryz.prog 53 #[.int .u8 (s[k].toNat : Int)] W fun e w' => e = .returned (.bool true) ∧ W = w') := fun W => by have := HL.out W; rwa [hb] at this
        clear HL hb
        rcases ho with ⟨rfl, rfl, hm⟩ | ⟨rfl, hm⟩
        · by_cases hov : numK s (k + 1) ≤ 9007199254740991
          · have HO := Lib.hid hov
            rw [HN.out] at hov
            obtain ⟨a, ha⟩ : ∃ a, a = numK s k := ⟨_, rfl⟩
            rw [← ha] at hm hov HN ⊢
            have d1 : decide ((9007199254740991 : Int) < 10 * (a : Int) + ((s[k].toNat : Int) - 48)) = false := by simp; omega
            clear ha
            go_wp2_with (go_at_call 53; refine (HL2.out _).mono ?_; rintro e w' ⟨rfl, rfl⟩)
            go_round
            case rel => exact ⟨k + 1, _, by omega, by go_num, rfl, HE.out, .inl ⟨rfl, by rw [HN.out]; omega, HO.out⟩⟩
            case measure => simp [intOf]; omega
          · have HO := Lib.hid (show 9007199254740991 < numK s (k + 1) by omega)
            rw [HN.out] at hov
            obtain ⟨a, ha⟩ : ∃ a, a = numK s k := ⟨_, rfl⟩
            rw [← ha] at hm hov HN ⊢
            have d1 : decide ((9007199254740991 : Int) < 10 * (a : Int) + ((s[k].toNat : Int) - 48)) = true := by simp; omega
            clear ha
            go_wp2_with (go_at_call 53; refine (HL2.out _).mono ?_; rintro e w' ⟨rfl, rfl⟩)
            go_round
            case rel => exact ⟨k + 1, _, by omega, by go_num, rfl, HE.out, .inr ⟨rfl, HO.out⟩⟩
            case measure => simp [intOf]; omega
        · have HO := Lib.hid (Nat.lt_of_lt_of_le hm (numK_mono s (Nat.le_succ k)))
          clear hm
          go_wp2_with (go_at_call 53; refine (HL2.out _).mono ?_; rintro e w' ⟨rfl, rfl⟩)
          go_round
          case rel => exact ⟨k + 1, _, by omega, by go_num, rfl, HE.out, .inr ⟨rfl, HO.out⟩⟩
          case measure => simp [intOf]; omega
    · obtain rfl : k = s.size := by omega
      have hall : allB digB s = true := allB_yes fun j hj => HD.out j hj hj
      rcases ho with ⟨rfl, rfl, hm⟩ | ⟨rfl, hm⟩
      · have HV := Lib.hid (parV_ok h0 hall hm)
        clear hall
        go_wp2
        go_ret2
        exact ⟨by rw [HV.out]; first | done | rfl, rfl⟩
      · have HV := Lib.hid (parV_range h0 hall hm)
        clear hall
        go_wp2
        go_ret2
        exact ⟨by rw [HV.out]; first | done | rfl, rfl⟩

end Go.Proofs.YtagbndkfbnlpoaaGreatDoor
