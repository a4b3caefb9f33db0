/-
  What Sort of package header answers: the library's stable sort, by insertion. Conditions: texts are shorter than a mebibyte, and there are less than 20 headers.
  What Set of package header answers. Condition: texts are shorter than a mebibyte, headers less than that.
-/
import Derived.Test.YtjikahflbhgniaaZ14
import Derived.Test.YtjikahflbhgniaaZ10
import Derived.Test.YtjikahflbhgniaaZ5
import Derived.BigRegion
import Derived.IntWalk
import Derived.Test.YtjikahflbhgniaaZ15
import Derived.Deep.RegionHeld3
import Derived.Deep.RegionWith
import Derived.Deep.DeepCutAuto
namespace Go.Proofs.Ytjikahflbhgniaa
open Go.RowKit Go.Op

/-- A world behind w. -/
def AftH (w : World) (W : World) : Prop := Below w.heap.size w W
theorem AftH.drew {w W : World} (h : AftH w W) : AftH w W.drew := Below.drew h
theorem AftH.next {w : World} {x : Wld (AftH w)} {W' : World} (hb : Below x.val.heap.size x.val W') : AftH w W' := Below.trans x.ok (hb.mono (Below.size x.ok))

theorem compare_less : ∀ a b : List UInt8, decide (Lib.compareBytes a b < 0) = bytesLess a b
  | [], [] => rfl
  | [], _ :: _ => rfl
  | _ :: _, [] => rfl
  | a :: x, b :: y => by
    have ih := compare_less x y
    rw [Lib.compareBytes, bytesLess]
    by_cases h1 : a < b
    · simp [h1]
    · rw [if_neg h1]
      by_cases h2 : b < a
      · have hne : a ≠ b := fun e => by subst e; exact h1 h2
        simp [h1, h2, hne]
      · have e : a = b := UInt8.le_antisymm (UInt8.not_lt.1 h2) (UInt8.not_lt.1 h1)
        subst e
        rw [if_neg h2, ih]
        simp [h1]

set_option maxHeartbeats 400000 in
theorem cmp1_any (p q : Prm) (w : World) :
    Calls Try.prog 40 #[.agg #[.string p.n, .string p.v], .agg #[.string q.n, .string q.v]] w fun e w' => e = .returned (.int .i64 (Lib.compareBytes p.n.data.toList q.n.data.toList)) ∧ Below w.heap.size w w' := by
  have HS := Lib.hid (fun W => (strings_Compare p.n q.n W))
  generalize Lib.compareBytes p.n.data.toList q.n.data.toList = r at *
  obtain ⟨pn, pv⟩ := p
  obtain ⟨qn, qv⟩ := q
  simp only at HS ⊢
  have HB := Lib.hid (((Below.refl w.heap.size w).alloc (Nat.le_refl _) (.cells #[.string pn, .string pv] 53)).alloc (by simp) (.cells #[.string qn, .string qv] 53))
  go_enter Try.func40, Try.ntmps40
  go_wp2_with (go_at_call 41; (with_reducible refine (HS.out _).mono ?_); rintro e w1 ⟨rfl, hw⟩; rw [hw])
  go_ret
  exact ⟨rfl, HB.out⟩

/-- Two neighbours change places. -/
theorem swap_two (X R : List Prm) (y h : Prm) : ((X ++ y :: h :: R).set (X.length + 1) y).set X.length h = X ++ h :: y :: R := by
  induction X with
  | nil => rfl
  | cons a r _ => simp

theorem swap_two' (X R : List Prm) (y h : Prm) : ((X ++ y :: h :: R).set X.length h).set (X.length + 1) y = X ++ h :: y :: R := by
  induction X with
  | nil => rfl
  | cons a r _ => simp

theorem OwnHd.at2 {w : World} {base c g : Nat} {l : List Prm} (h : OwnHd w base (some ⟨g, 0, none⟩) c l) {k : Nat} (hk : k < l.length) :
    (w.cell? ⟨g, k * 2, none⟩ = some (.string l[k].n) ∧ w.cell? ⟨g, k * 2 + 1, none⟩ = some (.string l[k].v)) ∧ w.frozen? ⟨g, k * 2, none⟩ = false ∧ w.frozen? ⟨g, k * 2 + 1, none⟩ = false := by
  obtain ⟨g', e, _, c0, c1⟩ := h.ps k hk
  cases e
  exact ⟨⟨c0, c1⟩, (own_cell (i := k * 2) h (by omega)).2, (own_cell (i := k * 2 + 1) h (by omega)).2⟩

/-- What a list is in order. -/
def SortOf (L out : List Prm) : Prop := InOrder out ∧ ∀ x, ofN x out = ofN x L
theorem SortOf.step {L S : List Prm} {i j : Nat} (hi : i < L.length) (hs : SortOf (L.take i) S) (h1 : ∀ x ∈ S.take j, lssN L[i] x = false) (h2 : ∀ x ∈ S.drop j, lssN L[i] x = true) :
    SortOf (L.take (i + 1)) (S.take j ++ L[i] :: S.drop j) := by
  obtain ⟨g1, g2⟩ := put_order hs.1 h1 h2
  refine ⟨g1, fun x => ?_⟩
  rw [g2, List.take_succ_eq_append_getElem hi]
  unfold ofN
  rw [List.filter_append, List.filter_append]
  have := hs.2 x
  unfold ofN at this
  rw [this]
/-- The row while a header is moved down. -/
def rowD (S R : List Prm) (h : Prm) (j : Nat) : List Prm := S.take j ++ h :: (S.drop j ++ R)
theorem rowD_len {S R : List Prm} {h : Prm} {j : Nat} : (rowD S R h j).length = S.length + 1 + R.length := by
  unfold rowD
  simp
  omega
theorem rowD_at {S R : List Prm} {h : Prm} {j : Nat} (hj : j ≤ S.length) : ∃ hk : j < (rowD S R h j).length, (rowD S R h j)[j] = h := by
  refine ⟨by rw [rowD_len]; omega, ?_⟩
  unfold rowD
  rw [List.getElem_append_right (by simp; omega)]
  simp [Nat.min_eq_left hj]
theorem rowD_split {S R : List Prm} {h : Prm} {m : Nat} (hm : m < S.length) : rowD S R h (m + 1) = S.take m ++ S[m] :: h :: (S.drop (m + 1) ++ R) ∧ rowD S R h m = S.take m ++ h :: S[m] :: (S.drop (m + 1) ++ R) := by
  unfold rowD
  constructor
  · rw [List.take_succ_eq_append_getElem hm, List.append_assoc]; rfl
  · rw [List.drop_eq_getElem_cons hm]; rfl
theorem rowD_before {S R : List Prm} {h : Prm} {m : Nat} (hm : m < S.length) : ∃ hk : m < (rowD S R h (m + 1)).length, (rowD S R h (m + 1))[m] = S[m] := by
  refine ⟨by rw [rowD_len]; omega, ?_⟩
  simp only [(rowD_split hm).1]
  rw [List.getElem_append_right (by simp; omega)]
  simp [Nat.min_eq_left (Nat.le_of_lt hm)]
theorem rowD_swap {S R : List Prm} {h : Prm} {m : Nat} (hm : m < S.length) : ((rowD S R h (m + 1)).set (m + 1) S[m]).set m h = rowD S R h m := by
  obtain ⟨e1, e2⟩ := rowD_split (R := R) (h := h) hm
  have := swap_two (S.take m) (S.drop (m + 1) ++ R) S[m] h
  rw [List.length_take, Nat.min_eq_left (Nat.le_of_lt hm)] at this
  rw [e1, e2, this]
theorem rowD_top {L S : List Prm} {i : Nat} (hi : i < L.length) (hs : S.length = i) : rowD S (L.drop (i + 1)) L[i] i = S ++ L.drop i := by
  unfold rowD
  rw [List.take_of_length_le (by omega), List.drop_of_length_le (by omega), List.nil_append, ← List.drop_eq_getElem_cons hi]
theorem rowD_done {S R : List Prm} {h : Prm} {j : Nat} : rowD S R h j = (S.take j ++ h :: S.drop j) ++ R := by
  unfold rowD
  simp

set_option maxHeartbeats 4000000 in
set_option maxRecDepth 100000 in
theorem insertion_any (g base c : Nat) (L : List Prm) (w : World) (h : OwnHd w base (some ⟨g, 0, none⟩) c L) (hn : L.length ≤ 1048576) (hb : base ≤ w.heap.size) :
    Calls Try.prog 78 #[.slice (some ⟨g, 0, none⟩) L.length c, .int .i64 0, .int .i64 L.length, .func (.func 40) #[] #[]] w fun e w' => e = .returned (.tuple #[]) ∧ ∃ D, SortOf L D ∧ D.length = L.length ∧ OwnHd w' base (some ⟨g, 0, none⟩) c D ∧ Below base w w' := by
  have HO := Lib.hid h
  obtain ⟨_, e, hg1, hg2⟩ := h.at0
  cases e
  clear h
  by_cases hn0 : L.length = 0
  · have HE := Lib.hid (List.length_eq_zero_iff.1 hn0)
    have hlt : ¬ ((1 : Int) < (L.length : Int)) := by omega
    have HSL := Lib.hid (show SortOf L L from by rw [HE.out]; exact ⟨List.Pairwise.nil, fun _ => rfl⟩)
    clear hn0 HE
    go_enter Try.func78, Try.ntmps78
    go_wp2
    go_loop [8] (fun i => i = .int .i64 1) (fun _ => 0)
    case atStart => rfl
    case round =>
      obtain rfl := hrel
      go_wp2
      go_end0
      exact ⟨rfl, L, HSL.out, rfl, HO.out, Below.refl _ _⟩
  · go_enter Try.func78, Try.ntmps78
    go_wp2
    go_loopw [8] (fun i wr => ∃ (k : Nat) (S : List Prm), 1 ≤ k ∧ k ≤ L.length ∧ i = .int .i64 k ∧ Hid (S.length = k) ∧ Hid (SortOf (L.take k) S) ∧ Hid (OwnHd wr base (some ⟨g, 0, none⟩) c (S ++ L.drop k)) ∧ Hid (Below base w wr)) (fun i _ => L.length - (intOf i).toNat)
    case atStart =>
      have h0 : 0 < L.length := by omega
      exact ⟨1, L.take 1, by omega, by omega, rfl, Lib.hid (by rw [List.length_take]; omega), Lib.hid (by rw [List.take_succ_eq_append_getElem h0]; exact ⟨List.pairwise_singleton _ _, fun _ => rfl⟩), Lib.hid (by rw [List.take_append_drop]; exact HO.out), Lib.hid (Below.refl _ _)⟩
    case round =>
      obtain ⟨k, S, hk1, hk, rfl, HSL, HSO, HOr, HBr⟩ := hrel
      by_cases hlt : k < L.length
      · have HTOP := Lib.hid (rowD_top hlt HSL.out)
        have HSTEP := Lib.hid (fun j h1 h2 => HSO.out.step (j := j) hlt h1 h2)
        have HORD := Lib.hid HSO.out.1
        obtain ⟨R, hR⟩ : ∃ R, R = L.drop (k + 1) := ⟨_, rfl⟩
        have HR := Lib.hid hR
        obtain ⟨p, hp⟩ : ∃ p, L[k] = p := ⟨_, rfl⟩
        rw [hp, ← hR] at HTOP
        rw [hp] at HSTEP
        have HRL := Lib.hid (show R.length + (k + 1) = L.length from by rw [hR, List.length_drop]; omega)
        clear hp hR HSO
        have HOk := Lib.hid (show OwnHd wr base (some ⟨g, 0, none⟩) c (rowD S R p k) from by rw [HTOP.out]; exact HOr.out)
        clear HOr HTOP
        go_wp2_with fail
        go_loopw [9] (fun j wq => ∃ m : Nat, m ≤ k ∧ j = .int .i64 m ∧ Hid (∀ x ∈ S.drop m, lssN p x = true) ∧ Hid (OwnHd wq base (some ⟨g, 0, none⟩) c (rowD S R p m)) ∧ Hid (Below base w wq)) (fun j _ => (intOf j).toNat)
        case atStart => exact ⟨k, by omega, rfl, Lib.hid (by rw [List.drop_of_length_le (by rw [HSL.out]; exact Nat.le_refl _)]; intro x hx; cases hx), HOk, HBr⟩
        case round =>
          obtain ⟨j, hj, rfl, HJ, HOj, HBj⟩ := hrel
          have hwr : base ≤ wr.heap.size := Nat.le_trans hb HBj.out.size
          rcases Nat.eq_zero_or_pos j with h0 | h0
          · subst h0
            have HS2 := Lib.hid (HSTEP.out 0 (fun x hx => by simp at hx) HJ.out)
            have HS3 := Lib.hid (show (S.take 0 ++ p :: S.drop 0).length = k + 1 from by simp [HSL.out])
            have HOf := Lib.hid (show OwnHd wr base (some ⟨g, 0, none⟩) c ((S.take 0 ++ p :: S.drop 0) ++ R) from by rw [← rowD_done]; exact HOj.out)
            go_wp2_with fail
            go_quiet (fail)
            go_wp2_with fail
            go_roundw
            case rel => exact ⟨k + 1, S.take 0 ++ p :: S.drop 0, by omega, by omega, by go_num, HS3, HS2, Lib.hid (by rw [← HR.out]; exact HOf.out), Lib.hid (Below.drewN' HBj.out _)⟩
            case measure => simp [intOf]; omega
          · obtain ⟨m, hm⟩ : ∃ m, j = m + 1 := ⟨j - 1, by omega⟩
            have hmS : m < S.length := by rw [HSL.out]; omega
            have hjS : j ≤ S.length := by rw [HSL.out]; omega
            obtain ⟨hjD, hDj⟩ := rowD_at (R := R) (h := p) hjS
            obtain ⟨hmD, hDm⟩ := rowD_before (R := R) (h := p) hmS
            simp only [← hm] at hmD hDm
            have HSW := Lib.hid (rowD_swap (R := R) (h := p) hmS)
            simp only [← hm] at HSW
            have HSP := Lib.hid (show rowD S R p j = S.take m ++ S[m] :: p :: (S.drop (m + 1) ++ R) from by rw [hm]; exact (rowD_split hmS).1)
            have HDR := Lib.hid (show S.drop m = S[m] :: S.drop (m + 1) from List.drop_eq_getElem_cons hmS)
            have HRUN := Lib.hid (show lssN p S[m] = false → ∀ x ∈ S.take j, lssN p x = false from fun h => by rw [hm]; exact run_order HORD.out hmS h)
            obtain ⟨q, hq⟩ : ∃ q, S[m] = q := ⟨_, rfl⟩
            rw [hq] at hDm HSW HSP HDR HRUN
            have HOa := Lib.hid (show ∀ W, Below wr.heap.size wr W → ((W.cell? ⟨g, j * 2, none⟩ = some (.string p.n) ∧ W.cell? ⟨g, j * 2 + 1, none⟩ = some (.string p.v)) ∧ W.frozen? ⟨g, j * 2, none⟩ = false ∧ W.frozen? ⟨g, j * 2 + 1, none⟩ = false) ∧ ((W.cell? ⟨g, m * 2, none⟩ = some (.string q.n) ∧ W.cell? ⟨g, m * 2 + 1, none⟩ = some (.string q.v)) ∧ W.frozen? ⟨g, m * 2, none⟩ = false ∧ W.frozen? ⟨g, m * 2 + 1, none⟩ = false) from fun W hW => by
              have ho := HOj.out.below hW (Nat.le_refl _)
              have h1 := ho.at2 hjD
              have h2 := ho.at2 hmD
              rw [hDj] at h1
              rw [hDm] at h2
              exact ⟨h1, h2⟩)
            clear hq hDj hDm
            have hjL : j < L.length := by omega
            have hmL : m < L.length := by omega
            have HJM := Lib.hid hm
            have hsub : (j : Int) - 1 = (m : Int) := by omega
            have hsub2 : IntKind.i64.wrap ((j : Int) - 1) = (m : Int) := by rw [hsub]; exact IntWalk.i64_in _ (by omega)
            have hgd : decide ((0 : Int) < (j : Int)) = true := by simpa using h0
            obtain ⟨r, hr⟩ : ∃ r, r = Lib.compareBytes p.n.data.toList q.n.data.toList := ⟨_, rfl⟩
            have HC := Lib.hid (fun W => cmp1_any p q W)
            have HRL2 := Lib.hid (show decide (r < 0) = lssN p q from by rw [hr, compare_less]; unfold lssN; rw [Lib.toList_data, Lib.toList_data])
            rw [← hr] at HC
            have f0 : ∀ x : Wld (AftH wr), x.val.cell? ⟨g, j * 2, none⟩ = some (.string p.n) := fun x => (HOa.out _ x.ok).1.1.1
            have f1 : ∀ x : Wld (AftH wr), x.val.cell? ⟨g, j * 2 + 1, none⟩ = some (.string p.v) := fun x => (HOa.out _ x.ok).1.1.2
            have f2 : ∀ x : Wld (AftH wr), x.val.cell? ⟨g, m * 2, none⟩ = some (.string q.n) := fun x => (HOa.out _ x.ok).2.1.1
            have f3 : ∀ x : Wld (AftH wr), x.val.cell? ⟨g, m * 2 + 1, none⟩ = some (.string q.v) := fun x => (HOa.out _ x.ok).2.1.2
            have inst : Nonempty (Wld (AftH wr)) := ⟨⟨wr, Below.refl _ _⟩⟩
            clear hr hm hjD hmD hsub
            cases hb : lssN p q
            · have hrd : decide (r < 0) = false := by rw [HRL2.out, hb]
              have HS2 := Lib.hid (HSTEP.out j (HRUN.out hb) HJ.out)
              have HS3 := Lib.hid (show (S.take j ++ p :: S.drop j).length = k + 1 from by simp [HSL.out]; omega)
              have HOf := Lib.hid (show OwnHd wr base (some ⟨g, 0, none⟩) c ((S.take j ++ p :: S.drop j) ++ R) from by rw [← rowD_done]; exact HOj.out)
              clear hb
              go_wp2_with fail
              refine wp_region_class (AftH wr) (by kernel_rfl) (by kernel_rfl) (AftH.drew (Below.refl _ _)) ?_
              repeat (go_big_quiet_step ((go_at_call 40; exact Calls.cls (HC.out _) fun _ h => AftH.next h)))
              refine wpQuiet_nil ?_
              intro w2 h2
              have HB2 := Lib.hid h2
              clear h2
              go_wp2_with fail
              go_roundw
              case rel => exact ⟨k + 1, S.take j ++ p :: S.drop j, by omega, by omega, by go_num, HS3, HS2, Lib.hid (by rw [← HR.out]; exact HOf.out.below HB2.out (Nat.le_refl _)), Lib.hid (HBj.out.trans (HB2.out.mono hwr))⟩
              case measure => simp [intOf]; omega
            · have hrd : decide (r < 0) = true := by rw [HRL2.out, hb]
              have HJ2 := Lib.hid (show ∀ x ∈ S.drop m, lssN p x = true from fun x hx => by
                rw [HDR.out] at hx
                rcases List.mem_cons.1 hx with rfl | hx
                · exact hb
                · exact HJ.out x (by rw [HJM.out]; exact hx))
              clear hb
              go_wp2_with fail
              refine wp_region_class (AftH wr) (by kernel_rfl) (by kernel_rfl) (AftH.drew (Below.refl _ _)) ?_
              repeat (go_big_quiet_step ((go_at_call 40; exact Calls.cls (HC.out _) fun _ h => AftH.next h)))
              refine wpQuiet_nil ?_
              intro w2 h2
              have HB2 := Lib.hid h2
              obtain ⟨⟨⟨c0, c1⟩, z0, z1⟩, ⟨c2, c3⟩, z2, z3⟩ := HOa.out _ h2
              have HO2 := Lib.hid (HOj.out.below h2 (Nat.le_refl _))
              clear h2
              have n1 : m ≠ j := by have := HJM.out; omega
              have n2 : j ≠ m := by have := HJM.out; omega
              have n3 : m * 2 ≠ j * 2 + 1 := by omega
              have n4 : j * 2 + 1 ≠ m * 2 := by omega
              have n5 : m * 2 + 1 ≠ j * 2 := by omega
              have n6 : j * 2 ≠ m * 2 + 1 := by omega
              have HSWO := Lib.hid (show OwnHd (((((w2.setCell ⟨g, j * 2, none⟩ (.string q.n)).setCell ⟨g, j * 2 + 1, none⟩ (.string q.v)).setCell ⟨g, m * 2, none⟩ (.string p.n)).setCell ⟨g, m * 2 + 1, none⟩ (.string p.v))) base (some ⟨g, 0, none⟩) c (rowD S R p m) from by rw [← HSW.out]; exact (HO2.out.set j q).set m p)
              go_wp2_with fail
              go_region
              go_wp2
              go_roundw
              case rel => exact ⟨m, by have := HJM.out; omega, rfl, HJ2, HSWO, Lib.hid (((((HBj.out.trans (HB2.out.mono hwr)).setCell (p := ⟨g, j * 2, none⟩) hg1 _).setCell (p := ⟨g, j * 2 + 1, none⟩) hg1 _).setCell (p := ⟨g, m * 2, none⟩) hg1 _).setCell (p := ⟨g, m * 2 + 1, none⟩) hg1 _).drew⟩
              case measure => simp [intOf]; have := HJM.out; omega
      · obtain rfl : k = L.length := by omega
        go_wp2
        go_end0
        exact ⟨rfl, S, by have := HSO.out; rwa [List.take_length] at this, HSL.out, by have := HOr.out; rwa [List.drop_length, List.append_nil] at this, HBr.out⟩

set_option maxHeartbeats 2000000 in
set_option maxRecDepth 100000 in
theorem stable_any (g base c : Nat) (L : List Prm) (w : World) (h : OwnHd w base (some ⟨g, 0, none⟩) c L) (hn : L.length < 20) (hb : base ≤ w.heap.size) :
    Calls Try.prog 61 #[.slice (some ⟨g, 0, none⟩) L.length c, .int .i64 L.length, .func (.func 40) #[] #[]] w fun e w' => e = .returned (.tuple #[]) ∧ ∃ D, SortOf L D ∧ D.length = L.length ∧ OwnHd w' base (some ⟨g, 0, none⟩) c D ∧ Below base w w' := by
  have HI := Lib.hid (insertion_any g base c L w h (by omega) hb)
  clear h
  go_enter Try.func61, Try.ntmps61
  go_wp2
  go_loop [7, 8] (fun a b => a = .int .i64 0 ∧ b = .int .i64 20) (fun _ _ => 0)
  case atStart => exact ⟨rfl, rfl⟩
  case round =>
    obtain ⟨rfl, rfl⟩ := hrel
    have h20 : ¬ ((20 : Int) ≤ (L.length : Int)) := by omega
    have h21 : ¬ (20 ≤ L.length) := by omega
    go_wp2_with fail
    refine HI.out.mono ?_
    rintro e w1 ⟨rfl, D, hD, hDl, ho, b1⟩
    have HD := Lib.hid hD
    have HDL := Lib.hid hDl
    have HO := Lib.hid ho
    have HB := Lib.hid b1
    clear hD hDl ho b1
    go_wp2
    go_loop [6] (fun a => a = .int .i64 20) (fun _ => 0)
    case atStart => rfl
    case round =>
      obtain rfl := hrel
      have h22 : ¬ ((20 : Int) < (L.length : Int)) := by omega
      have h23 : ¬ (20 < L.length) := by omega
      go_wp2
      go_end0
      exact ⟨rfl, D, HD.out, HDL.out, HO.out, HB.out⟩

set_option maxHeartbeats 1000000 in
theorem sortStable_any (g base c : Nat) (L : List Prm) (w : World) (h : OwnHd w base (some ⟨g, 0, none⟩) c L) (hn : L.length < 20) (hb : base ≤ w.heap.size) :
    Calls Try.prog 39 #[.slice (some ⟨g, 0, none⟩) L.length c, .func (.func 40) #[] #[]] w fun e w' => e = .returned (.tuple #[]) ∧ ∃ D, SortOf L D ∧ D.length = L.length ∧ OwnHd w' base (some ⟨g, 0, none⟩) c D ∧ Below base w w' := by
  have HI := Lib.hid (stable_any g base c L w h hn hb)
  clear h
  go_enter Try.func39, Try.ntmps39
  go_wp2_with fail
  refine HI.out.mono ?_
  rintro e w1 ⟨rfl, D, hD, hDl, ho, b1⟩
  have HD := Lib.hid hD
  have HDL := Lib.hid hDl
  have HO := Lib.hid ho
  have HB := Lib.hid b1
  clear hD hDl ho b1
  go_wp2
  go_end0
  exact ⟨rfl, D, HD.out, HDL.out, HO.out, HB.out⟩

set_option maxHeartbeats 1000000 in
set_option maxRecDepth 100000 in
theorem insertion_nil (A : Option Addr) (c : Nat) (w : World) :
    Calls Try.prog 78 #[.slice A 0 c, .int .i64 0, .int .i64 0, .func (.func 40) #[] #[]] w fun e w' => e = .returned (.tuple #[]) ∧ w = w' := by
  go_enter Try.func78, Try.ntmps78
  go_wp2
  go_loop [8] (fun i => i = .int .i64 1) (fun _ => 0)
  case atStart => rfl
  case round =>
    obtain rfl := hrel
    go_wp2
    go_end0
    exact ⟨rfl, rfl⟩
set_option maxHeartbeats 1000000 in
set_option maxRecDepth 100000 in
theorem stable_nil (A : Option Addr) (c : Nat) (w : World) :
    Calls Try.prog 61 #[.slice A 0 c, .int .i64 0, .func (.func 40) #[] #[]] w fun e w' => e = .returned (.tuple #[]) ∧ w = w' := by
  go_enter Try.func61, Try.ntmps61
  go_wp2
  go_loop [7, 8] (fun a b => a = .int .i64 0 ∧ b = .int .i64 20) (fun _ _ => 0)
  case atStart => exact ⟨rfl, rfl⟩
  case round =>
    obtain ⟨rfl, rfl⟩ := hrel
    go_wp2_with fail
    refine (insertion_nil A c w).mono ?_
    rintro e w1 ⟨rfl, rfl⟩
    go_wp2
    go_loop [6] (fun a => a = .int .i64 20) (fun _ => 0)
    case atStart => rfl
    case round =>
      obtain rfl := hrel
      go_wp2
      go_end0
      exact ⟨rfl, rfl⟩
theorem sortStable_nil (A : Option Addr) (c : Nat) (w : World) :
    Calls Try.prog 39 #[.slice A 0 c, .func (.func 40) #[] #[]] w fun e w' => e = .returned (.tuple #[]) ∧ w = w' := by
  go_enter Try.func39, Try.ntmps39
  go_wp2_with fail
  refine (stable_nil A c w).mono ?_
  rintro e w1 ⟨rfl, rfl⟩
  go_wp2
  go_end0
  exact ⟨rfl, rfl⟩

theorem prmL_setn : ∀ (l : List Prm) (k : Nat) (hk : k < l.length) (x : ByteArray), prmL (l.set k ⟨x, l[k].v⟩) = (prmL l).set (k * 2) (.string x)
  | q :: r, 0, _, x => by simp [prmL]
  | q :: r, k + 1, hk, x => by
    have hkr : k < r.length := by simpa using hk
    have ih := prmL_setn r k hkr x
    have e : prmL (q :: r) = .string q.n :: .string q.v :: prmL r := by simp [prmL]
    have e2 : prmL (q :: r.set k ⟨x, r[k].v⟩) = .string q.n :: .string q.v :: prmL (r.set k ⟨x, r[k].v⟩) := by simp [prmL]
    rw [List.set_cons_succ]
    simp only [List.getElem_cons_succ]
    rw [e2, ih, e, show (k + 1) * 2 = k * 2 + 1 + 1 by omega]
    rfl
theorem OwnHd.setn {w : World} {base c g : Nat} {l : List Prm} (h : OwnHd w base (some ⟨g, 0, none⟩) c l) {k : Nat} (hk : k < l.length) (x : ByteArray) :
    OwnHd (w.setCell ⟨g, k * 2, none⟩ (.string x)) base (some ⟨g, 0, none⟩) c (l.set k ⟨x, l[k].v⟩) := by
  have := own_set1 h (k * 2) (.string x)
  rw [← prmL_setn l k hk] at this
  unfold OwnHd
  rw [List.length_set]
  exact this
/-- The first k names in small letters. -/
def lowK (l : List Prm) (k : Nat) : List Prm := (l.take k).map lwrN ++ l.drop k
theorem lowK_len (l : List Prm) {k : Nat} (hk : k ≤ l.length) : (lowK l k).length = l.length := by
  unfold lowK
  simp
  omega
theorem lowK_at (l : List Prm) {k : Nat} (hk : k < l.length) : ∃ h : k < (lowK l k).length, (lowK l k)[k] = l[k] := by
  refine ⟨by rw [lowK_len l (by omega)]; exact hk, ?_⟩
  unfold lowK
  rw [List.getElem_append_right (by simp; omega)]
  simp [Nat.min_eq_left (Nat.le_of_lt hk)]
theorem set_at (X R : List Prm) (a b : Prm) : (X ++ a :: R).set X.length b = X ++ b :: R := by
  induction X with
  | nil => rfl
  | cons y r _ => simp
theorem lowK_step (l : List Prm) {k : Nat} (hk : k < l.length) : (lowK l k).set k (lwrN l[k]) = lowK l (k + 1) := by
  unfold lowK
  have e1 : ((l.take k).map lwrN).length = k := by simp; omega
  rw [List.drop_eq_getElem_cons hk, List.take_succ_eq_append_getElem hk, List.map_append, List.append_assoc]
  have := set_at ((l.take k).map lwrN) (l.drop (k + 1)) l[k] (lwrN l[k])
  rw [e1] at this
  exact this
theorem lowK_zero (l : List Prm) : lowK l 0 = l := rfl
theorem lowK_all (l : List Prm) : lowK l l.length = l.map lwrN := by
  unfold lowK
  simp

set_option maxHeartbeats 2000000 in
set_option maxRecDepth 100000 in
theorem hsort_any (A : Option Addr) (c : Nat) (l : List Prm) (w : World) (h : HdIn w A l) (ha : AllIn 1048576 l) (hn : l.length < 20) :
    Calls Try.prog 19 #[.slice A l.length c] w fun e w' => ∃ A' c' D, e = .returned (.slice A' D.length c') ∧ Sorted l D ∧ OwnHd w' w.heap.size A' c' D ∧ Below w.heap.size w w' := by
  have HC := Lib.hid (hclone_any A c l w h (by omega))
  have HA := Lib.hid ha
  clear h ha
  go_enter Try.func19, Try.ntmps19
  go_wp2_with fail
  refine HC.out.mono ?_
  rintro e w1 ⟨A1, c1, rfl, ho1, b1⟩
  cases A1 with
  | none =>
    have hl := ho1.nil_of
    subst hl
    have HB := Lib.hid b1
    have HO := Lib.hid ho1
    clear b1 ho1 HC
    go_wp2_with fail
    go_loop [9] (fun i => i = .int .i64 0) (fun _ => 0)
    case atStart => rfl
    case round =>
      obtain rfl := hrel
      go_wp2_with fail
      refine (sortStable_nil none c1 w1).mono ?_
      rintro e w2 ⟨rfl, rfl⟩
      go_wp2
      go_ret
      exact ⟨none, c1, [], rfl, Sorted.nil, HO.out, HB.out⟩
  | some a =>
    obtain ⟨g, rfl, hg1, hg2⟩ := ho1.at0
    have HO1 := Lib.hid ho1
    have HB1 := Lib.hid b1
    have hw1 : w.heap.size ≤ w1.heap.size := b1.size
    clear b1 ho1 HC
    go_wp2_with fail
    go_loopw [9] (fun i wr => ∃ k : Nat, k ≤ l.length ∧ i = .int .i64 k ∧ Hid (OwnHd wr w.heap.size (some ⟨g, 0, none⟩) c1 (lowK l k)) ∧ Hid (Below w.heap.size w wr)) (fun i _ => l.length - (intOf i).toNat)
    case atStart => exact ⟨0, by omega, rfl, Lib.hid (by rw [lowK_zero]; exact HO1.out), HB1⟩
    case round =>
      obtain ⟨k, hk, rfl, HOr, HBr⟩ := hrel
      have hwr : w.heap.size ≤ wr.heap.size := HBr.out.size
      by_cases hlt : k < l.length
      · obtain ⟨hkD, hDk⟩ := lowK_at l hlt
        have hsz := HA.out.at_ hlt
        have HST := Lib.hid (lowK_step l hlt)
        have HAT := Lib.hid (fun W (ho : OwnHd W w.heap.size (some ⟨g, 0, none⟩) c1 (lowK l k)) => ho.at2 hkD)
        have HSN := Lib.hid (fun W (ho : OwnHd W w.heap.size (some ⟨g, 0, none⟩) c1 (lowK l k)) x => ho.setn hkD x)
        rw [hDk] at HAT HSN
        obtain ⟨p, hp⟩ : ∃ p, l[k] = p := ⟨_, rfl⟩
        rw [hp] at hsz HST HAT HSN
        clear hDk hp hkD
        obtain ⟨⟨c0, c1'⟩, z0, z1⟩ := HAT.out _ HOr.out
        have HL := Lib.hid (fun W => lowerS_any p.n W (by omega))
        have HE : Hid (lwrN p = ⟨lowS p.n, p.v⟩) := Lib.hid rfl
        obtain ⟨x, hx⟩ : ∃ x, x = lowS p.n := ⟨_, rfl⟩
        rw [← hx] at HE HL
        clear hx
        go_wp2_with (go_at_call 38; (with_reducible refine (HL.out _).mono ?_); rintro e w2 ⟨rfl, b2⟩; have HO2 := Lib.hid (HOr.out.below b2 (Nat.le_refl _)); have HB2 := Lib.hid (HBr.out.trans (b2.mono hwr)); obtain ⟨⟨d0, d1⟩, y0, y1⟩ := HAT.out _ HO2.out; clear b2)
        go_roundw
        case rel => exact ⟨k + 1, by omega, by go_num, Lib.hid (by rw [← HST.out, HE.out]; exact HSN.out _ HO2.out x), Lib.hid (HB2.out.setCell (p := ⟨g, k * 2, none⟩) hg1 _)⟩
        case measure => simp [intOf]; omega
      · obtain rfl : k = l.length := by omega
        have HLL := Lib.hid (show (l.map lwrN).length = l.length from by simp)
        have HS := Lib.hid (sortStable_any g w.heap.size c1 (l.map lwrN) wr (by rw [← lowK_all]; exact HOr.out) (by rw [HLL.out]; exact hn) hwr)
        rw [HLL.out] at HS
        go_wp2_with fail
        refine HS.out.mono ?_
        rintro e w2 ⟨rfl, D, hD, hDl, ho, b2⟩
        have HD := Lib.hid hD
        have HDL := Lib.hid hDl
        have HO := Lib.hid ho
        have HB := Lib.hid (HBr.out.trans b2)
        clear hD hDl ho b2
        go_wp2
        go_ret
        exact ⟨_, c1, D, by rw [HDL.out]; rfl, HD.out, HO.out, HB.out⟩

end Go.Proofs.Ytjikahflbhgniaa
namespace Go.Proofs.Ytjikahflbhgniaa
open Go.RowKit

theorem HdIn.one {W : World} {b : Nat} {p : Prm} (h : Blk W b 53 #[.string p.n, .string p.v]) : HdIn W (some ⟨b, 0, none⟩) [p] := fun i hi => by
  obtain rfl : i = 0 := by simpa using hi
  exact ⟨_, rfl, h.lt, h.cell 0, h.cell 1⟩
theorem HdIn.nil (W : World) (A : Option Addr) : HdIn W A [] := fun i h => absurd h (by simp)
theorem rws_three {W : World} {b hb k c c3 : Nat} {a : Addr} {A3 : Option Addr} {l m : List Prm} {p : Prm} (hk : k ≤ l.length) (h1 : HdIn W (some a) l) (h2 : Blk W hb 53 #[.string p.n, .string p.v]) (h3 : HdIn W A3 m)
    (hb3 : Blk W b 22 #[.slice (some a) k c, .slice (some ⟨hb, 0, none⟩) 1 1, .slice A3 m.length c3]) : RwsIn W b [⟨some a, l.take k, c⟩, ⟨some ⟨hb, 0, none⟩, [p], 1⟩, ⟨A3, m, c3⟩] := by
  refine ⟨hb3.lt, fun i hi => ?_⟩
  match i, hi with
  | 0, _ => exact ⟨by rw [hb3.cell]; show some (Value.slice (some a) k c) = some (Value.slice (some a) (l.take k).length c); rw [List.length_take, Nat.min_eq_left hk], h1.head k⟩
  | 1, _ => exact ⟨by rw [hb3.cell]; rfl, HdIn.one h2⟩
  | 2, _ => exact ⟨by rw [hb3.cell]; rfl, h3⟩
theorem rws_two {W : World} {b hb c : Nat} {A : Option Addr} {l : List Prm} {p : Prm} (h1 : HdIn W A l) (h2 : Blk W hb 53 #[.string p.n, .string p.v])
    (hb3 : Blk W b 22 #[.slice A l.length c, .slice (some ⟨hb, 0, none⟩) 1 1]) : RwsIn W b [⟨A, l, c⟩, ⟨some ⟨hb, 0, none⟩, [p], 1⟩] := by
  refine ⟨hb3.lt, fun i hi => ?_⟩
  match i, hi with
  | 0, _ => exact ⟨by rw [hb3.cell]; rfl, h1⟩
  | 1, _ => exact ⟨by rw [hb3.cell]; rfl, HdIn.one h2⟩

theorem rws_old {W : World} {hb k c c3 : Nat} {a : Addr} {A3 : Option Addr} {l m : List Prm} (n v : ByteArray) (hk : k ≤ l.length) (h1 : HdIn W (some a) l) (h2 : Blk W hb 53 #[.string n, .string v]) (h3 : HdIn W A3 m) :
    RwsIn (W.alloc (.cells #[.slice (some a) k c, .slice (some ⟨hb, 0, none⟩) 1 1, .slice A3 m.length c3] 22)) W.heap.size [⟨some a, l.take k, c⟩, ⟨some ⟨hb, 0, none⟩, [⟨n, v⟩], 1⟩, ⟨A3, m, c3⟩] := by
  have b : Below W.heap.size W (W.alloc (.cells #[.slice (some a) k c, .slice (some ⟨hb, 0, none⟩) 1 1, .slice A3 m.length c3] 22)) := (Below.refl _ _).alloc (Nat.le_refl _) _
  exact rws_three (p := ⟨n, v⟩) hk (h1.below b) (h2.alloc _) (h3.below b) (Blk.new _ _ _)
theorem rws_new {W : World} {k c c3 : Nat} {a : Addr} {A3 : Option Addr} {l m : List Prm} (n v : ByteArray) (hk : k ≤ l.length) (h1 : HdIn W (some a) l) (h3 : HdIn W A3 m) :
    RwsIn ((W.alloc (.cells #[.string n, .string v] 53)).alloc (.cells #[.slice (some a) k c, .slice (some ⟨W.heap.size, 0, none⟩) 1 1, .slice A3 m.length c3] 22)) (W.heap.size + 1) [⟨some a, l.take k, c⟩, ⟨some ⟨W.heap.size, 0, none⟩, [⟨n, v⟩], 1⟩, ⟨A3, m, c3⟩] := by
  have b : Below W.heap.size W (W.alloc (.cells #[.string n, .string v] 53)) := (Below.refl _ _).alloc (Nat.le_refl _) _
  have h := rws_old (c := c) (c3 := c3) n v hk (h1.below b) (Blk.new W 53 #[.string n, .string v]) (h3.below b)
  rw [World.size_alloc] at h
  exact h
/-- A box that was made ahead of a call. -/
theorem box_drew {W W' : World} {T : TypeId} {cs : Array Value} (b : Below (W.alloc (.cells cs T)).drew.heap.size (W.alloc (.cells cs T)).drew W') : Blk W' W.heap.size T cs :=
  Blk.below (w := (W.alloc (.cells cs T)).drew) (by exact Blk.new W T cs) b (by simp [World.drew])

/-- What Set answers. -/
def SetSays (w : World) (name value : ByteArray) (l : List Prm) (e : Ending) (w' : World) : Prop :=
  ∃ A' c', e = .returned (.tuple #[.slice A' (setA name value l).2.length c', .int .i64 ((setA name value l).1 : Nat)]) ∧ HdIn w' A' (setA name value l).2 ∧ Below w.heap.size w w'
theorem trimP_le (s : ByteArray) : (trimP whiB s).size ≤ s.size := trimP_size whiB s

set_option maxHeartbeats 4000000 in
set_option maxRecDepth 100000 in
theorem hset_any (name value : ByteArray) (A : Option Addr) (c : Nat) (l : List Prm) (w : World) (h : HdIn w A l) (ha : AllIn 1048576 l) (hn : l.length ≤ 1048575) (hm : name.size ≤ 1048576) (hv : value.size ≤ 1048576) (hcap : l.length ≤ c) :
    Calls Try.prog 24 #[.string name, .string value, .slice A l.length c] w (SetSays w name value l) := by
  have htv := trimP_le value
  have HCL := Lib.hid (fun W => clean_any value W (by omega))
  have HSA : Hid (setA name value l = if hdrsB l && hdrB ⟨name, trimP whiB value⟩ then (if l.any (hasN name) then (0, setN name (trimP whiB value) l) else if l.length = 100 then (3, []) else (0, l ++ [⟨name, trimP whiB value⟩])) else (2, [])) := Lib.hid rfl
  obtain ⟨v, hvv⟩ : ∃ v, v = trimP whiB value := ⟨_, rfl⟩
  rw [← hvv] at HCL HSA htv
  clear hvv
  have HGD := Lib.hid (fun W (hW : Below w.heap.size w W) => good_any A c l W (h.below hW) ha (by omega))
  have HBD := Lib.hid (fun W => isBad_any name v W (by omega) (by omega))
  have HH := Lib.hid h
  have HA := Lib.hid ha
  have HX0 := Lib.hid (Blk.new w 53 #[.string name, .string v])
  have HB0 := Lib.hid ((Below.refl w.heap.size w).alloc (Nat.le_refl _) (.cells #[.string name, .string v] 53))
  obtain ⟨S, hS⟩ : ∃ S, S = setA name value l := ⟨_, rfl⟩
  have HS := Lib.hid hS
  have HSE := Lib.hid (hS.trans HSA.out)
  show Calls Try.prog 24 #[.string name, .string value, .slice A l.length c] w fun e w' => ∃ A' c', e = .returned (.tuple #[.slice A' (setA name value l).2.length c', .int .i64 ((setA name value l).1 : Nat)]) ∧ HdIn w' A' (setA name value l).2 ∧ Below w.heap.size w w'
  rw [← hS]
  clear h ha hS HSA HS
  cases hg : hdrsB l
  · rw [hg] at HGD HSE
    have HSE := Lib.hid (show S = (2, []) from HSE.out)
    have hS := HSE.out
    subst hS
    clear hg HSE
    go_enter Try.func24, Try.ntmps24
    go_wp2_with (first
      | (go_at_call 21; (with_reducible refine (HCL.out _).mono ?_); rintro e w1 ⟨rfl, rfl⟩)
      | (go_at_call 12; (with_reducible refine (HGD.out _ HB0.out).mono ?_); rintro e w1 ⟨rfl, b1⟩; have HB1 := Lib.hid (below_on HB0.out b1); clear b1))
    go_ret2
    exact ⟨none, 0, rfl, HdIn.nil _ _, HB1.out⟩
  · cases hb : hdrB ⟨name, v⟩
    · rw [hg] at HGD
      rw [hb] at HBD
      rw [hg, hb] at HSE
      have HSE := Lib.hid (show S = (2, []) from HSE.out)
      have hS := HSE.out
      subst hS
      clear hg hb HSE
      go_enter Try.func24, Try.ntmps24
      go_wp2_with (first
      | (go_at_call 21; (with_reducible refine (HCL.out _).mono ?_); rintro e w1 ⟨rfl, rfl⟩)
      | (go_at_call 12; (with_reducible refine (HGD.out _ HB0.out).mono ?_); rintro e w1 ⟨rfl, b1⟩; have HB1 := Lib.hid (below_on HB0.out b1); have HX1 := Lib.hid (HX0.out.below b1 HX0.out.lt); have c0 := HX1.out.cell 0; have c1 := HX1.out.cell 1; clear b1)
      | (go_at_call 33; (with_reducible refine (HBD.out _).mono ?_); rintro e w2 ⟨rfl, b2⟩; have HB2 := Lib.hid (below_on HB1.out b2); have HX2 := Lib.hid (HX1.out.below b2 HX1.out.lt); clear b2 c0 c1))
      go_ret2
      exact ⟨none, 0, rfl, HdIn.nil _ _, HB2.out⟩
    · rw [hg] at HGD
      rw [hb] at HBD
      rw [hg, hb] at HSE
      clear hg hb
      cases hany : l.any (hasN name)
      · rw [hany] at HSE
        have hno : ∀ j (hj : j < l.length), hasN name l[j] = false := fun j hj => by
          rw [List.any_eq_false] at hany
          simpa using hany l[j] (List.getElem_mem hj)
        have HIX := Lib.hid (fun W nb (h1 : HdIn W A l) (h2 : W.cell? ⟨nb, 0, none⟩ = some (.string name)) => indexNamed_any nb name c A l (-1) W h1 HA.out (by omega) h2 (by omega) (.inl ⟨rfl, hno⟩))
        clear hany hno
        by_cases h100 : l.length = 100
        · have HSE := Lib.hid (show S = (3, []) from HSE.out.trans (by simp [h100]))
          have hS := HSE.out
          subst hS
          clear HSE
          have h100b : ((l.length : Int) == 100) = true := by rw [h100]; rfl
          clear h100
          go_enter Try.func24, Try.ntmps24
          go_wp2_with (first
          | (go_at_call 21; (with_reducible refine (HCL.out _).mono ?_); rintro e w1 ⟨rfl, rfl⟩)
          | (go_at_call 12; (with_reducible refine (HGD.out _ HB0.out).mono ?_); rintro e w1 ⟨rfl, b1⟩; have HB1 := Lib.hid (below_on HB0.out b1); have HX1 := Lib.hid (HX0.out.below b1 HX0.out.lt); have c0 := HX1.out.cell 0; have c1 := HX1.out.cell 1; clear b1)
          | (go_at_call 33; (with_reducible refine (HBD.out _).mono ?_); rintro e w2 ⟨rfl, b2⟩; have HB2 := Lib.hid (below_on HB1.out b2); have HX2 := Lib.hid (HX1.out.below b2 HX1.out.lt); clear b2 c0 c1)
            | (go_at_call 32; (with_reducible refine (isNamed_any name _).mono ?_); rintro e w3 ⟨rfl, rfl⟩; have HBn := Lib.hid ((Below.refl w2.heap.size w2).alloc (Nat.le_refl _) (.cells #[.string name] 9)); have HN3 := Lib.hid (Blk.new w2 9 #[.string name]))
            | (go_at_call 45; (with_reducible refine (HIX.out _ _ (HH.out.below (HB2.out.trans (HBn.out.mono HB2.out.size))) (HN3.out.cell 0)).mono ?_); rintro e w4 ⟨rfl, b4⟩; have HB4 := Lib.hid ((HB2.out.trans (HBn.out.mono HB2.out.size)).trans (b4.mono (HB2.out.trans (HBn.out.mono HB2.out.size)).size)); clear b4))
          go_ret2
          exact ⟨none, 0, rfl, HdIn.nil _ _, HB4.out⟩
        · have HSE := Lib.hid (show S = (0, l ++ [⟨name, v⟩]) from HSE.out.trans (by simp [h100]))
          have hS := HSE.out
          subst hS
          clear HSE
          have h100b : ((l.length : Int) == 100) = false := by rw [beq_eq_false_iff_ne]; omega
          clear h100
          go_enter Try.func24, Try.ntmps24
          go_wp2_with (first
          | (go_at_call 21; (with_reducible refine (HCL.out _).mono ?_); rintro e w1 ⟨rfl, rfl⟩)
          | (go_at_call 12; (with_reducible refine (HGD.out _ HB0.out).mono ?_); rintro e w1 ⟨rfl, b1⟩; have HB1 := Lib.hid (below_on HB0.out b1); have HX1 := Lib.hid (HX0.out.below b1 HX0.out.lt); have c0 := HX1.out.cell 0; have c1 := HX1.out.cell 1; clear b1)
          | (go_at_call 33; (with_reducible refine (HBD.out _).mono ?_); rintro e w2 ⟨rfl, b2⟩; have HB2 := Lib.hid (below_on HB1.out b2); have HX2 := Lib.hid (HX1.out.below b2 HX1.out.lt); have HBD := Lib.hid trivial; clear b2 c0 c1)
            | (go_at_call 32; (with_reducible refine (isNamed_any name _).mono ?_); rintro e w3 ⟨rfl, rfl⟩; have HBn := Lib.hid ((Below.refl w2.heap.size w2).alloc (Nat.le_refl _) (.cells #[.string name] 9)); have HN3 := Lib.hid (Blk.new w2 9 #[.string name]))
            | (go_at_call 45; (with_reducible refine (HIX.out _ _ (HH.out.below (HB2.out.trans (HBn.out.mono HB2.out.size))) (HN3.out.cell 0)).mono ?_); rintro e w4 ⟨rfl, b4⟩; have HB4 := Lib.hid ((HB2.out.trans (HBn.out.mono HB2.out.size)).trans (b4.mono (HB2.out.trans (HBn.out.mono HB2.out.size)).size)); have HX4 := Lib.hid ((HX2.out.alloc (.cells #[.string name] 9)).below b4 (HX2.out.alloc _).lt); have c0 := HX4.out.cell 0; have c1 := HX4.out.cell 1; have z0 := HX4.out.frozen 0; have z1 := HX4.out.frozen 1; have HH4 := Lib.hid (HH.out.below HB4.out); clear b4))
          have b5 : Below w4.heap.size w4 ((w4.alloc (.cells #[.string name, .string v] 53)).alloc (.cells #[.slice A l.length c, .slice (some ⟨w4.heap.size, 0, none⟩) 1 1] 22)) := ((Below.refl _ _).alloc (Nat.le_refl _) _).alloc (by simp) _
          have r5 := rws_two (p := ⟨name, v⟩) (HH4.out.below b5) ((Blk.new w4 53 #[.string name, .string v]).alloc _) (Blk.new (w4.alloc (.cells #[.string name, .string v] 53)) 22 #[.slice A l.length c, .slice (some ⟨w4.heap.size, 0, none⟩) 1 1])
          rw [World.size_alloc] at r5
          have HCC := Lib.hid (hconcat_any (w4.heap.size + 1) 2 _ _ r5 (by simp [catR]) (by simp [catR]; omega) (by simp))
          have HCE := Lib.hid (show catR [⟨A, l, c⟩, ⟨some ⟨w4.heap.size, 0, none⟩, [⟨name, v⟩], 1⟩] = l ++ [⟨name, v⟩] from by simp [catR])
          have HB5 := Lib.hid (HB4.out.trans (b5.mono HB4.out.size))
          rw [HCE.out] at HCC
          clear b5 r5 HCE
          generalize (w4.alloc (.cells #[.string name, .string v] 53)).alloc (.cells #[.slice A l.length c, .slice (some ⟨w4.heap.size, 0, none⟩) 1 1] 22) = w5 at *
          refine HCC.out.mono ?_
          rintro e w6 ⟨A6, c6, rfl, o6, b6⟩
          have HB6 := Lib.hid (below_on HB5.out b6)
          have HO6 := Lib.hid o6
          clear o6 b6
          go_wp2
          go_ret2
          exact ⟨A6, c6, by simp, HO6.out.hd, HB6.out⟩
      · obtain ⟨k, hk, hno, hyes⟩ := any_first hany
        rw [hany] at HSE
        have HSE := Lib.hid (show S = (0, l.take k ++ ⟨l[k].n, v⟩ :: cutN name (l.drop (k + 1))) from HSE.out.trans (by simp; exact setN_at name v l k hk (fun j hj => hno j hj) hyes))
        have hS := HSE.out
        subst hS
        clear HSE
        have HIX := Lib.hid (fun W nb (h1 : HdIn W A l) (h2 : W.cell? ⟨nb, 0, none⟩ = some (.string name)) => indexNamed_any nb name c A l (k : Int) W h1 HA.out (by omega) h2 (by omega) (.inr ⟨k, hk, rfl, hyes, fun j _ hj => hno j hj⟩))
        clear hany hno hyes
        obtain ⟨a, rfl, hal, e0, e1⟩ := HH.out k hk
        obtain ⟨A2, hA2, hT⟩ : ∃ A2, (if c = k + 1 then some a else some (a.add ((k + 1) * 2))) = A2 ∧ ∀ W, Below w.heap.size w W → HdIn W A2 (l.drop (k + 1)) := by
          by_cases hc : c = k + 1
          · exact ⟨some a, if_pos hc, fun W _ => by rw [List.drop_of_length_le (by omega)]; exact HdIn.nil _ _⟩
          · exact ⟨_, if_neg hc, fun W hW => (HH.out.below hW).tail (k + 1)⟩
        have HCUT := Lib.hid (fun W (hW : Below w.heap.size w W) => hcut_any name A2 (c - (k + 1)) (l.drop (k + 1)) W (hT W hW) (fun p hp => HA.out p (List.mem_of_mem_drop hp)) (by rw [List.length_drop]; omega) hm)
        rw [List.length_drop] at HCUT
        obtain ⟨m, hmm⟩ : ∃ m, m = cutN name (l.drop (k + 1)) := ⟨_, rfl⟩
        have hml : m.length ≤ l.length - (k + 1) := by
          have := cutN_len name (l.drop (k + 1))
          rw [List.length_drop, ← hmm] at this
          exact this
        rw [← hmm] at HCUT ⊢
        clear hmm hT
        have hsz := HA.out.at_ hk
        obtain ⟨n, hnn⟩ : ∃ n, n = l[k].n := ⟨_, rfl⟩
        rw [← hnn] at hsz e0 ⊢
        have hal2 : (a.add (k * 2)).block < w.heap.size := by rw [madd_block]; exact hal
        have HNM := Lib.hid (fun W (hW : Below w.heap.size w W) => (hW.cell hal2).trans e0)
        clear hnn e0 e1
        obtain ⟨L, hL⟩ : ∃ L, l.take k ++ ⟨n, v⟩ :: m = L := ⟨_, rfl⟩
        rw [hL]
        have HL := Lib.hid hL
        clear hL
        go_enter Try.func24, Try.ntmps24
        go_wp2_with (first
        | (go_at_call 21; (with_reducible refine (HCL.out _).mono ?_); rintro e w1 ⟨rfl, rfl⟩)
        | (go_at_call 12; (with_reducible refine (HGD.out _ HB0.out).mono ?_); rintro e w1 ⟨rfl, b1⟩; have HB1 := Lib.hid (below_on HB0.out b1); have HX1 := Lib.hid (HX0.out.below b1 HX0.out.lt); have c0 := HX1.out.cell 0; have c1 := HX1.out.cell 1; clear b1)
        | (go_at_call 33; (with_reducible refine (HBD.out _).mono ?_); rintro e w2 ⟨rfl, b2⟩; have HB2 := Lib.hid (below_on HB1.out b2); have HX2 := Lib.hid (HX1.out.below b2 HX1.out.lt); have HBD := Lib.hid trivial; clear b2 c0 c1)
          | (go_at_call 32; (with_reducible refine (isNamed_any name _).mono ?_); rintro e w3 ⟨rfl, rfl⟩; have HBn := Lib.hid ((Below.refl w2.heap.size w2).alloc (Nat.le_refl _) (.cells #[.string name] 9)); have HN3 := Lib.hid (Blk.new w2 9 #[.string name]))
          | (go_at_call 45; (with_reducible refine (HIX.out _ _ (HH.out.below (HB2.out.trans (HBn.out.mono HB2.out.size))) (HN3.out.cell 0)).mono ?_); rintro e w4 ⟨rfl, b4⟩; have HB4 := Lib.hid ((HB2.out.trans (HBn.out.mono HB2.out.size)).trans (b4.mono (HB2.out.trans (HBn.out.mono HB2.out.size)).size)); have HX4 := Lib.hid ((HX2.out.alloc (.cells #[.string name] 9)).below b4 (HX2.out.alloc _).lt); have c0 := HX4.out.cell 0; have c1 := HX4.out.cell 1; have z0 := HX4.out.frozen 0; have z1 := HX4.out.frozen 1; have HH4 := Lib.hid (HH.out.below HB4.out); have e0 := HNM.out _ HB4.out; clear b4))
        have HX5 := Lib.hid (show Blk (w4.setCell ⟨w.heap.size, 0, none⟩ (.string n)) w.heap.size 53 #[.string n, .string v] from HX4.out.set_ 0 _)
        have HB5 := Lib.hid (HB4.out.setCell (p := ⟨w.heap.size, 0, none⟩) (Nat.le_refl _) (.string n))
        have HH5 := Lib.hid (HH.out.below HB5.out)
        clear c0 c1 z0 z1 e0 HX4 HB4 HH4 HIX HNM HGD HBD HCL
        generalize w4.setCell ⟨w.heap.size, 0, none⟩ (.string n) = W5 at *
        have c0 := HX5.out.cell 0
        have c1 := HX5.out.cell 1
        have hk1 : k ≤ l.length := by omega
        have hk2 : k ≤ c := by omega
        have hk3 : k + 1 ≤ l.length := by omega
        have hk4 : k + 1 ≤ c := by omega
        have hsum : IntKind.i64.wrap ((k : Int) + 1) = (k : Int) + 1 := IntWalk.i64_in _ (by omega)
        have hs2 : (0 : Int) ≤ (k : Int) + 1 := by omega
        have hs3 : ((k : Int) + 1).toNat = k + 1 := by omega
        have hs4 : (k : Int) + 1 ≤ (l.length : Int) := by omega
        have HCON := Lib.hid (fun W b hb A3 c3 (h : RwsIn W b [⟨some a, l.take k, c⟩, ⟨some ⟨hb, 0, none⟩, [⟨n, v⟩], 1⟩, ⟨A3, m, c3⟩]) => show Calls Try.prog 46 #[.slice (some ⟨b, 0, none⟩) 3 3] W fun e w' => ∃ A' c', e = .returned (.slice A' (l.take k ++ ⟨n, v⟩ :: m).length c') ∧ OwnHd w' W.heap.size A' c' (l.take k ++ ⟨n, v⟩ :: m) ∧ Below W.heap.size W w' from by
          have e : catR [⟨some a, l.take k, c⟩, ⟨some ⟨hb, 0, none⟩, [⟨n, v⟩], 1⟩, ⟨A3, m, c3⟩] = l.take k ++ ⟨n, v⟩ :: m := by simp [catR]
          have := hconcat_any b 3 _ W h (by rw [e]; simp; omega) (by rw [e]; simp; omega) (by simp)
          rw [e] at this
          exact this)
        clear HA HX0 HB0 HB1 HX1 HB2 HX2 HBn HN3
        rw [HL.out] at HCON
        go_region_held3 (fun w' => w'.cell? ⟨w.heap.size, 0, none⟩ = some (.string n) ∧ w'.cell? ⟨w.heap.size, 1, none⟩ = some (.string v))
          (first | go_keep | exact ⟨HX6.out.cell 0, HX6.out.cell 1⟩ | exact ⟨HX7.out.cell 0, HX7.out.cell 1⟩)
          (first
            | (go_at_call 17; (with_reducible refine (HCUT.out _ (by first | exact HB5.out | exact HB5.out.drew | exact (HB5.out.alloc HB5.out.size _).drew)).mono ?_); rintro e w6 ⟨A6, c6, rfl, o6, b6⟩
               have HB6 := Lib.hid (below_on (w := _) (by first | exact HB5.out | exact HB5.out.drew | exact (HB5.out.alloc HB5.out.size _).drew) b6)
               have HH6 := Lib.hid (HH.out.below HB6.out)
               have HO6 := Lib.hid o6.hd
               first
                 | have HN6 := Lib.hid (box_drew b6)
                 | skip
               first
                 | have HX6 := Lib.hid (Blk.below (w := _) (by exact HX5.out) b6 (by exact HX5.out.lt))
                 | have HX6 := Lib.hid (Blk.below (w := _) (by exact HX5.out.alloc _) b6 (by exact (HX5.out.alloc _).lt))
               clear o6 b6)
            | (go_at_call 46; (first | (with_reducible refine (HCON.out _ _ _ _ _ (by first | exact rws_old n v hk1 HH6.out HN6.out HO6.out | exact rws_new n v hk1 HH6.out HO6.out)).mono ?_)); rintro e w7 ⟨A7, c7, rfl, o7, b7⟩
               have HB7 := Lib.hid (below_on (w := _) (by first | exact HB6.out.alloc HB6.out.size _ | exact (HB6.out.alloc HB6.out.size _).alloc (by have := HB6.out.size; simp; omega) _) b7)
               have HO7 := Lib.hid o7.hd
               first
                 | have HX7 := Lib.hid (Blk.below (w := _) (by exact HX6.out.alloc _) b7 (by exact (HX6.out.alloc _).lt))
                 | have HX7 := Lib.hid (Blk.below (w := _) (by exact (HX6.out.alloc _).alloc _) b7 (by exact ((HX6.out.alloc _).alloc _).lt))
               clear o7 b7))
        all_goals
          go_wp2_with fail
          go_ret2
          exact ⟨A7, c7, rfl, HO7.out, HB7.out⟩

end Go.Proofs.Ytjikahflbhgniaa
