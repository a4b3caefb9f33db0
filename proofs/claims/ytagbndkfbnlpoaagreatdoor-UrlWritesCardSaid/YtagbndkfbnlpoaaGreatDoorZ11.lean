/-
  What Count and All answer where they are asked whether a byte may stand in a host. Condition: the text is as long as a length can be.
  Plain facts on layer 26: what the library's Split and ReplaceAll give of a text, in the words of the facts on paths (slsL, ptsL). No condition.
  A region that draws its order, all of whose operations read, or call what only makes memory: one walk of the text's order serves, over a class of worlds. Conditions: those of the theorem.
-/
import Derived.Test.YtagbndkfbnlpoaaGreatDoorZ10
import Derived.Test.YtagbndkfbnlpoaaGreatDoorZ4
import Derived.Test.YtagbndkfbnlpoaaGreatDoorZ9
import Derived.Lib.Replace
import Derived.Below
import Derived.Deep.QuietTactic
import Derived.BigQuiet
namespace Go.Proofs.YtagbndkfbnlpoaaGreatDoor
open Go.RowKit

abbrev fnHos : Value := .func (.func 58) #[] #[]

set_option maxHeartbeats 2000000 in
theorem all1_Hos (sb fb lb : Nat) (s : ByteArray) (w : World) (hsb : w.cell? ⟨sb, 0, none⟩ = some (.string s)) (hf : w.cell? ⟨fb, 0, none⟩ = some fnHos)
    (hl : w.heap[lb]? = some (.cells #[.bool false] 4 (0, 0))) (hs : s.size ≤ 9223372036854775807) :
    Calls Tryz.prog 80 #[.pointer (some ⟨sb, 0, none⟩), .pointer (some ⟨fb, 0, none⟩), .pointer (some ⟨lb, 0, none⟩)] w fun e w' => e = .returned (.tuple #[]) ∧ Mv w.heap.size [lb] w w' ∧
      w'.heap[lb]? = some (.cells #[.bool (allB hoyB s)] 4 (0, 0)) := by
  have l0 := cell_of_one hl
  have lz := free_of_one hl
  go_enter Tryz.func80, Tryz.ntmps80
  go_wp2
  go_loopw [6] (fun v wr => ∃ i : Nat, i ≤ s.size ∧ v = .int .i64 i ∧ (∀ j (hj : j < s.size), j < i → hoyB s[j] = true) ∧ Mv w.heap.size [] w wr) (fun v _ => s.size - (intOf v).toNat)
  case atStart => exact ⟨0, Nat.zero_le _, rfl, fun j _ h => absurd h (by omega), Mv.refl _ _ _⟩
  case round =>
    obtain ⟨i, hi, rfl, hno, hm⟩ := hrel
    have d1 : wr.cell? ⟨sb, 0, none⟩ = some (.string s) := (hm.cell (p := ⟨sb, 0, none⟩) (World.block_lt_of_cell? w _ hsb) (by simp)).trans hsb
    have d2 : wr.cell? ⟨fb, 0, none⟩ = some fnHos := (hm.cell (p := ⟨fb, 0, none⟩) (World.block_lt_of_cell? w _ hf) (by simp)).trans hf
    have d3 : wr.cell? ⟨lb, 0, none⟩ = some (.bool false) := (hm.cell (p := ⟨lb, 0, none⟩) (World.block_lt_of_cell? w _ l0) (by simp)).trans l0
    have dz : wr.frozen? ⟨lb, 0, none⟩ = false := (hm.frozen (p := ⟨lb, 0, none⟩) (World.block_lt_of_cell? w _ l0) (by simp)).trans lz
    have HW := Lib.hid ((hm.block lb (World.block_lt_of_cell? w _ l0) (by simp)).trans hl)
    have HM := Lib.hid (hm.mono (r' := [lb]) (Nat.le_refl _) (by simp))
    have HM0 := Lib.hid hm
    have HN := Lib.hid hno
    clear hno hm hsb hf hl l0 lz
    by_cases hlt : i < s.size
    · have HL := Lib.hid (fun W => hoy_any s[i] W)
      cases hb : hoyB s[i]
      · have HC := Lib.hid (allB_no hlt hb)
        have HL2 : Hid (∀ W, Calls Tryz.prog 58 #[.int .u8 (s[i].toNat : Int)] W fun e w' => e = .returned (.bool false) ∧ w' = W) := fun W => by
          have := HL.out W
          rw [hb] at this
          exact this.mono fun _ _ h => ⟨h.1, h.2.symm⟩
        clear HL hb
        go_wp2
        go_quiet ((go_at_call 58; exact Calls.quiet_of_same (HL2.out _)))
        go_wp2
        refine bodyPost_ret (results_none rfl _ _ _) rfl ?_
        exact ⟨rfl, HM.out.drewN _, by rw [HC.out]; exact HW.out⟩
      · have HP := Lib.hid hb
        have HL2 : Hid (∀ W, Calls Tryz.prog 58 #[.int .u8 (s[i].toNat : Int)] W fun e w' => e = .returned (.bool true) ∧ w' = W) := fun W => by
          have := HL.out W
          rw [hb] at this
          exact this.mono fun _ _ h => ⟨h.1, h.2.symm⟩
        clear HL hb
        go_wp2
        go_quiet ((go_at_call 58; exact Calls.quiet_of_same (HL2.out _)))
        go_wp2
        go_roundw
        case rel => exact ⟨i + 1, by omega, by go_num, fun j hj h => if e : j = i then by subst e; exact HP.out else HN.out j hj (by omega), HM0.out.drewN _⟩
        case measure => simp [intOf]; omega
    · obtain rfl : i = s.size := by omega
      have HC := Lib.hid (allB_yes fun j hj => HN.out j hj hj)
      go_wp2
      go_end0
      exact ⟨rfl, HM.out.setCell (.inl (by simp)) _, by rw [HC.out]; exact one_setCell HW.out⟩

theorem catch_all1_Hos (sb fb lb : Nat) (s : ByteArray) (w : World) (hsb : w.cell? ⟨sb, 0, none⟩ = some (.string s)) (hf : w.cell? ⟨fb, 0, none⟩ = some fnHos)
    (hl : w.heap[lb]? = some (.cells #[.bool false] 4 (0, 0))) (hs : s.size ≤ 9223372036854775807) :
    Calls Tryz.prog 79 #[.func (.func 80) #[] #[.pointer (some ⟨sb, 0, none⟩), .pointer (some ⟨fb, 0, none⟩), .pointer (some ⟨lb, 0, none⟩)]] w fun e w' =>
      e = .returned (.tuple #[flt 0 0, .bool false]) ∧ Mv w.heap.size [lb] w w' ∧ w'.heap[lb]? = some (.cells #[.bool (allB hoyB s)] 4 (0, 0)) := by
  have la : lb < w.heap.size := lt_of_block hl
  refine catch_mv_returns 80 #[] #[.pointer (some ⟨sb, 0, none⟩), .pointer (some ⟨fb, 0, none⟩), .pointer (some ⟨lb, 0, none⟩)] w [lb]
    (fun W => W.heap[lb]? = some (.cells #[.bool (allB hoyB s)] 4 (0, 0)))
    (one_lt' la) (fun W1 W2 hb h1 => (hb.block lb la).trans h1) (fun _ => by simp [go_sem]) fun W hW => ?_
  refine (all1_Hos sb fb lb s W ((hW.cell (p := ⟨sb, 0, none⟩) (World.block_lt_of_cell? w _ hsb)).trans hsb) ((hW.cell (p := ⟨fb, 0, none⟩) (World.block_lt_of_cell? w _ hf)).trans hf) ((hW.block lb la).trans hl) hs).mono ?_
  rintro e w' ⟨rfl, h1, h2⟩
  exact ⟨⟨_, rfl⟩, h1, h2⟩

set_option maxHeartbeats 2000000 in
theorem all_Hos (s : ByteArray) (w : World) (hs : s.size ≤ 9223372036854775807) :
    Calls Tryz.prog 57 #[.string s, fnHos] w fun e w' => e = .returned (.bool (allB hoyB s)) ∧ Below w.heap.size w w' := by
  have hq := eq_fn_nil
  have hmf := make_func
  obtain ⟨W3, hW⟩ : ∃ W3, W3 = (((w.alloc (.cells #[.string s] 9)).alloc (.cells #[fnHos] 63)).alloc (.cells #[.bool false] 4)) := ⟨_, rfl⟩
  have c2 : W3.heap[w.heap.size + 1 + 1]? = some (.cells #[.bool false] 4 (0, 0)) := by
    have := Blk.new ((w.alloc (.cells #[.string s] 9)).alloc (.cells #[fnHos] 63)) 4 #[.bool false]
    rw [hW]
    simpa [Blk] using this
  have c0 : W3.cell? ⟨w.heap.size, 0, none⟩ = some (.string s) := by rw [hW]; simp [go_sem]
  have c1 : W3.cell? ⟨w.heap.size + 1, 0, none⟩ = some fnHos := by rw [hW]; simp [go_sem]
  have HB := Lib.hid (show Below w.heap.size w W3 by
    rw [hW]
    exact (((Below.refl _ _).alloc (Nat.le_refl _) _).alloc (by simp) _).alloc (by simp; omega) _)
  have HZ := Lib.hid (show W3.heap.size = w.heap.size + 3 by rw [hW]; simp)
  have HC := Lib.hid (catch_all1_Hos w.heap.size (w.heap.size + 1) (w.heap.size + 1 + 1) s W3 c0 c1 c2 hs)
  clear c0 c1 c2
  have HW := Lib.hid hW
  clear hW
  go_enter Tryz.func57, Tryz.ntmps57
  go_wp2_with (go_at_call 79; rw [← HW.out]; refine HC.out.mono ?_; rintro e w1 ⟨rfl, hm, h1⟩; have j3 := cell_of_one h1; have HM := Lib.hid hm; clear hm h1)
  go_ret
  exact ⟨rfl, HB.out.trans (HM.out.below (B' := w.heap.size) (by have := HZ.out; omega) (by simp; omega))⟩

end Go.Proofs.YtagbndkfbnlpoaaGreatDoor
namespace Go.Proofs.YtagbndkfbnlpoaaGreatDoor

theorem idx_no {b : UInt8} {l old : List UInt8} (h : old.isPrefixOf (b :: l) = false) : Lib.index (b :: l) old = if Lib.index l old = -1 then -1 else Lib.index l old + 1 := by
  rw [Lib.index, if_neg (by rw [h]; decide)]
  by_cases h1 : Lib.index l old = -1
  · rw [if_pos (by rw [h1]; rfl), if_pos h1]
  · rw [if_neg (by simpa using h1), if_neg h1]
theorem idx_yes {b : UInt8} {l old : List UInt8} (h : old.isPrefixOf (b :: l) = true) : Lib.index (b :: l) old = 0 := by
  rw [Lib.index, if_pos h]
theorem cnt_no {b : UInt8} {l old : List UInt8} (h0 : old ≠ []) (h : old.isPrefixOf (b :: l) = false) : Lib.count (b :: l) old = Lib.count l old := by
  have hi := idx_no h
  by_cases h1 : Lib.index l old = -1
  · rw [if_pos h1] at hi
    rw [Lib.count_miss hi, Lib.count_miss h1]
  · rw [if_neg h1] at hi
    have hg := Lib.index_ge l old
    obtain ⟨i, e⟩ : ∃ i : Nat, Lib.index l old = i := ⟨(Lib.index l old).toNat, by omega⟩
    have hi2 : Lib.index (b :: l) old = ((i + 1 : Nat) : Int) := by rw [hi, e]; rfl
    rw [Lib.count_hit h0 hi2, Lib.count_hit h0 e]
    rw [show i + 1 + old.length = (i + old.length) + 1 from by omega, List.drop_succ_cons]
theorem rep_no {b : UInt8} {l old new : List UInt8} (h : old.isPrefixOf (b :: l) = false) : ∀ k, Lib.replaceK old new k (b :: l) = b :: Lib.replaceK old new k l
  | 0 => rfl
  | k + 1 => by
    have hi := idx_no h
    by_cases h1 : Lib.index l old = -1
    · rw [if_pos h1] at hi
      rw [Lib.replaceK, if_pos (by rw [hi]; rfl), Lib.replaceK, if_pos (by rw [h1]; rfl)]
    · rw [if_neg h1] at hi
      have hg := Lib.index_ge l old
      obtain ⟨i, e⟩ : ∃ i : Nat, Lib.index l old = i := ⟨(Lib.index l old).toNat, by omega⟩
      have hi2 : Lib.index (b :: l) old = ((i + 1 : Nat) : Int) := by rw [hi, e]; rfl
      rw [Lib.replaceK_hit old new k _ _ hi2, Lib.replaceK_hit old new k _ _ e]
      rw [show i + 1 + old.length = (i + old.length) + 1 from by omega, List.drop_succ_cons, List.take_succ_cons]
      rfl
theorem spl_no {b : UInt8} {l old : List UInt8} (h : old.isPrefixOf (b :: l) = false) : ∀ k, Lib.splitK old 0 k (b :: l) = match Lib.splitK old 0 k l with | p :: ps => (b :: p) :: ps | [] => [[b]]
  | 0 => rfl
  | k + 1 => by
    have hi := idx_no h
    by_cases h1 : Lib.index l old = -1
    · rw [if_pos h1] at hi
      rw [Lib.splitK, if_pos (by rw [hi]; rfl), Lib.splitK, if_pos (by rw [h1]; rfl)]
    · rw [if_neg h1] at hi
      have hg := Lib.index_ge l old
      obtain ⟨i, e⟩ : ∃ i : Nat, Lib.index l old = i := ⟨(Lib.index l old).toNat, by omega⟩
      have hi2 : Lib.index (b :: l) old = ((i + 1 : Nat) : Int) := by rw [hi, e]; rfl
      have hm : ∀ {s : List UInt8} {i : Nat}, Lib.index s old = i → Lib.splitK old 0 (k + 1) s = s.take (i + 0) :: Lib.splitK old 0 k (s.drop (i + old.length)) := fun {s i} e => by
        rw [Lib.splitK, if_neg (by rw [e, beq_iff_eq]; omega), show (Lib.index s old).toNat = i from by omega]
      rw [hm hi2, hm e]
      rw [show i + 1 + old.length = (i + old.length) + 1 from by omega, List.drop_succ_cons, show i + 1 + 0 = (i + 0) + 1 from rfl, List.take_succ_cons]
      rfl

/-- Split at slashes. -/
theorem split_sls : ∀ l : List UInt8, Lib.splitK [47] 0 (Lib.count l [47]) l = slsL l
  | [] => rfl
  | b :: l => by
    have ih := split_sls l
    by_cases hb : b = 47
    · subst hb
      have hp : ([47] : List UInt8).isPrefixOf (47 :: l) = true := by simp [List.isPrefixOf]
      have hi : Lib.index (47 :: l) [47] = ((0 : Nat) : Int) := idx_yes hp
      have hc := Lib.count_hit (by decide) hi
      rw [hc, Nat.add_comm, Lib.splitK, if_neg (by rw [hi]; decide), slsL, if_pos (by decide)]
      simp only [hi]
      show [] :: Lib.splitK [47] 0 (Lib.count l [47]) l = _
      rw [ih]
    · have hp : ([47] : List UInt8).isPrefixOf (b :: l) = false := by simp [List.isPrefixOf]; exact fun e => hb e.symm
      rw [cnt_no (by decide) hp, spl_no hp, ih, slsL, if_neg (by simpa using hb)]
      cases slsL l <;> rfl

/-- Every 37, 50, 101 made one 46. -/
def dotR : List UInt8 → List UInt8
  | 37 :: 50 :: 101 :: l => 46 :: dotR l
  | b :: l => b :: dotR l
  | [] => []
theorem dotR_no {b : UInt8} {l : List UInt8} (h : ∀ r, b :: l ≠ 37 :: 50 :: 101 :: r) : dotR (b :: l) = b :: dotR l := by
  rw [dotR]
  intro r e1 e2
  rw [e1, e2] at h
  exact h r rfl
theorem rep_dot : ∀ (n : Nat) (l : List UInt8), l.length ≤ n → Lib.replaceK [37, 50, 101] [46] (Lib.count l [37, 50, 101]) l = dotR l
  | _, [], _ => rfl
  | 0, b :: l, h => by simp at h
  | n + 1, b :: l, h => by
    by_cases hp : ([37, 50, 101] : List UInt8).isPrefixOf (b :: l) = true
    · have hh : ∃ r, b :: l = 37 :: 50 :: 101 :: r := by
        obtain ⟨r, hr⟩ := List.isPrefixOf_iff_prefix.1 hp
        exact ⟨r, hr.symm⟩
      obtain ⟨r, hr⟩ := hh
      have hi : Lib.index (b :: l) [37, 50, 101] = ((0 : Nat) : Int) := idx_yes hp
      have hc := Lib.count_hit (by decide) hi
      rw [hc, Nat.add_comm, Lib.replaceK_hit _ _ _ _ _ hi, hr]
      show [46] ++ Lib.replaceK [37, 50, 101] [46] (Lib.count r [37, 50, 101]) r = 46 :: dotR r
      have : r.length ≤ n := by
        have := congrArg List.length hr
        simp at this h
        omega
      rw [rep_dot n r this]
      rfl
    · have hp : ([37, 50, 101] : List UInt8).isPrefixOf (b :: l) = false := (Bool.not_eq_true _).mp hp
      rw [cnt_no (by decide) hp, rep_no hp, rep_dot n l (by simp at h; omega)]
      rw [dotR_no fun r e => by rw [e] at hp; simp [List.isPrefixOf] at hp]
def allD (l : List UInt8) : Bool := l.all (· == 46)
theorem allD_cons (b : UInt8) (l : List UInt8) : allD (b :: l) = (b == 46 && allD l) := by simp [allD]
theorem lowB_46 (b : UInt8) : (lowB b == 46) = (b == 46) := by
  have := bytes_all (p := fun b => (lowB b == 46) == (b == 46)) (by kernel_rfl) b
  simpa using this
theorem lowB_37 (b : UInt8) : (lowB b == 37) = (b == 37) := by
  have := bytes_all (p := fun b => (lowB b == 37) == (b == 37)) (by kernel_rfl) b
  simpa using this
theorem lowB_50 (b : UInt8) : (lowB b == 50) = (b == 50) := by
  have := bytes_all (p := fun b => (lowB b == 50) == (b == 50)) (by kernel_rfl) b
  simpa using this
theorem pts_dot : ∀ (n : Nat) (l : List UInt8) (m : Nat), l.length ≤ n → ptsL l m = if allD (dotR (l.map lowB)) then m + (dotR (l.map lowB)).length else 0
  | _, [], m, _ => by simp [ptsL, dotR, allD]
  | 0, b :: l, _, h => by simp at h
  | n + 1, b :: l, m, h => by
    simp at h
    have one : ∀ (q : List UInt8), q = b :: l → (∀ r, q.map lowB ≠ 37 :: 50 :: 101 :: r) → (if b == 46 then ptsL l (m + 1) else 0) = if allD (dotR (q.map lowB)) then m + (dotR (q.map lowB)).length else 0 := fun q hq hr => by
      subst hq
      rw [List.map_cons] at hr ⊢
      rw [dotR_no hr, allD_cons, lowB_46, List.length_cons]
      cases hb : b == 46
      · rfl
      · rw [if_pos rfl, pts_dot n l (m + 1) h, Bool.true_and]
        split <;> omega
    match l, h, one with
    | [], h, one =>
      have e : ptsL [b] m = if b == 46 then ptsL [] (m + 1) else 0 := by
        rw [ptsL, ptsL]
        · rfl
        · intro _ _ _ _ e
          cases e
      rw [e]
      exact one _ rfl (by simp)
    | [x], h, one =>
      have e : ptsL [b, x] m = if b == 46 then ptsL [x] (m + 1) else 0 := by
        rw [ptsL]
        intro _ _ _ _ e
        cases e
      rw [e]
      exact one _ rfl (by simp)
    | x :: y :: l, h, one =>
      by_cases h37 : b = 37
      · subst h37
        show (if x == 50 && (y == 101 || y == 69) then ptsL l (m + 1) else 0) = _
        cases hx : x == 50 && (y == 101 || y == 69)
        · have hr : ∀ r, (37 :: x :: y :: l).map lowB ≠ 37 :: 50 :: 101 :: r := fun r e => by
            simp only [List.map_cons] at e
            injection e with _ e
            injection e with e1 e
            injection e with e2 _
            have f1 := lowB_50 x
            have f2 := lowB_e (b := y)
            rw [e1] at f1
            rw [e2] at f2
            rw [← f1, ← f2] at hx
            cases hx
          have := one _ rfl hr
          rw [← this]
          rfl
        · simp only [Bool.and_eq_true, beq_iff_eq] at hx
          have e1 : lowB 37 = 37 := by kernel_rfl
          have e2 : lowB x = 50 := by have := lowB_50 x; rw [hx.1] at this ⊢; simpa using this
          have e3 : lowB y = 101 := by have := lowB_e (b := y); rw [hx.2] at this; simpa using this
          simp only [List.map_cons, e1, e2, e3]
          rw [if_pos trivial]
          show _ = if allD (46 :: dotR (l.map lowB)) then m + (46 :: dotR (l.map lowB)).length else 0
          rw [allD_cons, pts_dot n l (m + 1) (by simp at h; omega), List.length_cons]
          rw [show ((46 : UInt8) == 46) = true from rfl, Bool.true_and]
          split <;> omega
      · have e : ptsL (b :: x :: y :: l) m = if b == 46 then ptsL (x :: y :: l) (m + 1) else 0 := by
          rw [ptsL]
          intro _ _ _ e _
          exact h37 e
        rw [e]
        refine one _ rfl fun r e => ?_
        simp only [List.map_cons] at e
        injection e with e1 _
        have := lowB_37 b
        rw [e1] at this
        exact h37 (by simpa using this.symm)
theorem allD_rep {l : List UInt8} (h : allD l = true) : l = List.replicate l.length 46 := by
  rw [List.eq_replicate_iff]
  exact ⟨rfl, fun b hb => by simpa using List.all_eq_true.1 h b hb⟩
/-- What ReplaceAll gives of a piece made small, and what it tells of its points. -/
theorem pts_of {l : List UInt8} {z : List UInt8} (hz : z = dotR (l.map lowB)) : (z = [46] ↔ ptsL l 0 = 1) ∧ (z = [46, 46] ↔ ptsL l 0 = 2) := by
  have h := pts_dot _ l 0 (Nat.le_refl _)
  rw [← hz] at h
  rw [h]
  have key : ∀ n : Nat, 0 < n → (if allD z = true then 0 + z.length else 0) = n → z = List.replicate n 46 := fun n hn e => by
    split at e
    · rename_i ha
      have h1 := allD_rep ha
      rw [show z.length = n from by omega] at h1
      exact h1
    · omega
  exact ⟨⟨fun e => by rw [e]; rfl, fun e => key 1 (by decide) e⟩, ⟨fun e => by rw [e]; rfl, fun e => key 2 (by decide) e⟩⟩

end Go.Proofs.YtagbndkfbnlpoaaGreatDoor
namespace Go.Proofs.YtagbndkfbnlpoaaGreatDoor
open Go.RowKit

/-- A world of which p holds. -/
structure Wld (p : World → Prop) where
  val : World
  ok : p val

theorem wp_region_class {P : Program} {id : Nat} {Q : Exit → Act → World → Prop} {a : Act} {w : World} {l : List Oper} (p : World → Prop) (hm : P.follows .mixedOrders = true) (hB : Region.lexB .any l.toArray = true) (hp : p w.drew)
    (h : wpQuiet P l.toArray (fun w' => ∃ x : Wld p, w' = x.val) (fun a' => ∀ w', p w' → Q .normal a' w') l a) : (Code.region id l.toArray true).wp P Q a w := by
  refine wp_region_quiet (C := fun w' => ∃ x : Wld p, w' = x.val) hm hB ⟨⟨_, hp⟩, rfl⟩ ?_
  have e : (fun a' => ∀ w', (∃ x : Wld p, w' = x.val) → Q .normal a' w') = fun a' => ∀ w', p w' → Q .normal a' w' := by
    funext a'
    exact propext ⟨fun h w' hw => h _ ⟨⟨w', hw⟩, rfl⟩, fun h w' ⟨x, hx⟩ => hx ▸ h _ x.ok⟩
  rw [e]
  simpa using h

/-- A callee's contract, met in a world of the class. -/
theorem Calls.cls {P : Program} {f : FuncId} {args : Array Value} {p : World → Prop} {x : Wld p} {v : Value} {R : World → Prop}
    (h : Calls P f args x.val fun e w' => e = .returned v ∧ R w') (hR : ∀ w', R w' → p w') : Calls P f args x.val fun e w'' => e = .returned v ∧ ∃ y : Wld p, w'' = y.val :=
  h.mono fun _ w' ⟨he, hw⟩ => ⟨he, ⟨w', hR w' hw⟩, rfl⟩

end Go.Proofs.YtagbndkfbnlpoaaGreatDoor
