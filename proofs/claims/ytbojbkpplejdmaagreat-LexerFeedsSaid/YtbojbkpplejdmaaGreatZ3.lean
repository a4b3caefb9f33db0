/-
  Plain facts on layer 27: the state and the place of all bytes (whoJ), that bytes that come behind turn neither a wrong state nor its place, how deep it is at most, and what a value's first byte begins. No condition.
  Plain facts on layer 27: value within value (dscE, as the document's own side reads it), and that it comes to the same as byte behind byte (dsc_ok). No condition.
  What Has answers: whether a byte is among some. Condition: the text is as long as a length can be.
-/
import Derived.Test.YtbojbkpplejdmaaGreatZ2
import Derived.Test.YtbojbkpplejdmaaGreatRows
import Derived.Test.YtbojbkpplejdmaaGreatZ1
import Derived.WalkKit
import Derived.WalkSpells
import Derived.WalkLawsBesides
import Derived.LoopTactic
import Derived.Lib.Hide
namespace Go.Proofs.YtbojbkpplejdmaaGreat

/-- The state of bytes, and the place of the first wrong one. -/
def whoJ (D : Nat) (s : ByteArray) : Int × Int :=
  match ansJ D .v [] s.data.toList with
  | (x, r) => (x, if x == 0 || x == 3 then (s.size : Int) - (r.length : Int) else -1)
theorem who_ok {D : Nat} {s : ByteArray} {p : Pj} {st : List Bool} (h : runJ D .v [] s.data.toList = .ok (p, st)) : whoJ D s = (if endJ p st then 2 else 1, -1) := by
  unfold whoJ ansJ
  rw [h]
  cases h2 : endJ p st with
  | true => simp [finJ, h2]
  | false => simp [finJ, h2]
theorem who_bad {D : Nat} {s : ByteArray} {x : Int} {r : List UInt8} (h : runJ D .v [] s.data.toList = .error (x, r)) : whoJ D s = (x, (s.size : Int) - (r.length : Int)) := by
  have hb := (run_bad D _ _ _ _ _ h).1
  unfold whoJ ansJ
  rw [h]
  show (x, if x == 0 || x == 3 then (s.size : Int) - (r.length : Int) else -1) = _
  rcases hb with rfl | rfl <;> rfl
theorem bad_place {D : Nat} {s : ByteArray} {x : Int} {r : List UInt8} (h : runJ D .v [] s.data.toList = .error (x, r)) : 0 < r.length ∧ r.length ≤ s.size := by
  obtain ⟨_, h2, y, h3⟩ := run_bad D _ _ _ _ _ h
  have hz : s.size = s.data.toList.length := by simp
  rw [hz, h3, List.length_append]
  exact ⟨List.length_pos_iff.2 h2, Nat.le_add_left _ _⟩
/-- What can't be JSON stays so, and its place. -/
theorem who_stays {D : Nat} {s m : ByteArray} (h : (whoJ D s).1 = 0 ∨ (whoJ D s).1 = 3) : whoJ D (s ++ m) = whoJ D s ∧ 0 ≤ (whoJ D s).2 ∧ (whoJ D s).2 < s.size := by
  cases hr : runJ D .v [] s.data.toList with
  | ok q =>
    obtain ⟨p, st⟩ := q
    rw [who_ok hr] at h
    cases h2 : endJ p st <;> rw [h2] at h <;> rcases h with h | h <;> simp at h
  | error q =>
    obtain ⟨x, r⟩ := q
    have hp := bad_place hr
    have ha : runJ D .v [] (s ++ m).data.toList = .error (x, r ++ m.data.toList) := by
      rw [show (s ++ m).data.toList = s.data.toList ++ m.data.toList from by simp [ByteArray.data_append], run_app, hr]
    rw [who_bad hr, who_bad ha]
    have hm : m.data.toList.length = m.size := by simp
    refine ⟨?_, ?_, ?_⟩
    · rw [List.length_append, hm, ByteArray.size_append]
      congr 1
      omega
    · show (0 : Int) ≤ (s.size : Int) - (r.length : Int)
      omega
    · show (s.size : Int) - (r.length : Int) < s.size
      omega
/-- What may be JSON: what comes behind is wrong no sooner than behind it. -/
theorem who_open {D : Nat} {s m : ByteArray} (h0 : (whoJ D s).1 ≠ 0) (h3 : (whoJ D s).1 ≠ 3) : (whoJ D s).2 = -1 ∧ ((whoJ D (s ++ m)).2 = -1 ∨ (s.size : Int) ≤ (whoJ D (s ++ m)).2) := by
  cases hr : runJ D .v [] s.data.toList with
  | error q =>
    obtain ⟨x, r⟩ := q
    rw [who_bad hr] at h0 h3
    rcases (run_bad D _ _ _ _ _ hr).1 with rfl | rfl
    · exact absurd rfl h0
    · exact absurd rfl h3
  | ok q =>
    obtain ⟨p, st⟩ := q
    refine ⟨by rw [who_ok hr], ?_⟩
    have ha : runJ D .v [] (s ++ m).data.toList = runJ D p st m.data.toList := by
      rw [show (s ++ m).data.toList = s.data.toList ++ m.data.toList from by simp [ByteArray.data_append], run_app, hr]
    cases hm : runJ D p st m.data.toList with
    | ok q2 =>
      obtain ⟨p2, st2⟩ := q2
      rw [hm] at ha
      exact Or.inl (by rw [who_ok ha])
    | error q2 =>
      obtain ⟨x, r⟩ := q2
      rw [hm] at ha
      obtain ⟨_, _, y, hy⟩ := run_bad D _ _ _ _ _ hm
      have hz : m.size = m.data.toList.length := by simp
      rw [hy, List.length_append] at hz
      refine Or.inr ?_
      rw [who_bad ha, ByteArray.size_append]
      show (s.size : Int) ≤ ((s.size + m.size : Nat) : Int) - (r.length : Int)
      omega

/-- How deep it is at most. -/
theorem beg_deep {D : Nat} {st : List Bool} {b : UInt8} {p : Pj} {st' : List Bool} (hs : st.length ≤ D) (h : begJ D st b = .go p st') : st'.length ≤ D := by
  unfold begJ at h
  repeat' split at h
  all_goals first
    | (cases h; done)
    | (injection h with _ h; subst h; first | exact hs | (simp; omega))
theorem beh_deep {D : Nat} {st : List Bool} {b : UInt8} {p : Pj} {st' : List Bool} (hs : st.length ≤ D) (h : behJ st b = .go p st') : st'.length ≤ D := by
  unfold behJ at h
  repeat' split at h
  all_goals first
    | (cases h; done)
    | (injection h with _ h; subst h; first | exact hs | (simp at hs; omega))
theorem step_deep {D : Nat} {p p' : Pj} {st st' : List Bool} {b : UInt8} (hs : st.length ≤ D) (h : stepJ D p st b = .go p' st') : st'.length ≤ D := by
  unfold stepJ at h
  repeat' split at h
  all_goals first
    | (cases h; done)
    | exact beg_deep hs h
    | exact beh_deep hs h
    | (injection h with _ h; subst h; first | exact hs | (rw [List.length_tail]; omega))
theorem run_deep {D : Nat} : ∀ (l : List UInt8) {p p' : Pj} {st st' : List Bool}, st.length ≤ D → runJ D p st l = .ok (p', st') → st'.length ≤ D
  | [], _, _, _, _, hs, h => by cases h; exact hs
  | b :: l, p, p', st, st', hs, h => by
    rw [runJ] at h
    cases h2 : stepJ D p st b with
    | go q su =>
      rw [h2] at h
      exact run_deep l (step_deep hs h2) h
    | no => rw [h2] at h; cases h
    | de => rw [h2] at h; cases h
end Go.Proofs.YtbojbkpplejdmaaGreat
namespace Go.Proofs.YtbojbkpplejdmaaGreat

/-- Behind a value in an array or an object. -/
def talE (named : Bool) (k : List UInt8 → Ej) : Ej → Ej
  | .wl r => match r.dropWhile whiB with
    | [] => .op
    | b :: r' => if b == (if named then 125 else 93) then .wl r' else if b == 44 then k r' else .bd (b :: r')
  | x => x
/-- Behind a name. -/
def namE (k : List UInt8 → Ej) : Ej → Ej
  | .wl r => match r.dropWhile whiB with
    | [] => .op
    | b :: r' => if b == 58 then k r' else .bd (b :: r')
  | x => x
/-- What begins with these bytes. -/
def fstE (list : Bool → List UInt8 → Ej) (depth : Nat) (b : UInt8) (r : List UInt8) : Ej :=
  if b == 91 then (if depth == 0 then .dp (b :: r) else list false r)
  else if b == 123 then (if depth == 0 then .dp (b :: r) else list true r)
  else if b == 34 then quoE 0 r
  else if b == 45 then numE 0 r
  else if digB b then numE 0 (b :: r)
  else if b == 116 then worE [114, 117, 101] r
  else if b == 102 then worE [97, 108, 115, 101] r
  else if b == 110 then worE [117, 108, 108] r
  else .bd (b :: r)
/-- A value (none), or what stands within an array or an object (of names? just begun?). -/
def dscE : Nat → Option (Bool × Bool) → Nat → List UInt8 → Ej
  | 0, _, _, _ => .op
  | f + 1, none, depth, l => match l.dropWhile whiB with
    | [] => .op
    | b :: r => fstE (fun named r => dscE f (some (named, true)) (depth - 1) r) depth b r
  | f + 1, some (named, first), depth, l => match l.dropWhile whiB with
    | [] => .op
    | b :: r => if first && b == (if named then 125 else 93) then .wl r
      else if named then (if b == 34 then talE named (fun r => dscE f (some (named, false)) depth r) (namE (fun r => dscE f none depth r) (quoE 0 r)) else .bd (b :: r))
      else talE named (fun r => dscE f (some (named, false)) depth r) (dscE f none depth (b :: r))

/-! How much is left. -/
theorem drop_len (l : List UInt8) : (l.dropWhile whiB).length ≤ l.length := (List.dropWhile_suffix _).length_le
theorem dropW_cons {l : List UInt8} {b : UInt8} {r : List UInt8} (h : l.dropWhile whiB = b :: r) : r.length + 1 ≤ l.length ∧ whiB b = false := by
  have h1 := drop_len l
  rw [h] at h1
  refine ⟨h1, ?_⟩
  have h2 := List.head?_dropWhile_not whiB l
  rw [h] at h2
  simpa using h2
theorem quo_len : ∀ (l : List UInt8) (n : Nat) {r : List UInt8}, quoE n l = .wl r → r.length ≤ l.length
  | [], _, _, h => by cases h
  | b :: l, n, r, h => by
    rw [quoE] at h
    split at h
    · cases h; exact Nat.le_succ _
    · split at h
      · exact Nat.le_succ_of_le (quo_len l _ h)
      · cases h
theorem wor_len : ∀ (x l : List UInt8) {r : List UInt8}, worE x l = .wl r → r.length ≤ l.length
  | [], _, _, h => by cases h; exact Nat.le_refl _
  | _ :: _, [], _, h => by cases h
  | x :: xs, b :: l, r, h => by
    rw [worE] at h
    split at h
    · exact Nat.le_succ_of_le (wor_len xs l h)
    · cases h
theorem num_len : ∀ (l : List UInt8) (i : Nat) {r : List UInt8}, numE i l = .wl r → r.length ≤ l.length
  | [], i, r, h => by
    rw [numE] at h
    split at h
    · cases h; exact Nat.le_refl _
    · cases h
  | b :: l, 0, r, h => by
    rw [numE] at h
    repeat' split at h
    all_goals first
      | (cases h; done)
      | exact Nat.le_succ_of_le (num_len l _ h)
      | (cases h; exact Nat.le_refl _)
  | b :: l, 1, r, h => by
    rw [numE] at h
    repeat' split at h
    all_goals first
      | (cases h; done)
      | exact Nat.le_succ_of_le (num_len l _ h)
      | (cases h; exact Nat.le_refl _)
  | b :: l, 2, r, h => by
    rw [numE] at h
    repeat' split at h
    all_goals first
      | (cases h; done)
      | exact Nat.le_succ_of_le (num_len l _ h)
      | (cases h; exact Nat.le_refl _)
  | b :: l, 3, r, h => by
    rw [numE] at h
    repeat' split at h
    all_goals first
      | (cases h; done)
      | exact Nat.le_succ_of_le (num_len l _ h)
      | (cases h; exact Nat.le_refl _)
  | b :: l, 4, r, h => by
    rw [numE] at h
    repeat' split at h
    all_goals first
      | (cases h; done)
      | exact Nat.le_succ_of_le (num_len l _ h)
      | (cases h; exact Nat.le_refl _)
  | b :: l, 5, r, h => by
    rw [numE] at h
    repeat' split at h
    all_goals first
      | (cases h; done)
      | exact Nat.le_succ_of_le (num_len l _ h)
      | (cases h; exact Nat.le_refl _)
  | b :: l, 6, r, h => by
    rw [numE] at h
    repeat' split at h
    all_goals first
      | (cases h; done)
      | exact Nat.le_succ_of_le (num_len l _ h)
      | (cases h; exact Nat.le_refl _)
  | b :: l, i + 7, r, h => by
    rw [numE] at h
    repeat' split at h
    all_goals first
      | (cases h; done)
      | exact Nat.le_succ_of_le (num_len l _ h)
      | (cases h; exact Nat.le_refl _)
theorem tal_nil {named : Bool} {k : List UInt8 → Ej} {y : List UInt8} (hd : y.dropWhile whiB = []) : talE named k (.wl y) = .op := by
  show (match y.dropWhile whiB with | [] => Ej.op | b :: r' => _) = _
  rw [hd]
theorem tal_cons {named : Bool} {k : List UInt8 → Ej} {y r : List UInt8} {b : UInt8} (hd : y.dropWhile whiB = b :: r) : talE named k (.wl y) = if b == (if named then 125 else 93) then .wl r else if b == 44 then k r else .bd (b :: r) := by
  show (match y.dropWhile whiB with | [] => Ej.op | b :: r' => _) = _
  rw [hd]
theorem nam_nil {k : List UInt8 → Ej} {y : List UInt8} (hd : y.dropWhile whiB = []) : namE k (.wl y) = .op := by
  show (match y.dropWhile whiB with | [] => Ej.op | b :: r' => _) = _
  rw [hd]
theorem nam_cons {k : List UInt8 → Ej} {y r : List UInt8} {b : UInt8} (hd : y.dropWhile whiB = b :: r) : namE k (.wl y) = if b == 58 then k r else .bd (b :: r) := by
  show (match y.dropWhile whiB with | [] => Ej.op | b :: r' => _) = _
  rw [hd]
theorem tal_len {named : Bool} {k : List UInt8 → Ej} {N : Nat} (hk : ∀ r r', r.length ≤ N → k r = .wl r' → r'.length ≤ N) {x : Ej} (hx : ∀ r, x = .wl r → r.length ≤ N) {r : List UInt8} (h : talE named k x = .wl r) : r.length ≤ N := by
  cases x with
  | op => cases h
  | bd _ => cases h
  | dp _ => cases h
  | wl y =>
    have hy := hx y rfl
    cases hd : y.dropWhile whiB with
    | nil => rw [tal_nil hd] at h; cases h
    | cons b r' =>
      have h1 := (dropW_cons hd).1
      rw [tal_cons hd] at h
      by_cases c1 : (b == (if named then 125 else 93)) = true
      · rw [if_pos c1] at h
        cases h
        omega
      · rw [if_neg c1] at h
        by_cases c2 : (b == 44) = true
        · rw [if_pos c2] at h
          exact hk _ _ (by omega) h
        · rw [if_neg c2] at h
          cases h
theorem nam_len {k : List UInt8 → Ej} {N : Nat} (hk : ∀ r r', r.length ≤ N → k r = .wl r' → r'.length ≤ N) {x : Ej} (hx : ∀ r, x = .wl r → r.length ≤ N) {r : List UInt8} (h : namE k x = .wl r) : r.length ≤ N := by
  cases x with
  | op => cases h
  | bd _ => cases h
  | dp _ => cases h
  | wl y =>
    have hy := hx y rfl
    cases hd : y.dropWhile whiB with
    | nil => rw [nam_nil hd] at h; cases h
    | cons b r' =>
      have h1 := (dropW_cons hd).1
      rw [nam_cons hd] at h
      by_cases c1 : (b == 58) = true
      · rw [if_pos c1] at h
        exact hk _ _ (by omega) h
      · rw [if_neg c1] at h
        cases h
theorem fst_len {list : Bool → List UInt8 → Ej} {N depth : Nat} (hk : ∀ t r r', r.length ≤ N → list t r = .wl r' → r'.length ≤ N) {b : UInt8} {y r : List UInt8} (hy : y.length + 1 ≤ N) (h : fstE list depth b y = .wl r) : r.length ≤ N := by
  unfold fstE at h
  repeat' split at h
  all_goals first
    | (cases h; done)
    | exact hk _ _ _ (by omega) h
    | exact Nat.le_trans (quo_len _ _ h) (by omega)
    | exact Nat.le_trans (wor_len _ _ h) (by omega)
    | exact Nat.le_trans (num_len _ _ h) (by first | omega | (simp; omega))
theorem dsc_val {f depth : Nat} {l r : List UInt8} {b : UInt8} (hd : l.dropWhile whiB = b :: r) : dscE (f + 1) none depth l = fstE (fun named r => dscE f (some (named, true)) (depth - 1) r) depth b r := by
  rw [dscE, hd]
theorem dsc_lis {f depth : Nat} {named first : Bool} {l r : List UInt8} {b : UInt8} (hd : l.dropWhile whiB = b :: r) : dscE (f + 1) (some (named, first)) depth l = if first && b == (if named then 125 else 93) then .wl r
      else if named then (if b == 34 then talE named (fun r => dscE f (some (named, false)) depth r) (namE (fun r => dscE f none depth r) (quoE 0 r)) else .bd (b :: r))
      else talE named (fun r => dscE f (some (named, false)) depth r) (dscE f none depth (b :: r)) := by
  rw [dscE, hd]
theorem dsc_nil {f depth : Nat} {o : Option (Bool × Bool)} {l : List UInt8} (hd : l.dropWhile whiB = []) : dscE (f + 1) o depth l = .op := by
  cases o with
  | none => rw [dscE, hd]
  | some p => obtain ⟨a, b⟩ := p; rw [dscE, hd]
theorem dsc_len : ∀ (f : Nat) (o : Option (Bool × Bool)) (depth : Nat) (l : List UInt8) (N : Nat) (r : List UInt8), l.length ≤ N → dscE f o depth l = .wl r → r.length ≤ N
  | 0, _, _, _, _, _, _, h => by cases h
  | f + 1, o, depth, l, N, r, hl, h => by
    cases hd : l.dropWhile whiB with
    | nil => rw [dsc_nil hd] at h; cases h
    | cons b y =>
      have h1 := (dropW_cons hd).1
      cases o with
      | none =>
        rw [dsc_val hd] at h
        exact fst_len (fun t r r' hr => dsc_len f _ _ r N r' hr) (by omega) h
      | some p =>
        obtain ⟨named, first⟩ := p
        rw [dsc_lis hd] at h
        by_cases c1 : (first && b == (if named then 125 else 93)) = true
        · rw [if_pos c1] at h
          cases h
          omega
        · rw [if_neg c1] at h
          by_cases c2 : named = true
          · rw [if_pos c2] at h
            by_cases c3 : (b == 34) = true
            · rw [if_pos c3] at h
              exact tal_len (fun r r' hr => dsc_len f _ _ r N r' hr) (fun r hx => nam_len (fun r r' hr => dsc_len f _ _ r N r' hr) (fun r hq => Nat.le_trans (quo_len _ _ hq) (by omega)) hx) h
            · rw [if_neg c3] at h
              cases h
          · rw [if_neg c2] at h
            exact tal_len (fun r r' hr => dsc_len f _ _ r N r' hr) (fun r hx => dsc_len f _ _ _ N r (by simp; omega) hx) h
end Go.Proofs.YtbojbkpplejdmaaGreat
namespace Go.Proofs.YtbojbkpplejdmaaGreat
open Go.RowKit

set_option maxHeartbeats 1000000 in
theorem has_any (t : ByteArray) (b : UInt8) (w : World) (hs : t.size ≤ 9223372036854775807) :
    Calls Tryz.prog 42 #[.string t, .int .u8 (b.toNat : Int)] w fun e w' => e = .returned (.bool (hasB t b)) ∧ w = w' := by
  go_enter Tryz.func42, Tryz.ntmps42
  go_wp2
  go_loop [5] (fun i => ∃ k : Nat, k ≤ t.size ∧ i = .int .i64 k ∧ ∀ j (hj : j < t.size), j < k → t[j] ≠ b) (fun i => t.size - (intOf i).toNat)
  case atStart => exact ⟨0, by omega, rfl, fun j _ h => absurd h (by omega)⟩
  case round =>
    obtain ⟨k, hk, rfl, hno⟩ := hrel
    have HN := Lib.hid hno
    clear hno
    by_cases hlt : k < t.size
    · by_cases he : t[k] = b
      · have HA : Hid (hasB t b = true) := hasB_at hlt he
        have d1 : ((t[k].toNat : Int) == (b.toNat : Int)) = true := by rw [he]; simp
        clear he
        go_wp2
        go_ret
        exact ⟨by rw [HA.out]; rfl, rfl⟩
      · have d1 : ((t[k].toNat : Int) == (b.toNat : Int)) = false := by
          simp only [beq_eq_false_iff_ne, ne_eq]
          intro h
          exact he (UInt8.toNat_inj.1 (by omega))
        have HE := Lib.hid he
        clear he
        go_wp2
        go_round
        case rel => exact ⟨k + 1, by omega, by go_num, fun j hj h => if h1 : j = k then by subst h1; exact HE.out else HN.out j hj (by omega)⟩
        case measure => simp [intOf]; omega
    · obtain rfl : k = t.size := by omega
      have HA : Hid (hasB t b = false) := hasB_no fun i hi => HN.out i hi hi
      go_wp2
      go_ret
      exact ⟨by rw [HA.out]; rfl, rfl⟩

end Go.Proofs.YtbojbkpplejdmaaGreat
