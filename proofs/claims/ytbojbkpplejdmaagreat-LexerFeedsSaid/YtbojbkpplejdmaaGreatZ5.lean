/-
  Plain facts on layer 27: value within value comes to the same as byte behind byte (dsc_ok; who_is: of all bytes). No condition.
  Plain facts on texts, as layer 3 turns them: small letters, what is cut at the ends. No condition.
  What Collect of layer 4 does to a cursor, and what it answers. Conditions: the place lies in the text, which takes at most 2^47 bytes.
-/
import Derived.Test.YtbojbkpplejdmaaGreatZ3
import Derived.Test.YtbojbkpplejdmaaGreatZ4
import Derived.Test.YtbojbkpplejdmaaGreatZ1
import Derived.Lib.Strings
import Derived.Deep.RegionWith
import Derived.Test.YtbojbkpplejdmaaGreatRows
import Derived.WalkKit
import Derived.WalkSpells
import Derived.WalkLawsBesides
import Derived.Defers
import Derived.Recover
import Derived.RegionTactic
import Derived.BigRegion
import Derived.Deep.QuietTactic
import Derived.BigQuiet
import Derived.Outline
import Derived.Deep.RegionHeld3
import Derived.StillTailTactics
import Derived.Lib.Hide
import Derived.IntWalk
import Derived.LoopTactic
import Derived.KernelRfl
import Derived.Laws.Externs
import Derived.Lib.FrozenHead2
namespace Go.Proofs.YtbojbkpplejdmaaGreat

theorem fst_ok {D depth : Nat} {p : Pj} {st : List Bool} {b : UInt8} {r : List UInt8} {list : Bool → List UInt8 → Ej} (hp : stepJ D p st b = begJ D st b) (hd : st.length + depth = D)
    (hl : ∀ t, st.length < D → ansJ D (if t then .o else .a) (t :: st) r = thenJ D .e st (list t r)) : ansJ D p st (b :: r) = thenJ D .e st (fstE list depth b r) := by
  unfold fstE
  by_cases c1 : (b == 91) = true
  · rw [if_pos c1]
    have hb : begJ D st b = if st.length < D then .go .a (false :: st) else .de := by unfold begJ; rw [if_pos c1]
    by_cases h0 : depth = 0
    · rw [if_pos (by simpa using h0)]
      rw [if_neg (by omega)] at hb
      exact ans_de (hp.trans hb)
    · rw [if_neg (by simpa using h0)]
      rw [if_pos (by omega)] at hb
      exact (ans_go (hp.trans hb)).trans (hl false (by omega))
  rw [if_neg c1]
  by_cases c2 : (b == 123) = true
  · rw [if_pos c2]
    have hb : begJ D st b = if st.length < D then .go .o (true :: st) else .de := by unfold begJ; rw [if_neg c1, if_pos c2]
    by_cases h0 : depth = 0
    · rw [if_pos (by simpa using h0)]
      rw [if_neg (by omega)] at hb
      exact ans_de (hp.trans hb)
    · rw [if_neg (by simpa using h0)]
      rw [if_pos (by omega)] at hb
      exact (ans_go (hp.trans hb)).trans (hl true (by omega))
  rw [if_neg c2]
  by_cases c3 : (b == 34) = true
  · rw [if_pos c3]
    exact (ans_go (hp.trans (by unfold begJ; rw [if_neg c1, if_neg c2, if_pos c3]))).trans (ans_quo D false st r 0)
  rw [if_neg c3]
  by_cases c4 : (b == 45) = true
  · rw [if_pos c4]
    exact (ans_go (hp.trans (by unfold begJ; rw [if_neg c1, if_neg c2, if_neg c3, if_pos c4]))).trans (ans_num D st r 0)
  rw [if_neg c4]
  by_cases c5 : (b == 48) = true
  · have e : b = 48 := by simpa using c5
    have h1 : digB b = true := by rw [e]; kernel_rfl
    rw [if_pos h1, numE, if_pos c5]
    exact (ans_go (hp.trans (by unfold begJ; rw [if_neg c1, if_neg c2, if_neg c3, if_neg c4, if_pos c5]))).trans (ans_num D st r 2)
  by_cases c6 : digB b = true
  · rw [if_pos c6, numE, if_neg c5, if_pos c6]
    exact (ans_go (hp.trans (by unfold begJ; rw [if_neg c1, if_neg c2, if_neg c3, if_neg c4, if_neg c5, if_pos c6]))).trans (ans_num D st r 1)
  rw [if_neg c6]
  by_cases c7 : (b == 116) = true
  · rw [if_pos c7]
    exact (ans_go (hp.trans (by unfold begJ; rw [if_neg c1, if_neg c2, if_neg c3, if_neg c4, if_neg c5, if_neg c6, if_pos c7]))).trans (ans_wor D st r _ _)
  rw [if_neg c7]
  by_cases c8 : (b == 102) = true
  · rw [if_pos c8]
    exact (ans_go (hp.trans (by unfold begJ; rw [if_neg c1, if_neg c2, if_neg c3, if_neg c4, if_neg c5, if_neg c6, if_neg c7, if_pos c8]))).trans (ans_wor D st r _ _)
  rw [if_neg c8]
  by_cases c9 : (b == 110) = true
  · rw [if_pos c9]
    exact (ans_go (hp.trans (by unfold begJ; rw [if_neg c1, if_neg c2, if_neg c3, if_neg c4, if_neg c5, if_neg c6, if_neg c7, if_neg c8, if_pos c9]))).trans (ans_wor D st r _ _)
  rw [if_neg c9]
  exact ans_no (hp.trans (by unfold begJ; rw [if_neg c1, if_neg c2, if_neg c3, if_neg c4, if_neg c5, if_neg c6, if_neg c7, if_neg c8, if_neg c9]))

/-- Where reading stands within an array or an object: just begun, or behind a comma. -/
def lisP (named first : Bool) : Pj := if first then (if named then .o else .a) else (if named then .k else .v)
theorem lis_calm (named first : Bool) : calmJ (lisP named first) = true := by cases named <;> cases first <;> rfl
theorem end_in (p : Pj) (t : Bool) (st : List Bool) : endJ p (t :: st) = false := rfl
theorem tal_ok {D N : Nat} {named : Bool} {st : List Bool} {k : List UInt8 → Ej} {x : Ej} (hx : ∀ r, x = .wl r → r.length ≤ N) (hk : ∀ r, r.length + 1 ≤ N → ansJ D (lisP named false) (named :: st) r = thenJ D .e st (k r)) :
    thenJ D .e (named :: st) x = thenJ D .e st (talE named k x) := by
  cases x with
  | op => rfl
  | bd _ => rfl
  | dp _ => rfl
  | wl y =>
    have hy := hx y rfl
    show ansJ D .e (named :: st) y = _
    rw [ans_white D rfl]
    cases hd : y.dropWhile whiB with
    | nil => rw [tal_nil hd, ans_nil, end_in]; rfl
    | cons b r =>
      obtain ⟨h1, hw⟩ := dropW_cons hd
      rw [tal_cons hd]
      have hs : stepJ D .e (named :: st) b = if b == (if named then 125 else 93) then .go .e st else if b == 44 then .go (if named then .k else .v) (named :: st) else .no := by
        show behJ (named :: st) b = _
        unfold behJ
        rw [hw, if_neg (by decide)]
      by_cases c1 : (b == (if named then 125 else 93)) = true
      · rw [if_pos c1] at hs ⊢
        exact ans_go hs
      · rw [if_neg c1] at hs ⊢
        by_cases c2 : (b == 44) = true
        · rw [if_pos c2] at hs ⊢
          exact (ans_go hs).trans (hk r (by omega))
        · rw [if_neg c2] at hs ⊢
          exact ans_no hs
theorem nam_ok {D N : Nat} {st : List Bool} {k : List UInt8 → Ej} {x : Ej} (hx : ∀ r, x = .wl r → r.length ≤ N) (hk : ∀ r, r.length + 1 ≤ N → ansJ D .v (true :: st) r = thenJ D .e (true :: st) (k r)) :
    thenJ D .c (true :: st) x = thenJ D .e (true :: st) (namE k x) := by
  cases x with
  | op => rfl
  | bd _ => rfl
  | dp _ => rfl
  | wl y =>
    have hy := hx y rfl
    show ansJ D .c (true :: st) y = _
    rw [ans_white D rfl]
    cases hd : y.dropWhile whiB with
    | nil => rw [nam_nil hd, ans_nil, end_in]; rfl
    | cons b r =>
      obtain ⟨h1, hw⟩ := dropW_cons hd
      rw [nam_cons hd]
      have hs : stepJ D .c (true :: st) b = if b == 58 then .go .v (true :: st) else .no := by
        show (if whiB b then _ else _) = _
        rw [hw]
        exact if_neg (by decide)
      by_cases c1 : (b == 58) = true
      · rw [if_pos c1] at hs ⊢
        exact (ans_go hs).trans (hk r (by omega))
      · rw [if_neg c1] at hs ⊢
        exact ans_no hs
theorem dsc_ok (D : Nat) : ∀ f, (∀ depth l st, 2 * l.length + 1 ≤ f → st.length + depth = D → ansJ D .v st l = thenJ D .e st (dscE f none depth l)) ∧
    (∀ depth named first l st, 2 * l.length + 2 ≤ f → st.length + 1 + depth = D → ansJ D (lisP named first) (named :: st) l = thenJ D .e st (dscE f (some (named, first)) depth l))
  | 0 => ⟨fun _ l _ h _ => by omega, fun _ _ _ l _ h _ => by omega⟩
  | f + 1 => by
    obtain ⟨ihv, ihl⟩ := dsc_ok D f
    refine ⟨fun depth l st hf hD => ?_, fun depth named first l st hf hD => ?_⟩
    · rw [ans_white D rfl]
      cases hd : l.dropWhile whiB with
      | nil =>
        rw [dsc_nil hd, ans_nil]
        show (if st.isEmpty && false then (2 : Int) else 1, ([] : List UInt8)) = _
        rw [Bool.and_false]
        rfl
      | cons b r =>
        obtain ⟨h1, hw⟩ := dropW_cons hd
        rw [dsc_val hd]
        refine fst_ok (by show (if whiB b then _ else _) = _; rw [hw]; exact if_neg (by decide)) hD (fun t ht => ?_)
        have := ihl (depth - 1) t true r st (by omega) (by omega)
        rw [← this]
        rfl
    · rw [ans_white D (lis_calm named first)]
      cases hd : l.dropWhile whiB with
      | nil => rw [dsc_nil hd, ans_nil, end_in]; rfl
      | cons b r =>
        obtain ⟨h1, hw⟩ := dropW_cons hd
        rw [dsc_lis hd]
        have htl : ∀ x : Ej, (∀ y, x = .wl y → y.length ≤ r.length + 1) → thenJ D .e (named :: st) x = thenJ D .e st (talE named (fun r => dscE f (some (named, false)) depth r) x) := fun x hx =>
          tal_ok hx (fun y hy => ihl depth named false y st (by omega) hD)
        by_cases c1 : (first && b == (if named then 125 else 93)) = true
        · rw [if_pos c1]
          rw [Bool.and_eq_true] at c1
          obtain ⟨rfl, c1⟩ := c1
          refine ans_go ?_
          cases named with
          | true =>
            show (if whiB b then _ else if b == 125 then Sj.go .e st else _) = _
            rw [hw, if_neg (by decide)]
            exact if_pos c1
          | false =>
            show (if whiB b then _ else if b == 93 then Sj.go .e st else _) = _
            rw [hw, if_neg (by decide)]
            exact if_pos c1
        · rw [if_neg c1]
          cases named with
          | true =>
            rw [if_pos rfl]
            have hs : stepJ D (lisP true first) (true :: st) b = if b == 34 then .go (.q true 0) (true :: st) else .no := by
              cases first with
              | true =>
                show (if whiB b then _ else if b == 125 then _ else _) = _
                rw [hw, if_neg (by decide)]
                exact if_neg (by simpa using c1)
              | false =>
                show (if whiB b then _ else _) = _
                rw [hw]
                exact if_neg (by decide)
            by_cases c3 : (b == 34) = true
            · rw [if_pos c3] at hs ⊢
              rw [ans_go hs, ans_quo, if_pos rfl]
              rw [nam_ok (N := r.length) (k := fun r => dscE f none depth r) (fun y hy => quo_len _ _ hy) (fun y hy => ihv depth y (true :: st) (by omega) (by simp; omega))]
              exact htl _ (fun y hy => Nat.le_succ_of_le (nam_len (fun z z' hz => dsc_len f _ _ z r.length z' hz) (fun z hz => quo_len _ _ hz) hy))
            · rw [if_neg c3] at hs ⊢
              exact ans_no hs
          | false =>
            rw [if_neg (by decide)]
            have hs : stepJ D (lisP false first) (false :: st) b = begJ D (false :: st) b := by
              cases first with
              | true =>
                show (if whiB b then _ else if b == 93 then _ else _) = _
                rw [hw, if_neg (by decide)]
                exact if_neg (by simpa using c1)
              | false =>
                show (if whiB b then _ else _) = _
                rw [hw]
                exact if_neg (by decide)
            have hv : stepJ D .v (false :: st) b = begJ D (false :: st) b := by
              show (if whiB b then _ else _) = _
              rw [hw]
              exact if_neg (by decide)
            have he : ansJ D (lisP false first) (false :: st) (b :: r) = ansJ D .v (false :: st) (b :: r) := by
              unfold ansJ
              rw [runJ, runJ, hs, hv]
            rw [he, ihv depth (b :: r) (false :: st) (by simp; omega) (by simp; omega)]
            exact htl _ (fun y hy => dsc_len f _ _ _ _ _ (by simp) hy)

/-- Of all bytes: behind a value nothing may come but what parts. -/
def topE : Ej → Int × List UInt8
  | .op => (1, [])
  | .bd r => (0, r)
  | .dp r => (3, r)
  | .wl r => match r.dropWhile whiB with
    | [] => (2, [])
    | b :: r' => (0, b :: r')
theorem top_ok (D : Nat) (x : Ej) : thenJ D .e [] x = topE x := by
  cases x with
  | op => rfl
  | bd _ => rfl
  | dp _ => rfl
  | wl y =>
    show ansJ D .e [] y = match y.dropWhile whiB with
      | [] => (2, [])
      | b :: r' => (0, b :: r')
    rw [ans_white D rfl]
    cases hd : y.dropWhile whiB with
    | nil => rfl
    | cons b r =>
      obtain ⟨_, hw⟩ := dropW_cons hd
      exact ans_no (show stepJ D .e [] b = .no from by show behJ [] b = _; unfold behJ; rw [hw]; rfl)
theorem ans_top (D : Nat) (l : List UInt8) {f : Nat} (hf : 2 * l.length + 1 ≤ f) : ansJ D .v [] l = topE (dscE f none D l) := by
  rw [(dsc_ok D f).1 D l [] hf (by simp), top_ok]

/-! Digits gone by at once. -/
theorem num_one : ∀ l, numE 1 l = numE 1 (l.dropWhile digB)
  | [] => rfl
  | b :: l => by
    rw [List.dropWhile_cons]
    cases h : digB b with
    | true => rw [numE, h, if_pos rfl, if_pos rfl]; exact num_one l
    | false => rfl
theorem num_four : ∀ l, numE 4 l = numE 4 (l.dropWhile digB)
  | [] => rfl
  | b :: l => by
    rw [List.dropWhile_cons]
    cases h : digB b with
    | true => rw [numE, h, if_pos rfl, if_pos rfl]; exact num_four l
    | false => rfl
theorem num_seven : ∀ l, numE 7 l = .wl (l.dropWhile digB)
  | [] => rfl
  | b :: l => by
    rw [List.dropWhile_cons]
    cases h : digB b with
    | true => rw [show numE 7 (b :: l) = if digB b then numE 7 l else .wl (b :: l) from by rw [numE], h, if_pos rfl, if_pos rfl]; exact num_seven l
    | false => rw [show numE 7 (b :: l) = if digB b then numE 7 l else .wl (b :: l) from by rw [numE], h]; rfl
/-- Whether something came but what parts. -/
def begunJ (s : ByteArray) : Bool := !allB whiB s
end Go.Proofs.YtbojbkpplejdmaaGreat
namespace Go.Proofs.YtbojbkpplejdmaaGreat

theorem toList_size (a : ByteArray) : a.toList.length = a.size := by
  rw [Lib.toList_data]
  exact (Lib.size_eq a).symm
theorem extract_at {s : ByteArray} {a b i : Nat} (h : i < (s.extract a b).size) : (s.extract a b)[i]! = s[a + i]! := by
  have h2 : a + i < s.size := by simp at h; omega
  rw [getElem!_pos _ i h, getElem!_pos s _ h2]
  exact ByteArray.getElem_extract h
theorem extract_all (s : ByteArray) : s.extract 0 s.size = s := by simp
theorem scan_at {p : UInt8 → Bool} {s : ByteArray} {i : Nat} (hi : i ≤ s.size) (h : scan p s i < s.size) : p s[scan p s i] = false := by
  induction hn : s.size - i generalizing i with
  | zero =>
    have : i = s.size := by omega
    have := scan_ge p s i
    omega
  | succ n ih =>
    have hi2 : i < s.size := by omega
    cases hp : p s[i] with
    | true =>
      have e := scan_step hi2 hp
      have h' : scan p s (i + 1) < s.size := by omega
      have := ih (by omega) h' (by omega)
      simp only [e] at this
      exact this
    | false =>
      have e := scan_stop hi2 hp
      simp only [e]
      exact hp

end Go.Proofs.YtbojbkpplejdmaaGreat
namespace Go.Proofs.YtbojbkpplejdmaaGreat
open Go.RowKit

theorem Mv.chain {B : Nat} {r : List Nat} {a b c : World} (h : Mv B r a b) (k : Mv b.heap.size r b c) (hB : B ≤ a.heap.size) : Mv B r a c :=
  h.trans (k.mono (Nat.le_trans hB h.size) fun _ hx => .inl hx)
theorem Mv.idle {B : Nat} {r : List Nat} {w w' : World} (he : ∃ m, w' = w.drewN m) : Mv B r w w' := by
  obtain ⟨m, rfl⟩ := he
  exact (Mv.refl _ _ _).drewN m

end Go.Proofs.YtbojbkpplejdmaaGreat
