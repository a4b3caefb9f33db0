/-
  From a walk to a law's statement: where a call returns true, and nothing older has turned, the row's post holds. Conditions: those of the lemma's hypotheses.
  Plain facts on headers: what is got, cut and set, header by header. No condition.
  Plain facts on the order of texts, and on lists in order: a list in order whose headers of each name stand as they stood is the only one. No condition.
-/
import Derived.Test.YtjikahflbhgniaaRows
import Derived.ProofKit
import Derived.WideKeyArgs
import Derived.Carry
import Derived.Lib.SmallJoins
import Derived.Test.YtjikahflbhgniaaZ7
import GoSem.Op.String
namespace Go.Proofs.Ytjikahflbhgniaa
open Go.ChangeShapes Go.WideShapes Go.ChangeAt Go.RowKit Go.Joins

theorem trodAll_len {H : Type} {enc : TypeId × Value → H} {P : Program} {w : World} {base : Nat} {spare : Nat → Bool} {held : Bool} :
    ∀ (ts : List TypeId) (vs : List Value) (ds : List (DataW H)) (ps : List MemPlace), DataW.TrodAll enc P w base spare held ts vs ds ps → ds.length = ts.length
  | [], [], [], _, _ => rfl
  | _ :: ts, _ :: vs, _ :: ds, _, h => by
    obtain ⟨p, q, _, h2, _⟩ := h
    simpa using trodAll_len ts vs ds q h2
  | [], _ :: _, _, _, h => by cases h
  | [], [], _ :: _, _, h => by cases h
  | _ :: _, [], _, _, h => by cases h
  | _ :: _, _ :: _, [], _, h => by cases h

theorem trodAll_below {H : Type} {enc : TypeId × Value → H} {P : Program} (hl : laidOutB P = true) {W W' : World} (hb : Below W.heap.size W W') :
    ∀ (ts : List TypeId) (vs : List Value) (ds : List (DataW H)) (ps : List MemPlace), DataW.TrodAll enc P W 0 (fun _ => true) true ts vs ds ps →
      (∀ t ∈ ts, P.readableRec t = true ∧ t < P.types.size) → (∀ x ∈ ps, x.block < W.heap.size) →
      DataW.TrodAll enc P W' 0 (fun b => decide (b < W.heap.size)) true ts vs ds ps
  | [], [], [], _, h, _, _ => h
  | t :: ts, v :: vs, d :: ds, ps, h, hr, hlt => by
    obtain ⟨p, q, h1, h2, rfl⟩ := h
    exact ⟨p, q, Below.trod hl (hr t (by simp)).1 (hr t (by simp)).2 h1 hb (fun x hx => hlt x (by simp [hx])),
      trodAll_below hl hb ts vs ds q h2 (fun t ht => hr t (by simp [ht])) (fun x hx => hlt x (by simp [hx])), rfl⟩
  | [], _ :: _, _, _, h, _, _ => by cases h
  | [], [], _ :: _, _, h, _, _ => by cases h
  | _ :: _, [], _, _, h, _, _ => by cases h
  | _ :: _, _ :: _, [], _, h, _, _ => by cases h

theorem law_lifted {C : Checked} {os : Os} {f : FuncId} {fn : Func} {s : ChangeSpec} {tb : TypeId} {H : Type} {enc : TypeId × Value → H}
    (own : ownKnob C.prog.godebug = none) (started : os.Started) (noInit : C.prog.inits.idxOf? f = none) (hfn : C.prog.funcs[f]? = some fn) (hl : laidOutB C.prog = true)
    (hvars : s.vars = []) (hrt : fn.resultTypes = #[tb]) (htb : C.prog.underlying tb = some .bool)
    (hread : fn.params.toList.all (fun t => C.prog.readableRec t && decide (t < C.prog.types.size)) = true)
    (hs : ∀ ds : List (DataW H), ds.length = fn.params.toList.length → (s.fn H (ds ++ [])).results = [.lit (.bool true)] ∧ (s.fn H (ds ++ [])).args = ds ∧ (s.fn H (ds ++ [])).vars = [])
    (witness : ∃ (w : World) (tape : Tape) (i : Input), w.os = os ∧ (w.forCall tape i).Shaped C.prog ∧ i.vars = [] ∧ Input.okWide C.prog (w.forCall tape i) .any w.heap.size f i ∧
      s.pre6 enc C.prog fn [] false (w.forCall tape i).memory i.args ∧ ({} : Assume).holds C.prog (lone (Frame.enter C.prog f i.args .normal) [] (w.forCall tape i)))
    (hcall : ∀ (W : World) (base : Nat) (args : Array Value) (ds : List (DataW H)) (p : List MemPlace),
      (∀ (j : Nat) t v, fn.params[j]? = some t → args[j]? = some v → Value.okWide C.prog W .any base t v) →
      DataW.TrodAll enc C.prog W 0 (fun _ => true) true fn.params.toList args.toList ds p → (∀ x ∈ p, x.block < W.heap.size) →
      Calls C.prog f args W fun e W' => e = .returned (.bool true) ∧ Below W.heap.size W W') :
    ReturnsInHanded {} C os f .any (s.pre6 enc C.prog fn [] false) (s.post enc C.prog fn false true false false) := by
  refine returnsInHanded_of_change (C := C) own started noInit hfn witness ?_
  intro W base args ds gs before hval hW _ _
  have hW' := hW
  obtain ⟨p, q, hA, hV, rfl, hfz, hnd⟩ := hW
  rw [hvars] at hV
  obtain ⟨rfl, rfl⟩ := trodVars_none hV
  simp only [List.append_nil] at hW'
  have hlt : ∀ x ∈ p, x.block < W.heap.size := fun x hx => by simpa using hW'.lt x hx
  refine (hcall W base args ds p hval hA hlt).mono fun e W' ⟨he, hb⟩ => ?_
  subst he
  obtain ⟨e1, e2, e3⟩ := hs ds (trodAll_len _ _ _ _ hA)
  refine ⟨_, rfl, ds, [], p, [], p, [], hW', ?_, ?_, ?_, hb.frame _, fun h => by cases h⟩
  · rw [e1, hrt]
    exact trodAll_mk1 (shut_bool htb true)
  · rw [e2]
    simp only [List.all_eq_true, Bool.and_eq_true, decide_eq_true_eq] at hread
    exact trodAll_below hl hb _ _ _ _ hA (fun t ht => hread t ht) hlt
  · rw [e3, hvars]
    rfl

/-- A number that can be read as a byte is one's. -/
theorem byte_of {n : Int} (h : (Lit.int .u8 n).wf = true) : ∃ b : UInt8, n = (b.toNat : Int) := by
  have h' : 0 ≤ n ∧ n < 256 := by
    have e1 : IntKind.u8.min = 0 := by kernel_rfl
    have e2 : IntKind.u8.max = 255 := by kernel_rfl
    simp [Lit.wf, e1, e2] at h
    omega
  refine ⟨UInt8.ofNat n.toNat, ?_⟩
  rw [UInt8.toNat_ofNat']
  omega

theorem Try.own : ownKnob Try.prog.godebug = none := by kernel_rfl
theorem Try.laidOut : laidOutB Try.prog = true := by kernel_rfl

end Go.Proofs.Ytjikahflbhgniaa
namespace Go.Proofs.Ytjikahflbhgniaa

theorem getN_step (name : ByteArray) (l : List Prm) {k : Nat} (h : k < l.length) :
    getN name (l.take (k + 1)) = getN name (l.take k) ++ (if hasN name l[k] then [l[k].v] else []) := by
  unfold getN
  rw [List.take_succ_eq_append_getElem h, List.filter_append, List.map_append]
  congr 1
  cases e : hasN name l[k] <;> simp [e]
theorem cutN_step (name : ByteArray) (l : List Prm) {k : Nat} (h : k < l.length) :
    cutN name (l.take (k + 1)) = cutN name (l.take k) ++ (if hasN name l[k] then [] else [l[k]]) := by
  unfold cutN
  rw [List.take_succ_eq_append_getElem h, List.filter_append]
  congr 1
  cases e : hasN name l[k] <;> simp [e]
theorem getN_len (name : ByteArray) (l : List Prm) : (getN name l).length ≤ l.length := by
  unfold getN
  rw [List.length_map]
  exact (List.filter_sublist (l := l)).length_le
theorem cutN_len (name : ByteArray) (l : List Prm) : (cutN name l).length ≤ l.length := by
  unfold cutN
  exact (List.filter_sublist (l := l)).length_le
theorem getN_none {name : ByteArray} {l : List Prm} : (getN name l).length = 0 ↔ l.any (hasN name) = false := by
  unfold getN
  rw [List.length_map, List.length_eq_zero_iff, List.filter_eq_nil_iff, List.any_eq_false]

/-- The first header of a name has a value in its place, all others go. -/
def setN (name v : ByteArray) : List Prm → List Prm
  | [] => []
  | h :: r => if hasN name h then ⟨h.n, v⟩ :: cutN name r else h :: setN name v r
theorem setN_at (name v : ByteArray) : ∀ (l : List Prm) (k : Nat) (hk : k < l.length), (∀ j (hj : j < k), hasN name (l[j]'(by omega)) = false) → hasN name l[k] = true →
    setN name v l = l.take k ++ ⟨l[k].n, v⟩ :: cutN name (l.drop (k + 1))
  | h :: r, 0, _, _, hy => by
    simp only [List.getElem_cons_zero] at hy
    simp [setN, hy]
  | h :: r, k + 1, hk, hno, hy => by
    have h0 : hasN name h = false := hno 0 (by omega)
    have ih := setN_at name v r k (by simp only [List.length_cons] at hk; omega) (fun j hj => hno (j + 1) (by omega)) (by simpa using hy)
    simp [setN, h0, ih]
theorem any_first {name : ByteArray} : ∀ {l : List Prm}, l.any (hasN name) = true → ∃ k, ∃ hk : k < l.length, (∀ j (hj : j < k), hasN name (l[j]'(by omega)) = false) ∧ hasN name l[k] = true
  | [], h => by simp at h
  | a :: r, h => by
    cases e : hasN name a
    · rw [List.any_cons, e, Bool.false_or] at h
      obtain ⟨k, hk, h1, h2⟩ := any_first h
      refine ⟨k + 1, by simpa using hk, fun j hj => ?_, by simpa using h2⟩
      cases j with
      | zero => exact e
      | succ j => exact h1 j (by omega)
    · exact ⟨0, by simp, fun j hj => absurd hj (by omega), e⟩
theorem setN_len (name v : ByteArray) (l : List Prm) : (setN name v l).length ≤ l.length := by
  induction l with
  | nil => exact Nat.le_refl _
  | cons h r ih =>
    unfold setN
    split
    · have := cutN_len name r
      simp only [List.length_cons]
      omega
    · simp only [List.length_cons]
      omega
/-- Set: the code and the list. -/
def setA (name value : ByteArray) (l : List Prm) : Nat × List Prm :=
  if hdrsB l && hdrB ⟨name, trimP whiB value⟩ then
    if l.any (hasN name) then (0, setN name (trimP whiB value) l) else if l.length = 100 then (3, []) else (0, l ++ [⟨name, trimP whiB value⟩])
  else (2, [])
/-- What is good: header by header. -/
theorem good_step {l : List Prm} {k : Nat} (h : k < l.length) : (l.take (k + 1)).all hdrB = ((l.take k).all hdrB && hdrB l[k]) := by
  rw [List.take_succ_eq_append_getElem h, List.all_append]
  simp
theorem good_not {l : List Prm} {k : Nat} (h : k < l.length) (hb : hdrB l[k] = false) : hdrsB l = false := by
  unfold hdrsB
  rw [Bool.and_eq_false_iff]
  left
  rw [List.all_eq_false]
  exact ⟨l[k], List.getElem_mem h, by simp [hb]⟩
/-- The text, header by header. -/
theorem hdrsL_step {l : List Prm} {k : Nat} (h : k < l.length) : hdrsL (l.take (k + 1)) = hdrsL (l.take k) ++ hdrL l[k] := by
  unfold hdrsL
  rw [List.take_succ_eq_append_getElem h, List.flatMap_append]
  simp
theorem hdrL_len (h : Prm) : (hdrL h).length = h.n.size + h.v.size + 4 := by
  unfold hdrL
  simp
  omega

end Go.Proofs.Ytjikahflbhgniaa
namespace Go.Proofs.Ytjikahflbhgniaa
open Go.Op

theorem less_irrefl : ∀ a : List UInt8, bytesLess a a = false
  | [] => rfl
  | a :: x => by simp [bytesLess, less_irrefl x]
theorem less_trans : ∀ a b c : List UInt8, bytesLess a b = true → bytesLess b c = true → bytesLess a c = true
  | _, _, [], _, h => by cases h2 : (‹List UInt8› : List UInt8) <;> simp [bytesLess] at h
  | [], _, _ :: _, _, _ => by simp [bytesLess]
  | _ :: _, [], _ :: _, h, _ => by simp [bytesLess] at h
  | a :: x, b :: y, c :: z, h1, h2 => by
    simp only [bytesLess, Bool.or_eq_true, Bool.and_eq_true, decide_eq_true_eq, beq_iff_eq] at *
    rcases h1 with h1 | ⟨rfl, h1⟩
    · rcases h2 with h2 | ⟨rfl, _⟩
      · exact .inl (UInt8.lt_trans h1 h2)
      · exact .inl h1
    · rcases h2 with h2 | ⟨rfl, h2⟩
      · exact .inl h2
      · exact .inr ⟨rfl, less_trans x y z h1 h2⟩
theorem less_total : ∀ a b : List UInt8, bytesLess a b = false → bytesLess b a = false → a = b
  | [], [], _, _ => rfl
  | [], _ :: _, h, _ => by simp [bytesLess] at h
  | _ :: _, [], _, h => by simp [bytesLess] at h
  | a :: x, b :: y, h1, h2 => by
    simp only [bytesLess, Bool.or_eq_false_iff, Bool.and_eq_false_iff, decide_eq_false_iff_not, beq_eq_false_iff_ne] at *
    have e : a = b := UInt8.le_antisymm (UInt8.not_lt.1 h2.1) (UInt8.not_lt.1 h1.1)
    subst e
    have := less_total x y (by rcases h1.2 with h | h; exact absurd rfl h; exact h) (by rcases h2.2 with h | h; exact absurd rfl h; exact h)
    rw [this]

/-- Whether a header's name comes before another one's. -/
def lssN (a b : Prm) : Bool := bytesLess a.n.toList b.n.toList
/-- In order: none comes before one that stands ahead of it. -/
def InOrder (l : List Prm) : Prop := l.Pairwise fun a b => lssN b a = false
theorem les_trans {a b c : Prm} (h1 : lssN b a = false) (h2 : lssN c b = false) : lssN c a = false := by
  cases h : lssN c a
  · rfl
  · exfalso
    unfold lssN at *
    cases h3 : bytesLess b.n.toList c.n.toList
    · have e := less_total _ _ h3 h2
      rw [← e] at h
      rw [h] at h1
      cases h1
    · have := less_trans _ _ _ h3 h
      rw [this] at h1
      cases h1
theorem les_of {a b : Prm} (h : lssN a b = true) : lssN b a = false := by
  cases h2 : lssN b a
  · rfl
  · have := less_trans _ _ _ h h2
    rw [less_irrefl] at this
    cases this
/-- The headers of one name. -/
def ofN (x : List UInt8) (l : List Prm) : List Prm := l.filter fun h => h.n.toList == x
theorem order_only : ∀ (l m : List Prm), InOrder l → InOrder m → (∀ x, ofN x l = ofN x m) → l = m
  | [], [], _, _, _ => rfl
  | [], b :: m, _, _, h => by
    have := h b.n.toList
    simp [ofN] at this
  | a :: l, [], _, _, h => by
    have := h a.n.toList
    simp [ofN] at this
  | a :: l, b :: m, hl, hm, h => by
    unfold InOrder at hl hm
    rw [List.pairwise_cons] at hl hm
    have hb : lssN b a = false := by
      have h1 : b ∈ ofN b.n.toList (a :: l) := by rw [h]; simp [ofN]
      have h2 : b ∈ a :: l := (List.mem_filter.1 h1).1
      rcases List.mem_cons.1 h2 with rfl | h2
      · exact less_irrefl _
      · exact hl.1 b h2
    have ha : lssN a b = false := by
      have h1 : a ∈ ofN a.n.toList (b :: m) := by rw [← h]; simp [ofN]
      have h2 : a ∈ b :: m := (List.mem_filter.1 h1).1
      rcases List.mem_cons.1 h2 with rfl | h2
      · exact less_irrefl _
      · exact hm.1 a h2
    have e : a.n.toList = b.n.toList := less_total _ _ ha hb
    have h1 := h a.n.toList
    have e1 : ofN a.n.toList (a :: l) = a :: ofN a.n.toList l := by simp [ofN]
    have e2 : ofN a.n.toList (b :: m) = b :: ofN a.n.toList m := by simp [ofN, e]
    rw [e1, e2] at h1
    obtain ⟨rfl, h2⟩ := List.cons.inj h1
    have ih := order_only l m hl.2 hm.2 (fun x => by
      by_cases hx : a.n.toList = x
      · rw [← hx]; exact h2
      · have := h x
        have f1 : ofN x (a :: l) = ofN x l := by simp [ofN, hx]
        have f2 : ofN x (a :: m) = ofN x m := by simp [ofN, hx]
        rwa [f1, f2] at this)
    rw [ih]
/-- A header put in behind all that do not come after it. -/
theorem put_order {out : List Prm} {h : Prm} {k : Nat} (ho : InOrder out) (h1 : ∀ x ∈ out.take k, lssN h x = false) (h2 : ∀ x ∈ out.drop k, lssN h x = true) :
    InOrder (out.take k ++ h :: out.drop k) ∧ ∀ x, ofN x (out.take k ++ h :: out.drop k) = ofN x (out ++ [h]) := by
  have hsp : out = out.take k ++ out.drop k := (List.take_append_drop k out).symm
  generalize out.take k = p at *
  generalize out.drop k = q at *
  subst hsp
  unfold InOrder at *
  rw [List.pairwise_append] at ho ⊢
  refine ⟨⟨ho.1, ?_, fun a ha b hb => ?_⟩, fun x => ?_⟩
  · rw [List.pairwise_cons]
    exact ⟨fun b hb => les_of (h2 b hb), ho.2.1⟩
  · rcases List.mem_cons.1 hb with rfl | hb
    · exact h1 a ha
    · exact ho.2.2 a ha b hb
  · unfold ofN
    rw [List.filter_append, List.append_assoc, List.filter_append, List.filter_append]
    congr 1
    by_cases hx : h.n.toList = x
    · have hq : q.filter (fun a => a.n.toList == x) = [] := by
        rw [List.filter_eq_nil_iff]
        intro a ha
        have := h2 a ha
        unfold lssN at this
        intro e
        rw [beq_iff_eq] at e
        rw [hx, e, less_irrefl] at this
        cases this
      rw [hq, List.filter_cons, if_pos (by simp [hx]), hq]
      simp [hx]
    · rw [List.filter_cons, if_neg (by simp [hx])]
      simp [hx]
/-- With small names. -/
def lwrN (h : Prm) : Prm := ⟨lowS h.n, h.v⟩
/-- What a list is in order. -/
def Sorted (l out : List Prm) : Prop := InOrder out ∧ ∀ x, ofN x out = ofN x (l.map lwrN)
theorem Sorted.only {l m n : List Prm} (h1 : Sorted l m) (h2 : Sorted l n) : m = n := order_only _ _ h1.1 h2.1 fun x => (h1.2 x).trans (h2.2 x).symm
theorem Sorted.nil : Sorted [] [] := ⟨List.Pairwise.nil, fun _ => rfl⟩
theorem Sorted.step {l out : List Prm} {k i : Nat} (hk : k < l.length) (hs : Sorted (l.take k) out) (h1 : ∀ x ∈ out.take i, lssN (lwrN l[k]) x = false) (h2 : ∀ x ∈ out.drop i, lssN (lwrN l[k]) x = true) :
    Sorted (l.take (k + 1)) (out.take i ++ lwrN l[k] :: out.drop i) := by
  obtain ⟨g1, g2⟩ := put_order hs.1 h1 h2
  refine ⟨g1, fun x => ?_⟩
  rw [g2, List.take_succ_eq_append_getElem hk, List.map_append]
  unfold ofN
  rw [List.filter_append, List.filter_append]
  have := hs.2 x
  unfold ofN at this
  rw [this]
  rfl
/-- Of a list in order: what does not come after the last one of a run comes after none of it. -/
theorem run_order {out : List Prm} {h : Prm} {k : Nat} (ho : InOrder out) (hk : k < out.length) (hl : lssN h out[k] = false) : ∀ x ∈ out.take (k + 1), lssN h x = false := by
  intro x hx
  rw [List.take_succ_eq_append_getElem hk, List.mem_append] at hx
  rcases hx with hx | hx
  · refine les_trans ?_ hl
    have hp : InOrder (out.take k ++ out[k] :: out.drop (k + 1)) := by
      rw [← List.drop_eq_getElem_cons hk, List.take_append_drop]; exact ho
    unfold InOrder at hp
    rw [List.pairwise_append] at hp
    exact hp.2.2 x hx _ List.mem_cons_self
  · rw [List.mem_singleton.1 hx]; exact hl

/-- What the walks ask of two names. -/
theorem gtr_yes {a b : List UInt8} (h : (!(bytesLess a b || a == b)) = true) : bytesLess b a = true := by
  rw [Bool.not_eq_true', Bool.or_eq_false_iff, beq_eq_false_iff_ne] at h
  cases h2 : bytesLess b a
  · exact absurd (less_total _ _ h.1 h2) h.2
  · rfl
theorem gtr_no {a b : List UInt8} (h : (!(bytesLess a b || a == b)) = false) : bytesLess b a = false := by
  rw [Bool.not_eq_false', Bool.or_eq_true, beq_iff_eq] at h
  rcases h with h | rfl
  · cases h2 : bytesLess b a
    · rfl
    · have := less_trans _ _ _ h h2
      rw [less_irrefl] at this
      cases this
  · exact less_irrefl _
theorem drop_all {P : Prm → Prop} {l : List Prm} {k : Nat} (hk : k < l.length) (h0 : P l[k]) (h : ∀ x ∈ l.drop (k + 1), P x) : ∀ x ∈ l.drop k, P x := by
  intro x hx
  rw [List.drop_eq_getElem_cons hk] at hx
  rcases List.mem_cons.1 hx with rfl | hx
  · exact h0
  · exact h x hx
theorem drop_none {P : Prm → Prop} {l : List Prm} : ∀ x ∈ l.drop l.length, P x := fun x hx => by simp at hx
theorem any_not {name : ByteArray} {l : List Prm} (h : ∀ j (hj : j < l.length), hasN name l[j] = false) : l.any (hasN name) = false := by
  rw [List.any_eq_false]
  intro x hx
  obtain ⟨j, hj, rfl⟩ := List.getElem_of_mem hx
  simp [h j hj]

end Go.Proofs.Ytjikahflbhgniaa
