/-
  What takePiece does to a cursor, and what layer 4's Split answers. Condition: the text takes at most 2^45 bytes.
  What Clone and DeleteFunc of the library do with headers, and what Cut of package header answers. Condition: texts are shorter than a mebibyte, headers no more than that.
  What Parse of package header answers. Condition: the text is shorter than a mebibyte.
-/
import Derived.Test.YtjikahflbhgniaaZ6
import Derived.OwnWalk
import Derived.Laws.OwnMore
import Derived.Test.YtjikahflbhgniaaZ13
import Derived.Lib.SliceRun
import Derived.Maps.AppendAt
namespace Go.Proofs.Ytjikahflbhgniaa
open Go.RowKit

theorem bytes_back (s : ByteArray) : (⟨s.data.toList.toArray⟩ : ByteArray) = s := by
  cases s; simp

theorem own_mv {W W' : World} {base : Nat} {e : TypeId} {size : Nat} {v : Value} {n : Nat} {xs : List Value} {r : List Nat} (h : W.ownsRow base e size v n xs) (hm : Mv W.heap.size r W W') (hr : ∀ x ∈ r, v.ownBlock ≠ some x) : W'.ownsRow base e size v n xs := by
  refine ⟨h.1, ?_⟩
  rcases h.2 with hn | ⟨g, cap, cur, rfl, hb, hg, rest⟩
  · exact .inl hn
  · exact .inr ⟨g, cap, cur, rfl, hb, (hm.block g (Array.getElem?_eq_some_iff.1 hg).1 (fun hx => hr g hx rfl)).trans hg, rest⟩
theorem own_slice {W : World} {base : Nat} {e : TypeId} {size : Nat} {v : Value} {n : Nat} {xs : List Value} (h : W.ownsRow base e size v n xs) : ∃ ao n' cap, v = .slice ao n' cap := by
  rcases h.2 with ⟨hv, _⟩ | ⟨g, cap, cur, hv, _⟩
  · exact ⟨_, _, _, hv⟩
  · exact ⟨_, _, _, hv⟩

/-- Texts as cells. -/
def strs (l : List ByteArray) : List Value := l.map Value.string
/-- A slice of new memory that holds these texts. -/
def NewStrs (l : List ByteArray) (w : World) (e : Ending) (w' : World) : Prop := ∃ v, e = .returned v ∧ w'.ownsRow w.heap.size 9 1 v l.length (strs l) ∧ Below w.heap.size w w'

end Go.Proofs.Ytjikahflbhgniaa
namespace Go.Proofs.Ytjikahflbhgniaa
open Go.RowKit

theorem own_set1 {w : World} {B size n cap g : Nat} {e : TypeId} {xs : List Value} (h : w.ownsRow B e size (.slice (some ⟨g, 0, none⟩) n cap) n xs) (i : Nat) (u : Value) :
    (w.setCell ⟨g, i, none⟩ u).ownsRow B e size (.slice (some ⟨g, 0, none⟩) n cap) n (xs.set i u) := by
  refine ⟨by rw [List.length_set]; exact h.1, ?_⟩
  rcases h.2 with ⟨h1, _⟩ | ⟨g', cap', cur, h1, hB, hg, hc, hm, hs, ht⟩
  · cases h1
  · cases h1
    refine .inr ⟨g, cap, cur.setIfInBounds i u, rfl, hB, ?_, hc, hm, by simp [hs], ?_⟩
    · simp [World.setCell, Array.getElem?_modify, hg]
    · rw [Array.toList_setIfInBounds, List.take_set, ht]
theorem own_take {w : World} {B size n cap i : Nat} {A : Option Addr} {e : TypeId} {xs : List Value} (h : w.ownsRow B e size (.slice A n cap) n xs) (hi : i ≤ n) :
    w.ownsRow B e size (.slice A i cap) i (xs.take (i * size)) := by
  have hle : i * size ≤ n * size := Nat.mul_le_mul_right _ hi
  refine ⟨by rw [List.length_take, h.1]; omega, ?_⟩
  rcases h.2 with ⟨h1, h2⟩ | ⟨g', cap', cur, h1, hB, hg, hc, hm, hs, ht⟩
  · cases h1
    exact .inl ⟨by rw [show i = 0 by omega], by omega⟩
  · cases h1
    exact .inr ⟨g', cap, cur, rfl, hB, hg, by omega, hm, hs, by rw [← ht, List.take_take, Nat.min_eq_left hle]⟩
theorem own_setCells {B size n cap g : Nat} {e : TypeId} {xs : List Value} : ∀ (vs : List Value) (o : Nat) (w : World), w.ownsRow B e size (.slice (some ⟨g, 0, none⟩) n cap) n xs → n * size ≤ o →
    (w.setCells g o vs).ownsRow B e size (.slice (some ⟨g, 0, none⟩) n cap) n xs
  | [], _, _, h, _ => h
  | v :: r, o, w, h, ho => by
    have h1 := own_set1 h o v
    rw [List.set_eq_of_length_le (by rw [h.1]; exact ho)] at h1
    exact own_setCells r (o + 1) _ h1 (by omega)
theorem mv_setCells {B g : Nat} {a : World} : ∀ (vs : List Value) (o : Nat) (w : World), Mv B [g] a w → Mv B [g] a (w.setCells g o vs)
  | [], _, _, h => h
  | v :: r, o, w, h => mv_setCells r (o + 1) _ (h.setCell (.inl (by simp)) v)
theorem own_neB {w : World} {B size : Nat} {e T : TypeId} {v : Value} {n : Nat} {xs : List Value} {b : Nat} {cs : Array Value} (hown : w.ownsRow B e size v n xs) (hb : Blk w b T cs) (hTe : T ≠ e) : v.ownBlock ≠ some b := by
  rcases hown.2 with ⟨rfl, _⟩ | ⟨g, cap, cur, rfl, _, hg, _⟩
  · intro h; cases h
  · intro h
    cases h
    have h2 : w.heap[g]? = _ := hb
    rw [hg] at h2
    injection h2 with h2
    injection h2 with _ h9
    exact hTe h9.symm
/-- A row's cell, and that it may be written. -/
theorem own_cell {w : World} {B size n cap g : Nat} {e : TypeId} {xs : List Value} (h : w.ownsRow B e size (.slice (some ⟨g, 0, none⟩) n cap) n xs) {i : Nat} (hi : i < n * size) :
    (∃ u, xs[i]? = some u ∧ w.cell? ⟨g, i, none⟩ = some u) ∧ w.frozen? ⟨g, i, none⟩ = false := by
  have hx : i < xs.length := by rw [h.1]; exact hi
  refine ⟨⟨xs[i], List.getElem?_eq_getElem hx, ?_⟩, ?_⟩
  · have := h.cells (g := g) rfl i xs[i] (List.getElem?_eq_getElem hx)
    have ea : (⟨g, 0, none⟩ : Addr).add i = ⟨g, i, none⟩ := by cases i <;> simp [Addr.add]
    rwa [ea] at this
  · rcases h.2 with ⟨h1, _⟩ | ⟨g', cap', cur, h1, _, hg, _⟩
    · cases h1
    · cases h1
      simp [World.frozen?, hg]

theorem prmL_set : ∀ (l : List Prm) (k : Nat) (p : Prm), prmL (l.set k p) = ((prmL l).set (k * 2) (.string p.n)).set (k * 2 + 1) (.string p.v)
  | [], _, _ => rfl
  | q :: r, 0, p => by simp [prmL]
  | q :: r, k + 1, p => by
    have ih := prmL_set r k p
    have e : prmL (q :: r) = .string q.n :: .string q.v :: prmL r := by simp [prmL]
    have e2 : prmL (q :: r.set k p) = .string q.n :: .string q.v :: prmL (r.set k p) := by simp [prmL]
    rw [List.set_cons_succ, e2, ih, e, show (k + 1) * 2 = k * 2 + 1 + 1 by omega]
    rfl
theorem prmL_take (l : List Prm) (k : Nat) : (prmL l).take (k * 2) = prmL (l.take k) := by
  induction l generalizing k with
  | nil => simp [prmL]
  | cons q r ih =>
    have e : prmL (q :: r) = .string q.n :: .string q.v :: prmL r := by simp [prmL]
    cases k with
    | zero => simp [prmL]
    | succ k =>
      have e2 : prmL (q :: r.take k) = .string q.n :: .string q.v :: prmL (r.take k) := by simp [prmL]
      rw [e, show (k + 1) * 2 = k * 2 + 1 + 1 by omega, List.take_succ_cons, List.take_succ_cons, ih, List.take_succ_cons, e2]

theorem hdL_one (ps : List Prm) : ∀ u ∈ prmL ps, u.oneCell' = true := fun u hu => by
  unfold prmL at hu
  rw [List.mem_flatMap] at hu
  obtain ⟨p, _, hp⟩ := hu
  simp at hp
  rcases hp with rfl | rfl <;> rfl

/-- Headers that lie in a row of the call's own. -/
def OwnHd (w : World) (base : Nat) (A : Option Addr) (c : Nat) (l : List Prm) : Prop := w.ownsRow base 53 2 (.slice A l.length c) l.length (prmL l)
theorem OwnHd.ps {w : World} {base c : Nat} {A : Option Addr} {l : List Prm} (h : OwnHd w base A c l) : PsIn w A l := by
  obtain ⟨A', c', e, hp⟩ := hdrs_of_own h
  cases e
  exact hp
theorem OwnHd.hd {w : World} {base c : Nat} {A : Option Addr} {l : List Prm} (h : OwnHd w base A c l) : HdIn w A l := HdIn.ps h.ps
theorem OwnHd.set {w : World} {base c g : Nat} {l : List Prm} (h : OwnHd w base (some ⟨g, 0, none⟩) c l) (k : Nat) (p : Prm) :
    OwnHd ((w.setCell ⟨g, k * 2, none⟩ (.string p.n)).setCell ⟨g, k * 2 + 1, none⟩ (.string p.v)) base (some ⟨g, 0, none⟩) c (l.set k p) := by
  have := own_set1 (own_set1 h (k * 2) (.string p.n)) (k * 2 + 1) (.string p.v)
  rw [← prmL_set] at this
  unfold OwnHd
  rw [List.length_set]
  exact this
theorem OwnHd.take {w : World} {base c : Nat} {A : Option Addr} {l : List Prm} (h : OwnHd w base A c l) {i : Nat} (hi : i ≤ l.length) : OwnHd w base A c (l.take i) := by
  have := own_take h hi
  rw [prmL_take] at this
  unfold OwnHd
  rw [List.length_take, Nat.min_eq_left hi]
  exact this
theorem OwnHd.below {w w' : World} {B base c : Nat} {A : Option Addr} {l : List Prm} (h : OwnHd w base A c l) (hb : Below B w w') (hB : w.heap.size ≤ B) : OwnHd w' base A c l :=
  own_mv h (Mv.of_below (hb.mono hB) []) (by simp)
theorem OwnHd.cap {w : World} {base c : Nat} {A : Option Addr} {l : List Prm} (h : OwnHd w base A c l) : l.length ≤ c := by
  rcases h.2 with ⟨h1, h2⟩ | ⟨_, _, _, h1, _, _, hc, _⟩
  · rw [h2]; exact Nat.zero_le _
  · cases h1; exact hc
theorem OwnHd.nil_of {w : World} {base c : Nat} {l : List Prm} (h : OwnHd w base none c l) : l = [] := by
  rcases h.2 with ⟨_, h2⟩ | ⟨_, _, _, h1, _⟩
  · exact List.length_eq_zero_iff.1 h2
  · cases h1
theorem OwnHd.at0 {w : World} {base c : Nat} {a : Addr} {l : List Prm} (h : OwnHd w base (some a) c l) : ∃ g, a = ⟨g, 0, none⟩ ∧ base ≤ g ∧ g < w.heap.size := by
  rcases h.2 with ⟨h1, _⟩ | ⟨g, _, _, h1, hb, hg, _⟩
  · cases h1
  · cases h1
    exact ⟨g, rfl, hb, (Array.getElem?_eq_some_iff.1 hg).1⟩

theorem HdIn.cells {w : World} {a : Addr} {ps : List Prm} (h : HdIn w (some a) ps) : ∀ j u, (prmL ps)[j]? = some u → w.cell? (a.add j) = some u := fun j u hj => by
  have hjl : j < (prmL ps).length := (List.getElem?_eq_some_iff.1 hj).1
  rw [prmL_len] at hjl
  obtain ⟨i, hi⟩ : ∃ i, i = j / 2 := ⟨_, rfl⟩
  have hil : i < ps.length := by omega
  obtain ⟨a', e, _, h0, h1⟩ := h i hil
  cases e
  rcases (by omega : j = i * 2 ∨ j = i * 2 + 1) with e2 | e2
  · rw [e2] at hj ⊢
    rw [(prmL_at ps i hil).1] at hj
    rw [h0]; exact hj
  · rw [e2] at hj ⊢
    rw [(prmL_at ps i hil).2] at hj
    have ea : a.add (i * 2 + 1) = ⟨(a.add (i * 2)).block, (a.add (i * 2)).off + 1, none⟩ := by
      unfold Addr.add
      by_cases h0 : i * 2 = 0
      · simp [h0]
      · simp [h0, Nat.add_assoc]
    rw [ea, h1]; exact hj

/-- append to a row of headers of the call's own. -/
theorem wpH_append {ops : Array Oper} {rest : List Oper} {o : Oper} {a : Act} {w : World} {Q : Exit → Act → World → Prop} (hgd : o.guard = none) (s x : Operand)
    (ho : o.op = .call { callee := .builtin .append, args := #[s, x], argTypes := #[22, 22] })
    (base : Nat) (v : Value) (n : Nat) (xs : List Value) (hs : a.eval s = v) (hown : w.ownsRow base 53 2 v n xs)
    (ad : Addr) (m c : Nat) (news : List Value) (hx : a.eval x = .slice (some ad) m c) (hl : news.length = m * 2) (hnews : ∀ j u, news[j]? = some u → w.cell? (ad.add j) = some u) (h1 : ∀ u ∈ news, u.oneCell' = true)
    (hb : n + m ≤ 4194304) (hbase : base ≤ w.heap.size)
    (h : ∀ v' w', w'.ownsRow base 53 2 v' (n + m) (xs ++ news) → w.grownBy w' v.ownBlock → (v' = .slice none 0 0 ↔ v = .slice none 0 0 ∧ m = 0) → wpList Try.prog ops Q rest (a.put o.dst v') w') : wpList Try.prog ops Q (o :: rest) a w := by
  obtain ⟨i0, hi, hz0, hz1, hz2⟩ := info_parts Try.infoHdr
  exact wpList_append_own w hgd s x 22 ho base 53 i0 _ 2 32 Try.underlying22 hi hz0 hz1 hz2 rfl (by decide) v n xs hs hown ad m c news hx hl hnews h1 (by unfold maxLen; omega) (by omega) hbase h

set_option maxHeartbeats 1000000 in
set_option maxRecDepth 100000 in
theorem hclone_any (A : Option Addr) (c : Nat) (l : List Prm) (w : World) (h : HdIn w A l) (hn : l.length ≤ 1048576) :
    Calls Try.prog 37 #[.slice A l.length c] w fun e w' => ∃ A' c', e = .returned (.slice A' l.length c') ∧ OwnHd w' w.heap.size A' c' l ∧ Below w.heap.size w w' := by
  obtain ⟨i0, hi, hz0, hz1, hz2⟩ := info_parts Try.infoHdr
  have hq : ∀ (w : World) (a : Option Addr) (l c : Nat), (binOp .eql 22 (.slice a l c) (.slice none 0 0)).run Try.prog w = .ok (.bool a.isNone) w := fun w a l c => Lib.run_eql_slice_nil w _ _ a l c 0 0 Try.underlying22
  have HP := Lib.hid h
  clear h
  cases A with
  | none =>
    have hps : l = [] := by
      cases l with
      | nil => rfl
      | cons q r =>
        obtain ⟨g, e, _⟩ := HP.out 0 (by simp)
        cases e
    subst hps
    go_enter Try.func37, Try.ntmps37
    go_wp2
    go_ret
    exact ⟨none, 0, rfl, World.ownsRow_nil _ _ _ _, Below.refl _ _⟩
  | some a =>
    have HC := Lib.hid (HP.out.below ((Below.refl w.heap.size w).alloc (Nat.le_refl _) (.cells #[] 53))).cells
    have HO0 := Lib.hid (World.ownsRow_made (base := w.heap.size) (e := 53) (size := 2) w #[] 0 (Nat.le_refl _) (Nat.zero_le _) rfl)
    have HLN := Lib.hid (prmL_len l)
    go_enter Try.func37, Try.ntmps37
    go_wp2_with (at_builtin; refine wpH_append rfl _ _ rfl w.heap.size _ _ _ rfl HO0.out a l.length c (prmL l) rfl HLN.out HC.out (hdL_one l) ?_ ?_ ?_)
    · omega
    · simp
    · intro v' w1 hown hgrow _
      have ho : w1.ownsRow w.heap.size 53 2 v' l.length (prmL l) := by simpa using hown
      obtain ⟨A', c', rfl, _⟩ := hdrs_of_own ho
      have HO := Lib.hid ho
      have HB := Lib.hid (((Below.refl w.heap.size w).alloc (Nat.le_refl _) _).grown hgrow (by simp) (fun g hg => by simp [Value.ownBlock] at hg; omega))
      clear ho hown hgrow
      go_wp2
      go_ret
      exact ⟨A', c', rfl, HO.out, HB.out⟩

theorem Try.zeroHdr (w : World) : (zeroValue 53).run Try.prog w = .ok (.agg #[.string ⟨#[]⟩, .string ⟨#[]⟩]) w := by kernel_rfl
/-- What lies in headers that were cleared. -/
def clrH (n : Nat) : List Value := (Builtin.zeroCells (Value.agg #[.string ⟨#[]⟩, .string ⟨#[]⟩]).cells n).toList
theorem clrH_len (n : Nat) : (clrH n).length = n * 2 := by
  unfold clrH
  rw [Array.length_toList, size_zeroCells]
  rfl
theorem clrH_one (n : Nat) : ∀ v ∈ clrH n, v.oneCell' = true := by
  intro v hv
  unfold clrH Builtin.zeroCells at hv
  rw [Array.toList_map, List.mem_map] at hv
  obtain ⟨i, _, rfl⟩ := hv
  have h2 : (Value.agg #[.string ⟨#[]⟩, .string ⟨#[]⟩]).cells = #[.string ⟨#[]⟩, .string ⟨#[]⟩] := by kernel_rfl
  rw [h2]
  have : i % 2 = 0 ∨ i % 2 = 1 := by omega
  rcases this with e | e
  · show (#[Value.string ⟨#[]⟩, .string ⟨#[]⟩][i % 2]!).oneCell' = true
    rw [e]; rfl
  · show (#[Value.string ⟨#[]⟩, .string ⟨#[]⟩][i % 2]!).oneCell' = true
    rw [e]; rfl
theorem run_clear_hd (w : World) (g o n c : Nat) (ty : TypeId) (hn : 0 < n) (hc : ∀ j, j < n * 2 → (w.cell? ⟨g, o + j, none⟩).isSome = true) (hf : ∀ j, j < n * 2 → w.frozen? ⟨g, o + j, none⟩ = false) :
    (Builtin.clear_ #[22] ty #[.slice (some ⟨g, o, none⟩) n c]).run Try.prog w = .ok (.tuple #[]) (w.setCells g o (clrH n)) := by
  have hst := run_storeCells_cells (P := Try.prog) g o (clrH n) 0 w (by rw [clrH_len]; simpa using hc) (by rw [clrH_len]; simpa using hf) (clrH_one n)
  simp only [Nat.add_zero] at hst
  obtain ⟨m, rfl⟩ : ∃ m, n = m + 1 := ⟨n - 1, by omega⟩
  unfold clrH at hst ⊢
  simp [Builtin.clear_, run_underlying Try.underlying22, hst]

theorem del_at {D l : List Prm} {k : Nat} (hd : D.drop k = l.drop k) (hk : k < l.length) : ∃ h : k < D.length, D[k] = l[k] := by
  have hl := congrArg List.length hd
  rw [List.length_drop, List.length_drop] at hl
  have hk2 : k < D.length := by omega
  refine ⟨hk2, ?_⟩
  rw [List.drop_eq_getElem_cons hk2, List.drop_eq_getElem_cons hk] at hd
  exact (List.cons.inj hd).1
theorem del_next {D l : List Prm} {k : Nat} (hd : D.drop k = l.drop k) : D.drop (k + 1) = l.drop (k + 1) := by
  have := congrArg (List.drop 1) hd
  rw [List.drop_drop, List.drop_drop] at this
  exact this
theorem del_step {D l : List Prm} {i k : Nat} (p : Prm) (hi : i < D.length) (hik : i ≤ k) (hd : D.drop k = l.drop k) : (D.set i p).take (i + 1) = D.take i ++ [p] ∧ (D.set i p).drop (k + 1) = l.drop (k + 1) := by
  constructor
  · rw [List.take_succ_eq_append_getElem (by rw [List.length_set]; exact hi), List.take_set, List.set_eq_of_length_le (by rw [List.length_take]; omega), List.getElem_set_self]
  · rw [List.drop_set_of_lt (by omega)]
    exact del_next hd
theorem cutN_all {name : ByteArray} {l : List Prm} (h : ∀ j (hj : j < l.length), hasN name l[j] = false) : cutN name l = l := by
  unfold cutN
  rw [List.filter_eq_self]
  intro a ha
  obtain ⟨j, hj, rfl⟩ := List.getElem_of_mem ha
  simp [h j hj]
theorem cutN_head {name : ByteArray} {l : List Prm} {k : Nat} (hk : k ≤ l.length) (h : ∀ j (hj : j < l.length), j < k → hasN name l[j] = false) : cutN name (l.take k) = l.take k :=
  cutN_all fun j hj => by
    rw [List.length_take] at hj
    rw [List.getElem_take]
    exact h j (by omega) (by omega)

set_option maxHeartbeats 4000000 in
set_option maxRecDepth 100000 in
theorem hdelete_any (nb base c g : Nat) (name : ByteArray) (l : List Prm) (w : World) (k0 : Nat) (hk0 : k0 < l.length) (hyes : hasN name l[k0] = true) (hno : ∀ j (hj : j < l.length), j < k0 → hasN name l[j] = false) (h : OwnHd w base (some ⟨g, 0, none⟩) c l) (ha : AllIn 1048576 l) (hn : l.length ≤ 1048576) (hc : Blk w nb 9 #[.string name]) (hm : name.size ≤ 1048576) (hb : base ≤ w.heap.size) :
    Calls Try.prog 36 #[.slice (some ⟨g, 0, none⟩) l.length c, namedV nb] w fun e w' => e = .returned (.slice (some ⟨g, 0, none⟩) (cutN name l).length c) ∧ OwnHd w' base (some ⟨g, 0, none⟩) c (cutN name l) ∧ Below base w w' := by
  obtain ⟨g', e, hg1, hg2⟩ := h.at0
  cases e
  have HI := Lib.hid (indexNamed_any nb name c (some ⟨g, 0, none⟩) l (k0 : Int) w h.hd ha hn (hc.cell 0) (by omega) (.inr ⟨k0, hk0, rfl, hyes, hno⟩))
  have HO := Lib.hid h
  have HN := Lib.hid hc
  have HA := Lib.hid ha
  have hcap := h.cap
  have HS : Hid (cutN name (l.take (k0 + 1)) = l.take k0) := by
    rw [cutN_step name l hk0, cutN_head (by omega) hno, hyes]
    simp
    exact Lib.hid trivial
  have hm1 : ((k0 : Int) == -1) = false := by rw [beq_eq_false_iff_ne]; omega
  clear h hc ha hyes hno
  go_enter Try.func36, Try.ntmps36
  go_wp2_with fail
  refine HI.out.mono ?_
  rintro e w1 ⟨rfl, b1⟩
  have HO1 := Lib.hid (HO.out.below b1 (Nat.le_refl _))
  have HN1 := Lib.hid (HN.out.below b1 HN.out.lt)
  have HB1 := Lib.hid (b1.mono hb)
  clear b1 HI HO HN
  go_wp2_with fail
  go_loopw [5, 6] (fun i j wr => ∃ (k : Nat) (D : List Prm), k ≤ l.length ∧ j = .int .i64 k ∧ i = .int .i64 (cutN name (l.take k)).length ∧ (cutN name (l.take k)).length < k ∧ Hid (D.length = l.length) ∧ Hid (D.take (cutN name (l.take k)).length = cutN name (l.take k)) ∧ Hid (D.drop k = l.drop k) ∧ Hid (OwnHd wr base (some ⟨g, 0, none⟩) c D) ∧ Hid (Blk wr nb 9 #[.string name]) ∧ Hid (Below base w wr)) (fun _ j _ => l.length - (intOf j).toNat)
  case atStart =>
    have hlen : (cutN name (l.take (k0 + 1))).length = k0 := by rw [HS.out, List.length_take, Nat.min_eq_left (by omega)]
    exact ⟨k0 + 1, l, by omega, by go_num, by rw [hlen], by omega, rfl, by rw [hlen, HS.out]; exact Lib.hid rfl, Lib.hid rfl, HO1, HN1, HB1⟩
  case round =>
    obtain ⟨k, D, hk, rfl, rfl, hik, HDL, HDT, HDD, HOr, HNr, HBr⟩ := hrel
    clear HO1 HN1 HB1 HS
    have hbr := HBr.out.size
    obtain ⟨i, hi⟩ : ∃ i, i = (cutN name (l.take k)).length := ⟨_, rfl⟩
    rw [← hi] at hik HDT ⊢
    by_cases hlt : k < l.length
    · obtain ⟨hkD, hDk⟩ := del_at HDD.out hlt
      have hsz := HA.out.at_ hlt
      have HST := Lib.hid (cutN_step name l hlt)
      obtain ⟨p, hp⟩ : ∃ p, l[k] = p := ⟨_, rfl⟩
      rw [hp] at hDk hsz HST
      obtain ⟨g', e, hgl, c0, c1⟩ := HOr.out.ps k hkD
      cases e
      rw [hDk] at c0 c1
      clear hDk hp
      obtain ⟨pn, pv⟩ := p
      simp only at c0 c1 hsz
      have HI := Lib.hid hi
      have HC := Lib.hid (fun W (h : W.cell? ⟨nb, 0, none⟩ = some (.string name)) => isNamed1_any nb name pn pv W h (by omega) (by omega))
      have b0 : Below wr.heap.size wr (wr.alloc (.cells #[.string pn, .string pv] 53)) := (Below.refl _ _).alloc (Nat.le_refl _) _
      have HB0 := Lib.hid b0
      have HX0 := Lib.hid (Blk.new wr 53 #[.string pn, .string pv])
      have HNA := Lib.hid ((HNr.out.below b0 HNr.out.lt).cell 0)
      clear b0 hi
      cases hb : hasN name ⟨pn, pv⟩
      · rw [hb] at HC HST
        clear hb
        have hiD : i < D.length := by rw [HDL.out]; omega
        obtain ⟨hs1, hs2⟩ := del_step (l := l) ⟨pn, pv⟩ hiD (by omega) HDD.out
        have HS1 := Lib.hid hs1
        have HS2 := Lib.hid hs2
        clear hs1 hs2
        go_wp2_with (go_at_call 52; refine (HC.out _ HNA.out).mono ?_; rintro e w3 ⟨rfl, b3⟩; have HB3 := Lib.hid (HB0.out.trans (b3.mono (by simp))); have HX3 := Lib.hid (HX0.out.below b3 (by simp)); have x0 := HX3.out.cell 0; have x1 := HX3.out.cell 1; have HO3 := Lib.hid (HOr.out.below HB3.out (Nat.le_refl _)); obtain ⟨⟨u0, _, d0⟩, f0⟩ := own_cell (i := i * 2) HO3.out (by omega); obtain ⟨⟨u1, _, d1⟩, f1⟩ := own_cell (i := i * 2 + 1) HO3.out (by omega); clear b3)
        have HE := Lib.hid (show cutN name (l.take (k + 1)) = cutN name (l.take k) ++ [⟨pn, pv⟩] from by rw [HST.out]; simp)
        have HE2 := Lib.hid (show (cutN name (l.take (k + 1))).length = i + 1 from by rw [HE.out, List.length_append, HI.out]; simp)
        have HN3 := Lib.hid (HNr.out.below HB3.out HNr.out.lt)
        have hng : nb ≠ g := fun e => by
          have := own_neB HO3.out HN3.out (by decide)
          simp [Value.ownBlock, e] at this
        go_roundw
        case rel => exact ⟨k + 1, D.set i ⟨pn, pv⟩, by omega, by go_num, by rw [HE2.out]; go_num, by rw [HE2.out]; omega, Lib.hid (by rw [List.length_set]; exact HDL.out), Lib.hid (by rw [HE2.out, HS1.out, HE.out, HDT.out]), HS2, Lib.hid (HO3.out.set i ⟨pn, pv⟩), Lib.hid ((HN3.out.far (p := ⟨g, i * 2, none⟩) hng _).far (p := ⟨g, i * 2 + 1, none⟩) hng _), Lib.hid (((HBr.out.trans (HB3.out.mono (by omega))).setCell (p := ⟨g, i * 2, none⟩) hg1 _).setCell (p := ⟨g, i * 2 + 1, none⟩) hg1 _)⟩
        case measure => simp [intOf]; omega
      · rw [hb] at HC HST
        clear hb
        go_wp2_with (go_at_call 52; refine (HC.out _ HNA.out).mono ?_; rintro e w3 ⟨rfl, b3⟩; have HB3 := Lib.hid (HB0.out.trans (b3.mono (by simp))); clear b3)
        have HE := Lib.hid (show cutN name (l.take (k + 1)) = cutN name (l.take k) from by rw [HST.out]; simp)
        go_roundw
        case rel => exact ⟨k + 1, D, by omega, by go_num, by rw [HE.out, ← HI.out], by rw [HE.out, ← HI.out]; omega, HDL, by rw [HE.out, ← HI.out]; exact HDT, Lib.hid (del_next HDD.out), Lib.hid (HOr.out.below HB3.out (Nat.le_refl _)), Lib.hid (HNr.out.below HB3.out HNr.out.lt), Lib.hid (HBr.out.trans (HB3.out.mono (by omega)))⟩
        case measure => simp [intOf]; omega
    · obtain rfl : k = l.length := by omega
      have HI := Lib.hid (show i = (cutN name l).length from by rw [hi, List.take_length])
      have HDT := Lib.hid (show D.take i = cutN name l from by rw [HDT.out, List.take_length])
      clear hi
      have hin : i ≤ l.length := by omega
      have HRB := Lib.hid HOr.out.at0
      have HTK := Lib.hid (show OwnHd wr base (some ⟨g, 0, none⟩) c (cutN name l) from by rw [← HDT.out]; exact HOr.out.take (by rw [HDL.out]; exact hin))
      have hcl := fun ty => run_clear_hd wr g (i * 2) (l.length - i) (c - i) ty (by omega)
        (fun j hj => by obtain ⟨⟨u, _, e⟩, _⟩ := own_cell (i := i * 2 + j) HOr.out (by rw [HDL.out]; omega); rw [e]; rfl)
        (fun j hj => (own_cell (i := i * 2 + j) HOr.out (by rw [HDL.out]; omega)).2)
      have HOW := Lib.hid (show OwnHd (wr.setCells g (i * 2) (clrH (l.length - i))) base (some ⟨g, 0, none⟩) c (cutN name l) from own_setCells _ _ _ HTK.out (by rw [← HI.out]; exact Nat.le_refl _))
      have HBW := Lib.hid (show Below base w (wr.setCells g (i * 2) (clrH (l.length - i))) from (HBr.out.trans ((mv_setCells (clrH (l.length - i)) (i * 2) wr (Mv.refl base [g] wr)).below (Nat.le_refl _) (by simp; exact hg1))))
      generalize wr.setCells g (i * 2) (clrH (l.length - i)) = W1 at *
      go_wp2
      go_ret
      exact ⟨by rw [← HI.out]; rfl, HOW.out, HBW.out⟩

set_option maxHeartbeats 400000 in
theorem hdelete_none (nb c : Nat) (A : Option Addr) (name : ByteArray) (l : List Prm) (w : World) (hno : ∀ j (hj : j < l.length), hasN name l[j] = false) (h : HdIn w A l) (ha : AllIn 1048576 l) (hn : l.length ≤ 1048576) (hc : Blk w nb 9 #[.string name]) (hm : name.size ≤ 1048576) :
    Calls Try.prog 36 #[.slice A l.length c, namedV nb] w fun e w' => e = .returned (.slice A l.length c) ∧ Below w.heap.size w w' := by
  have HI := Lib.hid (indexNamed_any nb name c A l (-1) w h ha hn (hc.cell 0) (by omega) (.inl ⟨rfl, hno⟩))
  clear h hc ha hno
  go_enter Try.func36, Try.ntmps36
  go_wp2_with fail
  refine HI.out.mono ?_
  rintro e w1 ⟨rfl, b1⟩
  have HB1 := Lib.hid b1
  clear b1 HI
  go_wp2
  go_ret
  exact ⟨rfl, HB1.out⟩

set_option maxHeartbeats 1000000 in
theorem hcut_any (name : ByteArray) (A : Option Addr) (c : Nat) (l : List Prm) (w : World) (h : HdIn w A l) (ha : AllIn 1048576 l) (hn : l.length ≤ 1048576) (hm : name.size ≤ 1048576) :
    Calls Try.prog 17 #[.string name, .slice A l.length c] w fun e w' => ∃ A' c', e = .returned (.slice A' (cutN name l).length c') ∧ OwnHd w' w.heap.size A' c' (cutN name l) ∧ Below w.heap.size w w' := by
  have HC := Lib.hid (hclone_any A c l w h hn)
  have HA := Lib.hid ha
  obtain ⟨m, hm2⟩ : ∃ m, m = cutN name l := ⟨_, rfl⟩
  rw [← hm2]
  have HM := Lib.hid hm2
  clear h ha hm2
  go_enter Try.func17, Try.ntmps17
  go_wp2_with fail
  refine HC.out.mono ?_
  rintro e w1 ⟨A1, c1, rfl, ho1, b1⟩
  have HO1 := Lib.hid ho1
  have HB1 := Lib.hid b1
  clear ho1 b1 HC
  go_wp2_with fail
  refine (isNamed_any name w1).mono ?_
  rintro e w2 ⟨rfl, rfl⟩
  have b2 : Below w1.heap.size w1 (w1.alloc (.cells #[.string name] 9)) := (Below.refl _ _).alloc (Nat.le_refl _) _
  have HO2 := Lib.hid (HO1.out.below b2 (Nat.le_refl _))
  have HB2 := Lib.hid (below_on HB1.out b2)
  have HN2 := Lib.hid (Blk.new w1 9 #[.string name])
  clear b2 HO1
  generalize hW2 : w1.alloc (.cells #[.string name] 9) = w2 at *
  clear hW2
  cases hany : l.any (hasN name)
  · have hno : ∀ j (hj : j < l.length), hasN name l[j] = false := fun j hj => by
      rw [List.any_eq_false] at hany
      simpa using hany l[j] (List.getElem_mem hj)
    have HE := Lib.hid (HM.out.trans (cutN_all hno))
    have HD := Lib.hid (hdelete_none w1.heap.size c1 A1 name l w2 hno HO2.out.hd HA.out hn HN2.out hm)
    clear hany hno
    go_wp2_with fail
    refine HD.out.mono ?_
    rintro e w3 ⟨rfl, b3⟩
    have HO3 := Lib.hid (HO2.out.below b3 (Nat.le_refl _))
    have HB3 := Lib.hid (below_on HB2.out b3)
    clear b3
    go_wp2
    go_ret
    exact ⟨A1, c1, by rw [HE.out]; rfl, by rw [HE.out]; exact HO3.out, HB3.out⟩
  · obtain ⟨k0, hk0, hno, hyes⟩ := any_first hany
    cases A1 with
    | none =>
      have := HO2.out.nil_of
      subst this
      exact absurd hk0 (by simp)
    | some a =>
      obtain ⟨g, rfl, _, _⟩ := HO2.out.at0
      have HD := Lib.hid (hdelete_any w1.heap.size w.heap.size c1 g name l w2 k0 hk0 hyes (fun j hj h => hno j h) HO2.out HA.out hn HN2.out hm HB2.out.size)
      rw [← HM.out] at HD
      clear hany hno hyes
      go_wp2_with fail
      refine HD.out.mono ?_
      rintro e w3 ⟨rfl, o3, b3⟩
      have HO3 := Lib.hid o3
      have HB3 := Lib.hid (HB2.out.trans b3)
      clear b3 o3
      go_wp2
      go_ret
      exact ⟨_, c1, rfl, HO3.out, HB3.out⟩

end Go.Proofs.Ytjikahflbhgniaa
namespace Go.Proofs.Ytjikahflbhgniaa
open Go.RowKit Go.Shelf
attribute [local go_sem] Oper.semAt_some

theorem lines_stops (n : Nat) (hn : 1 ≤ n) (Bn : Nat) (s : ByteArray) (hs : s.size ≤ 1048576) (w : World) (hB : Blk w Bn 9 #[.string s]) :
    SeqStopsK Fence.wide n Try.prog 67 #[.pointer (some ⟨Bn, 0, none⟩)] encL (fun _ _ => True) (fun xs => xs.map Subtype.val = linP s (s.size + 1) 0 1) (fun pre => ∃ r, linP s (s.size + 1) 0 1 = pre.map Subtype.val ++ r) (s.size + 1) w := fun l J Jx W hW hJ _ hY h0 =>
  lines1_in n hn l Bn W.heap.size s hs J Jx hJ hY W ((hB.below hW hB.lt).cell 0) h0

set_option maxHeartbeats 400000 in
theorem lines_any (n : Nat) (s : ByteArray) (w : World) :
    CallsIn Fence.wide n Try.prog 49 #[.string s] w fun e w' => e = .returned (.func (.func 67) #[] #[.pointer (some ⟨w.heap.size, 0, none⟩)]) ∧ w' = w.alloc (.cells #[.string s] 9) := by
  have hmf := make_func
  refine callsIn_wide.2 ?_
  go_enter Try.func49, Try.ntmps49
  go_wp2
  go_ret
  exact ⟨rfl, rfl⟩

theorem Try.zeroErrno (w : World) : (zeroValue 43).run Try.prog w = .ok (.int .i64 0) w := by kernel_rfl

/-- What the lines so far said. -/
def hsOf (xs : List Lin) : List Prm := match parW (xs.map Subtype.val) [] with
  | .inl h => h
  | .inr _ => []
theorem hsOf_is {xs : List Lin} {h : List Prm} (e : parW (xs.map Subtype.val) [] = .inl h) : hsOf xs = h := by unfold hsOf; rw [e]
theorem parW_good {xs : List Lin} {x : Lin} {p : Prm} (h : parW (xs.map Subtype.val) [] = .inl (hsOf xs)) (hp : hdrO x.1.2 = some (some p)) :
    parW ((xs ++ [x]).map Subtype.val) [] = .inl (hsOf (xs ++ [x])) ∧ hsOf (xs ++ [x]) = hsOf xs ++ [p] := by
  have e : parW ((xs ++ [x]).map Subtype.val) [] = .inl (hsOf xs ++ [p]) := by
    rw [List.map_append, parW_app, h]
    obtain ⟨⟨n, t⟩, hx⟩ := x
    simp only at hp
    show parW [(n, t)] (hsOf xs) = _
    rw [parW, hp]
    rfl
  have e2 := hsOf_is e
  exact ⟨by rw [e2]; exact e, e2⟩
theorem parW_bad {xs : List Lin} {x : Lin} (h : parW (xs.map Subtype.val) [] = .inl (hsOf xs)) (hp : hdrO x.1.2 = none) : parW ((xs ++ [x]).map Subtype.val) [] = .inr x.1.1 := by
  rw [List.map_append, parW_app, h]
  obtain ⟨⟨n, t⟩, hx⟩ := x
  simp only at hp
  show parW [(n, t)] (hsOf xs) = _
  rw [parW, hp]
theorem hsOf_len {xs : List Lin} : (hsOf xs).length ≤ xs.length := by
  have key : ∀ (ys : List (Nat × ByteArray)) (acc h : List Prm), parW ys acc = .inl h → h.length ≤ acc.length + ys.length := by
    intro ys
    induction ys with
    | nil => intro acc h e; cases e; simp
    | cons y r ih =>
      intro acc h e
      obtain ⟨n, t⟩ := y
      rw [parW] at e
      cases ho : hdrO t with
      | none => rw [ho] at e; cases e
      | some o => cases o with
        | none => rw [ho] at e; cases e
        | some p =>
          rw [ho] at e
          have := ih (acc ++ [p]) h e
          simp only [List.length_append, List.length_cons, List.length_nil] at this ⊢
          omega
  unfold hsOf
  cases e : parW (xs.map Subtype.val) [] with
  | inl h => have := key _ _ _ e; simpa using this
  | inr _ => simp
theorem keepsOthers_below {W W' : World} (h : Below W.heap.size W W') : KeepsOthers W W' := ⟨h.size, fun k _ hk _ => (h.block k (Array.getElem?_eq_some_iff.1 hk).1).trans hk⟩
theorem two_new (w : World) (n v : ByteArray) : ∀ j u, ([.string n, .string v] : List Value)[j]? = some u → (w.alloc (.cells #[.string n, .string v] 53)).cell? ((⟨w.heap.size, 0, none⟩ : Addr).add j) = some u := fun j u hj => by
  have e : (⟨w.heap.size, 0, none⟩ : Addr).add j = ⟨w.heap.size, j, none⟩ := by cases j <;> simp [Addr.add]
  rw [e, (Blk.new w 53 #[.string n, .string v]).cell]
  simpa using hj
theorem two_one22 {n v : ByteArray} : ∀ u ∈ ([.string n, .string v] : List Value), u.oneCell' = true := fun u hu => by
  simp at hu
  rcases hu with rfl | rfl <;> rfl
theorem size_from {β : Type} (m B : Nat) : OwnFrom B (fun (_ : β) W => m ≤ W.heap.size) := fun _ _ _ _ hs hg _ => Nat.le_trans hs hg.size
theorem HdIn.keep {W W' : World} {A : Option Addr} {l : List Prm} (h : HdIn W A l) (hk : ∀ a, A = some a → W'.heap[a.block]? = W.heap[a.block]?) : HdIn W' A l := fun i hi => by
  obtain ⟨a, e, hl, h0, h1⟩ := h i hi
  have e1 := hk a e
  refine ⟨a, e, ?_, ?_, ?_⟩
  · rcases Nat.lt_or_ge a.block W'.heap.size with h2 | h2
    · exact h2
    · rw [Array.getElem?_eq_none h2, Array.getElem?_eq_getElem hl] at e1
      cases e1
  · refine (World.cell?_of_block (w := W) ?_).trans h0
    rw [madd_block]; exact e1
  · refine (World.cell?_of_block (w := W) (a := ⟨(a.add (i * 2)).block, (a.add (i * 2)).off + 1, none⟩) ?_).trans h1
    show W'.heap[(a.add (i * 2)).block]? = W.heap[(a.add (i * 2)).block]?
    rw [madd_block]; exact e1
theorem own_apartD {W : World} {base size n c D : Nat} {A : Option Addr} {e : TypeId} {xs : List Value} {o : Obj} (h : W.ownsRow base e size (.slice A n c) n xs) (hD : W.heap[D]? = some o) (ho : o.isCells = false) : ∀ a, A = some a → base ≤ a.block ∧ a.block ≠ D := fun a ea => by
  subst ea
  rcases h.2 with ⟨h1, _⟩ | ⟨g, cap, cur, h1, hb, hg, _⟩
  · cases h1
  · cases h1
    refine ⟨hb, fun e => ?_⟩
    subst e
    rw [hg] at hD
    cases hD
    cases ho
theorem Blk.putD {W : World} {g D : Nat} {T : TypeId} {cs : Array Value} (h : Blk W g T cs) (hne : g ≠ D) (o : Obj) : Blk (W.putObj D o) g T cs := (World.putObj_heap_other hne).trans h

/-- What Parse answers. -/
def ParSays (s : ByteArray) (w : World) (e : Ending) (w' : World) : Prop :=
  ∃ A' c', e = .returned (.tuple #[.slice A' (parA s).1.length c', .int .i64 ((parA s).2.1 : Nat), .int .i64 ((parA s).2.2 : Nat)]) ∧ HdIn w' A' (parA s).1 ∧ Below w.heap.size w w'

set_option maxRecDepth 100000 in
set_option maxHeartbeats 4000000 in
theorem hparse_any (s : ByteArray) (w : World) (hs : s.size ≤ 1048576) :
    Calls Try.prog 28 #[.string s] w (ParSays s w) := by
  show Calls Try.prog 28 #[.string s] w fun e w' => ∃ A' c', e = .returned (.tuple #[.slice A' (parA s).1.length c', .int .i64 ((parA s).2.1 : Nat), .int .i64 ((parA s).2.2 : Nat)]) ∧ HdIn w' A' (parA s).1 ∧ Below w.heap.size w w'
  refine (callsIn_wide (n := 3)).1 ?_
  refine callsIn_of_wp_marks Try.func28 rfl trivial ?_ rfl
  simp only [Try.ntmps28, List.size_toArray, List.length_cons, List.length_nil, Nat.reduceAdd, Nat.reduceSub, Array.replicate_succ, Array.replicate_zero, List.push_toArray, List.append_toArray, List.nil_append, List.cons_append]
  gi_wp2_with (refine ⟨trivial, ?_⟩; gi_at_call 49; refine (lines_any _ s _).mono ?_; rintro e w' ⟨rfl, rfl⟩)
  have i0 := Try.infoHdr
  obtain ⟨ti, hi, hz0, hz1, hz2⟩ := info_parts Try.infoHdr
  obtain ⟨W0, hW0⟩ : ∃ W0, W0 = ((((w.alloc (.cells #[.slice none 0 0] 22)).alloc (.cells #[.int .i64 0] 3)).alloc (.cells #[.int .i64 0] 43)).alloc (.cells #[.slice none 0 0] 22)).alloc (.cells #[.string s] 9) := ⟨_, rfl⟩
  rw [← hW0]
  have hsz : W0.heap.size = w.heap.size + 5 := by rw [hW0]; simp
  have HB0 := Lib.hid (show Below w.heap.size w W0 from by rw [hW0]; exact (((((Below.refl _ w).alloc (Nat.le_refl _) _).alloc (by simp) _).alloc (by simp; omega) _).alloc (by simp; omega) _).alloc (by simp; omega) _)
  have R2 := Lib.hid (show Blk W0 w.heap.size 22 #[.slice none 0 0] from by rw [hW0]; exact ((((Blk.new w _ _).alloc _).alloc _).alloc _).alloc _)
  have R3 := Lib.hid (show Blk W0 (w.heap.size + 1) 3 #[.int .i64 0] from by
    have := Blk.new (w.alloc (.cells #[.slice none 0 0] 22)) 3 #[.int .i64 0]
    rw [World.size_alloc] at this
    rw [hW0]; exact ((this.alloc _).alloc _).alloc _)
  have R4 := Lib.hid (show Blk W0 (w.heap.size + 1 + 1) 43 #[.int .i64 0] from by
    have := Blk.new ((w.alloc (.cells #[.slice none 0 0] 22)).alloc (.cells #[.int .i64 0] 3)) 43 #[.int .i64 0]
    rw [World.size_alloc, World.size_alloc] at this
    rw [hW0]; exact (this.alloc _).alloc _)
  have RL := Lib.hid (show Boxed W0 (w.heap.size + 1 + 1 + 1) 22 (.slice none 0 0) from by
    have := Blk.new (((w.alloc (.cells #[.slice none 0 0] 22)).alloc (.cells #[.int .i64 0] 3)).alloc (.cells #[.int .i64 0] 43)) 22 #[.slice none 0 0]
    rw [World.size_alloc, World.size_alloc, World.size_alloc] at this
    rw [hW0]; exact this.alloc _)
  have RS := Lib.hid (show Blk W0 (w.heap.size + 1 + 1 + 1 + 1) 9 #[.string s] from by
    have := Blk.new ((((w.alloc (.cells #[.slice none 0 0] 22)).alloc (.cells #[.int .i64 0] 3)).alloc (.cells #[.int .i64 0] 43)).alloc (.cells #[.slice none 0 0] 22)) 9 #[.string s]
    rw [World.size_alloc, World.size_alloc, World.size_alloc, World.size_alloc] at this
    rw [hW0]; exact this)
  clear hW0
  refine wpIn_rangeFunc_ownF (w0 := W0) rfl (by omega) (gf := 67) (lb := #[.pointer (some ⟨w.heap.size + 1 + 1 + 1 + 1, 0, none⟩)]) rfl trivial (enters_of Try.func67 (by kernel_rfl) rfl)
    (lines_stops 2 (by omega) (w.heap.size + 1 + 1 + 1 + 1) s hs W0 RS.out) (fun _ _ => trivial) (fun _ _ _ _ _ _ _ _ => trivial) (Below.refl _ _) (fun _ => rfl)
    (fun pre W => (∃ v, Boxed W (w.heap.size + 1 + 1 + 1) 22 v ∧ W.ownsRow W0.heap.size 53 2 v (hsOf pre).length (prmL (hsOf pre)) ∧ parW (pre.map Subtype.val) [] = .inl (hsOf pre)) ∧ (((Blk W w.heap.size 22 #[.slice none 0 0] ∧ Blk W (w.heap.size + 1) 3 #[.int .i64 0]) ∧ Blk W (w.heap.size + 1 + 1) 43 #[.int .i64 0]) ∧ (Below w.heap.size w W ∧ W0.heap.size ≤ W.heap.size)))
    (fun c pre W => (c = .ret ∧ ∃ n, parW (pre.map Subtype.val) [] = .inr n ∧ Blk W (w.heap.size + 1) 3 #[.int .i64 (n : Nat)]) ∧ ((Blk W w.heap.size 22 #[.slice none 0 0] ∧ Blk W (w.heap.size + 1 + 1) 43 #[.int .i64 2]) ∧ Below w.heap.size w W))
    (OwnFrom.and (Own.from (holdsRow_own W0.heap.size (w.heap.size + 1 + 1 + 1) 22 53 2 (fun pre : List Lin => (hsOf pre).length) (fun pre => prmL (hsOf pre)) (fun pre _ => parW (pre.map Subtype.val) [] = .inl (hsOf pre))) _) (OwnFrom.and (OwnFrom.and (OwnFrom.and ((blk_own w.heap.size _ _).from _) ((blk_own (w.heap.size + 1) _ _).from _)) ((blk_own (w.heap.size + 1 + 1) _ _).from _)) (OwnFrom.and (ownFrom_below (Nat.le_refl _) (by omega)) (size_from _ _))))
    (fun c => OwnFrom.and (fun pre X Y row ⟨h1, n, h2, h3⟩ hg hr => ⟨h1, n, h2, (blk_own (β := Unit) (w.heap.size + 1) _ _).from _ () X Y row h3 hg hr⟩) (OwnFrom.and (OwnFrom.and ((blk_own w.heap.size _ _).from _) ((blk_own (w.heap.size + 1 + 1) _ _).from _)) (ownFrom_below (Nat.le_refl _) (by omega))))
    ⟨⟨_, RL.out, World.ownsRow_nil _ _ _ _, rfl⟩, ⟨⟨R2.out, R3.out⟩, R4.out⟩, HB0.out, Nat.le_refl _⟩
    (fun x => { tmps := #[.string s, undef, .pointer (some ⟨w.heap.size, 0, none⟩), .pointer (some ⟨w.heap.size + 1, 0, none⟩), .pointer (some ⟨w.heap.size + 1 + 1, 0, none⟩), .pointer (some ⟨w.heap.size + 1 + 1 + 1, 0, none⟩), .int .i64 (x.1.1 : Int), .string x.1.2, undef, undef, .string s, .func (.func 67) #[] #[.pointer (some ⟨w.heap.size + 1 + 1 + 1 + 1, 0, none⟩)], .int .i64 (x.1.1 : Int), .string x.1.2, undef, undef, undef, undef, undef, undef, undef, undef, undef, undef, undef, undef, undef, undef, undef, undef], defers := [] }) ?assign ?body ?done ?stop
  case assign =>
    intro l x W K hK
    gi_wp2
    exact hK
  case body =>
    rintro l pre x W ⟨⟨v, hv, hrow, hpar⟩, ⟨⟨h2, h3⟩, h4⟩, hB, hs0⟩ hlt
    obtain ⟨⟨m, t⟩, htn, hts⟩ := x
    have HRD := Lib.hid fun q X => CallsIn.inRound l (callsIn_wide (n := q).2 (read_any t X hts htn))
    have HV := Lib.hid hv
    have HROW := Lib.hid hrow
    have HPAR := Lib.hid hpar
    have H2 := Lib.hid h2
    have H3 := Lib.hid h3
    have H4 := Lib.hid h4
    have HB := Lib.hid hB
    have hbw := hB.size
    have hll := hsOf_len (xs := pre)
    obtain ⟨ao, n', cap, rfl⟩ := own_slice hrow
    clear hv hrow hpar h2 h3 h4 hB
    gi_wp2_with (first
      | (refine ⟨trivial, ?_⟩; gi_at_call 50; refine (HRD.out _ _).mono ?_; rintro e w2 ⟨⟨pn, pv⟩, ok, rfl, hy, hn, b2⟩
         have HV2 := Lib.hid (show Boxed w2 (w.heap.size + 1 + 1 + 1) 22 (.slice ao n' cap) from HV.out.kept ⟨b2.os, b2.tape, b2.output, b2.size, fun k hk _ => b2.block k hk⟩ (row := none) (by simp))
         have HROW2 := Lib.hid (own_mv HROW.out (Mv.of_below b2 []) (by simp))
         have HR2 := Lib.hid (H2.out.below b2 H2.out.lt)
         have HR3 := Lib.hid (H3.out.below b2 H3.out.lt)
         have HR4 := Lib.hid (H4.out.below b2 H4.out.lt)
         have HB2 := Lib.hid (HB.out.trans (b2.mono hbw))
         have HKO := Lib.hid (keepsOthers_below b2)
         have hs2 : W0.heap.size ≤ w2.heap.size := Nat.le_trans hs0 b2.size
         have HY := Lib.hid hy
         have HN := Lib.hid hn
         have HTN := Lib.hid (show ∀ j u, ([.string pn, .string pv] : List Value)[j]? = some u → ((w2.alloc (.cells #[.string pn, .string pv] 53)).alloc (.cells #[.string pn, .string pv] 53)).cell? ((⟨w2.heap.size + 1, 0, none⟩ : Addr).add j) = some u from by
           have := two_new (w2.alloc (.cells #[.string pn, .string pv] 53)) pn pv
           rw [World.size_alloc] at this
           exact this)
         have c2 := HR2.out.cell 0
         have c3 := HR3.out.cell 0
         have c4 := HR4.out.cell 0
         have z2 := HR2.out.frozen 0
         have z3 := HR3.out.frozen 0
         have z4 := HR4.out.frozen 0
         have l2 := HR2.out.lt
         have l3 := HR3.out.lt
         have l4 := HR4.out.lt
         have cv := HV2.out.cell
         have zv := HV2.out.frozen
         have lv := HV2.out.lt
         clear hy hn b2
         cases ok)
      | (gi_at_builtin; refine wpListIn_append_own _ rfl _ _ 22 rfl W0.heap.size 53 ti _ 2 32 Try.underlying22 hi hz0 hz1 hz2 rfl (by decide) _ _ _ rfl ((HROW2.out.alloc _).alloc _) ⟨w2.heap.size + 1, 0, none⟩ 1 1 [.string pn, .string pv] rfl rfl HTN.out two_one22 (by unfold maxLen; omega) (by omega) (by simp; omega) ?_; intro v' w3 hown' hgrow _; obtain ⟨g', cap', rfl⟩ := ownsRow_succ hown'
         obtain ⟨hv1, hv2, hr2, hk2, hb2⟩ := (HV2.out.alloc (.cells #[.string pn, .string pv] 53)).appended (by decide) (own_base (HROW2.out.alloc (.cells #[.string pn, .string pv] 53)) (by omega)) (by simp; omega) (show w.heap.size ≤ w.heap.size + 1 + 1 + 1 by omega) (own_base hown' (by omega)) hgrow
         have hc1 := hv1.cell
         have hf1 := hv1.frozen))
    · have HBAD := Lib.hid (parW_bad (x := ⟨(m, t), htn, hts⟩) HPAR.out (by first | exact HN.out rfl | exact HN.out trivial | exact HN.out))
      refine ⟨HKO.out.trans ((((KeepsOthers.setCell _ _ _).trans (KeepsOthers.setCell _ _ _)).trans (KeepsOthers.setCell _ _ _)).trans (KeepsOthers.alloc _ _)), ⟨rfl, m, HBAD.out, ?_⟩, ⟨?_, ?_⟩, ?_⟩
      · exact (((HR3.out.far (p := ⟨w.heap.size, 0, none⟩) (by show w.heap.size + 1 ≠ w.heap.size; omega) _).set_ 0 _).far (p := ⟨w.heap.size + 1 + 1, 0, none⟩) (by show w.heap.size + 1 ≠ w.heap.size + 1 + 1; omega) _).alloc _
      · exact (((HR2.out.set_ 0 _).far (p := ⟨w.heap.size + 1, 0, none⟩) (by show w.heap.size ≠ w.heap.size + 1; omega) _).far (p := ⟨w.heap.size + 1 + 1, 0, none⟩) (by show w.heap.size ≠ w.heap.size + 1 + 1; omega) _).alloc _
      · exact (((HR4.out.far (p := ⟨w.heap.size, 0, none⟩) (by show w.heap.size + 1 + 1 ≠ w.heap.size; omega) _).far (p := ⟨w.heap.size + 1, 0, none⟩) (by show w.heap.size + 1 + 1 ≠ w.heap.size + 1; omega) _).set_ 0 _).alloc _
      · exact (((HB2.out.setCell (p := ⟨w.heap.size, 0, none⟩) (Nat.le_refl _) _).setCell (p := ⟨w.heap.size + 1, 0, none⟩) (by show w.heap.size ≤ w.heap.size + 1; omega) _).setCell (p := ⟨w.heap.size + 1 + 1, 0, none⟩) (by show w.heap.size ≤ w.heap.size + 1 + 1; omega) _).alloc (by simp; omega) _
    · obtain ⟨hg1, hg2⟩ := parW_good (x := ⟨(m, t), htn, hts⟩) HPAR.out (by first | exact HY.out rfl | exact HY.out trivial | exact HY.out)
      have HG1 := Lib.hid hg1
      have HG2 := Lib.hid hg2
      have HG3 := Lib.hid (show (hsOf (pre ++ [⟨(m, t), htn, hts⟩])).length = (hsOf pre).length + 1 from by rw [hg2, List.length_append]; rfl)
      clear hg1 hg2
      have hrow3 := hown'.kept (grownBy_setCell' w3 (w.heap.size + 1 + 1 + 1) (.slice (some ⟨g', 0, none⟩) ((hsOf pre).length + 1) cap')) (.inr (hv1.not_row (by decide) hown').symm)
      have hmv := boxed_mv (L := w.heap.size + 1 + 1 + 1) (v' := .slice (some ⟨g', 0, none⟩) ((hsOf pre).length + 1) cap') (HROW2.out.alloc (.cells #[.string pn, .string pv] 53)) (by simp; omega) hgrow
      refine ⟨(HKO.out.trans (KeepsOthers.alloc _ _)).trans hk2, trivial, ⟨_, hv2, ?_, HG1.out⟩, ⟨⟨?_, ?_⟩, ?_⟩, ?_, ?_⟩
      · rw [HG3.out, HG2.out, prmL_snoc]
        exact hrow3
      · exact (HR2.out.alloc _).mv hmv (by omega) (by simp; omega)
      · exact (HR3.out.alloc _).mv hmv (by omega) (by simp)
      · exact (HR4.out.alloc _).mv hmv (by omega) (by simp)
      · exact (HB2.out.alloc (by omega) _).trans hb2
      · exact Nat.le_trans (by simp; omega) hmv.size
  case done =>
    rintro D xs W hD hS ⟨⟨v, hv, hrow, hpar⟩, ⟨⟨h2, h3⟩, h4⟩, hB, hs0⟩ hK
    obtain ⟨A, c, rfl, hps⟩ := hdrs_of_own hrow
    have HP := Lib.hid (show parH s (s.size + 1) 0 1 [] = .inl (hsOf xs) from by rw [← parW_lin s (s.size + 1) 0 1 [] (by omega) (by omega), ← hS]; exact hpar)
    have HPS := Lib.hid (HdIn.ps hps)
    have HB := Lib.hid hB
    have hDw : w.heap.size + 5 ≤ D := by omega
    have cv := hv.cell
    have c2 := h2.cell 0
    have c3 := h3.cell 0
    have c4 := h4.cell 0
    have z2 := h2.frozen 0
    have z3 := h3.frozen 0
    have z4 := h4.frozen 0
    have H2 := Lib.hid h2
    have H3 := Lib.hid h3
    have H4 := Lib.hid h4
    have HAP := Lib.hid (own_apartD hrow hK rfl)
    obtain ⟨L, hL⟩ : ∃ L, L = hsOf xs := ⟨_, rfl⟩
    rw [← hL] at HP HPS cv
    clear hv hrow hpar h2 h3 h4 hB hS hps hL
    by_cases h100 : L.length ≤ 100
    · have HPA := Lib.hid (parA_all HP.out h100)
      have hgt : decide ((100 : Int) < (L.length : Int)) = false := by simp; omega
      have hgt2 : ¬ (100 < L.length) := by omega
      gi_wp2
      have B2 := (((H2.out.set_ 0 (.slice A L.length c)).far (p := ⟨w.heap.size + 1, 0, none⟩) (by show w.heap.size ≠ w.heap.size + 1; omega) (.int .i64 0)).far (p := ⟨w.heap.size + 1 + 1, 0, none⟩) (by show w.heap.size ≠ w.heap.size + 1 + 1; omega) (.int .i64 0)).putD (D := D) (by omega) (.deferred none)
      have B3 := (((H3.out.far (p := ⟨w.heap.size, 0, none⟩) (by show w.heap.size + 1 ≠ w.heap.size; omega) (.slice A L.length c)).set_ 0 (.int .i64 0)).far (p := ⟨w.heap.size + 1 + 1, 0, none⟩) (by show w.heap.size + 1 ≠ w.heap.size + 1 + 1; omega) (.int .i64 0)).putD (D := D) (by omega) (.deferred none)
      have B4 := (((H4.out.far (p := ⟨w.heap.size, 0, none⟩) (by show w.heap.size + 1 + 1 ≠ w.heap.size; omega) (.slice A L.length c)).far (p := ⟨w.heap.size + 1, 0, none⟩) (by show w.heap.size + 1 + 1 ≠ w.heap.size + 1; omega) (.int .i64 0)).set_ 0 (.int .i64 0)).putD (D := D) (by omega) (.deferred none)
      have hB := (((HB.out.setCell (p := ⟨w.heap.size, 0, none⟩) (Nat.le_refl _) (.slice A L.length c)).setCell (p := ⟨w.heap.size + 1, 0, none⟩) (by show w.heap.size ≤ w.heap.size + 1; omega) (.int .i64 0)).setCell (p := ⟨w.heap.size + 1 + 1, 0, none⟩) (by show w.heap.size ≤ w.heap.size + 1 + 1; omega) (.int .i64 0))
      have hm : ∀ g, w.heap.size + 5 ≤ g → (((W.setCell ⟨w.heap.size, 0, none⟩ (.slice A L.length c)).setCell ⟨w.heap.size + 1, 0, none⟩ (.int .i64 0)).setCell ⟨w.heap.size + 1 + 1, 0, none⟩ (.int .i64 0)).heap[g]? = W.heap[g]? := fun g hg =>
        ((Below.heap_setCell _ _ _ g (by show g ≠ w.heap.size + 1 + 1; omega)).trans (Below.heap_setCell _ _ _ g (by show g ≠ w.heap.size + 1; omega))).trans (Below.heap_setCell _ _ _ g (by show g ≠ w.heap.size; omega))
      have hK3 := (hm D hDw).trans hK
      generalize ((W.setCell ⟨w.heap.size, 0, none⟩ (.slice A L.length c)).setCell ⟨w.heap.size + 1, 0, none⟩ (.int .i64 0)).setCell ⟨w.heap.size + 1 + 1, 0, none⟩ (.int .i64 0) = W3 at *
      have e2 := B2.cell 0
      have e3 := B3.cell 0
      have e4 := B4.cell 0
      refine ⟨by simp, .inl ⟨_, _, rfl, run_takeDeferred hK3, ?_⟩⟩
      refine ⟨.tuple #[.slice A L.length c, .int .i64 0, .int .i64 0], by simp [results, Try.results28, go_sem, e2, e3, e4], A, c, ?_, ?_, ?_⟩
      · rw [HPA.out]; rfl
      · rw [HPA.out]
        exact HPS.out.keep fun a ea => (World.putObj_heap_other (HAP.out a ea).2).trans (hm _ (by have := (HAP.out a ea).1; omega))
      · exact hB.trans (belowK_b (w := w) (Nat.le_refl _) W3 D _ _ (by omega) hK3 rfl rfl)
    · have HPA := Lib.hid (parA_long HP.out h100)
      have hgt : decide ((100 : Int) < (L.length : Int)) = true := by simp; omega
      have hgt2 : 100 < L.length := by omega
      gi_wp2
      have B2 := (((H2.out.set_ 0 (.slice none 0 0)).far (p := ⟨w.heap.size + 1, 0, none⟩) (by show w.heap.size ≠ w.heap.size + 1; omega) (.int .i64 0)).far (p := ⟨w.heap.size + 1 + 1, 0, none⟩) (by show w.heap.size ≠ w.heap.size + 1 + 1; omega) (.int .i64 6)).putD (D := D) (by omega) (.deferred none)
      have B3 := (((H3.out.far (p := ⟨w.heap.size, 0, none⟩) (by show w.heap.size + 1 ≠ w.heap.size; omega) (.slice none 0 0)).set_ 0 (.int .i64 0)).far (p := ⟨w.heap.size + 1 + 1, 0, none⟩) (by show w.heap.size + 1 ≠ w.heap.size + 1 + 1; omega) (.int .i64 6)).putD (D := D) (by omega) (.deferred none)
      have B4 := (((H4.out.far (p := ⟨w.heap.size, 0, none⟩) (by show w.heap.size + 1 + 1 ≠ w.heap.size; omega) (.slice none 0 0)).far (p := ⟨w.heap.size + 1, 0, none⟩) (by show w.heap.size + 1 + 1 ≠ w.heap.size + 1; omega) (.int .i64 0)).set_ 0 (.int .i64 6)).putD (D := D) (by omega) (.deferred none)
      have hB := (((HB.out.setCell (p := ⟨w.heap.size, 0, none⟩) (Nat.le_refl _) (.slice none 0 0)).setCell (p := ⟨w.heap.size + 1, 0, none⟩) (by show w.heap.size ≤ w.heap.size + 1; omega) (.int .i64 0)).setCell (p := ⟨w.heap.size + 1 + 1, 0, none⟩) (by show w.heap.size ≤ w.heap.size + 1 + 1; omega) (.int .i64 6))
      have hK3 : (((W.setCell ⟨w.heap.size, 0, none⟩ (.slice none 0 0)).setCell ⟨w.heap.size + 1, 0, none⟩ (.int .i64 0)).setCell ⟨w.heap.size + 1 + 1, 0, none⟩ (.int .i64 6)).heap[D]? = some (.deferred (some [])) :=
        (((Below.heap_setCell _ _ _ D (by show D ≠ w.heap.size + 1 + 1; omega)).trans (Below.heap_setCell _ _ _ D (by show D ≠ w.heap.size + 1; omega))).trans (Below.heap_setCell _ _ _ D (by show D ≠ w.heap.size; omega))).trans hK
      generalize ((W.setCell ⟨w.heap.size, 0, none⟩ (.slice none 0 0)).setCell ⟨w.heap.size + 1, 0, none⟩ (.int .i64 0)).setCell ⟨w.heap.size + 1 + 1, 0, none⟩ (.int .i64 6) = W3 at *
      have e2 := B2.cell 0
      have e3 := B3.cell 0
      have e4 := B4.cell 0
      refine ⟨by simp, .inl ⟨_, _, rfl, run_takeDeferred hK3, ?_⟩⟩
      refine ⟨.tuple #[.slice none 0 0, .int .i64 0, .int .i64 6], by simp [results, Try.results28, go_sem, e2, e3, e4], none, 0, ?_, ?_, ?_⟩
      · rw [HPA.out]; rfl
      · rw [HPA.out]
        exact fun i hi => absurd hi (by simp)
      · exact hB.trans (belowK_b (w := w) (Nat.le_refl _) W3 D _ _ (by omega) hK3 rfl rfl)
  case stop =>
    rintro D c pre W hD ⟨r, hr⟩ ⟨⟨rfl, n, hpar, h3⟩, ⟨h2, h4⟩, hB⟩ hK
    have HPA := Lib.hid (show parA s = ([], n, 2) from parA_bad (by rw [← parW_lin s (s.size + 1) 0 1 [] (by omega) (by omega), hr, parW_app, hpar]))
    have B2 := h2.putD (D := D) (by omega) (.deferred none)
    have B3 := h3.putD (D := D) (by omega) (.deferred none)
    have B4 := h4.putD (D := D) (by omega) (.deferred none)
    have e2 := B2.cell 0
    have e3 := B3.cell 0
    have e4 := B4.cell 0
    gi_wp2
    refine ⟨by simp, .inl ⟨_, _, rfl, run_takeDeferred hK, ?_⟩⟩
    refine ⟨.tuple #[.slice none 0 0, .int .i64 n, .int .i64 2], by simp [results, Try.results28, go_sem, e2, e3, e4], none, 0, ?_, ?_, ?_⟩
    · rw [HPA.out]; rfl
    · rw [HPA.out]
      exact fun i hi => absurd hi (by simp)
    · exact hB.trans (belowK_b (w := w) (Nat.le_refl _) W D _ _ (by omega) hK rfl rfl)

end Go.Proofs.Ytjikahflbhgniaa
