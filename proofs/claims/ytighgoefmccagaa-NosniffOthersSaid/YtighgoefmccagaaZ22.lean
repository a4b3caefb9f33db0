/-
  What package nosniff's Said answers. Condition: at most seven hundred headers, with texts of at most a thousand bytes.
  What Clone and DeleteFunc of the library do with headers, and what Cut of package header answers. Condition: texts are shorter than a mebibyte, headers no more than that.
  What the document's Is, Good, Get, Cut and Same of headers answer. Condition: texts are shorter than a mebibyte, headers no more than that.
-/
import Derived.Test.YtighgoefmccagaaZ21
import Derived.Deep.RegionHeld3
import Derived.Test.YtighgoefmccagaaZ15
import Derived.Test.YtighgoefmccagaaZ8
import Derived.Test.YtighgoefmccagaaZ16
import Derived.Lib.SliceRun
import Derived.Test.YtighgoefmccagaaZ10
import Derived.Maps.AppendAt
import Derived.BigQuiet
namespace Go.Proofs.Ytighgoefmccagaa
open Go.RowKit

theorem below_six {w W : World} {g : Nat} (h : Below w.heap.size w W) (hg : w.heap.size ≤ g) (v0 v1 v2 v3 v4 v5 : Value) :
    Below w.heap.size w ((((((W.setCell ⟨g, 0, none⟩ v0).setCell ⟨g, 1, none⟩ v1).setCell ⟨g, 2, none⟩ v2).setCell ⟨g, 3, none⟩ v3).setCell ⟨g, 4, none⟩ v4).setCell ⟨g, 5, none⟩ v5) :=
  (((((h.setCell hg _).setCell hg _).setCell hg _).setCell hg _).setCell hg _).setCell hg _
theorem own_six {w : World} {base c b : Nat} {A : Option Addr} {ps : List Prm} {cs : Array Value} (h : OwnPs w base A c ps) (hb : Blk w b 38 cs) (v0 v1 v2 v3 v4 v5 : Value) :
    OwnPs ((((((w.setCell ⟨b, 0, none⟩ v0).setCell ⟨b, 1, none⟩ v1).setCell ⟨b, 2, none⟩ v2).setCell ⟨b, 3, none⟩ v3).setCell ⟨b, 4, none⟩ v4).setCell ⟨b, 5, none⟩ v5) base A c ps := by
  have hne := own_ne h hb (by decide)
  exact own_mv h (((((((Mv.refl _ [b] _).setCell (.inl (by simp)) _).setCell (.inl (by simp)) _).setCell (.inl (by simp)) _).setCell (.inl (by simp)) _).setCell (.inl (by simp)) _).setCell (.inl (by simp)) _) (by simpa using hne)
theorem three_keep {w W : World} {g : Nat} {t : TypeId} {a0 a1 a2 : Value} (h : Blk w g t #[a0, a1, a2]) (hb : Below w.heap.size w W) :
    W.cell? ⟨g, 0, none⟩ = some a0 ∧ W.cell? ⟨g, 1, none⟩ = some a1 ∧ W.cell? ⟨g, 2, none⟩ = some a2 :=
  ⟨(h.below hb h.lt).cell 0, (h.below hb h.lt).cell 1, (h.below hb h.lt).cell 2⟩
theorem three_six {W : World} {g b : Nat} {a0 a1 a2 : Value} (h : W.cell? ⟨g, 0, none⟩ = some a0 ∧ W.cell? ⟨g, 1, none⟩ = some a1 ∧ W.cell? ⟨g, 2, none⟩ = some a2) (hne : b ≠ g) (v0 v1 v2 v3 v4 v5 : Value) :
    ((((((W.setCell ⟨b, 0, none⟩ v0).setCell ⟨b, 1, none⟩ v1).setCell ⟨b, 2, none⟩ v2).setCell ⟨b, 3, none⟩ v3).setCell ⟨b, 4, none⟩ v4).setCell ⟨b, 5, none⟩ v5).cell? ⟨g, 0, none⟩ = some a0 ∧
    ((((((W.setCell ⟨b, 0, none⟩ v0).setCell ⟨b, 1, none⟩ v1).setCell ⟨b, 2, none⟩ v2).setCell ⟨b, 3, none⟩ v3).setCell ⟨b, 4, none⟩ v4).setCell ⟨b, 5, none⟩ v5).cell? ⟨g, 1, none⟩ = some a1 ∧
    ((((((W.setCell ⟨b, 0, none⟩ v0).setCell ⟨b, 1, none⟩ v1).setCell ⟨b, 2, none⟩ v2).setCell ⟨b, 3, none⟩ v3).setCell ⟨b, 4, none⟩ v4).setCell ⟨b, 5, none⟩ v5).cell? ⟨g, 2, none⟩ = some a2 := by
  obtain ⟨h0, h1, h2⟩ := h
  simp [World.cell?_setCell_far, hne, h0, h1, h2]

/-- What a call of Said gives. -/
def SaiGives (m : Mty) (has ns bug : Bool) (base : Nat) (w : World) (e : Ending) (w' : World) : Prop := ∃ A c, e = .returned (saidV m.t m.u A m.ps.length c has ns bug) ∧ OwnPs w' base A c m.ps ∧ m.ok ∧ Below w.heap.size w w'

set_option maxHeartbeats 8000000 in
set_option maxRecDepth 100000 in
theorem nsaid_any (A : Option Addr) (c : Nat) (l : List Prm) (w : World) (h : HdIn w A l) (ha : AllIn 1000 l) (hn : l.length ≤ 700) :
    Calls Try.prog 13 #[.slice A l.length c] w (SaiGives (tyM l) (tyB l) (nosB l) (bugB (rawB l)) w.heap.size w) := by
  obtain ⟨w0, hw0⟩ : ∃ w0, w0 = w.alloc (.cells #[.string ⟨#[]⟩, .string ⟨#[]⟩, .slice none 0 0, .bool false, .bool false, .bool false] 38) := ⟨_, rfl⟩
  have HB0 := Lib.hid (show Below w.heap.size w w0 from by rw [hw0]; exact (Below.refl _ _).alloc (Nat.le_refl _) _)
  have HR0 := Lib.hid (show Blk w0 w.heap.size 38 #[.string ⟨#[]⟩, .string ⟨#[]⟩, .slice none 0 0, .bool false, .bool false, .bool false] from by rw [hw0]; exact Blk.new _ _ _)
  have HMI := Lib.hid (nmime_any A c l w0 (h.below HB0.out) ha hn)
  have HRA := Lib.hid (fun W (hW : Below w.heap.size w W) => nraw_any A c l W (h.below hW) ha hn)
  have HIS := Lib.hid (fun W (hW : Below w.heap.size w W) => nis_any A c l W (h.below hW) ha hn)
  generalize rawB l = raw at *
  generalize hasT l = hasr at *
  have HBU := Lib.hid (fun W => sbug_any raw W)
  generalize bugB raw = bug at *
  generalize nosB l = ns at *
  generalize tyB l = has at *
  generalize tyM l = m at *
  obtain ⟨mt, mu, mp⟩ := m
  generalize l.length = n at *
  unfold MimGives at HMI
  clear h ha
  go_enter Try.func13, Try.ntmps13
  go_wp2_with fail
  rw [← hw0]
  clear hw0
  refine HMI.out.mono ?_
  rintro e w1 ⟨P, pc, rfl, ho, hok, b1⟩
  have HR1 := Lib.hid (HR0.out.below b1 HR0.out.lt)
  have HB1 := Lib.hid (below_on HB0.out b1)
  have HO1 := Lib.hid (own_base ho HB0.out.size)
  have HOK := Lib.hid hok
  obtain ⟨w2, hw2⟩ : ∃ w2, w2 = w1.alloc (.cells #[.string mt, .string mu, .slice P mp.length pc] 36) := ⟨_, rfl⟩
  have b2 : Below w1.heap.size w1 w2 := by rw [hw2]; exact (Below.refl _ _).alloc (Nat.le_refl _) _
  have HX2 := Lib.hid (show Blk w2 w1.heap.size 36 #[.string mt, .string mu, .slice P mp.length pc] from by rw [hw2]; exact Blk.new _ _ _)
  have HR2 := Lib.hid (HR1.out.below b2 HR1.out.lt)
  have HB2 := Lib.hid (below_on HB1.out b2)
  have HO2 := Lib.hid (show OwnPs w2 w.heap.size P pc mp from own_mv HO1.out (Mv.of_below b2 []) (by simp))
  have hne : w.heap.size ≠ w1.heap.size := by have := HR1.out.lt; omega
  clear ho hok b1 b2 HMI HR0 HB0 HR1 HB1 HO1
  go_wp2_with fail
  rw [← hw2]
  generalize w1.heap.size = mb at *
  clear hw2
  refine (HRA.out _ HB2.out).mono ?_
  rintro e w3 ⟨rfl, b3⟩
  have HX := Lib.hid (HX2.out.below b3 HX2.out.lt)
  have HR := Lib.hid (HR2.out.below b3 HR2.out.lt)
  have HB3 := Lib.hid (below_on HB2.out b3)
  have HO := Lib.hid (show OwnPs w3 w.heap.size P pc mp from own_mv HO2.out (Mv.of_below b3 []) (by simp))
  clear b3 HX2 HR2 HB2 HO2 HRA
  have HI2 := Lib.hid (fun W (hW : Below w3.heap.size w3 W) => HIS.out W (below_on HB3.out hW))
  have HB := Lib.hid (Below.refl w3.heap.size w3)
  clear HIS
  obtain ⟨c0, c1, c2⟩ := three_keep HX.out HB.out
  go_wp2_with fail
  go_region_held3 (fun w' => w'.cell? ⟨mb, 0, none⟩ = some (.string mt) ∧ w'.cell? ⟨mb, 1, none⟩ = some (.string mu) ∧ w'.cell? ⟨mb, 2, none⟩ = some (.slice P mp.length pc))
    (first | with_reducible exact three_keep HX.out HB.out | with_reducible exact three_keep HX.out HB.out.drew | with_reducible exact three_six (three_keep HX.out HB.out) hne _ _ _ _ _ _ | go_keep)
    (first
      | (go_at_call 9; (with_reducible refine (HI2.out _ (by first | exact HB.out | exact HB.out.drew)).mono ?_); rintro e w4 ⟨rfl, b4⟩
         have HB := Lib.hid (below_on (w := _) (by first | exact HB.out | exact HB.out.drew) b4)
         clear b4
         have HRR := Lib.hid (HR.out.below HB.out HR.out.lt)
         have r0 := HRR.out.cell 0
         have r1 := HRR.out.cell 1
         have r2 := HRR.out.cell 2
         have r3 := HRR.out.cell 3
         have r4 := HRR.out.cell 4
         have r5 := HRR.out.cell 5
         have z0 := HRR.out.frozen 0
         have z1 := HRR.out.frozen 1
         have z2 := HRR.out.frozen 2
         have z3 := HRR.out.frozen 3
         have z4 := HRR.out.frozen 4
         have z5 := HRR.out.frozen 5)
      | (go_at_call 26; (with_reducible refine (HBU.out _).mono ?_); rintro e w4 ⟨rfl, rfl⟩))
  all_goals
    have HF2 := Lib.hid (own_six (show OwnPs w4 w.heap.size P pc mp from own_mv HO.out (Mv.of_below HB.out []) (by simp)) HRR.out (.string mt) (.string mu) (.slice P mp.length pc) (.bool has) (.bool ns) (.bool bug))
    have HF1 := Lib.hid (((((((HRR.out.set_ 0 (.string mt)).set_ 1 (.string mu)).set_ 2 (.slice P mp.length pc)).set_ 3 (.bool has)).set_ 4 (.bool ns)).set_ 5 (.bool bug)))
    have HF3 := Lib.hid (below_six (below_on HB3.out HB.out) (Nat.le_refl _) (.string mt) (.string mu) (.slice P mp.length pc) (.bool has) (.bool ns) (.bool bug))
    clear r0 r1 r2 r3 r4 r5 z0 z1 z2 z3 z4 z5 HRR HO HR HX HB3 c0 c1 c2
    generalize ((((((w4.setCell { block := w.heap.size, off := 0 } (Value.string mt)).setCell { block := w.heap.size, off := 1 } (Value.string mu)).setCell { block := w.heap.size, off := 2 } (Value.slice P mp.length pc)).setCell { block := w.heap.size, off := 3 } (Value.bool has)).setCell { block := w.heap.size, off := 4 } (Value.bool ns)).setCell { block := w.heap.size, off := 5 } (Value.bool bug)) = W at *
    have r0 := HF1.out.cell 0
    have r1 := HF1.out.cell 1
    have r2 := HF1.out.cell 2
    have r3 := HF1.out.cell 3
    have r4 := HF1.out.cell 4
    have r5 := HF1.out.cell 5
    go_wp2
    refine bodyPost_ret (v := saidV mt mu P mp.length pc has ns bug) (by simp [results, Try.results13, go_sem, r0, r1, r2, r3, r4, r5]; done) rfl ?_
    exact ⟨P, pc, rfl, HF2.out, HOK.out, HF3.out⟩

end Go.Proofs.Ytighgoefmccagaa
namespace Go.Proofs.Ytighgoefmccagaa
open Go.RowKit

theorem own_set1 {w : World} {B size n cap g : Nat} {e : TypeId} {xs : List Value} (h : w.ownsRow B e size (.slice (some ⟨g, 0, none⟩) n cap) n xs) (i : Nat) (u : Value) :
    (w.setCell ⟨g, i, none⟩ u).ownsRow B e size (.slice (some ⟨g, 0, none⟩) n cap) n (xs.set i u) := by
  refine ⟨by rw [List.length_set]; exact h.1, ?_⟩
  rcases h.2 with ⟨h1, _⟩ | ⟨g', cap', cur, h1, hB, hg, hc, hm, hs, ht⟩
  · cases h1
  · cases h1
    refine .inr ⟨g, cap, cur.setIfInBounds i u, rfl, hB, ?_, hc, hm, by simp [hs], ?_⟩
    · simp [World.setCell, Array.getElem?_modify, hg]
    · rw [Array.toList_setIfInBounds, List.take_set, ht]
theorem own_take {w : World} {B size n cap i : Nat} {A : Option Addr} {e : TypeId} {xs : List Value} (h : w.ownsRow B e size (.slice A n cap) n xs) (hi : i ≤ n) :
    w.ownsRow B e size (.slice A i cap) i (xs.take (i * size)) := by
  have hle : i * size ≤ n * size := Nat.mul_le_mul_right _ hi
  refine ⟨by rw [List.length_take, h.1]; omega, ?_⟩
  rcases h.2 with ⟨h1, h2⟩ | ⟨g', cap', cur, h1, hB, hg, hc, hm, hs, ht⟩
  · cases h1
    exact .inl ⟨by rw [show i = 0 by omega], by omega⟩
  · cases h1
    exact .inr ⟨g', cap, cur, rfl, hB, hg, by omega, hm, hs, by rw [← ht, List.take_take, Nat.min_eq_left hle]⟩
theorem prmL_set : ∀ (l : List Prm) (k : Nat) (p : Prm), prmL (l.set k p) = ((prmL l).set (k * 2) (.string p.n)).set (k * 2 + 1) (.string p.v)
  | [], _, _ => rfl
  | q :: r, 0, p => by simp [prmL]
  | q :: r, k + 1, p => by
    have ih := prmL_set r k p
    have e : prmL (q :: r) = .string q.n :: .string q.v :: prmL r := by simp [prmL]
    have e2 : prmL (q :: r.set k p) = .string q.n :: .string q.v :: prmL (r.set k p) := by simp [prmL]
    rw [List.set_cons_succ, e2, ih, e, show (k + 1) * 2 = k * 2 + 1 + 1 by omega]
    rfl
theorem prmL_take (l : List Prm) (k : Nat) : (prmL l).take (k * 2) = prmL (l.take k) := by
  induction l generalizing k with
  | nil => simp [prmL]
  | cons q r ih =>
    have e : prmL (q :: r) = .string q.n :: .string q.v :: prmL r := by simp [prmL]
    cases k with
    | zero => simp [prmL]
    | succ k =>
      have e2 : prmL (q :: r.take k) = .string q.n :: .string q.v :: prmL (r.take k) := by simp [prmL]
      rw [e, show (k + 1) * 2 = k * 2 + 1 + 1 by omega, List.take_succ_cons, List.take_succ_cons, ih, List.take_succ_cons, e2]

/-- Headers that lie in a row of the call's own. -/
def OwnHd (w : World) (base : Nat) (A : Option Addr) (c : Nat) (l : List Prm) : Prop := w.ownsRow base 33 2 (.slice A l.length c) l.length (prmL l)
theorem OwnHd.ps {w : World} {base c : Nat} {A : Option Addr} {l : List Prm} (h : OwnHd w base A c l) : PsIn w A l := by
  obtain ⟨A', c', e, hp⟩ := hdrs_of_own h
  cases e
  exact hp
theorem OwnHd.hd {w : World} {base c : Nat} {A : Option Addr} {l : List Prm} (h : OwnHd w base A c l) : HdIn w A l := HdIn.ps h.ps
theorem OwnHd.set {w : World} {base c g : Nat} {l : List Prm} (h : OwnHd w base (some ⟨g, 0, none⟩) c l) (k : Nat) (p : Prm) :
    OwnHd ((w.setCell ⟨g, k * 2, none⟩ (.string p.n)).setCell ⟨g, k * 2 + 1, none⟩ (.string p.v)) base (some ⟨g, 0, none⟩) c (l.set k p) := by
  have := own_set1 (own_set1 h (k * 2) (.string p.n)) (k * 2 + 1) (.string p.v)
  rw [← prmL_set] at this
  unfold OwnHd
  rw [List.length_set]
  exact this
theorem OwnHd.take {w : World} {base c : Nat} {A : Option Addr} {l : List Prm} (h : OwnHd w base A c l) {i : Nat} (hi : i ≤ l.length) : OwnHd w base A c (l.take i) := by
  have := own_take h hi
  rw [prmL_take] at this
  unfold OwnHd
  rw [List.length_take, Nat.min_eq_left hi]
  exact this
theorem OwnHd.below {w w' : World} {B base c : Nat} {A : Option Addr} {l : List Prm} (h : OwnHd w base A c l) (hb : Below B w w') (hB : w.heap.size ≤ B) : OwnHd w' base A c l :=
  own_mv h (Mv.of_below (hb.mono hB) []) (by simp)
theorem OwnHd.cap {w : World} {base c : Nat} {A : Option Addr} {l : List Prm} (h : OwnHd w base A c l) : l.length ≤ c := by
  rcases h.2 with ⟨h1, h2⟩ | ⟨_, _, _, h1, _, _, hc, _⟩
  · rw [h2]; exact Nat.zero_le _
  · cases h1; exact hc
theorem HdIn.cells {w : World} {a : Addr} {ps : List Prm} (h : HdIn w (some a) ps) : ∀ j u, (prmL ps)[j]? = some u → w.cell? (a.add j) = some u := fun j u hj => by
  have hjl : j < (prmL ps).length := (List.getElem?_eq_some_iff.1 hj).1
  rw [prmL_len] at hjl
  obtain ⟨i, hi⟩ : ∃ i, i = j / 2 := ⟨_, rfl⟩
  have hil : i < ps.length := by omega
  obtain ⟨a', e, _, h0, h1⟩ := h i hil
  cases e
  rcases (by omega : j = i * 2 ∨ j = i * 2 + 1) with e2 | e2
  · rw [e2] at hj ⊢
    rw [(prmL_at ps i hil).1] at hj
    rw [h0]; exact hj
  · rw [e2] at hj ⊢
    rw [(prmL_at ps i hil).2] at hj
    have ea : a.add (i * 2 + 1) = ⟨(a.add (i * 2)).block, (a.add (i * 2)).off + 1, none⟩ := by
      unfold Addr.add
      by_cases h0 : i * 2 = 0
      · simp [h0]
      · simp [h0, Nat.add_assoc]
    rw [ea, h1]; exact hj

/-- append to a row of headers of the call's own. -/
theorem wpH_append {ops : Array Oper} {rest : List Oper} {o : Oper} {a : Act} {w : World} {Q : Exit → Act → World → Prop} (hgd : o.guard = none) (s x : Operand)
    (ho : o.op = .call { callee := .builtin .append, args := #[s, x], argTypes := #[22, 22] })
    (base : Nat) (v : Value) (n : Nat) (xs : List Value) (hs : a.eval s = v) (hown : w.ownsRow base 33 2 v n xs)
    (ad : Addr) (m c : Nat) (news : List Value) (hx : a.eval x = .slice (some ad) m c) (hl : news.length = m * 2) (hnews : ∀ j u, news[j]? = some u → w.cell? (ad.add j) = some u) (h1 : ∀ u ∈ news, u.oneCell' = true)
    (hb : n + m ≤ 4194304) (hbase : base ≤ w.heap.size)
    (h : ∀ v' w', w'.ownsRow base 33 2 v' (n + m) (xs ++ news) → w.grownBy w' v.ownBlock → (v' = .slice none 0 0 ↔ v = .slice none 0 0 ∧ m = 0) → wpList Try.prog ops Q rest (a.put o.dst v') w') : wpList Try.prog ops Q (o :: rest) a w := by
  obtain ⟨i0, hi, hz0, hz1, hz2⟩ := info_parts Try.infoHdr
  exact wpList_append_own w hgd s x 22 ho base 33 i0 _ 2 32 Try.underlying22 hi hz0 hz1 hz2 rfl (by decide) v n xs hs hown ad m c news hx hl hnews h1 (by unfold maxLen; omega) (by omega) hbase h

end Go.Proofs.Ytighgoefmccagaa
namespace Go.Proofs.Ytighgoefmccagaa
open Go.RowKit

set_option maxHeartbeats 1000000 in
theorem ris_any (name n v : ByteArray) (w : World) (hn : n.size ≤ 1048576) (hm : name.size ≤ 1048576) :
    Calls Try.prog 12 #[.agg #[.string n, .string v], .string name] w fun e w' => e = .returned (.bool (hasN name ⟨n, v⟩)) ∧ Below w.heap.size w w' := by
  have HN := Lib.hid (fun W => refLowerS_any n W (by omega))
  have HM := Lib.hid (fun W => refLowerS_any name W (by omega))
  have HE : Hid (hasN name ⟨n, v⟩ = ((lowS n).toList == (lowS name).toList)) := Lib.hid rfl
  rw [HE.out]
  obtain ⟨a, ha⟩ : ∃ a, a = lowS n := ⟨_, rfl⟩
  obtain ⟨b, hb⟩ : ∃ b, b = lowS name := ⟨_, rfl⟩
  rw [← ha] at HN ⊢
  rw [← hb] at HM ⊢
  clear ha hb HE
  obtain ⟨z, hz⟩ : ∃ z, (a.toList == b.toList) = z := ⟨_, rfl⟩
  rw [hz]
  have HB0 := Lib.hid ((Below.refl w.heap.size w).alloc (Nat.le_refl _) (.cells #[.string n, .string v] 33))
  go_enter Try.func12, Try.ntmps12
  go_wp2_with fail
  refine (HN.out _).mono ?_
  rintro e w1 ⟨rfl, b1⟩
  have HB1 := Lib.hid (below_on HB0.out b1)
  clear b1
  go_wp2_with fail
  refine (HM.out _).mono ?_
  rintro e w2 ⟨rfl, b2⟩
  have HB2 := Lib.hid (below_on HB1.out b2)
  clear b2
  go_wp2
  go_ret
  exact ⟨by first | rfl | (rw [← hz]; rfl) | simp [hz], HB2.out⟩

theorem strs_app (xs ys : List ByteArray) : strs (xs ++ ys) = strs xs ++ strs ys := by simp [strs]
theorem Try.infoS23 : (Try.prog.info? 9).map (fun i => (i.zero, i.size, i.bytes)) = some (some (.string ⟨#[]⟩), 1, 16) := by kernel_rfl

set_option maxHeartbeats 2000000 in
set_option maxRecDepth 100000 in
theorem rget_any (name : ByteArray) (A : Option Addr) (c : Nat) (l : List Prm) (w : World) (h : HdIn w A l) (ha : AllIn 1048576 l) (hn : l.length ≤ 1048576) (hm : name.size ≤ 1048576) :
    Calls Try.prog 19 #[.string name, .slice A l.length c] w fun e w' => ∃ v, e = .returned v ∧ w'.ownsRow w.heap.size 9 1 v (getN name l).length (strs (getN name l)) ∧ Below w.heap.size w w' := by
  obtain ⟨i0, hi, hz0, hz1, hz2⟩ := info_parts Try.infoS23
  have HH := Lib.hid h
  have HA := Lib.hid ha
  have HALL := Lib.hid (show l.take l.length = l from List.take_length)
  have HO0 := Lib.hid (World.ownsRow_made (base := w.heap.size) (e := 9) (size := 1) w #[] 0 (Nat.le_refl _) (Nat.zero_le _) rfl)
  have HB0 := Lib.hid ((Below.refl w.heap.size w).alloc (Nat.le_refl _) (.cells #[] 9))
  clear h ha
  go_enter Try.func19, Try.ntmps19
  go_wp2
  go_loopw [5, 6] (fun v i wr => ∃ k : Nat, k ≤ l.length ∧ i = .int .i64 k ∧ Hid (wr.ownsRow w.heap.size 9 1 v (getN name (l.take k)).length (strs (getN name (l.take k)))) ∧ Hid (Below w.heap.size w wr)) (fun _ i _ => l.length - (intOf i).toNat)
  case atStart => exact ⟨0, by omega, rfl, HO0, HB0⟩
  case round =>
    obtain ⟨k, hk, rfl, HO, HW⟩ := hrel
    have hwr := HW.out.size
    by_cases hlt : k < l.length
    · obtain ⟨a, rfl, hal, c0, c1⟩ := (HH.out.below HW.out) k hlt
      have hsz := HA.out.at_ hlt
      have HST := Lib.hid (getN_step name l hlt)
      have HHB := Lib.hid (fun W (hW : Below wr.heap.size wr W) => (((HH.out.below HW.out).below hW) k hlt))
      have hgl := Nat.le_trans (getN_len name (l.take k)) (List.length_take_le _ _)
      obtain ⟨p, hp⟩ : ∃ p, l[k] = p := ⟨_, rfl⟩
      rw [hp] at c0 c1 hsz HST HHB
      clear hp
      obtain ⟨n, v⟩ := p
      simp only at c0 c1 hsz
      have HI := Lib.hid (fun W => ris_any name n v W (by omega) hm)
      have HC1 := Lib.hid (fun W (hW : Below wr.heap.size wr W) => show W.cell? ⟨(a.add (k * 2)).block, (a.add (k * 2)).off + 1, none⟩ = some (.string v) from by
        obtain ⟨a', e, _, _, d1⟩ := HHB.out W hW
        cases e
        exact d1)
      obtain ⟨X, hX⟩ : ∃ X, X = getN name (l.take k) := ⟨_, rfl⟩
      rw [← hX] at HST HO hgl
      clear hX HHB
      cases hb : hasN name ⟨n, v⟩
      · rw [hb] at HI HST
        have HST2 := Lib.hid (show getN name (l.take (k + 1)) = X from by rw [HST.out]; simp)
        clear HST
        clear hb
        go_wp2_with (go_at_call 12; (with_reducible refine (HI.out _).mono ?_); rintro e w1 ⟨rfl, b1⟩; have HB1 := Lib.hid (HW.out.trans (b1.mono hwr)); have HO1 := Lib.hid (own_mv HO.out (Mv.of_below b1 []) (by simp)); clear b1)
        go_roundw
        case rel => exact ⟨k + 1, by omega, by go_num, by rw [HST2.out]; exact HO1, HB1⟩
        case measure => simp [intOf]; omega
      · rw [hb] at HI HST
        have HST2 := Lib.hid (show getN name (l.take (k + 1)) = X ++ [v] from by rw [HST.out]; simp)
        clear HST
        have HSS := Lib.hid (show strs (X ++ [v]) = strs X ++ [.string v] from by rw [strs_app]; rfl)
        have HSL := Lib.hid (show (X ++ [v]).length = X.length + 1 from by simp)
        clear hb
        go_wp2_with (first
          | (go_at_call 12; (with_reducible refine (HI.out _).mono ?_); rintro e w1 ⟨rfl, b1⟩
             have HB1 := Lib.hid (HW.out.trans (b1.mono hwr))
             have HO1 := Lib.hid (own_mv HO.out (Mv.of_below b1 []) (by simp))
             have d1 := HC1.out w1 b1
             have hw1 : w.heap.size ≤ w1.heap.size := HB1.out.size
             clear b1 c0 c1)
          | (at_builtin; refine wpList_append_own _ rfl _ _ 25 rfl w.heap.size 9 i0 _ 1 16 Try.underlying25 hi hz0 hz1 hz2 rfl (by decide) _ _ _ rfl (HO1.out.alloc _) ⟨w1.heap.size, 0, none⟩ 1 1 [.string v] rfl rfl (cell_one_new _ _ _) (by simp [Value.oneCell']) (by unfold maxLen; omega) (by omega) (by simp; omega) ?_; intro v' w2 hown hgrow _
             have HB2 := Lib.hid ((HB1.out.alloc hw1 (.cells #[.string v] 9)).grown hgrow (by simp; omega) (fun g hg => (HO1.out.lt g hg).1))
             have HO2 := Lib.hid hown
             clear hown hgrow))
        go_roundw
        case rel => exact ⟨k + 1, by omega, by go_num, by rw [HST2.out, HSS.out, HSL.out]; exact HO2, HB2⟩
        case measure => simp [intOf]; omega
    · obtain rfl : k = l.length := by omega
      rw [HALL.out] at HO
      go_wp2
      go_ret
      exact ⟨_, rfl, HO.out, HW.out⟩

end Go.Proofs.Ytighgoefmccagaa
