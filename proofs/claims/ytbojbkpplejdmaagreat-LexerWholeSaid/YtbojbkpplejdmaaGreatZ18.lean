/-
  What the document's own Read and State of layer 28 answer: all bytes' telling (TelS, tolH). Conditions: the text is no longer than a length can be; the depth is within its bounds.
  Plain facts on layer 29: what is told behind each byte (vrdB), that a blank behind a blank turns nothing (vrd_blank), the first place where it is told (fstV: by all beginnings, and by those that the document looks at), and that what is JSON whole is never let through. No condition.
  Plain facts on layer 29: the first place where it is told (fstV): cut into pieces, and as the document looks for it (a blank behind a blank is passed over); what is told at the end (endV); and that what is JSON whole is never let through. No condition.
-/
import Derived.Test.YtbojbkpplejdmaaGreatZ17
import Derived.OwnWalk
import Derived.Test.YtbojbkpplejdmaaGreatZ5
import Derived.Test.YtbojbkpplejdmaaGreatZ2
import Derived.Test.YtbojbkpplejdmaaGreatZ3
namespace Go.Proofs.YtbojbkpplejdmaaGreat
open Go.RowKit

/-- What is read comes to what is told. -/
def TelS (x : Th) (bad : Int) (win : Bool) (h : Hs) : Prop := match x.1 with
  | some _ => 0 ≤ bad
  | none => bad = -1 ∧ win = x.2.1 ∧ h.op = x.2.2.1 ∧ h.en = x.2.2.2.2
def zeroS8 : Array Value := #[.int .i64 0, .bool false, .string ⟨#[]⟩, .int .i64 0, .int .i64 0, .int .i64 0, .bool false, .int .i64 0]
theorem Tryz.zeroSaid28 (w : World) : (zeroValue 38).run Tryz.prog w = .ok (.agg #[.int .i64 0, .bool false, .string ⟨#[]⟩, .int .i64 0, .int .i64 0, .int .i64 0, .bool false, .int .i64 0]) w := by kernel_rfl
set_option maxHeartbeats 2000000 in
theorem Blk.set8 {W : World} {g : Nat} {t : TypeId} {u0 u1 u2 u3 u4 u5 u6 u7 : Value} (h : Blk W g t #[u0, u1, u2, u3, u4, u5, u6, u7]) (v0 v1 v2 v3 v4 v5 v6 v7 : Value) :
    Blk ((((((((W.setCell ⟨g, 0, none⟩ v0).setCell ⟨g, 1, none⟩ v1).setCell ⟨g, 2, none⟩ v2).setCell ⟨g, 3, none⟩ v3).setCell ⟨g, 4, none⟩ v4).setCell ⟨g, 5, none⟩ v5).setCell ⟨g, 6, none⟩ v6).setCell ⟨g, 7, none⟩ v7) g t #[v0, v1, v2, v3, v4, v5, v6, v7] :=
  (((((((h.set_ 0 v0).set_ 1 v1).set_ 2 v2).set_ 3 v3).set_ 4 v4).set_ 5 v5).set_ 6 v6).set_ 7 v7
set_option maxHeartbeats 2000000 in
theorem below_set8 {w W : World} {g : Nat} (h : Below w.heap.size w W) (hg : w.heap.size ≤ g) (v0 v1 v2 v3 v4 v5 v6 v7 : Value) :
    Below w.heap.size w ((((((((W.setCell ⟨g, 0, none⟩ v0).setCell ⟨g, 1, none⟩ v1).setCell ⟨g, 2, none⟩ v2).setCell ⟨g, 3, none⟩ v3).setCell ⟨g, 4, none⟩ v4).setCell ⟨g, 5, none⟩ v5).setCell ⟨g, 6, none⟩ v6).setCell ⟨g, 7, none⟩ v7) :=
  (((((((h.setCell hg _).setCell hg _).setCell hg _).setCell hg _).setCell hg _).setCell hg _).setCell hg _).setCell hg _

def msS (n : Nat) (v : Value) : Nat := if intOf v < 0 then 0 else n + 1 - (intOf v).toNat
theorem msS_no (n : Nat) : msS n (.int .i64 (-1)) = 0 := rfl
theorem msS_at (n j : Nat) : msS n (.int .i64 (j : Nat)) = n + 1 - j := by
  unfold msS
  have h : ¬ intOf (.int .i64 (j : Nat)) < 0 := by show ¬ ((j : Int) < 0); omega
  rw [if_neg h]
  rfl
/-- Where reading all bytes stands: it is over, or it goes on at a place. -/
def AtS (s : ByteArray) (D : Nat) (v bad : Int) (win : Bool) (h : Hs) : Prop :=
  (v = -1 ∧ TelS (tolH D s) bad win h) ∨ ∃ j : Nat, v = (j : Int) ∧ j ≤ s.size ∧ bad = -1 ∧ win = false ∧ h.op.length ≤ D ∧ h.pc ≤ j ∧ h.en ≤ j ∧ telH (runH D .z h (LL s j)) = tolH D s
theorem atS_zero {s : ByteArray} {D : Nat} : AtS s D 0 (-1) false newH := Or.inr ⟨0, rfl, Nat.zero_le _, rfl, rfl, Nat.zero_le _, Nat.le_refl _, Nat.le_refl _, by rw [ll_zero]; rfl⟩
theorem atS_end {s : ByteArray} {D : Nat} {h : Hs} (ht : telH (runH D .z h (LL s s.size)) = tolH D s) : TelS (tolH D s) (-1) false h := by
  rw [ll_nil (Nat.le_refl _)] at ht
  rw [← ht]
  exact ⟨rfl, rfl, rfl, rfl⟩
theorem atS_next {s : ByteArray} {D : Nat} {w : World} {xb : Nat} {h : Hs} {j : Nat} {v : Int} (hj : j < s.size) (hd : h.op.length ≤ D) (hp : h.pc ≤ j) (he : h.en ≤ j) (ht : telH (runH D .z h (LL s j)) = tolH D s)
    (hx : SaO s w xb D (nextO D h s[j] (LL s (j + 1))) v) : ∃ (bad : Int) (win : Bool) (h' : Hs), Sa w xb D bad win h' ∧ AtS s D v bad win h' ∧ (v = -1 ∨ (j : Int) < v) := by
  have hl := next_len D h s[j] (LL s (j + 1))
  have hf := next_few hd s[j] (LL s (j + 1))
  rw [ll_cons hj, nextO_ok] at ht
  cases hn : nextO D h s[j] (LL s (j + 1)) with
  | on h' r =>
    rw [hn] at hx hl hf ht
    obtain ⟨n, h1, rfl, rfl, h2⟩ := hx
    have hl' : (LL s n).length ≤ (LL s (j + 1)).length := hl
    rw [ll_len, ll_len] at hl'
    obtain ⟨f1, f2, f3⟩ : h'.pc ≤ h.pc + 1 ∧ h'.en ≤ h.en + 1 ∧ h'.op.length ≤ D := hf
    exact ⟨-1, false, h', h2, Or.inr ⟨n, rfl, h1, rfl, rfl, f3, by omega, by omega, ht⟩, Or.inr (by omega)⟩
  | bad h' r =>
    rw [hn] at hx ht
    obtain ⟨rfl, k, h2, h3⟩ := hx
    refine ⟨k, false, h2, h3, Or.inl ⟨rfl, ?_⟩, Or.inl rfl⟩
    rw [← ht]
    exact Int.natCast_nonneg k
  | win h' =>
    rw [hn] at hx ht
    obtain ⟨rfl, h3⟩ := hx
    refine ⟨-1, true, h', h3, Or.inl ⟨rfl, ?_⟩, Or.inl rfl⟩
    rw [← ht]
    exact ⟨rfl, rfl, rfl, rfl⟩

set_option maxHeartbeats 8000000 in
set_option maxRecDepth 10000 in
theorem sread_any (s : ByteArray) (D : Nat) (w : World) (hs : s.size ≤ 1152921504606846976) (hD : D ≤ 200) :
    Calls Tryz.prog 16 #[.string s, .int .i64 (D : Nat)] w fun e w' => (∃ (bad : Int) (win : Bool) (h : Hs), e = .returned (.agg (saC D bad win h)) ∧ TelS (tolH D s) bad win h) ∧ Below w.heap.size w w' := by
  have hz := Tryz.zeroSaid28
  have hs62 : s.size ≤ 4611686018427387904 := by omega
  obtain ⟨w0, hw0⟩ : ∃ w0, w0 = (w.alloc (.cells zeroS8 38)).alloc (.cells (saC D (-1) false newH) 38) := ⟨_, rfl⟩
  have HB0 := Lib.hid (show Below w.heap.size w w0 from by rw [hw0]; exact ((Below.refl w.heap.size w).alloc (Nat.le_refl _) _).alloc (by simp) _)
  have HR0 := Lib.hid (show Blk w0 w.heap.size 38 zeroS8 from by rw [hw0]; exact (Blk.new _ _ _).alloc _)
  have HX0 := Lib.hid (show Sa w0 (w.heap.size + 1) D (-1) false newH from by
    rw [hw0]
    have := Blk.new (w.alloc (.cells zeroS8 38)) 38 (saC D (-1) false newH)
    rw [show (w.alloc (.cells zeroS8 38)).heap.size = w.heap.size + 1 by simp] at this
    exact this)
  have HWE := Lib.hid hw0
  clear hw0
  go_enter Tryz.func16, Tryz.ntmps16
  go_wp2
  go_loopw [6] (fun i wr => ∃ (v bad : Int) (win : Bool) (h : Hs), i = .int .i64 v ∧ Hid (Sa wr (w.heap.size + 1) D bad win h) ∧ Hid (Blk wr w.heap.size 38 zeroS8) ∧ Hid (Below w.heap.size w wr) ∧ Hid (AtS s D v bad win h)) (fun i _ => msS s.size i)
  case atStart =>
    refine ⟨0, -1, false, newH, rfl, ?_⟩
    first
      | exact ⟨by rw [← show w0 = _ from HWE.out]; exact HX0, by rw [← show w0 = _ from HWE.out]; exact HR0, by rw [← show w0 = _ from HWE.out]; exact HB0, Lib.hid atS_zero⟩
      | (have e := HWE.out; exact ⟨Lib.hid (e ▸ HX0.out), Lib.hid (e ▸ HR0.out), Lib.hid (e ▸ HB0.out), Lib.hid atS_zero⟩)
  case round =>
    obtain ⟨v, bad, win, h, rfl, HX, HR, HB, HA⟩ := hrel
    clear HX0 HR0 HB0 HWE
    have hdec : (v = -1 ∧ Hid (TelS (tolH D s) bad win h)) ∨ (∃ j : Nat, v = (j : Int) ∧ j < s.size ∧ Hid (bad = -1 ∧ win = false ∧ h.op.length ≤ D ∧ h.pc ≤ j ∧ h.en ≤ j ∧ telH (runH D .z h (LL s j)) = tolH D s)) ∨ (v = (s.size : Int) ∧ Hid (TelS (tolH D s) bad win h)) := by
      rcases HA.out with ⟨h1, h2⟩ | ⟨j, h1, h2, h3, h4, h5, h6, h7, h8⟩
      · exact Or.inl ⟨h1, Lib.hid h2⟩
      · by_cases hj : j < s.size
        · exact Or.inr (Or.inl ⟨j, h1, hj, Lib.hid ⟨h3, h4, h5, h6, h7, h8⟩⟩)
        · obtain rfl : j = s.size := by omega
          subst h3 h4
          exact Or.inr (Or.inr ⟨h1, Lib.hid (atS_end h8)⟩)
    rcases hdec with ⟨rfl, HT⟩ | ⟨j, rfl, hj, HJ⟩ | ⟨rfl, HT⟩
    · have c0 := HX.out.c0
      have c1 := HX.out.c1
      have c2 := HX.out.c2
      have c3 := HX.out.c3
      have c4 := HX.out.c4
      have c5 := HX.out.c5
      have c6 := HX.out.c6
      have c7 := HX.out.c7
      have r0 : wr.cell? ⟨w.heap.size, 0, none⟩ = some (.int .i64 0) := Blk.cell HR.out 0
      have r1 : wr.cell? ⟨w.heap.size, 1, none⟩ = some (.bool false) := Blk.cell HR.out 1
      have r2 : wr.cell? ⟨w.heap.size, 2, none⟩ = some (.string ⟨#[]⟩) := Blk.cell HR.out 2
      have r3 : wr.cell? ⟨w.heap.size, 3, none⟩ = some (.int .i64 0) := Blk.cell HR.out 3
      have r4 : wr.cell? ⟨w.heap.size, 4, none⟩ = some (.int .i64 0) := Blk.cell HR.out 4
      have r5 : wr.cell? ⟨w.heap.size, 5, none⟩ = some (.int .i64 0) := Blk.cell HR.out 5
      have r6 : wr.cell? ⟨w.heap.size, 6, none⟩ = some (.bool false) := Blk.cell HR.out 6
      have r7 : wr.cell? ⟨w.heap.size, 7, none⟩ = some (.int .i64 0) := Blk.cell HR.out 7
      have z0 := Blk.frozen HR.out 0
      have z1 := Blk.frozen HR.out 1
      have z2 := Blk.frozen HR.out 2
      have z3 := Blk.frozen HR.out 3
      have z4 := Blk.frozen HR.out 4
      have z5 := Blk.frozen HR.out 5
      have z6 := Blk.frozen HR.out 6
      have z7 := Blk.frozen HR.out 7
      have HF := Lib.hid (Blk.set8 HR.out (.int .i64 bad) (.bool win) (.string (opT h.op)) (.int .i64 (h.pc : Nat)) (.int .i64 (h.en : Nat)) (.int .i64 (h.last : Nat)) (.bool h.br) (.int .i64 (D : Nat)))
      have HFB := Lib.hid (below_set8 HB.out (Nat.le_refl _) (.int .i64 bad) (.bool win) (.string (opT h.op)) (.int .i64 (h.pc : Nat)) (.int .i64 (h.en : Nat)) (.int .i64 (h.last : Nat)) (.bool h.br) (.int .i64 (D : Nat)))
      clear HA
      go_wp2
      generalize ((((((((wr.setCell ⟨w.heap.size, 0, none⟩ (.int .i64 bad)).setCell ⟨w.heap.size, 1, none⟩ (.bool win)).setCell ⟨w.heap.size, 2, none⟩ (.string (opT h.op))).setCell ⟨w.heap.size, 3, none⟩ (.int .i64 (h.pc : Nat))).setCell ⟨w.heap.size, 4, none⟩ (.int .i64 (h.en : Nat))).setCell ⟨w.heap.size, 5, none⟩ (.int .i64 (h.last : Nat))).setCell ⟨w.heap.size, 6, none⟩ (.bool h.br)).setCell ⟨w.heap.size, 7, none⟩ (.int .i64 (D : Nat))) = w9 at *
      have q0 := Blk.cell HF.out 0
      have q1 := Blk.cell HF.out 1
      have q2 := Blk.cell HF.out 2
      have q3 := Blk.cell HF.out 3
      have q4 := Blk.cell HF.out 4
      have q5 := Blk.cell HF.out 5
      have q6 := Blk.cell HF.out 6
      have q7 := Blk.cell HF.out 7
      refine bodyPost_ret (v := .agg (saC D bad win h)) (by unfold saC; simp [results, Tryz.results16, go_sem, q0, q1, q2, q3, q4, q5, q6, q7]; done) rfl ?_
      exact ⟨⟨bad, win, h, rfl, HT.out⟩, HFB.out⟩
    · have e1 : decide (j < s.size) = true := by simpa using hj
      have HN := HJ.out
      obtain ⟨rfl, rfl, h3, h4, h5, h6⟩ := HN
      have HC := Lib.hid (snext_any HX.out h3 hD j hj hs62 (by omega) (by omega))
      have HG : ∀ w1 v, Mv wr.heap.size [w.heap.size + 1] wr w1 → SaO s w1 (w.heap.size + 1) D (nextO D h s[j] (LL s (j + 1))) v → Hid (∃ (bad : Int) (win : Bool) (h' : Hs), Sa w1 (w.heap.size + 1) D bad win h' ∧ AtS s D v bad win h' ∧ (v = -1 ∨ (j : Int) < v)) ∧ Hid (Blk w1 w.heap.size 38 zeroS8) ∧ Hid (Below w.heap.size w w1) := fun w1 v hm hx =>
        ⟨Lib.hid (atS_next hj h3 h4 h5 h6 hx), Lib.hid (HR.out.mv hm (Blk.lt HR.out) (by simp)), Lib.hid (HB.out.trans (hm.below HB.out.size (by simp)))⟩
      have HG2 := Lib.hid HG
      clear HG h3 h4 h5 h6 HA HJ
      go_wp2_with (go_at_call 24; (with_reducible refine HC.out.mono ?_); rintro e w1 ⟨v, rfl, hm, hx⟩; obtain ⟨HE, HR1, HB1⟩ := HG2.out w1 v hm hx; clear hm hx)
      go_roundw
      case rel =>
        obtain ⟨bad, win, h', h1, h2, _⟩ := HE.out
        exact ⟨v, bad, win, h', rfl, Lib.hid h1, HR1, HB1, Lib.hid h2⟩
      case measure =>
        obtain ⟨bad, win, h', h1, h2, h3⟩ := HE.out
        rcases h2 with ⟨rfl, _⟩ | ⟨n, rfl, hn, _⟩
        · rw [msS_no, msS_at]; omega
        · rw [msS_at, msS_at]; omega
    · have c0 := HX.out.c0
      have c1 := HX.out.c1
      have c2 := HX.out.c2
      have c3 := HX.out.c3
      have c4 := HX.out.c4
      have c5 := HX.out.c5
      have c6 := HX.out.c6
      have c7 := HX.out.c7
      have r0 : wr.cell? ⟨w.heap.size, 0, none⟩ = some (.int .i64 0) := Blk.cell HR.out 0
      have r1 : wr.cell? ⟨w.heap.size, 1, none⟩ = some (.bool false) := Blk.cell HR.out 1
      have r2 : wr.cell? ⟨w.heap.size, 2, none⟩ = some (.string ⟨#[]⟩) := Blk.cell HR.out 2
      have r3 : wr.cell? ⟨w.heap.size, 3, none⟩ = some (.int .i64 0) := Blk.cell HR.out 3
      have r4 : wr.cell? ⟨w.heap.size, 4, none⟩ = some (.int .i64 0) := Blk.cell HR.out 4
      have r5 : wr.cell? ⟨w.heap.size, 5, none⟩ = some (.int .i64 0) := Blk.cell HR.out 5
      have r6 : wr.cell? ⟨w.heap.size, 6, none⟩ = some (.bool false) := Blk.cell HR.out 6
      have r7 : wr.cell? ⟨w.heap.size, 7, none⟩ = some (.int .i64 0) := Blk.cell HR.out 7
      have z0 := Blk.frozen HR.out 0
      have z1 := Blk.frozen HR.out 1
      have z2 := Blk.frozen HR.out 2
      have z3 := Blk.frozen HR.out 3
      have z4 := Blk.frozen HR.out 4
      have z5 := Blk.frozen HR.out 5
      have z6 := Blk.frozen HR.out 6
      have z7 := Blk.frozen HR.out 7
      have HF := Lib.hid (Blk.set8 HR.out (.int .i64 bad) (.bool win) (.string (opT h.op)) (.int .i64 (h.pc : Nat)) (.int .i64 (h.en : Nat)) (.int .i64 (h.last : Nat)) (.bool h.br) (.int .i64 (D : Nat)))
      have HFB := Lib.hid (below_set8 HB.out (Nat.le_refl _) (.int .i64 bad) (.bool win) (.string (opT h.op)) (.int .i64 (h.pc : Nat)) (.int .i64 (h.en : Nat)) (.int .i64 (h.last : Nat)) (.bool h.br) (.int .i64 (D : Nat)))
      clear HA
      go_wp2
      generalize ((((((((wr.setCell ⟨w.heap.size, 0, none⟩ (.int .i64 bad)).setCell ⟨w.heap.size, 1, none⟩ (.bool win)).setCell ⟨w.heap.size, 2, none⟩ (.string (opT h.op))).setCell ⟨w.heap.size, 3, none⟩ (.int .i64 (h.pc : Nat))).setCell ⟨w.heap.size, 4, none⟩ (.int .i64 (h.en : Nat))).setCell ⟨w.heap.size, 5, none⟩ (.int .i64 (h.last : Nat))).setCell ⟨w.heap.size, 6, none⟩ (.bool h.br)).setCell ⟨w.heap.size, 7, none⟩ (.int .i64 (D : Nat))) = w9 at *
      have q0 := Blk.cell HF.out 0
      have q1 := Blk.cell HF.out 1
      have q2 := Blk.cell HF.out 2
      have q3 := Blk.cell HF.out 3
      have q4 := Blk.cell HF.out 4
      have q5 := Blk.cell HF.out 5
      have q6 := Blk.cell HF.out 6
      have q7 := Blk.cell HF.out 7
      refine bodyPost_ret (v := .agg (saC D bad win h)) (by unfold saC; simp [results, Tryz.results16, go_sem, q0, q1, q2, q3, q4, q5, q6, q7]; done) rfl ?_
      exact ⟨⟨bad, win, h, rfl, HT.out⟩, HFB.out⟩

set_option maxHeartbeats 4000000 in
set_option maxRecDepth 10000 in
theorem sstate_any (D : Nat) (bad : Int) (win : Bool) (h : Hs) (w : World) :
    Calls Tryz.prog 19 #[.agg (saC D bad win h)] w fun e w' => e = .returned (.int .i64 (if 0 ≤ bad then 0 else if win || !h.op.isEmpty then 1 else 2)) ∧ Below w.heap.size w w' := by
  obtain ⟨v, hv⟩ : ∃ v : Int, v = if 0 ≤ bad then 0 else if win || !h.op.isEmpty then 1 else 2 := ⟨_, rfl⟩
  rw [← hv]
  have HV := Lib.hid hv
  clear hv
  have HW := Lib.hid ((Below.refl w.heap.size w).alloc (Nat.le_refl _) (.cells (saC D bad win h) 38))
  have m : Sa (w.alloc (.cells (saC D bad win h) 38)) w.heap.size D bad win h := Blk.new _ _ _
  have c0 := m.c0
  have c1 := m.c1
  have c2 := m.c2
  have hxs := opT_size h.op
  clear m
  generalize saC D bad win h = Z at *
  by_cases hb : 0 ≤ bad
  · have t0 : decide ((0 : Int) ≤ bad) = true := decide_eq_true hb
    have HY : Hid (v = 0) := Lib.hid (by rw [HV.out, if_pos hb])
    clear hb hxs HV
    generalize opT h.op = x at *
    go_enter Tryz.func19, Tryz.ntmps19
    go_wp2
    go_ret
    exact ⟨by rw [HY.out]; rfl, HW.out⟩
  · have t0 : decide ((0 : Int) ≤ bad) = false := decide_eq_false hb
    cases win with
    | true =>
      have HY : Hid (v = 1) := Lib.hid (by rw [HV.out, if_neg hb]; rfl)
      clear hb hxs HV
      generalize opT h.op = x at *
      go_enter Tryz.func19, Tryz.ntmps19
      go_wp2
      go_ret
      exact ⟨by rw [HY.out]; rfl, HW.out⟩
    | false =>
      cases hop : h.op with
      | nil =>
        have HY : Hid (v = 2) := Lib.hid (by rw [HV.out, if_neg hb, hop]; rfl)
        rw [hop, opT_nil] at c2
        clear hb hxs HV hop
        go_enter Tryz.func19, Tryz.ntmps19
        go_wp2
        go_ret
        exact ⟨by rw [HY.out]; rfl, HW.out⟩
      | cons o r =>
        have HY : Hid (v = 1) := Lib.hid (by rw [HV.out, if_neg hb, hop]; rfl)
        have t1 : ((opT h.op).toList == []) = false := by
          have e := opT_empty h.op
          rw [hop] at e ⊢
          rw [Lib.toList_data]
          cases hl : (opT (o :: r)).data.toList with
          | nil => rw [hl] at e; cases e
          | cons a t => rfl
        clear hb hxs HV hop
        generalize opT h.op = x at *
        go_enter Tryz.func19, Tryz.ntmps19
        go_wp2
        go_ret
        exact ⟨by rw [HY.out]; rfl, HW.out⟩
end Go.Proofs.YtbojbkpplejdmaaGreat
namespace Go.Proofs.YtbojbkpplejdmaaGreat

/-- Behind these bytes: 0 deep, 1 no script, 2 a script; none: wait. -/
def vrdB (D : Nat) (l : List UInt8) : Option Nat :=
  match runJ D .v [] l, runH D .z newH l with
  | .error (x, _), .bad _ _ => if x == 3 then some 0 else some 1
  | .ok _, .bad _ _ => some 1
  | .error (x, _), .ok _ h => if x == 3 then some 0 else if h.en == 0 then none else some 2
  | .ok _, .ok _ _ => none
/-- It waits still: the script's pieces go on, and JSON goes on, or can't be, and no end came. -/
theorem vrd_none {D : Nat} {l : List UInt8} : vrdB D l = none ↔ ∃ p h, runH D .z newH l = .ok p h ∧ ((∃ q, runJ D .v [] l = .ok q) ∨ ∃ r, runJ D .v [] l = .error (0, r) ∧ h.en = 0) := by
  unfold vrdB
  cases hj : runJ D .v [] l with
  | ok q =>
    cases hh : runH D .z newH l with
    | ok p h => exact ⟨fun _ => ⟨p, h, rfl, Or.inl ⟨q, rfl⟩⟩, fun _ => rfl⟩
    | bad h r => exact ⟨fun e => (by cases e), fun ⟨p, h', e, _⟩ => (by cases e)⟩
  | error e =>
    obtain ⟨x, r⟩ := e
    have hx := (run_bad D _ _ _ _ _ hj).1
    cases hh : runH D .z newH l with
    | ok p h =>
      rcases hx with rfl | rfl
      · show (if h.en == 0 then none else some 2) = none ↔ _
        cases he : (h.en == 0) with
        | true => exact ⟨fun _ => ⟨p, h, rfl, Or.inr ⟨r, rfl, eq_of_beq he⟩⟩, fun _ => rfl⟩
        | false =>
          refine ⟨fun e => (by cases e), fun ⟨p', h', e, e2⟩ => ?_⟩
          injection e with e3 e4
          subst e4
          rcases e2 with ⟨q, e5⟩ | ⟨r', _, e6⟩
          · cases e5
          · rw [e6] at he
            cases he
      · refine ⟨fun e => (by cases e), fun ⟨p', h', _, e2⟩ => ?_⟩
        rcases e2 with ⟨q, e5⟩ | ⟨r', e6, _⟩
        · cases e5
        · injection e6 with e7
          injection e7 with e8
          cases e8
    | bad h r2 =>
      refine ⟨fun e => ?_, fun ⟨p, h', e, _⟩ => (by cases e)⟩
      rcases hx with rfl | rfl <;> cases e

/-! A blank behind a blank. -/
def wrdJ : Pj → Bool
  | .w x l => x != 32 && l.all (· != 32)
  | _ => true
theorem wrd_beg {D : Nat} {st st' : List Bool} {b : UInt8} {p : Pj} (h : begJ D st b = .go p st') : wrdJ p = true := by
  unfold begJ at h
  repeat' split at h
  all_goals first
    | (cases h; done)
    | (injection h with h1 h2; subst h1; rfl)
theorem wrd_beh {st st' : List Bool} {b : UInt8} {p : Pj} (h : behJ st b = .go p st') : wrdJ p = true := by
  unfold behJ at h
  repeat' split at h
  all_goals first
    | (cases h; done)
    | (injection h with h1 h2; subst h1; first | rfl | (split <;> rfl))
def wnxJ (l : List UInt8) : Pj := match l with | [] => .e | y :: r => .w y r
theorem step_wnx {D : Nat} {st : List Bool} {x b : UInt8} {l : List UInt8} : stepJ D (.w x l) st b = if b == x then .go (wnxJ l) st else .no := rfl
theorem wrd_step {D : Nat} {p p' : Pj} {st st' : List Bool} {b : UInt8} (hw : wrdJ p = true) (h : stepJ D p st b = .go p' st') : wrdJ p' = true := by
  cases p with
  | w x l =>
    rw [step_wnx] at h
    cases h8 : (b == x) with
    | false => rw [h8] at h; cases h
    | true =>
      rw [h8, if_pos rfl] at h
      injection h with h1 h2
      subst h1
      cases l with
      | nil => rfl
      | cons y r =>
        have hw' : (x != 32 && ((y != 32) && r.all (· != 32))) = true := hw
        rw [Bool.and_eq_true] at hw'
        exact hw'.2
  | v => unfold stepJ at h; repeat' split at h
         all_goals first
           | contradiction
           | exact wrd_beg h
           | (injection h with h1 h2; subst h1; rfl)
  | a => unfold stepJ at h; repeat' split at h
         all_goals first
           | contradiction
           | exact wrd_beg h
           | (injection h with h1 h2; subst h1; rfl)
  | o => unfold stepJ at h; repeat' split at h
         all_goals first
           | contradiction
           | (cases h; done)
           | (injection h with h1 h2; subst h1; rfl)
  | k => unfold stepJ at h; repeat' split at h
         all_goals first
           | contradiction
           | (cases h; done)
           | (injection h with h1 h2; subst h1; rfl)
  | c => unfold stepJ at h; repeat' split at h
         all_goals first
           | contradiction
           | (cases h; done)
           | (injection h with h1 h2; subst h1; rfl)
  | e => exact wrd_beh h
  | q key n =>
    cases hq : (n == 0 && b == 34) with
    | true =>
      rw [quo_end D key st hq] at h
      injection h with h1 h2
      subst h1
      cases key <;> rfl
    | false =>
      rw [quo_in D key st hq] at h
      cases hm : quoN n b with
      | none => rw [hm] at h; cases h
      | some m =>
        rw [hm] at h
        injection h with h1 h2
        subst h1
        rfl
  | n i =>
    unfold stepJ at h
    repeat' split at h
    all_goals first
      | contradiction
      | (cases h; done)
      | exact wrd_beh h
      | (injection h with h1 h2; subst h1; rfl)
theorem wrd_run {D : Nat} : ∀ (l : List UInt8) {p p' : Pj} {st st' : List Bool}, wrdJ p = true → runJ D p st l = .ok (p', st') → wrdJ p' = true
  | [], _, _, _, _, hw, h => by cases h; exact hw
  | b :: l, p, p', st, st', hw, h => by
    rw [runJ] at h
    cases h2 : stepJ D p st b with
    | go q su =>
      rw [h2] at h
      exact wrd_run l (wrd_step hw h2) h
    | no => rw [h2] at h; cases h
    | de => rw [h2] at h; cases h
/-- Where a blank may stand, another one may. -/
theorem blank_again {D : Nat} {p p' : Pj} {st st' : List Bool} (hw : wrdJ p = true) (h : stepJ D p st 32 = .go p' st') : ∃ p2 st2, stepJ D p' st' 32 = .go p2 st2 := by
  have hb : ∀ s, behJ s 32 = .go .e s := fun s => by unfold behJ; rw [show whiB 32 = true from by kernel_rfl]; rfl
  have hwh : whiB 32 = true := by kernel_rfl
  have calm : ∀ q s, calmJ q = true → stepJ D q s 32 = .go q s := fun q s hq => by
    cases q with
    | v => exact (if_pos hwh : (if whiB 32 = true then Sj.go .v s else begJ D s 32) = _)
    | a => exact (if_pos hwh : (if whiB 32 = true then Sj.go .a s else if (32 : UInt8) == 93 then .go .e s.tail else begJ D s 32) = _)
    | o => exact (if_pos hwh : (if whiB 32 = true then Sj.go .o s else if (32 : UInt8) == 125 then .go .e s.tail else if (32 : UInt8) == 34 then .go (.q true 0) s else .no) = _)
    | k => exact (if_pos hwh : (if whiB 32 = true then Sj.go .k s else if (32 : UInt8) == 34 then .go (.q true 0) s else .no) = _)
    | c => exact (if_pos hwh : (if whiB 32 = true then Sj.go .c s else if (32 : UInt8) == 58 then .go .v s else .no) = _)
    | e => exact hb s
    | q _ _ => cases hq
    | n _ => cases hq
    | w _ _ => cases hq
  by_cases hp : calmJ p = true
  · rw [calm p st hp] at h
    injection h with h1 h2
    subst h1 h2
    exact ⟨_, _, calm p st hp⟩
  · cases p with
    | v => exact absurd rfl hp
    | a => exact absurd rfl hp
    | o => exact absurd rfl hp
    | k => exact absurd rfl hp
    | c => exact absurd rfl hp
    | e => exact absurd rfl hp
    | q key n =>
      rw [quo_in D key st (show (n == 0 && (32 : UInt8) == 34) = false from by rw [show ((32 : UInt8) == 34) = false from rfl, Bool.and_false])] at h
      match n, h with
      | 0, h =>
        have h' : Sj.go (Pj.q key 0) st = Sj.go p' st' := h
        injection h' with h1 h2
        subst h1 h2
        exact ⟨.q key 0, st, by rw [quo_in D key st rfl]; rfl⟩
      | 1, h =>
        have h' : Sj.no = Sj.go p' st' := h
        cases h'
      | m + 2, h =>
        have hx : decide (0 ≤ hexB 32) = false := by kernel_rfl
        have h' : (match (if decide (0 ≤ hexB 32) then some (if m = 0 then 0 else m + 1) else none) with | some m => Sj.go (.q key m) st | none => .no) = Sj.go p' st' := h
        rw [hx] at h'
        cases h'
    | n i =>
      have hn : stepJ D (.n i) st 32 = behJ st 32 ∨ stepJ D (.n i) st 32 = .no := by
        match i with
        | 0 => exact Or.inr rfl
        | 1 => exact Or.inl rfl
        | 2 => exact Or.inl rfl
        | 3 => exact Or.inr rfl
        | 4 => exact Or.inl rfl
        | 5 => exact Or.inr rfl
        | 6 => exact Or.inr rfl
        | j + 7 => exact Or.inl rfl
      rcases hn with hn | hn
      · rw [hn, hb] at h
        injection h with h1 h2
        subst h1 h2
        exact ⟨_, _, hb st⟩
      · rw [hn] at h
        cases h
    | w x l =>
      have hw' : (x != 32 && l.all (· != 32)) = true := hw
      rw [Bool.and_eq_true] at hw'
      rw [step_wnx, show ((32 : UInt8) == x) = false from by rw [beq_eq_false_iff_ne]; intro hx; rw [← hx] at hw'; exact absurd hw'.1 (by decide)] at h
      cases h
/-- What a blank makes of a script's pieces. -/
def notX : Hp → Bool
  | .x _ => false
  | _ => true
theorem blank_script {D : Nat} {p : Hp} {h : Hs} : (∃ p' h', stepH D p h 32 = .go p' h' ∧ notX p' = true ∧ h'.en = h.en) ∨ notX p = false := by
  have hb : ∀ h, begH D h 32 = .go .z (brH h 32) := fun h => by unfold begH; rw [show blkB 32 = true from by kernel_rfl]; rfl
  have hi : innB 32 = false := by kernel_rfl
  have hp2 : ∀ h i, ∃ p' h', patH h i 32 = .go p' h' ∧ notX p' = true ∧ h'.en = h.en := fun h i => ⟨_, _, rfl, rfl, rfl⟩
  cases p with
  | z => exact Or.inl ⟨_, _, hb h, rfl, rfl⟩
  | w dig acc =>
    have e : stepH D (.w dig acc) h 32 = begH D (worH h acc) 32 := by
      show (if innB 32 || (dig && (32 : UInt8) == 46) then _ else begH D (worH h acc) 32) = _
      rw [hi, show ((32 : UInt8) == 46) = false from rfl, Bool.and_false]
      rfl
    exact Or.inl ⟨_, _, e.trans (hb _), rfl, rfl⟩
  | t y esc =>
    cases esc with
    | true => exact Or.inl ⟨_, _, rfl, rfl, rfl⟩
    | false =>
      have e : stepH D (.t y false) h 32 = if (32 : UInt8) == y then .go .z (endH h 1) else .go (.t y false) h := rfl
      cases hy : ((32 : UInt8) == y) with
      | true => rw [hy, if_pos rfl] at e; exact Or.inl ⟨_, _, e, rfl, rfl⟩
      | false => rw [hy, if_neg (by decide)] at e; exact Or.inl ⟨_, _, e, rfl, rfl⟩
  | g esc dol =>
    cases esc with
    | true => exact Or.inl ⟨_, _, rfl, rfl, rfl⟩
    | false => cases dol <;> exact Or.inl ⟨_, _, rfl, rfl, rfl⟩
  | p esc inb =>
    cases esc with
    | true => exact Or.inl ⟨_, _, rfl, rfl, rfl⟩
    | false => exact Or.inl (hp2 h inb)
  | f =>
    have e : stepH D .f h 32 = begH D h 32 := (if_neg (by rw [hi]; decide) : (if innB 32 = true then Sh.go .f h else begH D h 32) = _)
    exact Or.inl ⟨_, _, e.trans (hb _), rfl, rfl⟩
  | s =>
    have e : stepH D .s h 32 = if h.last != 0 then begH D (endH (pcH h) 0) 32 else patH (pcH h) false 32 := rfl
    cases hl : (h.last != 0) with
    | true => rw [hl, if_pos rfl] at e; exact Or.inl ⟨_, _, e.trans (hb _), rfl, rfl⟩
    | false =>
      rw [hl, if_neg (by decide)] at e
      obtain ⟨p', h', e1, e2, e3⟩ := hp2 (pcH h) false
      exact Or.inl ⟨p', h', e.trans e1, e2, e3⟩
  | l => exact Or.inl ⟨_, _, rfl, rfl, rfl⟩
  | k star => cases star <;> exact Or.inl ⟨_, _, rfl, rfl, rfl⟩
  | x i => exact Or.inr rfl
theorem blank_x {D : Nat} {h : Hs} {i : Nat} : stepH D (.x i) h 32 = .no h := by
  show (if (32 : UInt8) == minH i then _ else Sh.no h) = _
  unfold minH
  cases (i == 1) <;> rfl
theorem vrd_blank {D : Nat} {l : List UInt8} (h : vrdB D (l ++ [32]) = none) : vrdB D (l ++ [32] ++ [32]) = none := by
  rw [vrd_none] at h ⊢
  obtain ⟨p, hs, h1, h2⟩ := h
  -- the script's pieces
  have hS : ∃ p2 h2, runH D .z newH (l ++ [32] ++ [32]) = .ok p2 h2 ∧ h2.en = hs.en := by
    rw [runH_app, h1]
    have hx : notX p = true := by
      rw [runH_app] at h1
      cases hl : runH D .z newH l with
      | bad h' r => rw [hl] at h1; cases h1
      | ok p0 h0 =>
        rw [hl] at h1
        have h1' : runH D p0 h0 [32] = .ok p hs := h1
        rcases blank_script (D := D) (p := p0) (h := h0) with ⟨p', h', e, en, _⟩ | e
        · rw [runH_go e] at h1'
          injection h1' with e1 e2
          rw [← e1]
          exact en
        · cases p0 with
          | x i => rw [runH_no blank_x] at h1'; cases h1'
          | _ => cases e
    rcases blank_script (D := D) (p := p) (h := hs) with ⟨p', h', e, _, en⟩ | e
    · exact ⟨p', h', by show runH D p hs [32] = _; rw [runH_go e]; rfl, en⟩
    · rw [hx] at e
      cases e
  obtain ⟨p2, hs2, h3, h4⟩ := hS
  refine ⟨p2, hs2, h3, ?_⟩
  rcases h2 with ⟨⟨q, su⟩, hq⟩ | ⟨r, hr, he⟩
  · left
    rw [run_app, hq]
    have hq' := hq
    rw [run_app] at hq'
    cases hl : runJ D .v [] l with
    | error x => rw [hl] at hq'; cases hq'
    | ok y =>
      obtain ⟨p0, st0⟩ := y
      rw [hl] at hq'
      have hq2 : runJ D p0 st0 [32] = .ok (q, su) := hq'
      have hw := wrd_run l (p := .v) rfl hl
      rw [runJ] at hq2
      cases e : stepJ D p0 st0 32 with
      | go p1 st1 =>
        rw [e] at hq2
        have hq3 : (Except.ok (p1, st1) : Except (Int × List UInt8) (Pj × List Bool)) = .ok (q, su) := hq2
        injection hq3 with e3
        injection e3 with e4 e5
        subst e4 e5
        obtain ⟨p2, st2, e6⟩ := blank_again hw e
        refine ⟨(p2, st2), ?_⟩
        show runJ D p1 st1 [32] = _
        rw [runJ, e6]
        rfl
      | no => rw [e] at hq2; cases hq2
      | de => rw [e] at hq2; cases hq2
  · right
    refine ⟨r ++ [32], ?_, h4.trans he⟩
    rw [run_app, hr]

/-! What is JSON whole is never let through behind a byte. -/
theorem whole_no {D : Nat} {x y : List UInt8} {q : Pj × List Bool} (h : runJ D .v [] (x ++ y) = .ok q) : vrdB D x = none ∨ vrdB D x = some 1 := by
  have hx : ∃ q', runJ D .v [] x = .ok q' := by
    rw [run_app] at h
    cases e : runJ D .v [] x with
    | ok q' => exact ⟨q', rfl⟩
    | error r => rw [e] at h; cases h
  obtain ⟨q', e⟩ := hx
  unfold vrdB
  rw [e]
  cases runH D .z newH x with
  | ok p h => exact Or.inl rfl
  | bad h r => exact Or.inr rfl
end Go.Proofs.YtbojbkpplejdmaaGreat
namespace Go.Proofs.YtbojbkpplejdmaaGreat

/-- What the document asks behind each beginning. -/
theorem vrd_doc (D : Nat) (s : ByteArray) : vrdB D s.data.toList = if (whoJ D s).1 == 3 then some 0 else if (tolH D s).1.isSome then some 1 else if (whoJ D s).1 == 0 && decide (0 < (tolH D s).2.2.2.2) then some 2 else none := by
  unfold vrdB tolH
  cases hj : runJ D .v [] s.data.toList with
  | ok q =>
    obtain ⟨p, st⟩ := q
    rw [who_ok hj]
    have e3 : ((if endJ p st then (2 : Int) else 1) == 3) = false := by cases endJ p st <;> rfl
    have e0 : ((if endJ p st then (2 : Int) else 1) == 0) = false := by cases endJ p st <;> rfl
    show _ = if ((if endJ p st then (2 : Int) else 1) == 3) = true then _ else if _ then _ else if (((if endJ p st then (2 : Int) else 1) == 0) && _) = true then _ else _
    rw [e3, e0]
    cases runH D .z newH s.data.toList <;> rfl
  | error e =>
    obtain ⟨x, r⟩ := e
    rw [who_bad hj]
    show _ = if (x == 3) = true then _ else if _ then _ else if ((x == 0) && _) = true then _ else _
    rcases (run_bad D _ _ _ _ _ hj).1 with rfl | rfl
    · cases runH D .z newH s.data.toList with
      | ok p h =>
        show (if h.en == 0 then none else some 2) = if decide (0 < h.en) then some 2 else none
        cases he : h.en <;> rfl
      | bad h r2 => rfl
    · cases runH D .z newH s.data.toList <;> rfl
/-- What waits behind more, waits behind less. -/
theorem vrd_less {D : Nat} {x y : List UInt8} (h : vrdB D (x ++ y) = none) : vrdB D x = none := by
  rw [vrd_none] at h ⊢
  obtain ⟨p, hs, h1, h2⟩ := h
  rw [runH_app] at h1
  cases hx : runH D .z newH x with
  | bad h' r => rw [hx] at h1; cases h1
  | ok p0 h0 =>
    rw [hx] at h1
    refine ⟨p0, h0, rfl, ?_⟩
    rw [run_app] at h2
    cases hj : runJ D .v [] x with
    | ok q => exact Or.inl ⟨q, rfl⟩
    | error e =>
      obtain ⟨c, r⟩ := e
      rw [hj] at h2
      rcases h2 with ⟨q, e⟩ | ⟨r', e, he⟩
      · cases e
      · have e' : (Except.error (c, r ++ y) : Except (Int × List UInt8) (Pj × List Bool)) = .error (0, r') := e
        injection e' with e1
        injection e1 with e2 _
        subst e2
        refine Or.inr ⟨r, rfl, ?_⟩
        have hm := run_en D y p0 h0
        have h1' : runH D p0 h0 y = .ok p hs := h1
        rw [h1'] at hm
        have hm' : h0.en ≤ hs.en := hm
        omega
/-- The first place where it is told: what, and behind how many bytes. -/
def fstV (D : Nat) : List UInt8 → List UInt8 → Option (Nat × Nat)
  | _, [] => none
  | x, b :: l => match vrdB D (x ++ [b]) with
    | some c => some (c, x.length + 1)
    | none => fstV D (x ++ [b]) l
theorem fstV_app (D : Nat) : ∀ (l x m : List UInt8), fstV D x (l ++ m) = match fstV D x l with
    | some r => some r
    | none => fstV D (x ++ l) m
  | [], x, m => by rw [List.append_nil]; rfl
  | b :: l, x, m => by
    rw [List.cons_append, fstV, fstV]
    cases vrdB D (x ++ [b]) with
    | some c => rfl
    | none =>
      show fstV D (x ++ [b]) (l ++ m) = _
      rw [fstV_app D l (x ++ [b]) m, List.append_assoc, List.singleton_append]
theorem fstV_one {D : Nat} {x : List UInt8} {b : UInt8} : fstV D x [b] = (vrdB D (x ++ [b])).map fun c => (c, x.length + 1) := by
  rw [fstV]
  cases vrdB D (x ++ [b]) <;> rfl
theorem fstV_wait {D : Nat} : ∀ (l x : List UInt8), vrdB D (x ++ l) = none → fstV D x l = none
  | [], _, _ => rfl
  | b :: l, x, h => by
    have h' : vrdB D ((x ++ [b]) ++ l) = none := by rw [List.append_assoc, List.singleton_append]; exact h
    rw [fstV, vrd_less h']
    exact fstV_wait l (x ++ [b]) h'
theorem fstV_none {D : Nat} : ∀ (l x : List UInt8), fstV D x l = none → l ≠ [] → vrdB D (x ++ l) = none
  | [], _, _, h => absurd rfl h
  | b :: l, x, h, _ => by
    rw [fstV] at h
    cases e : vrdB D (x ++ [b]) with
    | some c => rw [e] at h; cases h
    | none =>
      rw [e] at h
      cases l with
      | nil => exact e
      | cons c r =>
        have := fstV_none (c :: r) (x ++ [b]) h (List.cons_ne_nil _ _)
        rw [List.append_assoc, List.singleton_append] at this
        exact this
theorem fstV_iff {D : Nat} (l : List UInt8) : fstV D [] l = none ↔ vrdB D l = none := by
  refine ⟨fun h => ?_, fun h => fstV_wait l [] h⟩
  cases l with
  | nil => rfl
  | cons b r => exact fstV_none (b :: r) [] h (List.cons_ne_nil _ _)
/-- Where it is told, it is told of that beginning. -/
theorem fstV_some {D : Nat} : ∀ (l x : List UInt8) {c n : Nat}, fstV D x l = some (c, n) → x.length < n ∧ n ≤ x.length + l.length ∧ vrdB D ((x ++ l).take n) = some c
  | [], _, _, _, h => by cases h
  | b :: l, x, c, n, h => by
    rw [fstV] at h
    cases e : vrdB D (x ++ [b]) with
    | some c' =>
      rw [e] at h
      injection h with h1
      injection h1 with h2 h3
      subst h2 h3
      refine ⟨Nat.lt_succ_self _, by rw [List.length_cons]; omega, ?_⟩
      rw [show x ++ b :: l = (x ++ [b]) ++ l from by rw [List.append_assoc, List.singleton_append], List.take_append_of_le_length (by rw [List.length_append, List.length_singleton]; exact Nat.le_refl _), List.take_of_length_le (by rw [List.length_append, List.length_singleton]; exact Nat.le_refl _)]
      exact e
    | none =>
      rw [e] at h
      obtain ⟨h1, h2, h3⟩ := fstV_some l (x ++ [b]) h
      rw [List.length_append, List.length_singleton] at h1 h2
      rw [List.append_assoc, List.singleton_append] at h3
      exact ⟨by omega, by rw [List.length_cons]; omega, h3⟩

/-! As the document looks for it. -/
theorem take_one29 {l : List UInt8} {k : Nat} (h : k < l.length) : l.take (k + 1) = l.take k ++ [l[k]] := by rw [List.take_succ_eq_append_getElem h]
theorem drop_one29 {l : List UInt8} {k : Nat} (h : k < l.length) : l.drop k = l[k] :: l.drop (k + 1) := List.drop_eq_getElem_cons h
theorem fst_go {D : Nat} {l : List UInt8} {k : Nat} (h : k < l.length) (hv : vrdB D (l.take (k + 1)) = none) : fstV D (l.take k) (l.drop k) = fstV D (l.take (k + 1)) (l.drop (k + 1)) := by
  rw [take_one29 h] at hv ⊢
  rw [drop_one29 h, fstV, hv]
theorem fst_hit {D c : Nat} {l : List UInt8} {k : Nat} (h : k < l.length) (hv : vrdB D (l.take (k + 1)) = some c) : fstV D (l.take k) (l.drop k) = some (c, k + 1) := by
  rw [take_one29 h] at hv
  rw [drop_one29 h, fstV, hv, List.length_take, Nat.min_eq_left (Nat.le_of_lt h)]
theorem fst_skip {D : Nat} {l : List UInt8} {k : Nat} (h : k + 1 < l.length) (h1 : l[k + 1] = 32) (h2 : l[k]'(Nat.lt_of_succ_lt h) = 32) (hv : vrdB D (l.take (k + 1)) = none) : vrdB D (l.take (k + 2)) = none := by
  rw [take_one29 h, h1]
  rw [take_one29 (Nat.lt_of_succ_lt h), h2] at hv ⊢
  exact vrd_blank hv

/-! At the end. -/
def endV (D : Nat) (s : ByteArray) : Nat := if s.data.toList.all whiB then 3 else if (whoJ D s).1 != 0 then 4 else if staH (tolH D s) == 2 then 5 else 6
/-- What JSON comes to behind what parts alone. -/
theorem run_white29 {D : Nat} : ∀ l : List UInt8, l.all whiB = true → runJ D .v [] l = .ok (.v, [])
  | [], _ => rfl
  | b :: l, h => by
    rw [List.all_cons, Bool.and_eq_true] at h
    have e : stepJ D .v [] b = .go .v [] := (if_pos h.1 : (if whiB b = true then Sj.go .v [] else begJ D [] b) = _)
    rw [runJ, e]
    exact run_white29 l h.2
theorem json_begun {D : Nat} {s : ByteArray} (h : (whoJ D s).1 = 2) : s.data.toList.all whiB = false := by
  cases e : s.data.toList.all whiB with
  | false => rfl
  | true =>
    rw [who_ok (run_white29 s.data.toList e)] at h
    exact absurd h (by decide)
theorem json_run {D : Nat} {s : ByteArray} (h : (whoJ D s).1 = 2) : ∃ q, runJ D .v [] s.data.toList = .ok q := by
  cases hj : runJ D .v [] s.data.toList with
  | ok q => exact ⟨q, rfl⟩
  | error e =>
    obtain ⟨x, r⟩ := e
    rw [who_bad hj] at h
    have h' : x = 2 := h
    rcases (run_bad D _ _ _ _ _ hj).1 with hx | hx
    · rw [hx] at h'; cases h'
    · rw [hx] at h'; cases h'
/-- Of what is JSON whole only 'no script' is told behind a byte, and JSON at the end. -/
theorem json_first {D : Nat} {l x y : List UInt8} {q : Pj × List Bool} (h : runJ D .v [] l = .ok q) (hl : l = x ++ y) {c n : Nat} (hf : fstV D [] x = some (c, n)) : c = 1 := by
  obtain ⟨_, _, h3⟩ := fstV_some x [] hf
  have e : l = x.take n ++ (x.drop n ++ y) := by rw [← List.append_assoc, List.take_append_drop]; exact hl
  rw [e] at h
  rw [List.nil_append] at h3
  rcases whole_no h with h4 | h4
  · rw [h4] at h3; cases h3
  · rw [h4] at h3
    injection h3 with h5
    exact h5.symm
theorem json_end {D : Nat} {s : ByteArray} (h : (whoJ D s).1 = 2) : endV D s = 4 := by
  unfold endV
  rw [json_begun h, if_neg (by decide), h]
  rfl
end Go.Proofs.YtbojbkpplejdmaaGreat
