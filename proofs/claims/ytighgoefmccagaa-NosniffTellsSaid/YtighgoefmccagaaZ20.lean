/-
  What Extract and Charset of package combine answer. Condition: seven hundred values of a thousand bytes.
  Plain facts on what is said of a body, and on what it then is. No condition.
  An argument that tells what is said of a body, written out. No condition.
-/
import Derived.Test.YtighgoefmccagaaZ19
import Derived.Test.YtighgoefmccagaaZ5
import Derived.Test.YtighgoefmccagaaZ1
import Derived.Test.YtighgoefmccagaaZ2
import Derived.Test.YtighgoefmccagaaZ3
import Derived.Test.YtighgoefmccagaaZ7
import Derived.BigQuiet
import Derived.Deep.QuietTactic
import Derived.OwnWalk
import Derived.LoopTactic
import Derived.Laws.BitsAllLaws
import Derived.OneCell
import Derived.Lib.Hide
import Derived.Lib.MinMax
import Derived.Test.YtighgoefmccagaaZ13
import Derived.Deep.Strs
import Derived.Deep.Slices
import Derived.Lib.SmallJoins
import Derived.ChangeMaps5
import Derived.OpenShut
namespace Go.Proofs.Ytighgoefmccagaa
open Go.RowKit

/-- These types lie behind A. -/
def TyIn (w : World) (A : Option Addr) (R : List Trw) : Prop := ∀ i (h : i < R.length), ∃ g, A = some ⟨g, 0, none⟩ ∧ g < w.heap.size ∧ w.cell? ⟨g, i * 3, none⟩ = some (.string R[i].m.t) ∧ w.cell? ⟨g, i * 3 + 1, none⟩ = some (.string R[i].m.u) ∧ w.cell? ⟨g, i * 3 + 2, none⟩ = some (.slice R[i].A R[i].m.ps.length R[i].c)
theorem TyIn.below {w w' : World} {A : Option Addr} {R : List Trw} (h : TyIn w A R) (hb : Below w.heap.size w w') : TyIn w' A R := fun i hi => by
  obtain ⟨g, e, hl, c0, c1, c2⟩ := h i hi
  exact ⟨g, e, Nat.lt_of_lt_of_le hl hb.size, (hb.cell (p := ⟨g, i * 3, none⟩) hl).trans c0, (hb.cell (p := ⟨g, i * 3 + 1, none⟩) hl).trans c1, (hb.cell (p := ⟨g, i * 3 + 2, none⟩) hl).trans c2⟩
theorem TyIn.of_own {w : World} {base : Nat} {v : Value} {R : List Trw} (h : w.ownsRow base 36 3 v R.length (trwL R)) : ∃ A c, v = .slice A R.length c ∧ TyIn w A R := by
  rcases h.2 with ⟨hv, hn⟩ | ⟨g, cap, cur, hv, hb, hg, hc, _⟩
  · exact ⟨none, 0, by rw [hv, hn], fun i hi => absurd hi (by omega)⟩
  · refine ⟨_, cap, hv, fun i hi => ?_⟩
    subst hv
    have := trwL_at R i hi
    exact ⟨g, rfl, (Array.getElem?_eq_some_iff.1 hg).1, (h.cellAt _ (by omega)).trans this.1, (h.cellAt _ (by omega)).trans this.2.1, (h.cellAt _ (by omega)).trans this.2.2⟩

/-- What is small enough. -/
def Mty.ok (m : Mty) : Prop := m.t.size ≤ 1048576 ∧ m.u.size ≤ 1048576 ∧ AllIn 1048576 m.ps ∧ m.ps.length ≤ 1048576
theorem stepT_ok {t u set : ByteArray} {n : Mty} (h : n.small) (hs : set.size ≤ 1048576) : (stepT t u set n).1.ok ∧ (stepT t u set n).2.size ≤ 1048576 := by
  have h1 := stepT_len t u set n
  refine ⟨⟨by rw [stepT_t]; exact h.1, by rw [stepT_u]; exact h.2.1, stepT_all h.2.2.1 hs (by omega), ?_⟩, stepT_set h.2.2.1 hs⟩
  have := h.2.2.2
  omega
theorem extT_oks (l : List Mty) (h : ∀ m ∈ l, m.small) : ∀ k, (extT (l.take k)).1.ok ∧ (extT (l.take k)).2.size ≤ 1048576
  | 0 => ⟨⟨Nat.zero_le _, Nat.zero_le _, fun (p : Prm) (hp : p ∈ []) => absurd hp (by simp), Nat.zero_le _⟩, Nat.zero_le _⟩
  | k + 1 => by
    have ih := extT_oks l h k
    rcases Nat.lt_or_ge k l.length with hk | hk
    · rw [extT_step hk]
      exact stepT_ok (h _ (List.getElem_mem hk)) ih.2
    · rw [List.take_of_length_le (by omega)]
      rw [List.take_of_length_le hk] at ih
      exact ih
theorem extT_ok (l : List Mty) (h : ∀ m ∈ l, m.small) : (extT l).1.ok ∧ (extT l).2.size ≤ 1048576 := by
  have := extT_oks l h l.length
  rwa [List.take_length] at this

/-- What a call of Extract gives. -/
def ExtGives (m : Mty) (code : Int) (base : Nat) (w : World) (e : Ending) (w' : World) : Prop := ∃ A c, e = .returned (.tuple #[mimV m.t m.u A m.ps.length c, .int .i64 code]) ∧ OwnPs w' base A c m.ps ∧ m.ok ∧ Below w.heap.size w w'
def codeOf (Z : List Mty) : Int := if Z.length = 0 then 4 else 0
theorem rows_small {w : World} {base : Nat} {R : List Trw} (h : Rows3 w base R) : ∀ m ∈ R.map Trw.m, m.small := fun m hm => by
  obtain ⟨r, hr, rfl⟩ := List.mem_map.1 hm
  exact (h r hr).2

theorem tys_len {xs : List ByteArray} (hn : xs.length ≤ 700) (hx : ∀ y ∈ xs, y.size ≤ 1000) : (allT (valsL xs)).length ≤ 701401 := by
  have hj := joinS_size hx
  have hnb : xs.length * (1000 + 2) ≤ 700 * 1002 := Nat.mul_le_mul hn (Nat.le_refl _)
  exact Nat.le_trans (allT_len _) (valsL_sizes (n := 701400) (by omega)).2

set_option maxHeartbeats 4000000 in
set_option maxRecDepth 100000 in
theorem extract_any (A : Option Addr) (c : Nat) (xs : List ByteArray) (w : World) (h : TxIn w A xs) (hn : xs.length ≤ 700) (hx : ∀ y ∈ xs, y.size ≤ 1000) (hc : xs.length ≤ c) :
    Calls Try.prog 35 #[.slice A xs.length c] w (ExtGives (extT (allT (valsL xs))).1 (codeOf (allT (valsL xs))) w.heap.size w) := by
  obtain ⟨w0, hw0⟩ : ∃ w0, w0 = w.alloc (.cells #[.string ⟨#[]⟩, .string ⟨#[]⟩, .slice none 0 0] 36) := ⟨_, rfl⟩
  have HB0 := Lib.hid (show Below w.heap.size w w0 from by rw [hw0]; exact (Below.refl _ _).alloc (Nat.le_refl _) _)
  have HR0 := Lib.hid (show Blk w0 w.heap.size 36 #[.string ⟨#[]⟩, .string ⟨#[]⟩, .slice none 0 0] from by rw [hw0]; exact Blk.new _ _ _)
  have HA := Lib.hid (all_any A c xs w0 (h.below HB0.out) hn hx hc)
  have hzl := tys_len hn hx
  obtain ⟨Z, hZ⟩ : ∃ Z, Z = allT (valsL xs) := ⟨_, rfl⟩
  rw [← hZ] at HA hzl ⊢
  obtain ⟨E, hE⟩ : ∃ E, E = (extT Z).1 := ⟨_, rfl⟩
  obtain ⟨code, hco⟩ : ∃ code, code = codeOf Z := ⟨_, rfl⟩
  rw [← hE, ← hco]
  have HE := Lib.hid hE
  have HCO := Lib.hid hco
  clear hE hco
  obtain ⟨ft, fu, fp⟩ := E
  clear h hx hZ
  go_enter Try.func35, Try.ntmps35
  go_wp2_with fail
  rw [← hw0]
  clear hw0
  refine HA.out.mono ?_
  rintro e w1 ⟨v, R, rfl, hmap, ho, hr, b1⟩
  obtain ⟨B, d, rfl, hti⟩ := TyIn.of_own ho
  have HTI := Lib.hid hti
  have HRS := Lib.hid (hr.base HB0.out.size)
  have HR1 := Lib.hid (HR0.out.below b1 HR0.out.lt)
  have HB1 := Lib.hid (below_on HB0.out b1)
  have HMP := Lib.hid hmap
  have hl1 : w.heap.size < w1.heap.size := HR1.out.lt
  have HLN := Lib.hid (show R.length = Z.length from by rw [← hmap, List.length_map])
  have hrl : R.length ≤ 701401 := by have := HLN.out; omega
  have HSM := Lib.hid (show ∀ m ∈ Z, m.small from by rw [← hmap]; exact rows_small hr)
  have HEX := Lib.hid (extT_ok Z HSM.out)
  clear hti hr b1 ho hmap HA HR0 HB0
  by_cases h0 : R.length = 0
  · have d0 : ((R.length : Int) == 0) = true := beq_iff_eq.2 (by omega)
    have hz0 : Z = [] := List.eq_nil_of_length_eq_zero (by have := HLN.out; omega)
    subst hz0
    have hE0 : ft = ⟨#[]⟩ ∧ fu = ⟨#[]⟩ ∧ fp = [] ∧ code = 4 := by
      have h1 := HE.out
      have h2 := HCO.out
      injection h1 with h3 h4 h5
      exact ⟨h3, h4, h5, h2⟩
    obtain ⟨rfl, rfl, rfl, rfl⟩ := hE0
    have r0 := HR1.out.cell 0
    have r1 := HR1.out.cell 1
    have r2 := HR1.out.cell 2
    have z0 := HR1.out.frozen 0
    have z1 := HR1.out.frozen 1
    have z2 := HR1.out.frozen 2
    go_wp2
    refine bodyPost_ret (v := .tuple #[mimV ⟨#[]⟩ ⟨#[]⟩ none 0 0, .int .i64 4]) (by simp [results, Try.results35, go_sem, r0, r1, r2]; done) rfl ?_
    exact ⟨none, 0, rfl, World.ownsRow_nil _ _ _ _, by rw [HE.out]; exact HEX.out.1, ((HB1.out.setCell (by exact Nat.le_refl _) _).setCell (by exact Nat.le_refl _) _).setCell (by exact Nat.le_refl _) _⟩
  · have d0 : ((R.length : Int) == 0) = false := beq_eq_false_iff_ne.2 (by omega)
    have HM1 := Lib.hid (Blk.new w1 36 #[.string ⟨#[]⟩, .string ⟨#[]⟩, .slice none 0 0])
    have HBA := Lib.hid (show Below w1.heap.size w1 (w1.alloc (.cells #[.string ⟨#[]⟩, .string ⟨#[]⟩, .slice none 0 0] 36)) from (Below.refl _ _).alloc (Nat.le_refl _) _)
    go_wp2
    go_loopw [6, 17] (fun s i wr => ∃ (k : Nat) (A' : Option Addr) (c' : Nat), k ≤ R.length ∧ i = .int .i64 k ∧ s = .string (extT (Z.take k)).2 ∧ Blk wr w1.heap.size 36 #[.string (extT (Z.take k)).1.t, .string (extT (Z.take k)).1.u, .slice A' (extT (Z.take k)).1.ps.length c'] ∧ OwnPs wr w.heap.size A' c' (extT (Z.take k)).1.ps ∧ Below w1.heap.size w1 wr) (fun _ i _ => R.length - (intOf i).toNat)
    case atStart => exact ⟨0, none, 0, Nat.zero_le _, rfl, rfl, HM1.out, World.ownsRow_nil _ _ _ _, HBA.out⟩
    case round =>
      obtain ⟨k, A', c', hk, rfl, rfl, hbm, hps, hw⟩ := hrel
      have HBM := Lib.hid hbm
      have HPS := Lib.hid hps
      have HW := Lib.hid hw
      clear hbm hps hw HM1 HBA
      by_cases hlt : k < R.length
      · obtain ⟨g, rfl, hg, e0, e1, e2⟩ := HTI.out k hlt
        have c0 := (HW.out.cell (p := ⟨g, k * 3, none⟩) hg).trans e0
        have c1 := (HW.out.cell (p := ⟨g, k * 3 + 1, none⟩) hg).trans e1
        have c2 := (HW.out.cell (p := ⟨g, k * 3 + 2, none⟩) hg).trans e2
        clear e0 e1 e2
        have HXT := Lib.hid (show extT (Z.take (k + 1)) = stepT (extT (Z.take k)).1.t (extT (Z.take k)).1.u (extT (Z.take k)).2 R[k].m from by
          rw [extT_step (by have := HLN.out; omega)]
          congr 1
          have := HMP.out
          subst this
          simp)
        obtain ⟨hro, hrs⟩ := HRS.out R[k] (List.getElem_mem hlt)
        have HRO := Lib.hid (PsIn.below (OwnPs.ps hro) (HW.out.mono (Nat.le_refl _)))
        have HOK := extT_ok (Z.take k) (fun m hm => HSM.out m (List.mem_of_mem_take hm))
        have hst := stepT_ok (t := (extT (Z.take k)).1.t) (u := (extT (Z.take k)).1.u) hrs HOK.2
        generalize R[k] = r at *
        generalize extT (Z.take k) = E at *
        obtain ⟨⟨mt, mu, mp⟩, st⟩ := E
        obtain ⟨⟨nt, nu, np⟩, rA, rc⟩ := r
        obtain ⟨hm1, hm2, _, _⟩ := HOK.1
        have hm3 := HOK.2
        simp only at hm1 hm2 hm3 c0 c1 c2 ⊢
        have HHM1 := Lib.hid hm1
        have HHM2 := Lib.hid hm2
        have HHM3 := Lib.hid hm3
        have HRSM := Lib.hid hrs
        clear HOK hst hro hm1 hm2 hm3 hrs
        have b0 := HBM.out.cell 0
        have b1 := HBM.out.cell 1
        have b2 := HBM.out.cell 2
        have hmb := HBM.out.lt
        have hgl : g < wr.heap.size := Nat.lt_of_lt_of_le hg HW.out.size
        obtain ⟨w2, hw2⟩ : ∃ w2, w2 = wr.alloc (.cells #[.string nt, .string nu, .slice rA np.length rc] 36) := ⟨_, rfl⟩
        have b2' : Below wr.heap.size wr w2 := by rw [hw2]; exact (Below.refl _ _).alloc (Nat.le_refl _) _
        have HST := Lib.hid (step_any mt mu A' mp.length c' st ⟨nt, nu, np⟩ rA rc w2 (HRO.out.below b2') HRSM.out HHM1.out HHM2.out HHM3.out)
        have HBM2 := Lib.hid (HBM.out.below b2' hmb)
        have HW2 := Lib.hid (below_on HW.out b2')
        go_wp2_with fail
        rw [← hw2]
        clear hw2 b0 b1 b2 c0 c1 c2 HRO HBM hmb HW HPS b2'
        refine HST.out.mono ?_
        generalize hsT : stepT mt mu st ⟨nt, nu, np⟩ = q at HXT ⊢
        obtain ⟨⟨qt, qu, qp⟩, qs⟩ := q
        rintro e w3 ⟨A3, c3, rfl, ho3, b3⟩
        simp only at ho3
        have HBM3 := Lib.hid (HBM2.out.below b3 HBM2.out.lt)
        have HW3 := Lib.hid (below_on HW2.out b3)
        have hws : w.heap.size ≤ w2.heap.size := by have := HW2.out.size; omega
        have HO3 := Lib.hid (own_base ho3 hws)
        clear ho3 b3 HBM2 HW2 HST hsT
        have b0 := HBM3.out.cell 0
        have b1 := HBM3.out.cell 1
        have b2 := HBM3.out.cell 2
        have z0 := HBM3.out.frozen 0
        have z1 := HBM3.out.frozen 1
        have z2 := HBM3.out.frozen 2
        have HF1 := Lib.hid (((HBM3.out.set_ 0 (.string qt)).set_ 1 (.string qu)).set_ 2 (.slice A3 qp.length c3))
        have HF2 := Lib.hid (OwnPs.set3 HO3.out HBM3.out (.string qt) (.string qu) (.slice A3 qp.length c3))
        have HF3 := Lib.hid (((HW3.out.setCell (p := ⟨w1.heap.size, 0, none⟩) (Nat.le_refl _) (.string qt)).setCell (p := ⟨w1.heap.size, 1, none⟩) (Nat.le_refl _) (.string qu)).setCell (p := ⟨w1.heap.size, 2, none⟩) (Nat.le_refl _) (.slice A3 qp.length c3))
        clear HBM3 HW3 HO3
        go_wp2
        go_roundw
        case rel => exact ⟨k + 1, A3, c3, by omega, by go_num, by rw [HXT.out], by rw [HXT.out]; exact HF1.out, by rw [HXT.out]; exact HF2.out, HF3.out⟩
        case measure => simp [intOf]; omega
      · obtain rfl : k = R.length := by omega
        have htk : Z.take R.length = Z := List.take_of_length_le (by have := HLN.out; omega)
        rw [htk] at HBM HPS
        have HR2 := Lib.hid (HR1.out.below HW.out hl1)
        have HB2 := Lib.hid (below_on HB1.out HW.out)
        have hE1 : ft = (extT Z).1.t ∧ fu = (extT Z).1.u ∧ fp = (extT Z).1.ps ∧ code = 0 := by
          have h1 := HE.out
          refine ⟨congrArg Mty.t h1, congrArg Mty.u h1, congrArg Mty.ps h1, ?_⟩
          rw [HCO.out]
          exact if_neg (by have := HLN.out; omega)
        obtain ⟨hE2, hE3, hE4, hE5⟩ := hE1
        rw [← hE2, ← hE3, ← hE4] at HBM
        rw [← hE4] at HPS
        have HK1 := Lib.hid (show (⟨ft, fu, fp⟩ : Mty).ok from by rw [HE.out]; exact HEX.out.1)
        have HC0 := Lib.hid hE5
        clear HR1 HB1 HW htk HTI HRS HEX hE2 hE3 hE4 hE5 HE HCO
        have b0 := HBM.out.cell 0
        have b1 := HBM.out.cell 1
        have b2 := HBM.out.cell 2
        have r0 := HR2.out.cell 0
        have r1 := HR2.out.cell 1
        have r2 := HR2.out.cell 2
        have z0 := HR2.out.frozen 0
        have z1 := HR2.out.frozen 1
        have z2 := HR2.out.frozen 2
        go_wp2
        refine bodyPost_ret (v := .tuple #[mimV ft fu A' fp.length c', .int .i64 0]) (by simp [results, Try.results35, go_sem, r0, r1, r2]; done) rfl ?_
        exact ⟨A', c', by rw [HC0.out], OwnPs.set3 HPS.out HR2.out _ _ _, HK1.out, ((HB2.out.setCell (by exact Nat.le_refl _) _).setCell (by exact Nat.le_refl _) _).setCell (by exact Nat.le_refl _) _⟩

end Go.Proofs.Ytighgoefmccagaa
namespace Go.Proofs.Ytighgoefmccagaa

abbrev bugL0 : List UInt8 := [116, 101, 120, 116, 47, 112, 108, 97, 105, 110]
abbrev bugL1 : List UInt8 := [116, 101, 120, 116, 47, 112, 108, 97, 105, 110, 59, 32, 99, 104, 97, 114, 115, 101, 116, 61, 73, 83, 79, 45, 56, 56, 53, 57, 45, 49]
abbrev bugL2 : List UInt8 := [116, 101, 120, 116, 47, 112, 108, 97, 105, 110, 59, 32, 99, 104, 97, 114, 115, 101, 116, 61, 105, 115, 111, 45, 56, 56, 53, 57, 45, 49]
abbrev bugL3 : List UInt8 := [116, 101, 120, 116, 47, 112, 108, 97, 105, 110, 59, 32, 99, 104, 97, 114, 115, 101, 116, 61, 85, 84, 70, 45, 56]
/-- Whether a server may err of a type's text. -/
def bugB (s : ByteArray) : Bool := (s.toList == bugL0) || ((s.toList == bugL1) || ((s.toList == bugL2) || (s.toList == bugL3)))
end Go.Proofs.Ytighgoefmccagaa
namespace Go.Proofs.Ytighgoefmccagaa
open Go.ChangeShapes Go.WideShapes Go.ChangeAt Go.RowKit Go.Joins Go.Deep

/-- What is said, as a value. -/
abbrev saidV (t u : ByteArray) (A : Option Addr) (n c : Nat) (has ns bug : Bool) : Value := .agg #[.string t, .string u, .slice A n c, .bool has, .bool ns, .bool bug]
end Go.Proofs.Ytighgoefmccagaa
