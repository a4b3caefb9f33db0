/-
  Plain facts on types, as layer 10 has them: parameters, which are good, what a text says, and what it is written as. No condition.
  What Lower, Same and Begins answer, and the document's own Lower. Condition: the text is as long as a length can be.
  What Count and All answer where they are asked of Quoted. Condition: the text is as long as a length can be.
-/
import Derived.Test.YtighgoefmccagaaZ2
import Derived.Test.YtighgoefmccagaaZ4
import Derived.Test.YtighgoefmccagaaZ3
import Derived.Test.YtighgoefmccagaaZ1
import Derived.LoopTactic
import Derived.BigQuiet
import Derived.OneCell
import Derived.OwnWalk
import Derived.Laws.IdiomStrings
import Derived.Laws.OwnMore
import Derived.Laws.BytesArg
namespace Go.Proofs.Ytighgoefmccagaa

/-- A parameter's two texts. -/
structure Prm where
  n : ByteArray
  v : ByteArray

abbrev eqS (a b : ByteArray) : Bool := a.toList == b.toList
theorem eqS_eq {a b : ByteArray} (h : eqS a b = true) : a = b := by
  have e : a.toList = b.toList := beq_iff_eq.1 h
  rw [Lib.toList_data, Lib.toList_data] at e
  exact ByteArray.ext (Array.toList_inj.1 e)
theorem eqS_self (a : ByteArray) : eqS a a = true := beq_self_eq_true _

/-- Whether a text is a token without great letters; whether a parameter may be one of a good type; whether a name is there. -/
def nameB (s : ByteArray) : Bool := !needB s && eqS (lowS s) s
def prmB (p : Prm) : Bool := nameB p.n && allB quoB p.v
def seenB (ps : List Prm) (x : ByteArray) : Bool := ps.any fun p => eqS p.n x
theorem seenB_snoc (ps : List Prm) (p : Prm) (x : ByteArray) : seenB (ps ++ [p]) x = (seenB ps x || eqS p.n x) := by simp [seenB]
def putL (ps : List Prm) (p : Prm) : List Prm := if prmB p && !seenB ps p.n then ps ++ [p] else ps
def putO (ps : List Prm) : Option Prm → List Prm
  | none => ps
  | some p => putL ps p

/-- Whether all of the rest may stand behind what stands ahead of them. -/
def goodL : List Prm → List Prm → Bool
  | _, [] => true
  | b, p :: r => prmB p && !seenB b p.n && goodL (b ++ [p]) r
theorem goodL_append (b xs ys : List Prm) : goodL b (xs ++ ys) = (goodL b xs && goodL (b ++ xs) ys) := by
  induction xs generalizing b with
  | nil => simp [goodL]
  | cons p r ih =>
    simp only [List.cons_append, goodL]
    rw [ih]
    simp [Bool.and_assoc]
theorem goodL_step {ps : List Prm} {k : Nat} (h : k < ps.length) : goodL (ps.take k) (ps.drop k) = (prmB ps[k] && !seenB (ps.take k) ps[k].n && goodL (ps.take (k + 1)) (ps.drop (k + 1))) := by
  rw [List.drop_eq_getElem_cons h, goodL, List.take_succ_eq_append_getElem h]
theorem goodL_all (ps : List Prm) : goodL (ps.take ps.length) (ps.drop ps.length) = true := by
  rw [List.drop_of_length_le (Nat.le_refl _)]; rfl
def goodM (t u : ByteArray) (ps : List Prm) : Bool := nameB t && nameB u && goodL [] ps

/-- Whether two lists of parameters are one; two types likewise. -/
def sameL : List Prm → List Prm → Bool
  | [], [] => true
  | p :: r, q :: s => eqS p.n q.n && eqS p.v q.v && sameL r s
  | _, _ => false
theorem sameL_self : ∀ ps, sameL ps ps = true
  | [] => rfl
  | p :: r => by rw [sameL, eqS_self, eqS_self, sameL_self r]; rfl
theorem sameL_eq : ∀ (ps qs : List Prm), sameL ps qs = true → ps = qs
  | [], [], _ => rfl
  | [], _ :: _, h => by simp [sameL] at h
  | _ :: _, [], h => by simp [sameL] at h
  | p :: r, q :: s, h => by
    rw [sameL, Bool.and_eq_true, Bool.and_eq_true] at h
    have h1 := eqS_eq h.1.1
    have h2 := eqS_eq h.1.2
    have h3 := sameL_eq r s h.2
    cases p; cases q
    simp only at h1 h2
    rw [h1, h2, h3]
theorem sameL_len {ps qs : List Prm} (h : ps.length ≠ qs.length) : sameL ps qs = false := by
  cases e : sameL ps qs
  · rfl
  · exact absurd (congrArg List.length (sameL_eq _ _ e)) h
theorem sameL_step {ps qs : List Prm} {k : Nat} (h : k < ps.length) (h' : k < qs.length) : sameL (ps.drop k) (qs.drop k) = (eqS ps[k].n qs[k].n && eqS ps[k].v qs[k].v && sameL (ps.drop (k + 1)) (qs.drop (k + 1))) := by
  rw [List.drop_eq_getElem_cons h, List.drop_eq_getElem_cons h', sameL]
theorem sameL_end {ps qs : List Prm} (h : ps.length = qs.length) : sameL (ps.drop ps.length) (qs.drop ps.length) = true := by
  rw [List.drop_of_length_le (Nat.le_refl _), List.drop_of_length_le (by omega)]; rfl
def sameM (t u : ByteArray) (ps : List Prm) (t' u' : ByteArray) (qs : List Prm) : Bool := eqS t t' && eqS u u' && sameL ps qs
theorem sameM_self (t u : ByteArray) (ps : List Prm) : sameM t u ps t u ps = true := by
  unfold sameM; rw [eqS_self, eqS_self, sameL_self]; rfl

def essL (t u : ByteArray) : List UInt8 := t.data.toList ++ 47 :: u.data.toList
/-- The bytes at which something stops. -/
abbrev stp (t : ByteArray) (b : UInt8) : Bool := !hasB t b
abbrev sSl : ByteArray := ⟨#[47]⟩
abbrev sSe : ByteArray := ⟨#[59]⟩
abbrev sSq : ByteArray := ⟨#[59, 61]⟩
theorem sSl_has (b : UInt8) : hasB sSl b = (b.toNat == 47) := beq_iff_eq.1 (bytes_all (p := fun b => hasB sSl b == (b.toNat == 47)) (by kernel_rfl) b)
theorem sSe_has (b : UInt8) : hasB sSe b = (b.toNat == 59) := beq_iff_eq.1 (bytes_all (p := fun b => hasB sSe b == (b.toNat == 59)) (by kernel_rfl) b)
theorem sSq_has (b : UInt8) : hasB sSq b = (b.toNat == 59 || b.toNat == 61) := beq_iff_eq.1 (bytes_all (p := fun b => hasB sSq b == (b.toNat == 59 || b.toNat == 61)) (by kernel_rfl) b)

/-- Where the name ends that stands behind the ; at k, and the name; whether an = stands there. -/
def nmFr (s : ByteArray) (k : Nat) : Nat := scan whiB s (k + 1)
def nmTo (s : ByteArray) (k : Nat) : Nat := scan (stp sSq) s (nmFr s k)
def nmOf (s : ByteArray) (k : Nat) : ByteArray := lowS (s.extract (nmFr s k) (nmTo s k))
def isAt (s : ByteArray) (j c : Nat) : Bool := decide (j < s.size) && s[j]!.toNat == c
theorem isAt_yes {s : ByteArray} {j c : Nat} (h : j < s.size) : isAt s j c = (s[j].toNat == c) := by
  unfold isAt
  rw [decide_eq_true h, Bool.true_and, getElem!_pos s j h]
/-- The value that stands at j, if there is one, and where it ends. -/
def valRaw (s : ByteArray) (j : Nat) : ByteArray := cutP whiB (s.extract j (scan (stp sSe) s j))
def valOf (s : ByteArray) (j : Nat) : Option ByteArray :=
  if isAt s j 34 then some ⟨(quoS s (j + 1)).1.toArray⟩ else if (valRaw s j).toList == [] then none else some (valRaw s j)
def valTo (s : ByteArray) (j : Nat) : Nat := if isAt s j 34 then scan (stp sSe) s (j + 1 + (quoS s (j + 1)).2) else scan (stp sSe) s j
def stepP (s : ByteArray) (k : Nat) : Option Prm := if isAt s (nmTo s k) 61 then (valOf s (nmTo s k + 1)).map fun v => ⟨nmOf s k, v⟩ else none
def stepE (s : ByteArray) (k : Nat) : Nat := if isAt s (nmTo s k) 61 then valTo s (nmTo s k + 1) else nmTo s k

theorem nmFr_ge (s : ByteArray) (k : Nat) : k + 1 ≤ nmFr s k := scan_ge _ _ _
theorem nmFr_le {s : ByteArray} {k : Nat} (h : k < s.size) : nmFr s k ≤ s.size := scan_le _ _ _ h
theorem nmTo_ge (s : ByteArray) (k : Nat) : nmFr s k ≤ nmTo s k := scan_ge _ _ _
theorem nmTo_le {s : ByteArray} {k : Nat} (h : k < s.size) : nmTo s k ≤ s.size := scan_le _ _ _ (nmFr_le h)
theorem nmTo_at {s : ByteArray} {k : Nat} (h : k < s.size) (h2 : nmTo s k < s.size) : s[nmTo s k].toNat = 59 ∨ s[nmTo s k].toNat = 61 := by
  have := scan_at (p := stp sSq) (nmFr_le h) h2
  have h3 : (!hasB sSq s[nmTo s k]) = false := this
  rw [sSq_has] at h3
  simp at h3
  exact Decidable.or_iff_not_imp_left.2 h3
theorem valTo_bounds {s : ByteArray} {j : Nat} (h : j ≤ s.size) : j ≤ valTo s j ∧ valTo s j ≤ s.size := by
  unfold valTo
  split
  · rename_i h2
    have hj : j < s.size := by
      unfold isAt at h2
      rw [Bool.and_eq_true] at h2
      exact of_decide_eq_true h2.1
    have hq := quoS_le (s := s) (k := j + 1) (by omega)
    have h3 := scan_ge (stp sSe) s (j + 1 + (quoS s (j + 1)).2)
    have h4 := scan_le (stp sSe) s (j + 1 + (quoS s (j + 1)).2) hq
    omega
  · exact ⟨scan_ge _ _ _, scan_le _ _ _ h⟩
theorem scan_semi {s : ByteArray} {j : Nat} (h : j ≤ s.size) (h2 : scan (stp sSe) s j < s.size) : s[scan (stp sSe) s j].toNat = 59 := by
  have := scan_at (p := stp sSe) h h2
  have h3 : (!hasB sSe s[scan (stp sSe) s j]) = false := this
  rw [sSe_has] at h3
  simpa using h3
theorem valTo_at {s : ByteArray} {j : Nat} (h : j ≤ s.size) (h2 : valTo s j < s.size) : s[valTo s j].toNat = 59 := by
  by_cases h3 : isAt s j 34 = true
  · have hj : j < s.size := by
      unfold isAt at h3
      rw [Bool.and_eq_true] at h3
      exact of_decide_eq_true h3.1
    have e : valTo s j = scan (stp sSe) s (j + 1 + (quoS s (j + 1)).2) := by unfold valTo; rw [if_pos h3]
    simp only [e] at h2 ⊢
    exact scan_semi (quoS_le (by omega)) h2
  · have e : valTo s j = scan (stp sSe) s j := by unfold valTo; rw [if_neg h3]
    simp only [e] at h2 ⊢
    exact scan_semi h h2
theorem isAt_lt {s : ByteArray} {j c : Nat} (h : isAt s j c = true) : j < s.size := by
  unfold isAt at h
  rw [Bool.and_eq_true] at h
  exact of_decide_eq_true h.1
theorem stepE_bounds {s : ByteArray} {k : Nat} (h : k < s.size) : k < stepE s k ∧ stepE s k ≤ s.size := by
  have h1 := nmFr_ge s k
  have h2 := nmTo_ge s k
  have h3 := nmTo_le h
  unfold stepE
  split
  · rename_i h4
    have h5 := isAt_lt h4
    have := valTo_bounds (s := s) (j := nmTo s k + 1) (by omega)
    omega
  · omega
theorem stepE_at {s : ByteArray} {k : Nat} (h : k < s.size) (h2 : stepE s k < s.size) : s[stepE s k].toNat = 59 := by
  by_cases h4 : isAt s (nmTo s k) 61 = true
  · have h5 := isAt_lt h4
    have e : stepE s k = valTo s (nmTo s k + 1) := by unfold stepE; rw [if_pos h4]
    simp only [e] at h2 ⊢
    exact valTo_at (by omega) h2
  · have e : stepE s k = nmTo s k := by unfold stepE; rw [if_neg h4]
    simp only [e] at h2 ⊢
    rcases nmTo_at h h2 with h5 | h5
    · exact h5
    · rw [isAt_yes h2, h5] at h4
      exact absurd rfl h4

/-- All good parameters from k on, behind those that are there. -/
def parF (s : ByteArray) : Nat → Nat → List Prm → List Prm
  | 0, _, acc => acc
  | f + 1, k, acc => if k < s.size then parF s f (stepE s k) (putO acc (stepP s k)) else acc
theorem parF_more (s : ByteArray) : ∀ (f k : Nat) (acc : List Prm), s.size - k ≤ f → parF s (f + 1) k acc = parF s f k acc
  | 0, k, acc, h => by simp only [parF]; rw [if_neg (by omega)]
  | f + 1, k, acc, h => by
    have e : ∀ g, parF s (g + 1) k acc = if k < s.size then parF s g (stepE s k) (putO acc (stepP s k)) else acc := fun g => by rw [parF]
    rw [e (f + 1), e f]
    by_cases h1 : k < s.size
    · rw [if_pos h1, if_pos h1, parF_more s f _ _ (by have := (stepE_bounds h1).1; omega)]
    · rw [if_neg h1, if_neg h1]
def parS (s : ByteArray) (k : Nat) (acc : List Prm) : List Prm := parF s s.size k acc
theorem parS_step {s : ByteArray} {k : Nat} (acc : List Prm) (h : k < s.size) : parS s k acc = parS s (stepE s k) (putO acc (stepP s k)) := by
  unfold parS
  rw [← parF_more s s.size k acc (by omega), parF, if_pos h]
theorem parS_end {s : ByteArray} {k : Nat} (acc : List Prm) (h : s.size ≤ k) : parS s k acc = acc := by
  unfold parS
  cases e : s.size with
  | zero => rfl
  | succ n => rw [parF, if_neg (by omega)]
/-- What a text says: the type, if it says one. -/
def tyTo (t : ByteArray) : Nat := scan (stp sSl) t 0
def tyOf (t : ByteArray) : ByteArray := t.extract 0 (tyTo t)
def suTo (t : ByteArray) : Nat := scan (stp sSe) t (tyTo t + 1)
def suOf (t : ByteArray) : ByteArray := cutP whiB (t.extract (tyTo t + 1) (suTo t))
def saysB (t : ByteArray) : Bool := decide (tyTo t < t.size) && !needB (tyOf t) && !needB (suOf t)
def prOf (t : ByteArray) : List Prm := parS t (suTo t) []
theorem tyTo_le (t : ByteArray) : tyTo t ≤ t.size := scan_le _ _ _ (Nat.zero_le _)
theorem tyTo_at {t : ByteArray} (h : tyTo t < t.size) : t[tyTo t].toNat = 47 := by
  have := scan_at (p := stp sSl) (s := t) (i := 0) (Nat.zero_le _) h
  have h3 : (!hasB sSl t[tyTo t]) = false := this
  rw [sSl_has] at h3
  simpa using h3
theorem suTo_ge (t : ByteArray) : tyTo t + 1 ≤ suTo t := scan_ge _ _ _
theorem suTo_le {t : ByteArray} (h : tyTo t < t.size) : suTo t ≤ t.size := scan_le _ _ _ h
theorem suTo_at {t : ByteArray} (h : tyTo t < t.size) (h2 : suTo t < t.size) : t[suTo t].toNat = 59 := scan_semi h h2

end Go.Proofs.Ytighgoefmccagaa
namespace Go.Proofs.Ytighgoefmccagaa
open Go.RowKit

/-- Block g is known whole, its frozen range too. -/
def Blm (w : World) (g : Nat) (t : TypeId) (cs : Array Value) (fr : Nat × Nat) : Prop := w.heap[g]? = some (.cells cs t fr)
section
variable {w w' : World} {g : Nat} {t : TypeId} {cs : Array Value} {fr : Nat × Nat}
theorem Blm.lt (h : Blm w g t cs fr) : g < w.heap.size := by
  rcases Nat.lt_or_ge g w.heap.size with hlt | hge
  · exact hlt
  · unfold Blm at h; rw [Array.getElem?_eq_none hge] at h; cases h
theorem Blm.cell (h : Blm w g t cs fr) (i : Nat) : w.cell? ⟨g, i, none⟩ = cs[i]? := by
  unfold Blm at h; simp [World.cell?, h]
theorem Blm.frozen (h : Blm w g t cs fr) (i : Nat) (hi : i < fr.1) : w.frozen? ⟨g, i, none⟩ = false := by
  unfold Blm at h
  simp [World.frozen?, h]
  omega
theorem Blm.new (w : World) (t : TypeId) (cs : Array Value) (fr : Nat × Nat) : Blm (w.alloc (.cells cs t fr)) w.heap.size t cs fr := by
  unfold Blm
  show (w.heap.push _)[w.heap.size]? = _
  simp
theorem Blm.set_ (h : Blm w g t cs fr) (i : Nat) (u : Value) : Blm (w.setCell ⟨g, i, none⟩ u) g t (cs.setIfInBounds i u) fr := by
  unfold Blm at h ⊢
  simp [World.setCell, Array.getElem?_modify, h]
end

/-- The cells of a text of which the first k bytes are made small. -/
def Small (s : ByteArray) (k : Nat) (C : Array Value) : Prop := ∀ j (h : j < s.size), C[j]? = some (.int .u8 ((if j < k then lowB s[j] else s[j]).toNat : Int))
theorem Small.zero (s : ByteArray) (cap : Nat) : Small s 0 (bytesRow s cap) := fun j h => by
  rw [bytesRow_at s cap j h, if_neg (by omega)]
  rfl
theorem Small.lt {s : ByteArray} {k j : Nat} {C : Array Value} (h : Small s k C) (hj : j < s.size) : j < C.size := (Array.getElem?_eq_some_iff.1 (h j hj)).1
theorem Small.succ {s : ByteArray} {k : Nat} {C : Array Value} (h : Small s k C) (hk : k < s.size) : Small s (k + 1) (C.setIfInBounds k (.int .u8 ((lowB s[k]).toNat : Int))) := fun j hj => by
  have hlt := h.lt hj
  by_cases e : k = j
  · subst e
    rw [Array.getElem?_setIfInBounds_self_of_lt hlt, if_pos (by omega)]
  · rw [Array.getElem?_setIfInBounds_ne e, h j hj]
    by_cases h1 : j < k
    · rw [if_pos h1, if_pos (by omega)]
    · rw [if_neg h1, if_neg (by omega)]
theorem Small.back {s : ByteArray} {C : Array Value} (h : Small s s.size C) {W : World} {g : Nat} {fr : Nat × Nat} (hg : Blm W g 5 C fr) (cap : Nat) :
    (convert 64 9 (.slice (some ⟨g, 0, none⟩) s.size cap)).run Try.prog W = .ok (.string (lowS s)) W := by
  have := run_convert_bytes_back (P := Try.prog) W 64 9 5 ⟨g, 0, none⟩ cap (lowS s).data.toList Try.underlying64 Try.underlying5 Try.underlying9 (fun j hj => by
    have hj' : j < s.size := by
      have h2 : (lowS s).data.toList.length = (lowS s).size := by simp
      rw [lowS_size] at h2
      omega
    have e : (⟨g, 0, none⟩ : Addr).add j = ⟨g, j, none⟩ := by cases j <;> simp [Addr.add]
    rw [e, hg.cell, h j hj', if_pos hj']
    congr 3
    exact congrArg UInt8.toNat (lowS_at s j hj').symm)
  have h2 : (lowS s).data.toList.length = s.size := by
    have h3 : (lowS s).data.toList.length = (lowS s).size := by simp
    rw [h3, lowS_size]
  rw [h2] at this
  simpa using this

set_option maxHeartbeats 1000000 in
theorem lowerS_any (s : ByteArray) (w : World) (hs : s.size ≤ 9223372036854775807) :
    Calls Try.prog 85 #[.string s] w fun e w' => e = .returned (.string (lowS s)) ∧ Below w.heap.size w w' := by
  have hcv := run_bytes_of_string (P := Try.prog) w 9 64 5 s Try.underlying9 Try.underlying64 Try.underlying5
  obtain ⟨cap, hcap⟩ : ∃ cap, cap = grownCap w s.size 0 5 := ⟨_, rfl⟩
  rw [← hcap] at hcv
  clear hcap
  obtain ⟨C0, hC⟩ : ∃ C0, C0 = bytesRow s cap := ⟨_, rfl⟩
  have HS0 := Lib.hid (show Small s 0 C0 from by rw [hC]; exact Small.zero s cap)
  rw [← hC] at hcv
  clear hC
  have HB0 := Lib.hid (show Blm (w.alloc (.cells C0 5 (C0.size, C0.size + 1))).drew w.heap.size 5 C0 (C0.size, C0.size + 1) from Blm.new w.drew _ _ _)
  have HW0 := Lib.hid (((Below.refl w.heap.size w).alloc (Nat.le_refl _) (.cells C0 5 (C0.size, C0.size + 1))).drew)
  go_enter Try.func85, Try.ntmps85
  go_wp2
  clear hcv
  go_loopw [9] (fun i wr => ∃ (k : Nat) (C : Array Value), k ≤ s.size ∧ i = .int .i64 k ∧ Small s k C ∧ C.size = C0.size ∧ Blm wr w.heap.size 5 C (C0.size, C0.size + 1) ∧ Below w.heap.size w wr) (fun i _ => s.size - (intOf i).toNat)
  case atStart => exact ⟨0, C0, Nat.zero_le _, rfl, HS0.out, rfl, HB0.out, HW0.out⟩
  case round =>
    obtain ⟨k, C, hk, rfl, hS, hN, hB, hW⟩ := hrel
    have HS := Lib.hid hS
    have HN := Lib.hid hN
    have HB := Lib.hid hB
    have HW := Lib.hid hW
    clear HS0 HB0 HW0 hS hN hB hW
    by_cases hlt : k < s.size
    · have c0 : wr.cell? ⟨w.heap.size, k, none⟩ = some (.int .u8 (s[k].toNat : Int)) := by
        rw [HB.out.cell, HS.out k hlt, if_neg (by omega)]
      have z0 : wr.frozen? ⟨w.heap.size, k, none⟩ = false := HB.out.frozen k (by have := HS.out.lt hlt; have := HN.out; omega)
      go_wp2_with (go_at_call 34; refine (lower1_any s[k] _).mono ?_; rintro e w' ⟨rfl, rfl⟩)
      go_roundw
      case rel => exact ⟨k + 1, C.setIfInBounds k (.int .u8 ((lowB s[k]).toNat : Int)), by omega, by go_num, HS.out.succ hlt, by simpa using HN.out, HB.out.set_ k _, HW.out.setCell (Nat.le_refl _) _⟩
      case measure => simp [intOf]; omega
    · obtain rfl : k = s.size := by omega
      have hback := HS.out.back HB.out cap
      go_wp2
      go_ret
      exact ⟨rfl, HW.out⟩

/-- The cells of the first k bytes, made small. -/
def smallL (s : ByteArray) (k : Nat) : List Value := (s.data.toList.take k).map fun b => .int .u8 ((lowB b).toNat : Int)
theorem smallL_succ {s : ByteArray} {k : Nat} (h : k < s.size) {x : Int} (hx : x = ((lowB s[k]).toNat : Int)) : smallL s (k + 1) = smallL s k ++ [.int .u8 x] := by
  unfold smallL
  rw [hx, List.take_add_one]
  have : s.data.toList[k]? = some s[k] := by
    rw [List.getElem?_eq_getElem (by simpa using h)]
    rfl
  rw [this]
  simp
theorem smallL_at {s : ByteArray} {j : Nat} (h : j < s.size) : (smallL s s.size)[j]? = some (.int .u8 ((lowB s[j]).toNat : Int)) := by
  unfold smallL
  rw [List.take_of_length_le (by simp), List.getElem?_map]
  have : s.data.toList[j]? = some s[j] := by
    rw [List.getElem?_eq_getElem (by simpa using h)]
    rfl
  rw [this]
  rfl
theorem small_back {s : ByteArray} {v : Value} {W : World} {base : Nat} (h : W.ownsRow base 5 1 v s.size (smallL s s.size)) :
    (convert 64 9 v).run Try.prog W = .ok (.string (lowS s)) W := by
  have hl : (lowS s).data.toList.length = s.size := by
    have h3 : (lowS s).data.toList.length = (lowS s).size := by simp
    rw [h3, lowS_size]
  have h' := h
  rcases h.2 with ⟨rfl, h0⟩ | ⟨g, cap, cur, rfl, _⟩
  · have e : lowS s = ByteArray.empty := by
      generalize lowS s = x at *
      cases x with | mk d => have : d = #[] := Array.eq_empty_of_size_eq_zero (by simpa using hl.trans h0); rw [this]; rfl
    rw [e]
    exact run_convert_bytes_nil (P := Try.prog) W 64 5 Try.underlying64 Try.underlying5 0 0 9 Try.underlying9
  · have := run_convert_bytes_back (P := Try.prog) W 64 9 5 ⟨g, 0, none⟩ cap (lowS s).data.toList Try.underlying64 Try.underlying5 Try.underlying9 (fun j hj => by
      have hj' : j < s.size := by omega
      have e : (⟨g, 0, none⟩ : Addr).add j = ⟨g, j, none⟩ := by cases j <;> simp [Addr.add]
      rw [e, h'.cellAt j (by omega), smallL_at hj']
      congr 3
      exact congrArg UInt8.toNat (lowS_at s j hj').symm)
    rw [hl] at this
    simpa using this

theorem Try.info5 : (Try.prog.info? 5).map (fun i => (i.zero, i.size, i.bytes)) = some (some (.int .u8 0), 1, 1) := by kernel_rfl

set_option maxHeartbeats 1600000 in
theorem refLowerS_any (s : ByteArray) (w : World) (hs : s.size ≤ 140737488351232) :
    Calls Try.prog 23 #[.string s] w fun e w' => e = .returned (.string (lowS s)) ∧ Below w.heap.size w w' := by
  obtain ⟨i0, hi, hz0, hz1, hz2⟩ := info_parts Try.info5
  go_enter Try.func23, Try.ntmps23
  go_wp2
  go_loopw [3, 4] (fun v i wr => ∃ k : Nat, k ≤ s.size ∧ i = .int .i64 k ∧ wr.ownsRow w.heap.size 5 1 v k (smallL s k) ∧ Below w.heap.size w wr) (fun _ i _ => s.size - (intOf i).toNat)
  case atStart => exact ⟨0, Nat.zero_le _, rfl, World.ownsRow_made w #[] 0 (Nat.le_refl _) (Nat.zero_le _) rfl, (Below.refl _ _).alloc (Nat.le_refl _) _⟩
  case round =>
    obtain ⟨k, hk, rfl, hown, hW⟩ := hrel
    have HO := Lib.hid hown
    have HW := Lib.hid hW
    clear hown hW
    by_cases hlt : k < s.size
    · have hb := s[k].toNat_lt
      by_cases hg : 65 ≤ s[k].toNat ∧ s[k].toNat ≤ 90
      · have g1 : (65 : Int) ≤ (s[k].toNat : Int) := by omega
        have g2 : (s[k].toNat : Int) ≤ 90 := by omega
        have HX := Lib.hid (smallL_succ (x := (s[k].toNat : Int) + 32) hlt (by
          unfold lowB
          rw [if_pos (by simpa using hg), UInt8.toNat_ofNat']
          omega))
        clear hg
        go_wp2_with (at_builtin; refine wpList_append_own _ rfl _ _ 64 rfl w.heap.size 5 i0 (.int .u8 0) 1 1 Try.underlying64 hi hz0 hz1 hz2 rfl (by decide) _ _ _ rfl (HO.out.alloc _) ⟨wr.heap.size, 0, none⟩ 1 1 [.int .u8 ((s[k].toNat : Int) + 32)] rfl rfl ?_ ?_ ?_ ?_ ?_ ?_)
        · intro j u hj
          match j, hj with
          | 0, hj => simp at hj; subst hj; simp [Addr.add]
        · intro u hu; simp at hu; subst hu; rfl
        · unfold maxLen; omega
        · omega
        · have := HW.out.size; simp; omega
        · intro v' w1 hown' hgrow _
          have hown2 : w1.ownsRow w.heap.size 5 1 v' (k + 1) (smallL s (k + 1)) := by rw [HX.out]; exact hown'
          have HO2 := Lib.hid hown2
          have HG := Lib.hid (Below.grown (HW.out.alloc (by have := HW.out.size; omega) _) hgrow (by have := HW.out.size; simp; omega) (fun g hg => (HO.out.lt g hg).1))
          clear hown2 hown' hgrow
          go_wp2
          go_roundw
          case rel => exact ⟨k + 1, by omega, by go_num, HO2.out, HG.out⟩
          case measure => simp [intOf]; omega
      · have HX := Lib.hid (smallL_succ (x := (s[k].toNat : Int)) hlt (by
          unfold lowB
          rw [if_neg (by simpa using hg)]))
        have hg2 : decide ((65 : Int) ≤ (s[k].toNat : Int)) = false ∨ decide ((65 : Int) ≤ (s[k].toNat : Int)) = true ∧ decide ((s[k].toNat : Int) ≤ 90) = false := by
          simp
          omega
        clear hg
        rcases hg2 with g1 | ⟨g1, g2⟩
        · go_wp2_with (at_builtin; refine wpList_append_own _ rfl _ _ 64 rfl w.heap.size 5 i0 (.int .u8 0) 1 1 Try.underlying64 hi hz0 hz1 hz2 rfl (by decide) _ _ _ rfl (HO.out.alloc _) ⟨wr.heap.size, 0, none⟩ 1 1 [.int .u8 ((s[k].toNat : Int))] rfl rfl ?_ ?_ ?_ ?_ ?_ ?_)
          · intro j u hj
            match j, hj with
            | 0, hj => simp at hj; subst hj; simp [Addr.add]
          · intro u hu; simp at hu; subst hu; rfl
          · unfold maxLen; omega
          · omega
          · have := HW.out.size; simp; omega
          · intro v' w1 hown' hgrow _
            have hown2 : w1.ownsRow w.heap.size 5 1 v' (k + 1) (smallL s (k + 1)) := by rw [HX.out]; exact hown'
            have HO2 := Lib.hid hown2
            have HG := Lib.hid (Below.grown (HW.out.alloc (by have := HW.out.size; omega) _) hgrow (by have := HW.out.size; simp; omega) (fun g hg => (HO.out.lt g hg).1))
            clear hown2 hown' hgrow
            go_wp2
            go_roundw
            case rel => exact ⟨k + 1, by omega, by go_num, HO2.out, HG.out⟩
            case measure => simp [intOf]; omega
        · go_wp2_with (at_builtin; refine wpList_append_own _ rfl _ _ 64 rfl w.heap.size 5 i0 (.int .u8 0) 1 1 Try.underlying64 hi hz0 hz1 hz2 rfl (by decide) _ _ _ rfl (HO.out.alloc _) ⟨wr.heap.size, 0, none⟩ 1 1 [.int .u8 ((s[k].toNat : Int))] rfl rfl ?_ ?_ ?_ ?_ ?_ ?_)
          · intro j u hj
            match j, hj with
            | 0, hj => simp at hj; subst hj; simp [Addr.add]
          · intro u hu; simp at hu; subst hu; rfl
          · unfold maxLen; omega
          · omega
          · have := HW.out.size; simp; omega
          · intro v' w1 hown' hgrow _
            have hown2 : w1.ownsRow w.heap.size 5 1 v' (k + 1) (smallL s (k + 1)) := by rw [HX.out]; exact hown'
            have HO2 := Lib.hid hown2
            have HG := Lib.hid (Below.grown (HW.out.alloc (by have := HW.out.size; omega) _) hgrow (by have := HW.out.size; simp; omega) (fun g hg => (HO.out.lt g hg).1))
            clear hown2 hown' hgrow
            go_wp2
            go_roundw
            case rel => exact ⟨k + 1, by omega, by go_num, HO2.out, HG.out⟩
            case measure => simp [intOf]; omega
    · obtain rfl : k = s.size := by omega
      have hback := small_back HO.out
      go_wp2
      go_ret
      exact ⟨rfl, HW.out⟩

theorem drew_more {w w' : World} (h : ∃ n, w' = w.drewN n) (m : Nat) : ∃ n, w'.drewN m = w.drewN n := by
  obtain ⟨n, rfl⟩ := h
  exact ⟨n + m, World.drewN_drewN _ _ _⟩

set_option maxHeartbeats 1600000 in
theorem same_any (a b : ByteArray) (w : World) (ha : a.size ≤ 9223372036854775807) (_hb : b.size ≤ 9223372036854775807) :
    Calls Try.prog 22 #[.string a, .string b] w fun e w' => e = .returned (.bool (sameB a b)) ∧ ∃ n, w' = w.drewN n := by
  by_cases hsz : a.size = b.size
  · have g0 : ((a.size : Int) != (b.size : Int)) = false := by simp [hsz]
    have HS := Lib.hid hsz
    clear hsz
    go_enter Try.func22, Try.ntmps22
    go_wp2
    go_loopw [13] (fun i wr => ∃ k : Nat, k ≤ a.size ∧ i = .int .i64 k ∧ (∀ j (h1 : j < a.size) (h2 : j < b.size), j < k → lowB a[j] = lowB b[j]) ∧ ∃ n, wr = w.drewN n) (fun i _ => a.size - (intOf i).toNat)
    case atStart => exact ⟨0, Nat.zero_le _, rfl, fun j _ _ h => absurd h (by omega), 0, rfl⟩
    case round =>
      obtain ⟨k, hk, rfl, hno, hw⟩ := hrel
      have HW := Lib.hid hw
      clear hw
      have HN := Lib.hid hno
      clear hno
      by_cases hlt : k < a.size
      · have hlt2 : k < b.size := by have := HS.out; omega
        by_cases he : lowB a[k] = lowB b[k]
        · have d1 : (((lowB a[k]).toNat : Int) != ((lowB b[k]).toNat : Int)) = false := by rw [he]; simp
          have HE := Lib.hid he
          clear he
          go_wp2
          go_quiet ((go_at_call 34; exact Calls.quiet_of_same ((lower1_any _ _).mono fun _ _ h => ⟨h.1, h.2.symm⟩)))
          go_wp2
          go_roundw
          case rel => exact ⟨k + 1, by omega, by go_num, fun j h1 h2 h => if e : j = k then by subst e; exact HE.out else HN.out j h1 h2 (by omega), drew_more HW.out _⟩
          case measure => simp [intOf]; omega
        · have d1 : (((lowB a[k]).toNat : Int) != ((lowB b[k]).toNat : Int)) = true := by
            rw [bne_iff_ne]
            intro h
            exact he (UInt8.toNat_inj.1 (by omega))
          have HE := Lib.hid (sameB_not hlt hlt2 he)
          clear he
          go_wp2
          go_quiet ((go_at_call 34; exact Calls.quiet_of_same ((lower1_any _ _).mono fun _ _ h => ⟨h.1, h.2.symm⟩)))
          go_wp2
          go_ret
          exact ⟨by rw [HE.out]; rfl, drew_more HW.out _⟩
      · obtain rfl : k = a.size := by omega
        have HE := Lib.hid (sameB_all HS.out fun j h1 h2 => HN.out j h1 h2 h1)
        go_wp2
        go_ret
        exact ⟨by rw [HE.out]; rfl, HW.out⟩
  · have g0 : ((a.size : Int) != (b.size : Int)) = true := by
      rw [bne_iff_ne]
      omega
    have HE := Lib.hid (sameB_size hsz)
    clear hsz
    go_enter Try.func22, Try.ntmps22
    go_wp2
    go_ret
    exact ⟨by rw [HE.out]; rfl, 0, rfl⟩

end Go.Proofs.Ytighgoefmccagaa
namespace Go.Proofs.Ytighgoefmccagaa
open Go.RowKit

abbrev fnQtd : Value := .func (.func 100) #[] #[]

set_option maxHeartbeats 2000000 in
theorem all1_Qtd (sb fb lb : Nat) (s : ByteArray) (w : World) (hsb : w.cell? ⟨sb, 0, none⟩ = some (.string s)) (hf : w.cell? ⟨fb, 0, none⟩ = some fnQtd)
    (hl : w.heap[lb]? = some (.cells #[.bool false] 4 (0, 0))) (hs : s.size ≤ 9223372036854775807) :
    Calls Try.prog 102 #[.pointer (some ⟨sb, 0, none⟩), .pointer (some ⟨fb, 0, none⟩), .pointer (some ⟨lb, 0, none⟩)] w fun e w' => e = .returned (.tuple #[]) ∧ Mv w.heap.size [lb] w w' ∧
      w'.heap[lb]? = some (.cells #[.bool (allB quoB s)] 4 (0, 0)) := by
  have l0 := cell_of_one hl
  have lz := free_of_one hl
  go_enter Try.func102, Try.ntmps102
  go_wp2
  go_loopw [6] (fun v wr => ∃ i : Nat, i ≤ s.size ∧ v = .int .i64 i ∧ (∀ j (hj : j < s.size), j < i → quoB s[j] = true) ∧ Mv w.heap.size [] w wr) (fun v _ => s.size - (intOf v).toNat)
  case atStart => exact ⟨0, Nat.zero_le _, rfl, fun j _ h => absurd h (by omega), Mv.refl _ _ _⟩
  case round =>
    obtain ⟨i, hi, rfl, hno, hm⟩ := hrel
    have d1 : wr.cell? ⟨sb, 0, none⟩ = some (.string s) := (hm.cell (p := ⟨sb, 0, none⟩) (World.block_lt_of_cell? w _ hsb) (by simp)).trans hsb
    have d2 : wr.cell? ⟨fb, 0, none⟩ = some fnQtd := (hm.cell (p := ⟨fb, 0, none⟩) (World.block_lt_of_cell? w _ hf) (by simp)).trans hf
    have d3 : wr.cell? ⟨lb, 0, none⟩ = some (.bool false) := (hm.cell (p := ⟨lb, 0, none⟩) (World.block_lt_of_cell? w _ l0) (by simp)).trans l0
    have dz : wr.frozen? ⟨lb, 0, none⟩ = false := (hm.frozen (p := ⟨lb, 0, none⟩) (World.block_lt_of_cell? w _ l0) (by simp)).trans lz
    have HW := Lib.hid ((hm.block lb (World.block_lt_of_cell? w _ l0) (by simp)).trans hl)
    have HM := Lib.hid (hm.mono (r' := [lb]) (Nat.le_refl _) (by simp))
    have HM0 := Lib.hid hm
    have HN := Lib.hid hno
    clear hno hm hsb hf hl l0 lz
    by_cases hlt : i < s.size
    · have HL := Lib.hid (fun W => quoted_any s[i] W)
      cases hb : quoB s[i]
      · have HC := Lib.hid (allB_no hlt hb)
        have HL2 : Hid (∀ W, Calls Try.prog 100 #[.int .u8 (s[i].toNat : Int)] W fun e w' => e = .returned (.bool false) ∧ w' = W) := fun W => by
          have := HL.out W
          rw [hb] at this
          exact this.mono fun _ _ h => ⟨h.1, h.2.symm⟩
        clear HL hb
        go_wp2
        go_quiet ((go_at_call 100; exact Calls.quiet_of_same (HL2.out _)))
        go_wp2
        refine bodyPost_ret (results_none rfl _ _ _) rfl ?_
        exact ⟨rfl, HM.out.drewN _, by rw [HC.out]; exact HW.out⟩
      · have HP := Lib.hid hb
        have HL2 : Hid (∀ W, Calls Try.prog 100 #[.int .u8 (s[i].toNat : Int)] W fun e w' => e = .returned (.bool true) ∧ w' = W) := fun W => by
          have := HL.out W
          rw [hb] at this
          exact this.mono fun _ _ h => ⟨h.1, h.2.symm⟩
        clear HL hb
        go_wp2
        go_quiet ((go_at_call 100; exact Calls.quiet_of_same (HL2.out _)))
        go_wp2
        go_roundw
        case rel => exact ⟨i + 1, by omega, by go_num, fun j hj h => if e : j = i then by subst e; exact HP.out else HN.out j hj (by omega), HM0.out.drewN _⟩
        case measure => simp [intOf]; omega
    · obtain rfl : i = s.size := by omega
      have HC := Lib.hid (allB_yes fun j hj => HN.out j hj hj)
      go_wp2
      go_end0
      exact ⟨rfl, HM.out.setCell (.inl (by simp)) _, by rw [HC.out]; exact one_setCell HW.out⟩

theorem catch_all1_Qtd (sb fb lb : Nat) (s : ByteArray) (w : World) (hsb : w.cell? ⟨sb, 0, none⟩ = some (.string s)) (hf : w.cell? ⟨fb, 0, none⟩ = some fnQtd)
    (hl : w.heap[lb]? = some (.cells #[.bool false] 4 (0, 0))) (hs : s.size ≤ 9223372036854775807) :
    Calls Try.prog 54 #[.func (.func 102) #[] #[.pointer (some ⟨sb, 0, none⟩), .pointer (some ⟨fb, 0, none⟩), .pointer (some ⟨lb, 0, none⟩)]] w fun e w' =>
      e = .returned (.tuple #[flt 0 0, .bool false]) ∧ Mv w.heap.size [lb] w w' ∧ w'.heap[lb]? = some (.cells #[.bool (allB quoB s)] 4 (0, 0)) := by
  have la : lb < w.heap.size := lt_of_block hl
  refine catch_mv_returns 102 #[] #[.pointer (some ⟨sb, 0, none⟩), .pointer (some ⟨fb, 0, none⟩), .pointer (some ⟨lb, 0, none⟩)] w [lb]
    (fun W => W.heap[lb]? = some (.cells #[.bool (allB quoB s)] 4 (0, 0)))
    (one_lt' la) (fun W1 W2 hb h1 => (hb.block lb la).trans h1) (fun _ => by simp [go_sem]) fun W hW => ?_
  refine (all1_Qtd sb fb lb s W ((hW.cell (p := ⟨sb, 0, none⟩) (World.block_lt_of_cell? w _ hsb)).trans hsb) ((hW.cell (p := ⟨fb, 0, none⟩) (World.block_lt_of_cell? w _ hf)).trans hf) ((hW.block lb la).trans hl) hs).mono ?_
  rintro e w' ⟨rfl, h1, h2⟩
  exact ⟨⟨_, rfl⟩, h1, h2⟩

set_option maxHeartbeats 2000000 in
theorem all_Qtd (s : ByteArray) (w : World) (hs : s.size ≤ 9223372036854775807) :
    Calls Try.prog 93 #[.string s, fnQtd] w fun e w' => e = .returned (.bool (allB quoB s)) ∧ Below w.heap.size w w' := by
  have hq := eq_fn_nil
  have hmf := make_func
  obtain ⟨W3, hW⟩ : ∃ W3, W3 = (((w.alloc (.cells #[.string s] 9)).alloc (.cells #[fnQtd] 75)).alloc (.cells #[.bool false] 4)) := ⟨_, rfl⟩
  have c2 : W3.heap[w.heap.size + 1 + 1]? = some (.cells #[.bool false] 4 (0, 0)) := by
    have := Blk.new ((w.alloc (.cells #[.string s] 9)).alloc (.cells #[fnQtd] 75)) 4 #[.bool false]
    rw [hW]
    simpa [Blk] using this
  have c0 : W3.cell? ⟨w.heap.size, 0, none⟩ = some (.string s) := by rw [hW]; simp [go_sem]
  have c1 : W3.cell? ⟨w.heap.size + 1, 0, none⟩ = some fnQtd := by rw [hW]; simp [go_sem]
  have HB := Lib.hid (show Below w.heap.size w W3 by
    rw [hW]
    exact (((Below.refl _ _).alloc (Nat.le_refl _) _).alloc (by simp) _).alloc (by simp; omega) _)
  have HZ := Lib.hid (show W3.heap.size = w.heap.size + 3 by rw [hW]; simp)
  have HC := Lib.hid (catch_all1_Qtd w.heap.size (w.heap.size + 1) (w.heap.size + 1 + 1) s W3 c0 c1 c2 hs)
  clear c0 c1 c2
  have HW := Lib.hid hW
  clear hW
  go_enter Try.func93, Try.ntmps93
  go_wp2_with (go_at_call 54; rw [← HW.out]; refine HC.out.mono ?_; rintro e w1 ⟨rfl, hm, h1⟩; have j3 := cell_of_one h1; have HM := Lib.hid hm; clear hm h1)
  go_ret
  exact ⟨rfl, HB.out.trans (HM.out.below (B' := w.heap.size) (by have := HZ.out; omega) (by simp; omega))⟩

end Go.Proofs.Ytighgoefmccagaa
