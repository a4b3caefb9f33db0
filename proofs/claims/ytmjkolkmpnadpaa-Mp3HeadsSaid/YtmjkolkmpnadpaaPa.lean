/-
  Plain facts on frames of sound. No condition.
-/
import Derived.Test.YtmjkolkmpnadpaaWb
namespace Go.Proofs.Ytmjkolkmpnadpaa

/-- A frame. -/
structure Frm where
  ver : Int
  lay : Int
  rate : Int
  freq : Int
  pad : Bool
/-- The frame of nothing. -/
def zeroF : Frm := ⟨0, 0, 0, 0, false⟩
/-- The rates of a version. -/
def ratL (odd : Bool) : List Nat :=
  match odd with
  | true => [0, 32000, 40000, 48000, 56000, 64000, 80000, 96000, 112000, 128000, 160000, 192000, 224000, 256000, 320000]
  | false => [0, 8000, 16000, 24000, 32000, 40000, 48000, 56000, 64000, 80000, 96000, 112000, 128000, 144000, 160000]
def freL : List Nat := [44100, 48000, 32000]
def ratN (odd : Bool) (n : Nat) : Nat := (ratL odd).getD n 0
def freN (n : Nat) : Nat := freL.getD n 32000
/-- Whether a version is odd. -/
def oddB (v : Int) : Bool := decide (v % 2 = 1)
/-- Whether these two bytes are those of a head. -/
def hedB (b c : UInt8) : Bool := decide (224 ≤ b.toNat) && (decide (b.toNat / 2 % 4 = 1) && (decide (c.toNat / 16 < 15) && decide (c.toNat / 4 % 4 < 3)))
/-- The frame that they tell. -/
def hedF (b c : UInt8) : Frm := ⟨(b.toNat / 8 % 4 : Nat), 3, (ratN (oddB (b.toNat / 8 % 4 : Nat)) (c.toNat / 16) : Nat), (freN (c.toNat / 4 % 4) : Nat), decide (c.toNat / 2 % 2 = 1)⟩
def hdO (s : ByteArray) : Bool := decide (4 ≤ s.size) && (decide (s[0]!.toNat = 255) && hedB s[1]! s[2]!)
def hdF (s : ByteArray) : Frm := if hdO s = true then hedF s[1]! s[2]! else zeroF
/-- How many samples a frame has. -/
def lenN (v : Int) : Nat := match oddB v with | true => 1152 | false => 576
/-- Whether a frame is one that a head tells. -/
def gdB (f : Frm) : Bool := decide (0 ≤ f.ver) && (decide (f.ver < 4) && (decide (f.lay = 3) && ((ratL (oddB f.ver)).any (fun r => decide ((r : Int) = f.rate)) && freL.any (fun r => decide ((r : Int) = f.freq)))))
def szF (f : Frm) : Nat := if gdB f = true then f.rate.toNat * (lenN f.ver / 8) / f.freq.toNat + (if f.pad then 1 else 0) else 0
/-- How many bytes the first frame has, if it is whole. -/
def nxN (s : ByteArray) : Nat := if szF (hdF s) < 4 ∨ s.size < szF (hdF s) then 0 else szF (hdF s)

theorem hdF_yes {s : ByteArray} (h : hdO s = true) : hdF s = hedF s[1]! s[2]! := if_pos h
theorem hdF_no {s : ByteArray} (h : hdO s = false) : hdF s = zeroF := if_neg (by rw [h]; decide)
theorem gdB_zero : gdB zeroF = false := by kernel_rfl
theorem szF_zero : szF zeroF = 0 := by kernel_rfl
theorem szF_no {f : Frm} (h : gdB f = false) : szF f = 0 := if_neg (by rw [h]; decide)
theorem szF_yes {f : Frm} (h : gdB f = true) : szF f = f.rate.toNat * (lenN f.ver / 8) / f.freq.toNat + (if f.pad then 1 else 0) := if_pos h
theorem hedB_all {b c : UInt8} (h : hedB b c = true) : 224 ≤ b.toNat ∧ b.toNat / 2 % 4 = 1 ∧ c.toNat / 16 < 15 ∧ c.toNat / 4 % 4 < 3 := by
  unfold hedB at h
  simpa only [Bool.and_eq_true, decide_eq_true_eq] using h
theorem hdO_all {s : ByteArray} (h : hdO s = true) : 4 ≤ s.size ∧ s[0]!.toNat = 255 ∧ hedB s[1]! s[2]! = true := by
  unfold hdO at h
  simpa only [Bool.and_eq_true, decide_eq_true_eq] using h
theorem ratL_len (o : Bool) : (ratL o).length = 15 := by cases o <;> rfl
theorem ratN_in {o : Bool} {n : Nat} (h : n < 15) : (ratL o).any (fun r => decide ((r : Int) = (ratN o n : Nat))) = true := by
  have hl : n < (ratL o).length := by rw [ratL_len]; exact h
  have e : ratN o n = (ratL o)[n] := by unfold ratN; rw [List.getD_eq_getElem?_getD, List.getElem?_eq_getElem hl]; rfl
  exact List.any_eq_true.2 ⟨_, List.getElem_mem hl, by rw [e]; simp⟩
theorem freN_in {n : Nat} (h : n < 3) : freL.any (fun r => decide ((r : Int) = (freN n : Nat))) = true := by
  have hl : n < freL.length := h
  have e : freN n = freL[n] := by unfold freN; rw [List.getD_eq_getElem?_getD, List.getElem?_eq_getElem hl]; rfl
  exact List.any_eq_true.2 ⟨_, List.getElem_mem hl, by rw [e]; simp⟩
theorem hedF_good {b c : UInt8} (h : hedB b c = true) : gdB (hedF b c) = true := by
  obtain ⟨_, _, h1, h2⟩ := hedB_all h
  unfold gdB hedF
  simp only [ratN_in h1, freN_in h2, Bool.and_eq_true, decide_eq_true_eq, Bool.true_and, and_true]
  omega
theorem hdF_good (s : ByteArray) : gdB (hdF s) = hdO s := by
  cases h : hdO s
  · rw [hdF_no h, gdB_zero]
  · rw [hdF_yes h, hedF_good (hdO_all h).2.2]
theorem gdB_all {f : Frm} (h : gdB f = true) : 0 ≤ f.ver ∧ f.ver < 4 ∧ f.lay = 3 ∧ 0 ≤ f.rate ∧ f.rate ≤ 320000 ∧ 32000 ≤ f.freq ∧ f.freq ≤ 48000 := by
  unfold gdB at h
  simp only [Bool.and_eq_true, decide_eq_true_eq] at h
  obtain ⟨h1, h2, h3, h4, h5⟩ := h
  obtain ⟨r, hr, e⟩ := List.any_eq_true.1 h4
  obtain ⟨q, hq, e2⟩ := List.any_eq_true.1 h5
  have e := of_decide_eq_true e
  have e2 := of_decide_eq_true e2
  have b1 : r ≤ 320000 := by
    have : (ratL (oddB f.ver)).all (fun r => decide (r ≤ 320000)) = true := by cases oddB f.ver <;> rfl
    simpa using List.all_eq_true.1 this r hr
  have b2 : 32000 ≤ q ∧ q ≤ 48000 := by
    have : freL.all (fun r => decide (32000 ≤ r) && decide (r ≤ 48000)) = true := rfl
    simpa using List.all_eq_true.1 this q hq
  omega
theorem lenN_le (v : Int) : lenN v / 8 ≤ 144 := by unfold lenN; split <;> decide
theorem szF_le (f : Frm) : szF f ≤ 1441 := by
  cases h : gdB f
  · rw [szF_no h]; omega
  · obtain ⟨_, _, _, h1, h2, h3, _⟩ := gdB_all h
    have h4 := lenN_le f.ver
    rw [szF_yes h]
    have a1 : f.rate.toNat * (lenN f.ver / 8) ≤ 320000 * 144 := Nat.mul_le_mul (by omega) h4
    have a2 : f.rate.toNat * (lenN f.ver / 8) / f.freq.toNat ≤ 320000 * 144 / 32000 := Nat.div_le_div a1 (by omega) (by decide)
    have a3 : (if f.pad then 1 else 0) ≤ 1 := by split <;> omega
    omega
theorem nxN_le (s : ByteArray) : nxN s ≤ s.size := by unfold nxN; split <;> omega
theorem nxN_ge {s : ByteArray} (h : nxN s ≠ 0) : 4 ≤ nxN s := by unfold nxN at h ⊢; split at h <;> split <;> omega
theorem nxN_is {s : ByteArray} (h : nxN s ≠ 0) : nxN s = szF (hdF s) := by unfold nxN at h ⊢; split at h <;> split <;> omega
theorem nxN_head {s : ByteArray} (h : nxN s ≠ 0) : hdO s = true := by
  have h1 := nxN_is h
  cases e : hdO s
  · rw [hdF_no e, szF_zero] at h1
    exact absurd h1 h
  · rfl
/-- A frame with which a text begins, and whose size says that it is whole; else nothing. -/
def fsF (s : ByteArray) : Frm := if nxN s = 0 then zeroF else hdF s
/-- Whether a text is a sound. -/
def isO (s : ByteArray) : Bool := decide (nxN s ≠ 0) && hdO (s.extract (nxN s) s.size)

/-- How many frames stand ahead, and how many bytes these have; n: how many bytes are looked at, at the most. -/
def frmC : Nat → ByteArray → Nat × Nat
  | 0, _ => (0, 0)
  | n + 1, s => if nxN s = 0 then (0, 0) else ((frmC n (s.extract (nxN s) s.size)).1 + 1, (frmC n (s.extract (nxN s) s.size)).2 + nxN s)
def frmG (s : ByteArray) : Nat × Nat := frmC s.size s
theorem nxN_empty {s : ByteArray} (h : s.size = 0) : nxN s = 0 := by have := nxN_le s; omega
theorem frmC_same : ∀ (m n : Nat) (s : ByteArray), s.size ≤ m → s.size ≤ n → frmC m s = frmC n s
  | 0, 0, _, _, _ => rfl
  | 0, n + 1, s, h, _ => by rw [frmC, frmC, if_pos (nxN_empty (by omega))]
  | m + 1, 0, s, _, h => by rw [frmC, frmC, if_pos (nxN_empty (by omega))]
  | m + 1, n + 1, s, h1, h2 => by
    rw [frmC, frmC]
    split
    · rfl
    · rename_i h
      have hk := nxN_ge h
      have := frmC_same m n (s.extract (nxN s) s.size) (by simp; omega) (by simp; omega)
      rw [this]
theorem frmG_step {s : ByteArray} (h : nxN s ≠ 0) : frmG s = ((frmG (s.extract (nxN s) s.size)).1 + 1, (frmG (s.extract (nxN s) s.size)).2 + nxN s) := by
  have h4 := nxN_ge h
  have h5 := nxN_le s
  obtain ⟨n, hn⟩ : ∃ n, s.size = n + 1 := ⟨s.size - 1, by omega⟩
  have e : frmC n (s.extract (nxN s) s.size) = frmG (s.extract (nxN s) s.size) := frmC_same _ _ _ (by simp; omega) (Nat.le_refl _)
  have e2 : frmG s = frmC (n + 1) s := by unfold frmG; rw [hn]
  rw [e2, frmC, if_neg h, e]
theorem frmG_stop {s : ByteArray} (h : nxN s = 0) : frmG s = (0, 0) := by
  unfold frmG
  cases e : s.size with
  | zero => rfl
  | succ n => rw [frmC, if_pos h]

/-- Noughts. -/
def nouS (k : Nat) : ByteArray := ⟨(List.replicate k (0 : UInt8)).toArray⟩
theorem nouS_size (k : Nat) : (nouS k).size = k := by
  show ((List.replicate k (0 : UInt8)).toArray).size = k
  simp
def headS (b c : UInt8) : ByteArray := ⟨#[255, b, c, 0]⟩
theorem headS_size (b c : UInt8) : (headS b c).size = 4 := rfl
/-- A frame's bytes. -/
def frmS (b c : UInt8) : ByteArray := headS b c ++ nouS (szF (hdF (headS b c)) - 4)
theorem hdO_headS (b c : UInt8) (t : ByteArray) : hdO (headS b c ++ t) = hedB b c := by
  have e0 : (headS b c ++ t)[0]! = 255 := at_left (x := headS b c) (by rw [headS_size]; decide)
  have e1 : (headS b c ++ t)[1]! = b := at_left (x := headS b c) (by rw [headS_size]; decide)
  have e2 : (headS b c ++ t)[2]! = c := at_left (x := headS b c) (by rw [headS_size]; decide)
  unfold hdO
  rw [e0, e1, e2, ByteArray.size_append, headS_size, decide_eq_true (by omega)]
  rfl
theorem hdF_headS (b c : UInt8) (t : ByteArray) : hdF (headS b c ++ t) = hdF (headS b c) := by
  have e1 : (headS b c ++ t)[1]! = b := at_left (x := headS b c) (by rw [headS_size]; decide)
  have e2 : (headS b c ++ t)[2]! = c := at_left (x := headS b c) (by rw [headS_size]; decide)
  have h := hdO_headS b c t
  have h0 := hdO_headS b c ByteArray.empty
  rw [ByteArray.append_empty] at h0
  unfold hdF
  rw [h, h0, e1, e2]
  rfl
theorem frmS_size {b c : UInt8} (h : 4 ≤ szF (hdF (headS b c))) : (frmS b c).size = szF (hdF (headS b c)) := by
  unfold frmS
  rw [ByteArray.size_append, nouS_size, headS_size]
  omega
theorem hdF_frmS (b c : UInt8) (t : ByteArray) : hdF (frmS b c ++ t) = hdF (headS b c) := by
  unfold frmS
  rw [ByteArray.append_assoc, hdF_headS]
theorem nxN_frmS {b c : UInt8} (h : 4 ≤ szF (hdF (headS b c))) (t : ByteArray) : nxN (frmS b c ++ t) = (frmS b c).size := by
  have h1 := frmS_size h
  unfold nxN
  rw [hdF_frmS, ByteArray.size_append, if_neg (by omega), h1]
theorem frm_mem {b c : UInt8} (h : 4 ≤ szF (hdF (headS b c))) (t : ByteArray) : frmG (frmS b c ++ t) = ((frmG t).1 + 1, (frmG t).2 + (frmS b c).size) := by
  have h1 := frmS_size h
  have h2 := nxN_frmS h t
  rw [frmG_step (by rw [h2]; omega), h2, behind]
theorem hdO_frmS {b c : UInt8} (h : 4 ≤ szF (hdF (headS b c))) (t : ByteArray) : hdO (frmS b c ++ t) = true := by
  have h2 := nxN_frmS h t
  have h1 := frmS_size h
  exact nxN_head (by rw [h2]; omega)
/-- Two bytes. -/
structure Two where
  b : UInt8
  c : UInt8
def Two.ok (t : Two) : Prop := 4 ≤ szF (hdF (headS t.b t.c))
/-- Frames that are laid one behind the other. -/
def rowS : List Two → ByteArray
  | [] => ⟨#[]⟩
  | t :: l => frmS t.b t.c ++ rowS l
theorem rowS_add (t : Two) : ∀ l, rowS (l ++ [t]) = rowS l ++ frmS t.b t.c
  | [] => by
    show frmS t.b t.c ++ (⟨#[]⟩ : ByteArray) = (⟨#[]⟩ : ByteArray) ++ frmS t.b t.c
    exact (ByteArray.append_empty).trans (ByteArray.empty_append).symm
  | x :: l => by
    show frmS x.b x.c ++ rowS (l ++ [t]) = frmS x.b x.c ++ rowS l ++ frmS t.b t.c
    rw [rowS_add t l, ByteArray.append_assoc]
theorem rowS_size : ∀ (l : List Two), (∀ t ∈ l, Two.ok t) → (rowS l).size ≤ l.length * 1441
  | [], _ => Nat.zero_le _
  | x :: l, h => by
    have h1 := rowS_size l (fun t ht => h t (List.mem_cons_of_mem _ ht))
    have h2 := frmS_size (h x (List.mem_cons_self ..))
    have h3 := szF_le (hdF (headS x.b x.c))
    show (frmS x.b x.c ++ rowS l).size ≤ _
    rw [ByteArray.size_append, List.length_cons]
    omega
theorem rowS_frm : ∀ (l : List Two), (∀ t ∈ l, Two.ok t) → frmG (rowS l) = (l.length, (rowS l).size)
  | [], _ => frmG_stop (nxN_empty rfl)
  | x :: l, h => by
    have h1 := rowS_frm l (fun t ht => h t (List.mem_cons_of_mem _ ht))
    show frmG (frmS x.b x.c ++ rowS l) = _
    rw [frm_mem (h x (List.mem_cons_self ..)), h1]
    refine Prod.ext rfl ?_
    show (rowS l).size + (frmS x.b x.c).size = (frmS x.b x.c ++ rowS l).size
    rw [ByteArray.size_append]
    omega
theorem rowS_is : ∀ (l : List Two), (∀ t ∈ l, Two.ok t) → isO (rowS l) = decide (1 < l.length)
  | [], _ => by
    have h : nxN (rowS []) = 0 := nxN_empty rfl
    unfold isO
    rw [h]
    rfl
  | x :: l, h => by
    have hx := h x (List.mem_cons_self ..)
    have h2 := nxN_frmS hx (rowS l)
    have h1 := frmS_size hx
    have h3 : nxN (frmS x.b x.c ++ rowS l) ≠ 0 := by
      rw [h2, h1]
      have := hx
      unfold Two.ok at this
      omega
    show isO (frmS x.b x.c ++ rowS l) = _
    unfold isO
    rw [decide_eq_true h3, Bool.true_and, h2, behind]
    cases l with
    | nil =>
      show hdO ⟨#[]⟩ = _
      kernel_rfl
    | cons y l =>
      have hy := h y (List.mem_cons_of_mem _ (List.mem_cons_self ..))
      show hdO (frmS y.b y.c ++ rowS l) = _
      rw [hdO_frmS hy, List.length_cons, List.length_cons, decide_eq_true (by omega)]
theorem isO_some {s : ByteArray} (h : isO s = true) : 0 < (frmG s).1 := by
  unfold isO at h
  simp only [Bool.and_eq_true, decide_eq_true_eq] at h
  rw [frmG_step h.1]
  exact Nat.succ_pos _
theorem frmG_le : ∀ (n : Nat) (s : ByteArray), s.size ≤ n → (frmG s).1 ≤ s.size ∧ (frmG s).2 ≤ s.size
  | 0, s, h => by rw [frmG_stop (nxN_empty (by omega))]; exact ⟨Nat.zero_le _, Nat.zero_le _⟩
  | n + 1, s, h => by
    by_cases h0 : nxN s = 0
    · rw [frmG_stop h0]; exact ⟨Nat.zero_le _, Nat.zero_le _⟩
    · have h4 := nxN_ge h0
      have h5 := nxN_le s
      have := frmG_le n (s.extract (nxN s) s.size) (by simp; omega)
      rw [frmG_step h0]
      simp at this ⊢
      omega

end Go.Proofs.Ytmjkolkmpnadpaa
