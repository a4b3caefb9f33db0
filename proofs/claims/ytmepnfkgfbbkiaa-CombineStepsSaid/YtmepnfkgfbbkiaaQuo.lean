/-
  Plain facts on texts between quotes, and on lists of pieces, as layer 4 has them. No condition.
-/
import Derived.Test.YtmepnfkgfbbkiaaTexts
namespace Go.Proofs.Ytmepnfkgfbbkiaa

/-- What is taken behind an opening quote, and how many bytes are gone by. -/
def quoL : List UInt8 → List UInt8 × Nat
  | [] => ([], 0)
  | [b] => if b.toNat == 34 then ([], 1) else ([b], 1)
  | b :: c :: r => if b.toNat == 34 then ([], 1) else if b.toNat == 92 then (c :: (quoL r).1, (quoL r).2 + 2) else (b :: (quoL (c :: r)).1, (quoL (c :: r)).2 + 1)

theorem quoL_quote {b : UInt8} (r : List UInt8) (h : b.toNat = 34) : quoL (b :: r) = ([], 1) := by
  cases r <;> simp [quoL, h]
theorem quoL_slash {b : UInt8} (c : UInt8) (r : List UInt8) (h : b.toNat = 92) : quoL (b :: c :: r) = (c :: (quoL r).1, (quoL r).2 + 2) := by
  simp [quoL, h]
theorem quoL_other {b : UInt8} (r : List UInt8) (h1 : b.toNat ≠ 34) (h2 : b.toNat ≠ 92) : quoL (b :: r) = (b :: (quoL r).1, (quoL r).2 + 1) := by
  cases r <;> simp [quoL, h1, h2]
theorem quoL_one {b : UInt8} (h1 : b.toNat ≠ 34) : quoL [b] = ([b], 1) := by
  simp [quoL, h1]
theorem quoL_le : ∀ (n : Nat) (l : List UInt8), l.length ≤ n → (quoL l).2 ≤ l.length ∧ (quoL l).1.length ≤ (quoL l).2
  | _, [], _ => by simp [quoL]
  | _, [b], _ => by
    simp only [quoL]
    split <;> simp
  | 0, b :: c :: r, h => by simp at h
  | n + 1, b :: c :: r, h => by
    have h1 := quoL_le n r (by simp at h; omega)
    have h2 := quoL_le n (c :: r) (by simp at h ⊢; omega)
    simp only [quoL]
    split
    · simp
    · split
      · simp; omega
      · simp at h2 ⊢; omega

/-- The same of a text from one place on. -/
def quoS (s : ByteArray) (k : Nat) : List UInt8 × Nat := quoL (s.data.toList.drop k)
theorem quoS_end {s : ByteArray} {k : Nat} (h : s.size ≤ k) : quoS s k = ([], 0) := by
  unfold quoS
  rw [List.drop_of_length_le (by simpa using h)]
  rfl
theorem quoS_quote {s : ByteArray} {k : Nat} (h : k < s.size) (e : s[k].toNat = 34) : quoS s k = ([], 1) := by
  unfold quoS
  rw [drop_cons s k h]
  exact quoL_quote _ e
theorem quoS_slash_end {s : ByteArray} {k : Nat} (h : k < s.size) (h1 : k + 1 = s.size) (e : s[k].toNat = 92) : quoS s k = ([92], 1) := by
  unfold quoS
  rw [drop_cons s k h, List.drop_of_length_le (by simp; omega), quoL_one (by omega)]
  have : s[k] = 92 := UInt8.toNat_inj.1 (by rw [e]; rfl)
  rw [this]
theorem quoS_slash {s : ByteArray} {k : Nat} (h : k + 1 < s.size) (e : s[k].toNat = 92) : quoS s k = (s[k + 1] :: (quoS s (k + 1 + 1)).1, (quoS s (k + 1 + 1)).2 + 2) := by
  unfold quoS
  rw [drop_cons s k (by omega), drop_cons s (k + 1) h, quoL_slash _ _ e]
theorem quoS_other {s : ByteArray} {k : Nat} (h : k < s.size) (h1 : s[k].toNat ≠ 34) (h2 : s[k].toNat ≠ 92) : quoS s k = (s[k] :: (quoS s (k + 1)).1, (quoS s (k + 1)).2 + 1) := by
  unfold quoS
  rw [drop_cons s k h, quoL_other _ h1 h2]
theorem quoS_le {s : ByteArray} {k : Nat} (h : k ≤ s.size) : k + (quoS s k).2 ≤ s.size := by
  have := (quoL_le _ (s.data.toList.drop k) (Nat.le_refl _)).1
  have e : (s.data.toList.drop k).length = s.size - k := by simp
  unfold quoS
  omega
theorem quoS_len (s : ByteArray) (k : Nat) : (quoS s k).1.length ≤ (quoS s k).2 := (quoL_le _ (s.data.toList.drop k) (Nat.le_refl _)).2

/-- The bytes at which the run within quotes stops. -/
def stopQ : ByteArray := ⟨#[34, 92]⟩
theorem stopQ_size : stopQ.size = 2 := rfl
theorem stopQ_has (b : UInt8) : hasB stopQ b = (b.toNat == 34 || b.toNat == 92) := by
  have := bytes_all (p := fun b => hasB stopQ b == (b.toNat == 34 || b.toNat == 92)) (by kernel_rfl) b
  exact beq_iff_eq.1 this
def runQ (s : ByteArray) (k : Nat) : Nat := scan (fun b => !hasB stopQ b) s k
theorem runQ_ge (s : ByteArray) (k : Nat) : k ≤ runQ s k := scan_ge _ _ _
theorem runQ_le (s : ByteArray) (k : Nat) (h : k ≤ s.size) : runQ s k ≤ s.size := scan_le _ _ _ h
theorem runQ_at {s : ByteArray} {k : Nat} (hk : k ≤ s.size) (h : runQ s k < s.size) : s[runQ s k].toNat = 34 ∨ s[runQ s k].toNat = 92 := by
  have := scan_at hk h
  rw [stopQ_has] at this
  simp at this
  exact Decidable.or_iff_not_imp_left.2 this
theorem bytes_extract (s : ByteArray) (a b : Nat) : (s.extract a b).data.toList = (s.data.toList.take b).drop a := by
  rw [ByteArray.data_extract, Array.toList_extract, List.extract_eq_take_drop, List.drop_take]
theorem bytes_extract_cons {s : ByteArray} {a b : Nat} (h : a < b) (hb : b ≤ s.size) : (s.extract a b).data.toList = s[a] :: (s.extract (a + 1) b).data.toList := by
  have ha : a < (s.data.toList.take b).length := by simp; omega
  rw [bytes_extract, bytes_extract, List.drop_eq_getElem_cons ha]
  congr 1
  rw [List.getElem_take]
  rfl
theorem bytes_extract_none (s : ByteArray) (a : Nat) : (s.extract a a).data.toList = [] := by
  rw [bytes_extract]
  apply List.drop_of_length_le
  simp
  omega
theorem quoS_run {s : ByteArray} {k : Nat} (hk : k ≤ s.size) : quoS s k = ((s.extract k (runQ s k)).data.toList ++ (quoS s (runQ s k)).1, (runQ s k - k) + (quoS s (runQ s k)).2) := by
  induction hn : s.size - k generalizing k with
  | zero =>
    have e : runQ s k = k := scan_end (by omega)
    rw [e, bytes_extract_none, Nat.sub_self, Nat.zero_add]
    rfl
  | succ n ih =>
    have hlt : k < s.size := by omega
    cases hb : hasB stopQ s[k]
    · have e : runQ s k = runQ s (k + 1) := (scan_step hlt (by simp [hb])).symm
      have hge := runQ_ge s (k + 1)
      have hle := runQ_le s (k + 1) (by omega)
      have h1 := ih (k := k + 1) (by omega) (by omega)
      rw [stopQ_has] at hb
      simp at hb
      rw [quoS_other hlt hb.1 hb.2, h1, ← e, bytes_extract_cons (a := k) (b := runQ s k) (by omega) (by omega)]
      simp only [List.cons_append, Prod.mk.injEq, true_and]
      omega
    · have e : runQ s k = k := scan_stop hlt (by simp [hb])
      rw [e, bytes_extract_none, Nat.sub_self, Nat.zero_add]
      rfl

/-- The bytes of a text in quotes, without the quotes. -/
def serL (l : List UInt8) : List UInt8 := l.flatMap fun b => if b.toNat == 34 || b.toNat == 92 then [92, b] else [b]
theorem serL_nil : serL [] = [] := rfl
theorem serL_append (l r : List UInt8) : serL (l ++ r) = serL l ++ serL r := by simp [serL]
theorem serL_yes {b : UInt8} (h : b.toNat = 34 ∨ b.toNat = 92) : serL [b] = [92, b] := by
  simp only [serL, List.flatMap_cons, List.flatMap_nil, List.append_nil]
  rw [if_pos (by simpa using h)]
theorem serL_no {b : UInt8} (h1 : b.toNat ≠ 34) (h2 : b.toNat ≠ 92) : serL [b] = [b] := by
  simp only [serL, List.flatMap_cons, List.flatMap_nil, List.append_nil]
  rw [if_neg (by simp [h1, h2])]
theorem serL_cons (b : UInt8) (r : List UInt8) : serL (b :: r) = serL [b] ++ serL r := serL_append [b] r
theorem serL_len (l : List UInt8) : (serL l).length ≤ 2 * l.length := by
  induction l with
  | nil => simp [serL]
  | cons b r ih =>
    rw [serL_cons, List.length_append, List.length_cons]
    have : (serL [b]).length ≤ 2 := by
      simp only [serL, List.flatMap_cons, List.flatMap_nil, List.append_nil]
      split <;> simp
    omega
theorem quoL_serL (l r : List UInt8) : quoL (serL l ++ 34 :: r) = (l, (serL l).length + 1) := by
  induction l with
  | nil => exact quoL_quote r rfl
  | cons b t ih =>
    rw [serL_cons]
    by_cases h : b.toNat = 34 ∨ b.toNat = 92
    · rw [serL_yes h]
      simp only [List.cons_append, List.nil_append]
      rw [quoL_slash _ _ (by rfl), ih]
      simp
    · rw [serL_no (by omega) (by omega)]
      simp only [List.cons_append, List.nil_append]
      rw [quoL_other _ (by omega) (by omega), ih]
      simp
/-- A text in quotes. -/
def serS (s : ByteArray) : ByteArray := ⟨(34 :: serL s.data.toList ++ [34]).toArray⟩
theorem serS_size (s : ByteArray) : (serS s).size = (serL s.data.toList).length + 2 := by
  show (34 :: serL s.data.toList ++ [34]).toArray.size = _
  simp
theorem serS_le (s : ByteArray) : (serS s).size ≤ 2 * s.size + 2 := by
  have := serL_len s.data.toList
  rw [serS_size]
  have e : s.data.toList.length = s.size := by simp
  omega
/-- What was put between quotes is read as it was, whatever stands behind it. -/
theorem quoS_serS (s r : ByteArray) : quoS (serS s ++ r) 1 = (s.data.toList, (serS s).size - 1) := by
  unfold quoS
  have e : (serS s ++ r).data.toList = 34 :: (serL s.data.toList ++ 34 :: r.data.toList) := by
    rw [ByteArray.data_append]
    simp [serS]
  rw [e, List.drop_succ_cons, List.drop_zero, quoL_serL, serS_size]
  rfl

/-- Where the piece ends that begins at k: at a comma in no quotes, or at the end. -/
def stopP : ByteArray := ⟨#[34, 44]⟩
theorem stopP_size : stopP.size = 2 := rfl
theorem stopP_has (b : UInt8) : hasB stopP b = (b.toNat == 34 || b.toNat == 44) := by
  have := bytes_all (p := fun b => hasB stopP b == (b.toNat == 34 || b.toNat == 44)) (by kernel_rfl) b
  exact beq_iff_eq.1 this
def runP (s : ByteArray) (k : Nat) : Nat := scan (fun b => !hasB stopP b) s k
theorem runP_ge (s : ByteArray) (k : Nat) : k ≤ runP s k := scan_ge _ _ _
theorem runP_le (s : ByteArray) (k : Nat) (h : k ≤ s.size) : runP s k ≤ s.size := scan_le _ _ _ h
theorem runP_at {s : ByteArray} {k : Nat} (hk : k ≤ s.size) (h : runP s k < s.size) : s[runP s k].toNat = 34 ∨ s[runP s k].toNat = 44 := by
  have := scan_at hk h
  rw [stopP_has] at this
  simp at this
  exact Decidable.or_iff_not_imp_left.2 this
def pEndF (s : ByteArray) : Nat → Nat → Nat
  | 0, k => k
  | f + 1, k => if runP s k < s.size then (if s[runP s k]!.toNat == 44 then runP s k else pEndF s f (runP s k + 1 + (quoS s (runP s k + 1)).2)) else runP s k
theorem pEndF_more (s : ByteArray) : ∀ (f k : Nat), k ≤ s.size → s.size - k ≤ f → pEndF s (f + 1) k = pEndF s f k
  | 0, k, hk, h => by
    have e : runP s k = k := scan_end (by omega)
    simp only [pEndF]
    rw [e, if_neg (by omega)]
  | f + 1, k, hk, h => by
    have hge := runP_ge s k
    by_cases h1 : runP s k < s.size
    · have hle := quoS_le (s := s) (k := runP s k + 1) (by omega)
      have ih := pEndF_more s f _ hle (by omega)
      have e : ∀ g, pEndF s (g + 1) k = if (s[runP s k]!.toNat == 44) = true then runP s k else pEndF s g (runP s k + 1 + (quoS s (runP s k + 1)).2) := fun g => by
        rw [pEndF, if_pos h1]
      rw [e (f + 1), e f, ih]
    · have e : ∀ g, pEndF s (g + 1) k = runP s k := fun g => by
        rw [pEndF, if_neg h1]
      rw [e (f + 1), e f]
def pEnd (s : ByteArray) (k : Nat) : Nat := pEndF s s.size k
theorem pEnd_step {s : ByteArray} {k : Nat} (hk : k ≤ s.size) : pEnd s k = if runP s k < s.size then (if s[runP s k]!.toNat == 44 then runP s k else pEnd s (runP s k + 1 + (quoS s (runP s k + 1)).2)) else runP s k := by
  unfold pEnd
  rw [← pEndF_more s s.size k hk (by omega), pEndF]
theorem pEnd_end {s : ByteArray} {k : Nat} (hk : k ≤ s.size) (h : runP s k = s.size) : pEnd s k = s.size := by
  rw [pEnd_step hk, if_neg (by omega), h]
theorem pEnd_comma {s : ByteArray} {k : Nat} (hk : k ≤ s.size) (h : runP s k < s.size) (e : s[runP s k].toNat = 44) : pEnd s k = runP s k := by
  rw [pEnd_step hk, if_pos h, getElem!_pos s _ h, if_pos (by simp [e])]
theorem pEnd_quote {s : ByteArray} {k : Nat} (hk : k ≤ s.size) (h : runP s k < s.size) (e : s[runP s k].toNat = 34) : pEnd s k = pEnd s (runP s k + 1 + (quoS s (runP s k + 1)).2) := by
  rw [pEnd_step hk, if_pos h, getElem!_pos s _ h, if_neg (by simp [e])]
theorem pEndF_bounds (s : ByteArray) : ∀ (f k : Nat), k ≤ s.size → k ≤ pEndF s f k ∧ pEndF s f k ≤ s.size
  | 0, k, hk => by simp only [pEndF]; omega
  | f + 1, k, hk => by
    have hge := runP_ge s k
    have hle := runP_le s k hk
    rw [pEndF]
    split
    · rename_i h1
      split
      · omega
      · have hle := quoS_le (s := s) (k := runP s k + 1) (by omega)
        have := pEndF_bounds s f _ hle
        omega
    · omega
theorem pEnd_ge {s : ByteArray} {k : Nat} (hk : k ≤ s.size) : k ≤ pEnd s k := (pEndF_bounds s _ k hk).1
theorem pEnd_le {s : ByteArray} {k : Nat} (hk : k ≤ s.size) : pEnd s k ≤ s.size := (pEndF_bounds s _ k hk).2
theorem pEndF_at (s : ByteArray) : ∀ (f k : Nat), k ≤ s.size → s.size - k ≤ f → pEndF s f k < s.size → s[pEndF s f k]!.toNat = 44
  | 0, k, hk, h, hlt => by simp only [pEndF] at hlt; omega
  | f + 1, k, hk, h, hlt => by
    have hge := runP_ge s k
    rw [pEndF] at hlt ⊢
    by_cases h1 : runP s k < s.size
    · rw [if_pos h1] at hlt ⊢
      by_cases h2 : (s[runP s k]!.toNat == 44) = true
      · rw [if_pos h2]
        simpa using h2
      · rw [if_neg h2] at hlt ⊢
        have hle := quoS_le (s := s) (k := runP s k + 1) (by omega)
        exact pEndF_at s f _ hle (by omega) hlt
    · rw [if_neg h1] at hlt
      omega
theorem pEnd_at {s : ByteArray} {k : Nat} (hk : k ≤ s.size) (h : pEnd s k < s.size) : s[pEnd s k].toNat = 44 := by
  have := pEndF_at s s.size k hk (by omega) h
  rw [getElem!_pos s (pEndF s s.size k) h] at this
  exact this

/-- Where a piece begins, what it is, and the pieces from a place on. -/
def pFrom (s : ByteArray) (k : Nat) : Nat := scan tabB s k
theorem pFrom_ge (s : ByteArray) (k : Nat) : k ≤ pFrom s k := scan_ge _ _ _
theorem pFrom_le {s : ByteArray} {k : Nat} (h : k ≤ s.size) : pFrom s k ≤ s.size := scan_le _ _ _ h
def pTo (s : ByteArray) (k : Nat) : Nat := pEnd s (pFrom s k)
theorem pTo_ge {s : ByteArray} {k : Nat} (h : k ≤ s.size) : k ≤ pTo s k := Nat.le_trans (pFrom_ge s k) (pEnd_ge (pFrom_le h))
theorem pTo_le {s : ByteArray} {k : Nat} (h : k ≤ s.size) : pTo s k ≤ s.size := pEnd_le (pFrom_le h)
def piece (s : ByteArray) (k : Nat) : ByteArray := cutP tabB (s.extract (pFrom s k) (pTo s k))
def splitF (s : ByteArray) : Nat → Nat → List ByteArray
  | 0, k => [piece s k]
  | f + 1, k => piece s k :: (if pTo s k < s.size then splitF s f (pTo s k + 1) else [])
theorem splitF_more (s : ByteArray) : ∀ (f k : Nat), k ≤ s.size → s.size - k ≤ f → splitF s (f + 1) k = splitF s f k
  | 0, k, hk, h => by
    have := pTo_ge hk
    simp only [splitF]
    rw [if_neg (by omega)]
  | f + 1, k, hk, h => by
    have := pTo_ge hk
    have e : ∀ g, splitF s (g + 1) k = piece s k :: (if pTo s k < s.size then splitF s g (pTo s k + 1) else []) := fun g => by rw [splitF]
    rw [e (f + 1), e f]
    by_cases h1 : pTo s k < s.size
    · rw [if_pos h1, if_pos h1, splitF_more s f _ (by omega) (by omega)]
    · rw [if_neg h1, if_neg h1]
def splitL (s : ByteArray) (k : Nat) : List ByteArray := splitF s s.size k
theorem splitL_more {s : ByteArray} {k : Nat} (hk : k ≤ s.size) (h : pTo s k < s.size) : splitL s k = piece s k :: splitL s (pTo s k + 1) := by
  unfold splitL
  rw [← splitF_more s s.size k hk (by omega), splitF, if_pos h]
theorem splitL_last {s : ByteArray} {k : Nat} (hk : k ≤ s.size) (h : pTo s k = s.size) : splitL s k = [piece s k] := by
  unfold splitL
  rw [← splitF_more s s.size k hk (by omega), splitF, if_neg (by omega)]

end Go.Proofs.Ytmepnfkgfbbkiaa
