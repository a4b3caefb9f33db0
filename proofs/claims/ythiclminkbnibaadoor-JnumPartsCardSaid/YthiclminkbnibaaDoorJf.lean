/-
  Plain facts on a text's bytes behind its sign. No condition.
-/
import Derived.Test.YthiclminkbnibaaDoorJe
namespace Go.Proofs.YthiclminkbnibaaDoor

/-- Where the bytes behind the sign begin. -/
structure Behind (s : ByteArray) (i : Nat) : Prop where
  le : i ≤ s.size
  drop : mL s.data.toList = s.data.toList.drop i
theorem behind_no {s : ByteArray} (h : negL s.data.toList = false) : Behind s 0 := ⟨Nat.zero_le _, by
  unfold mL Lib.trimPrefix
  rw [show Lib.hasPrefix s.data.toList [45] = false from h]
  rfl⟩
theorem behind_yes {s : ByteArray} (h0 : 0 < s.size) (h : negL s.data.toList = true) : Behind s 1 := ⟨h0, by
  unfold mL Lib.trimPrefix
  rw [show Lib.hasPrefix s.data.toList [45] = true from h]
  rfl⟩
theorem neg_at {s : ByteArray} (h0 : 0 < s.size) : negL s.data.toList = ((s[0].toNat : Int) == 45) := by
  have e : s.data.toList = s[0] :: s.data.toList.drop 1 := by
    have := drop_cons s 0 h0
    simpa using this
  rw [e, neg_cons, Bool.eq_iff_iff, beq_iff_eq, beq_iff_eq, ← UInt8.toNat_inj]
  show _ = 45 ↔ _
  omega

section
variable {s : ByteArray} {i : Nat}
theorem Behind.len (h : Behind s i) : s.size = i + (mL s.data.toList).length := by
  rw [h.drop, List.length_drop, ← Lib.size_eq]
  have := h.le
  omega
theorem Behind.at_ (h : Behind s i) {k : Nat} (hk : i + k < s.size) : (mL s.data.toList)[k]? = some s[i + k] := by
  rw [h.drop, List.getElem?_drop]
  exact Lib.data_getElem? s (i + k) hk
theorem Behind.alen (h : Behind s i) : i + (aL s.data.toList).length ≤ s.size := by
  have h1 := h.len
  have h2 := takeW_len notE (mL s.data.toList)
  unfold aL
  omega
theorem take_pre {p : UInt8 → Bool} : ∀ (l : List UInt8) (k : Nat), k < (l.takeWhile p).length → (l.takeWhile p)[k]? = l[k]? ∧ ∀ b, l[k]? = some b → p b = true
  | [], k, h => absurd h (by simp)
  | b :: t, k, h => by
    cases hb : p b
    · rw [List.takeWhile_cons_of_neg (by simp [hb])] at h
      exact absurd h (by simp)
    · rw [List.takeWhile_cons_of_pos hb] at h ⊢
      cases k with
      | zero => exact ⟨rfl, fun x hx => by cases hx; exact hb⟩
      | succ k => exact take_pre t k (by simpa using h)
theorem take_post {p : UInt8 → Bool} : ∀ (l : List UInt8) (b : UInt8), l[(l.takeWhile p).length]? = some b → p b = false
  | [], b, h => by cases h
  | x :: t, b, h => by
    cases hb : p x
    · rw [List.takeWhile_cons_of_neg (by simp [hb])] at h
      cases h
      exact hb
    · rw [List.takeWhile_cons_of_pos hb] at h
      exact take_post t b h
theorem Behind.step (h : Behind s i) {k : Nat} (hk : k < (aL s.data.toList).length) : ∃ hlt : i + k < s.size, notE s[i + k] = true ∧ (aL s.data.toList).take (k + 1) = (aL s.data.toList).take k ++ [s[i + k]] := by
  have hl := h.alen
  have hlt : i + k < s.size := by omega
  obtain ⟨h1, h2⟩ := take_pre (p := notE) (mL s.data.toList) k hk
  have ha := h.at_ hlt
  refine ⟨hlt, h2 _ ha, ?_⟩
  rw [List.take_add_one]
  congr 1
  unfold aL
  rw [h1, ha]
  rfl
theorem Behind.stop (h : Behind s i) (hlt : i + (aL s.data.toList).length < s.size) : notE s[i + (aL s.data.toList).length] = false :=
  take_post _ _ (h.at_ hlt)
theorem Behind.more (h : Behind s i) : i + (aL s.data.toList).length < s.size ↔ wL s.data.toList ≠ [] := by
  have h1 := congrArg List.length (List.takeWhile_append_dropWhile (p := notE) (l := mL s.data.toList))
  rw [List.length_append] at h1
  have h2 := h.len
  unfold aL wL
  constructor
  · intro hlt e
    rw [e] at h1
    simp at h1
    omega
  · intro hw
    have := List.length_pos_iff.2 hw
    omega
theorem Behind.rest (h : Behind s i) : s.extract (i + (aL s.data.toList).length + 1) s.size = bs (zL s.data.toList) := bs_ext (by
  rw [Lib.extract_to_end, bs_list, ← drop_aL, h.drop, List.drop_drop]
  congr 1)
end

/-- What is told of the digits and the power so far. -/
def accP (s : ByteArray) (k : Nat) : Bool := ((aL s.data.toList).take k |>.foldl stp9 (false, 0, [])).1
def accX (s : ByteArray) (k : Nat) : Int := ((aL s.data.toList).take k |>.foldl stp9 (false, 0, [])).2.1
def accD (s : ByteArray) (k : Nat) : List UInt8 := ((aL s.data.toList).take k |>.foldl stp9 (false, 0, [])).2.2
theorem acc_step {s : ByteArray} {i k : Nat} (h : Behind s i) (hk : k < (aL s.data.toList).length) :
    ∃ hlt : i + k < s.size, notE s[i + k] = true ∧ (dotB s[i + k] = true ∧ accP s (k + 1) = true ∧ accX s (k + 1) = accX s k ∧ accD s (k + 1) = accD s k ∨
      dotB s[i + k] = false ∧ accP s (k + 1) = accP s k ∧ accX s (k + 1) = (if accP s k = true then accX s k - 1 else accX s k) ∧ accD s (k + 1) = if accD s k = [] ∧ s[i + k] = 48 then [] else accD s k ++ [s[i + k]]) := by
  obtain ⟨hlt, he, ht⟩ := h.step hk
  refine ⟨hlt, he, ?_⟩
  unfold accP accX accD
  rw [ht, List.foldl_append]
  simp only [List.foldl_cons, List.foldl_nil]
  generalize ((aL s.data.toList).take k).foldl stp9 (false, 0, []) = x
  cases hd : dotB s[i + k]
  · right
    unfold stp9
    rw [hd, if_neg (by decide)]
    exact ⟨rfl, rfl, rfl, rfl⟩
  · left
    rw [stp9_dot hd]
    exact ⟨rfl, rfl, rfl, rfl⟩
theorem acc_le (s : ByteArray) : ∀ k, (accD s k).length ≤ k ∧ -(k : Int) ≤ accX s k ∧ accX s k ≤ 0 := fun k => by
  unfold accD accX
  have key : ∀ (l : List UInt8) (x : Bool × Int × List UInt8) (n : Nat), x.2.2.length ≤ n → -(n : Int) ≤ x.2.1 → x.2.1 ≤ 0 → (l.foldl stp9 x).2.2.length ≤ n + l.length ∧ -((n + l.length : Nat) : Int) ≤ (l.foldl stp9 x).2.1 ∧ (l.foldl stp9 x).2.1 ≤ 0 := fun l => by
    induction l with
    | nil => intro x n h1 h2 h3; exact ⟨h1, h2, h3⟩
    | cons b t ih =>
      intro x n h1 h2 h3
      have hs : (stp9 x b).2.2.length ≤ n + 1 ∧ -((n + 1 : Nat) : Int) ≤ (stp9 x b).2.1 ∧ (stp9 x b).2.1 ≤ 0 := by
        unfold stp9
        split
        · exact ⟨by simp; omega, by simp; omega, h3⟩
        · refine ⟨?_, ?_, ?_⟩
          · simp only
            split
            · simp
            · simp; exact h1
          · simp only
            split <;> omega
          · simp only
            split <;> omega
      have := ih (stp9 x b) (n + 1) hs.1 hs.2.1 hs.2.2
      rw [List.foldl_cons, List.length_cons]
      rw [show n + (t.length + 1) = n + 1 + t.length by omega]
      exact this
  have := key ((aL s.data.toList).take k) (false, 0, []) 0 (by simp) (by simp) (by simp)
  have hl : ((aL s.data.toList).take k).length ≤ k := by simp; omega
  omega
theorem acc_end {s : ByteArray} (h : NumT s.data.toList) : accX s (aL s.data.toList).length = -((bL (aL s.data.toList)).length : Int) ∧ accD s (aL s.data.toList).length = gL s.data.toList := by
  obtain ⟨pt, e⟩ := fold_all h
  unfold accX accD
  rw [List.take_of_length_le (Nat.le_refl _), e]
  exact ⟨rfl, rfl⟩

end Go.Proofs.YthiclminkbnibaaDoor
