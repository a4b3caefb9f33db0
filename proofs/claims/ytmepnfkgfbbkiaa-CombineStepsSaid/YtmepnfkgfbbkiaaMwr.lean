/-
  The law MimeWrites returns true of any two types. Condition: texts are as long as a length can be; what an argument's reading gives.
-/
import Derived.Test.YtmepnfkgfbbkiaaMl
import Derived.Test.YtmepnfkgfbbkiaaMx
namespace Go.Proofs.Ytmepnfkgfbbkiaa
open Go.RowKit

/-- What Few leaves of a type. -/
structure FewIs (t u : ByteArray) (ps : List Prm) : Prop where
  t : t.size ≤ 30
  u : u.size ≤ 30
  n : ps.length ≤ 6
  all : ∀ p ∈ ps, p.n.size ≤ 20 ∧ p.v.size ≤ 30
theorem FewIs.mim {t u : ByteArray} {ps : List Prm} (h : FewIs t u ps) {W : World} {A : Option Addr} (hp : PsIn W A ps) : MimIn W t u A ps :=
  ⟨hp, fun p hp => by have := h.all p hp; omega, by have := h.t; omega, by have := h.u; omega, by have := h.n; omega⟩
theorem fewIs (t u : ByteArray) (lp : Nat → Prm) (n : Nat) : FewIs (cutB t 30) (cutB u 30) (fewK lp (min n 6)) :=
  ⟨cutB_size _ _, cutB_size _ _, by rw [fewK_len]; omega, fewK_all lp _⟩
/-- Few of what it left. -/
theorem few_again {t u : ByteArray} {ps : List Prm} (h : FewIs t u ps) {A : Option Addr} (c : Nat) (W : World) (hp : PsIn W A ps) :
    Calls Try.prog 4 #[mimV t u A ps.length c] W fun e w' => ∃ A' c', e = .returned (mimV t u A' ps.length c') ∧ PsIn w' A' ps ∧ Below W.heap.size W w' := by
  have h1 := few_any t u A ps.length c (fun i => ps.getD i ⟨⟨#[]⟩, ⟨#[]⟩⟩) W (Came.of_ps hp (h.mim hp).all _) (by have := h.t; omega) (by have := h.u; omega) (by have := h.n; omega)
  rw [cutB_id h.t, cutB_id h.u, show min ps.length 6 = ps.length from by have := h.n; omega, fewK_id h.all] at h1
  refine h1.mono fun e w' ⟨A', c', he, ho, hb⟩ => ?_
  obtain ⟨A2, c2, hv, hp⟩ := PsIn.of_own ho
  cases hv
  exact ⟨A', c', he, hp, hb⟩
theorem few_first (t u : ByteArray) (A : Option Addr) (n c : Nat) (lp : Nat → Prm) (W : World) (h : Came W A n lp) (ht : t.size ≤ 9223372036854775807) (hu : u.size ≤ 9223372036854775807) (hn : n ≤ 9223372036854775807) :
    Calls Try.prog 4 #[mimV t u A n c] W fun e w' => ∃ A' c', e = .returned (mimV (cutB t 30) (cutB u 30) A' (fewK lp (min n 6)).length c') ∧ w'.ownsRow W.heap.size 33 2 (.slice A' (fewK lp (min n 6)).length c') (fewK lp (min n 6)).length (prmL (fewK lp (min n 6))) ∧ Below W.heap.size W w' := by
  have h1 := few_any t u A n c lp W h ht hu hn
  rw [fewK_len]
  exact h1

/-- What a good type that Few left is written as. -/
theorem write_text {t u : ByteArray} {ps : List Prm} (hm : FewIs t u ps) (h : goodM t u ps = true) :
    ∃ P, serM t u ps = P ∧ P.size ≤ 1048576 ∧ trimP whiB P = P ∧ saysB P = true ∧ lowS (tyOf P) = t ∧ lowS (suOf P) = u ∧ prOf P = ps := by
  obtain ⟨q1, q2, q3, q4, q5⟩ := text_says h ⟨(textL t u ps).toArray⟩ rfl
  refine ⟨⟨(textL t u ps).toArray⟩, by unfold serM; rw [h]; rfl, ?_, q1, q2, q3, q4, q5⟩
  have hall : AllIn 30 ps := fun p hp => by have := hm.all p hp; omega
  have h1 := serPs_le hall
  have h2 := hm.n
  have h3 : ps.length * (3 * 30 + 4) ≤ 6 * (3 * 30 + 4) := Nat.mul_le_mul_right _ h2
  have h4 := hm.t
  have h5 := hm.u
  have h6 : (t.data.toList ++ 47 :: u.data.toList).length = t.size + (u.size + 1) := by simp
  rw [arr_size]
  unfold textL essL
  rw [List.length_append]
  omega
theorem writes_keep {w2 W : World} {bm bo : Nat} {t1 t2 : TypeId} {a0 a1 a2 b0 b1 b2 : Value} (hm : Blk w2 bm t1 #[a0, a1, a2]) (ho : Blk w2 bo t2 #[b0, b1, b2]) (hb : Below w2.heap.size w2 W) :
    W.cell? ⟨bm, 0, none⟩ = some a0 ∧ W.cell? ⟨bm, 1, none⟩ = some a1 ∧ W.cell? ⟨bm, 2, none⟩ = some a2 ∧ W.cell? ⟨bo, 0, none⟩ = some b0 ∧ W.cell? ⟨bo, 1, none⟩ = some b1 ∧ W.cell? ⟨bo, 2, none⟩ = some b2 :=
  ⟨(hm.below hb hm.lt).cell 0, (hm.below hb hm.lt).cell 1, (hm.below hb hm.lt).cell 2, (ho.below hb ho.lt).cell 0, (ho.below hb ho.lt).cell 1, (ho.below hb ho.lt).cell 2⟩

end Go.Proofs.Ytmepnfkgfbbkiaa
