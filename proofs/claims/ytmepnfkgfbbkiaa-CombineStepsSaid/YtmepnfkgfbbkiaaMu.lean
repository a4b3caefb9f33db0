/-
  What the document's Parse of layer 10 answers. Condition: the text is as long as a mebibyte.
-/
import Derived.Test.YtmepnfkgfbbkiaaMt
import Derived.RegionTactic
import Derived.Deep.DeepCutAuto
namespace Go.Proofs.Ytmepnfkgfbbkiaa
open Go.RowKit

theorem suf_list {T x : ByteArray} {j : Nat} (hx : x = T.extract j T.size) : x.data.toList = T.data.toList.drop j := by
  rw [hx, bytes_extract, List.take_of_length_le (by simp)]
theorem suf_size {T x : ByteArray} {j : Nat} (hx : x = T.extract j T.size) : x.size = T.size - j := by rw [hx]; simp
theorem suf_at {T x : ByteArray} {j i : Nat} (hx : x = T.extract j T.size) (h : i < x.size) : x[i] = T[j + i]'(by have := suf_size hx; omega) := by
  have h2 : j + i < T.size := by have := suf_size hx; omega
  rw [← getElem!_pos x i h, ← getElem!_pos T (j + i) h2, hx, extract_at (by rw [← hx]; exact h)]
theorem suf_scan (p : UInt8 → Bool) {T x : ByteArray} {j : Nat} (hx : x = T.extract j T.size) : j + scan p x 0 = scan p T j := by
  unfold scan
  rw [suf_list hx, List.drop_zero]
  omega
theorem suf_head {T x : ByteArray} {j m : Nat} (hx : x = T.extract j T.size) (h : j + m ≤ T.size) : x.extract 0 m = T.extract j (j + m) := by
  rw [hx, ByteArray.extract_extract]
  congr 1
  omega
theorem suf_suf {T x : ByteArray} {j m : Nat} (hx : x = T.extract j T.size) (_h : j + m ≤ T.size) : x.extract m x.size = T.extract (j + m) T.size := by
  rw [suf_size hx, hx, ByteArray.extract_extract]
  congr 1
  omega
theorem suf_quoS {T x : ByteArray} {j : Nat} (hx : x = T.extract j T.size) (k : Nat) : quoS x k = quoS T (j + k) := by
  unfold quoS
  rw [suf_list hx, List.drop_drop]

/-- What lies in the worlds of the document's Parse, where acc is read. -/
structure PW (w : World) (mb base : Nat) (lty lsu : ByteArray) (A : Option Addr) (c : Nat) (acc : List Prm) (W : World) : Prop where
  own : W.ownsRow base 33 2 (.slice A acc.length c) acc.length (prmL acc)
  m : Blk W mb 24 #[.string lty, .string lsu, .slice A acc.length c]
  r : Blk W w.heap.size 24 #[.string ⟨#[]⟩, .string ⟨#[]⟩, .slice none 0 0]
  b : Below w.heap.size w W
  s : base ≤ W.heap.size
theorem PW.step {w : World} {mb base : Nat} {lty lsu : ByteArray} {A : Option Addr} {c : Nat} {acc : List Prm} {W W' : World} (h : PW w mb base lty lsu A c acc W) (hb : Below W.heap.size W W') : PW w mb base lty lsu A c acc W' :=
  ⟨own_keep h.own (Mv.of_below hb []) (by simp), h.m.below hb h.m.lt, h.r.below hb h.r.lt, below_on h.b hb, Nat.le_trans h.s hb.size⟩
theorem PW.drewN {w : World} {mb base : Nat} {lty lsu : ByteArray} {A : Option Addr} {c : Nat} {acc : List Prm} {W : World} (h : PW w mb base lty lsu A c acc W) (n : Nat) : PW w mb base lty lsu A c acc (W.drewN n) := h.step (Below.drewN' (Below.refl _ _) n)
theorem PW.ps {w : World} {mb base : Nat} {lty lsu : ByteArray} {A : Option Addr} {c : Nat} {acc : List Prm} {W : World} (h : PW w mb base lty lsu A c acc W) : PsIn W A acc := by
  obtain ⟨A', c', e, hp⟩ := PsIn.of_own h.own
  cases e
  exact hp
theorem own_shape {W : World} {base : Nat} {e : TypeId} {size n : Nat} {v : Value} {xs : List Value} (h : W.ownsRow base e size v n xs) : ∃ A c, v = .slice A n c := by
  rcases h.2 with ⟨h1, h2⟩ | ⟨g, cap, cur, h1, _⟩
  · exact ⟨none, 0, by rw [h1, h2]⟩
  · exact ⟨_, _, h1⟩
theorem valOk_end {s : ByteArray} {j : Nat} (h : s.size ≤ j) : valOk s j = false := by
  unfold valOk
  rw [isAt_no h]
  have h1 : (valRaw s j).toList.length = 0 := by
    rw [toList_size]
    unfold valRaw
    have := cutP_le whiB (s.extract j (scan (stp sSe) s j))
    have h2 : (s.extract j (scan (stp sSe) s j)).size = 0 := by simp; omega
    omega
  rw [List.length_eq_zero_iff.1 h1]
  rfl
theorem strLen_str (x : ByteArray) : strLen (.string x) = x.size := rfl

end Go.Proofs.Ytmepnfkgfbbkiaa
