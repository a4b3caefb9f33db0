/-
  What U32 answers: the number of the next four bytes. Conditions as in Cursor.
-/
import Derived.Test.YtbibcpbldnedhaaLives
import Derived.Test.YtbibcpbldnedhaaScan
import Derived.LoopTactic
import Derived.Laws.IdiomStrings
namespace Go.Proofs.Ytbibcpbldnedhaa
open Go.RowKit

/-- The number of some bytes, the highest first, in 32 bits. -/
def be (l : List UInt8) : Int := l.foldl (fun a b => (a * 256 + (b.toNat : Int)) % 4294967296) 0

theorem be_range (l : List UInt8) : 0 ≤ be l ∧ be l < 4294967296 := by
  rcases List.eq_nil_or_concat l with h | ⟨l', b, h⟩
  · subst h; simp [be]
  · subst h
    simp only [be, List.concat_eq_append, List.foldl_append, List.foldl_cons, List.foldl_nil]
    omega

theorem bytes_cell (W : World) (x : ByteArray) (cap : Nat) (t : TypeId) (fr : Nat × Nat) {g : Nat} (hg : g = W.heap.size) (k : Nat) (hk : k < x.size) :
    ((W.alloc (.cells (bytesRow x cap) t fr)).drew).cell? ⟨g, k, none⟩ = some (.int .u8 (x[k].toNat : Int)) := by
  subst hg
  show (W.alloc (.cells (bytesRow x cap) t fr)).cell? ⟨W.heap.size, k, none⟩ = _
  have h : (W.alloc (.cells (bytesRow x cap) t fr)).heap[W.heap.size]? = some (.cells (bytesRow x cap) t fr) := by
    show (W.heap.push _)[W.heap.size]? = _
    simp
  have hs : k < x.data.size := hk
  have hc : (bytesRow x cap)[k]? = some (.int .u8 (x[k].toNat : Int)) := by
    unfold bytesRow
    rw [Array.getElem?_append_left (by simpa using hs)]
    rw [Array.getElem?_map, Array.getElem?_eq_getElem hs]
    rfl
  unfold World.cell?
  rw [h]
  exact hc

theorem or_shift (a : Int) (b : Nat) (_h0 : 0 ≤ a) (hb : b < 256) : bits .or .u32 (a * 256 % 4294967296) ((b : Int) % 4294967296) = (a * 256 + (b : Int)) % 4294967296 := by
  obtain ⟨q, hq⟩ : ∃ q : Nat, (q : Int) = a % 16777216 := ⟨(a % 16777216).toNat, by omega⟩
  have e1 : a * 256 % 4294967296 = ((256 * q : Nat) : Int) := by omega
  have e2 : (b : Int) % 4294967296 = ((b : Nat) : Int) := by omega
  have e3 : (a * 256 + (b : Int)) % 4294967296 = ((256 * q + b : Nat) : Int) := by omega
  have hq' : q < 16777216 := by omega
  rw [e1, e2, e3]
  have e4 : 256 * q ||| b = 256 * q + b := (Nat.two_pow_add_eq_or_of_lt (i := 8) (by omega) q).symm
  unfold bits
  show IntKind.u32.wrap (((BitVec.ofInt 32 ((256 * q : Nat) : Int)) ||| (BitVec.ofInt 32 ((b : Nat) : Int))).toNat : Int) = _
  rw [BitVec.ofInt_natCast, BitVec.ofInt_natCast, BitVec.toNat_or, BitVec.toNat_ofNat, BitVec.toNat_ofNat, Nat.mod_eq_of_lt (by omega), Nat.mod_eq_of_lt (by omega), e4, IntKind.wrap_u32]
  omega

theorem be_snoc (l : List UInt8) (b : UInt8) : be (l ++ [b]) = (be l * 256 + (b.toNat : Int)) % 4294967296 := by
  simp [be]


set_option maxHeartbeats 400000 in
theorem u32_of (cb j : Nat) (x : ByteArray) (w : World) (hlt : x.size = 4)
    (h : Hid (Calls Try.prog 35 #[cptr cb, .int .i64 4] w fun e w' => e = .returned (.string x) ∧ ∃ m, w' = (w.drewN m).setCell ⟨cb, 1, none⟩ (.int .i64 j))) :
    Calls Try.prog 32 #[cptr cb] w fun e w' => e = .returned (.int .u32 (be x.data.toList)) ∧ ∃ m, Below w.heap.size ((w.drewN m).setCell ⟨cb, 1, none⟩ (.int .i64 j)) w' := by
  have hcv := fun (W : World) => run_bytes_of_string W 9 46 5 x Try.underlying9 Try.underlying46 Try.underlying5
  go_enter Try.func32, Try.ntmps32
  go_wp2_with (go_at_call 35; refine h.out.mono ?_; rintro e w1 ⟨rfl, m, rfl⟩)
  have hbw : Below w.heap.size ((w.drewN m).setCell ⟨cb, 1, none⟩ (.int .i64 j)) (((((w.drewN m).setCell ⟨cb, 1, none⟩ (.int .i64 j))).alloc (.cells (bytesRow x (grownCap ((w.drewN m).setCell ⟨cb, 1, none⟩ (.int .i64 j)) 4 0 5)) 5
      ((bytesRow x (grownCap ((w.drewN m).setCell ⟨cb, 1, none⟩ (.int .i64 j)) 4 0 5)).size, (bytesRow x (grownCap ((w.drewN m).setCell ⟨cb, 1, none⟩ (.int .i64 j)) 4 0 5)).size + 1))).drew) :=
    ((Below.refl _ _).alloc (by simp [World.setCell]) _).drew
  have hcell : ∀ k (hk : k < x.size), (((((w.drewN m).setCell ⟨cb, 1, none⟩ (.int .i64 j))).alloc (.cells (bytesRow x (grownCap ((w.drewN m).setCell ⟨cb, 1, none⟩ (.int .i64 j)) 4 0 5)) 5
      ((bytesRow x (grownCap ((w.drewN m).setCell ⟨cb, 1, none⟩ (.int .i64 j)) 4 0 5)).size, (bytesRow x (grownCap ((w.drewN m).setCell ⟨cb, 1, none⟩ (.int .i64 j)) 4 0 5)).size + 1))).drew).cell? ⟨w.heap.size, k, none⟩ = some (.int .u8 (x[k].toNat : Int)) := by
    intro k hk
    exact bytes_cell _ _ _ _ _ (by simp [World.setCell]) k hk
  clear hcv
  generalize ((((w.drewN m).setCell ⟨cb, 1, none⟩ (.int .i64 j))).alloc (.cells (bytesRow x (grownCap ((w.drewN m).setCell ⟨cb, 1, none⟩ (.int .i64 j)) 4 0 5)) 5
      ((bytesRow x (grownCap ((w.drewN m).setCell ⟨cb, 1, none⟩ (.int .i64 j)) 4 0 5)).size, (bytesRow x (grownCap ((w.drewN m).setCell ⟨cb, 1, none⟩ (.int .i64 j)) 4 0 5)).size + 1))).drew = w2 at *
  have HC := Lib.hid hcell
  have HW := Lib.hid hbw
  have HL := Lib.hid hlt
  clear hcell hbw hlt h
  go_loop [3, 10] (fun n i => ∃ k : Nat, k ≤ 4 ∧ i = .int .i64 k ∧ n = .int .u32 (be (x.data.toList.take k))) (fun _ i => 4 - (intOf i).toNat)
  case atStart => exact ⟨0, by omega, rfl, rfl⟩
  case round =>
    obtain ⟨k, hk, rfl, rfl⟩ := hrel
    by_cases hlt : k < 4
    · have hc := HC.out k (by have := HL.out; omega)
      have hb := be_range (x.data.toList.take k)
      have hs : Hid (bits BinOp.or IntKind.u32 (be (x.data.toList.take k) * 256 % 4294967296) ((x[k]'(by have := HL.out; omega)).toNat % 4294967296 : Int) = be (x.data.toList.take (k + 1))) := by
        rw [take_snoc x k (by have := HL.out; omega), be_snoc]
        exact or_shift _ _ hb.1 (x[k]'(by have := HL.out; omega)).toNat_lt
      go_wp2
      go_round
      case rel => exact ⟨k + 1, by omega, by go_num, by rw [hs.out]⟩
      case measure => simp [intOf]; omega
    · obtain rfl : k = 4 := by omega
      go_wp2
      go_ret
      refine ⟨?_, m, HW.out⟩
      rw [List.take_of_length_le (by have := HL.out; simp; omega)]
      rfl

/-- The number of the four bytes from k on. -/
def be4 (s : ByteArray) (k : Nat) : Int := be (s.extract k (k + 4)).data.toList

theorem u32_ok (cb k : Nat) (s : ByteArray) (w : World) (h : Cur w cb s k) (hk : k + 4 ≤ s.size) (hs : s.size ≤ 9223372036854775807) :
    Calls Try.prog 32 #[cptr cb] w fun e w' => e = .returned (.int .u32 (be4 s k)) ∧ Mv w.heap.size [cb] w w' ∧ Cur w' cb s (k + 4) := by
  have hsz : (s.extract k (k + 4)).size = 4 := by simp; omega
  refine (u32_of cb (k + 4) _ w hsz (take_ok cb k 4 s w h hk hs)).mono ?_
  rintro e w' ⟨rfl, m, hb⟩
  obtain ⟨h1, h2⟩ := Cur.put (j := k + 4) (h.drewN m) rfl
  exact ⟨rfl, (((Mv.refl _ _ _).drewN m).trans h1).trans (Mv.of_below hb _), h2.below hb h.lt⟩

set_option maxHeartbeats 400000 in
theorem u32_far (cb k : Nat) (s : ByteArray) (w : World) (h : Cur w cb s k) (hk : k ≤ s.size) (hk4 : s.size < k + 4) (hs : s.size ≤ 9223372036854775807) :
    Calls Try.prog 32 #[cptr cb] w fun e w' => e = pnc k 8 ∧ Drawn w w' := by
  go_enter Try.func32, Try.ntmps32
  go_wp2_with (go_at_call 35; refine (take_far cb k s 4 _ h hk hs (by omega) (by omega)).mono ?_; rintro e w1 ⟨rfl, hD⟩)
  exact ⟨rfl, rfl, hD⟩

end Go.Proofs.Ytbibcpbldnedhaa

