/-
  What U32 answers: the number of the next four bytes. Conditions as in Cursor.
  Plain facts on films of boxes: the first box, the names in it, and all boxes. No condition.
  What package mp4's Size, Head and what they stand on answer. Condition: the text is no longer than a length can be.
-/
import Derived.Test.YtjaockmbnjflaaaGreatDoorZ17
import Derived.Test.YtjaockmbnjflaaaGreatDoorZ1
import Derived.LoopTactic
import Derived.Laws.IdiomStrings
import Derived.Test.YtjaockmbnjflaaaGreatDoorZ16
import Derived.Test.YtjaockmbnjflaaaGreatDoorZ9
import Derived.BigQuiet
namespace Go.Proofs.YtjaockmbnjflaaaGreatDoor
open Go.RowKit

/-- The number of some bytes, the highest first, in 32 bits. -/
def be (l : List UInt8) : Int := l.foldl (fun a b => (a * 256 + (b.toNat : Int)) % 4294967296) 0

theorem be_range (l : List UInt8) : 0 ≤ be l ∧ be l < 4294967296 := by
  rcases List.eq_nil_or_concat l with h | ⟨l', b, h⟩
  · subst h; simp [be]
  · subst h
    simp only [be, List.concat_eq_append, List.foldl_append, List.foldl_cons, List.foldl_nil]
    omega

theorem bytes_cell (W : World) (x : ByteArray) (cap : Nat) (t : TypeId) (fr : Nat × Nat) {g : Nat} (hg : g = W.heap.size) (k : Nat) (hk : k < x.size) :
    ((W.alloc (.cells (bytesRow x cap) t fr)).drew).cell? ⟨g, k, none⟩ = some (.int .u8 (x[k].toNat : Int)) := by
  subst hg
  show (W.alloc (.cells (bytesRow x cap) t fr)).cell? ⟨W.heap.size, k, none⟩ = _
  have h : (W.alloc (.cells (bytesRow x cap) t fr)).heap[W.heap.size]? = some (.cells (bytesRow x cap) t fr) := by
    show (W.heap.push _)[W.heap.size]? = _
    simp
  have hs : k < x.data.size := hk
  have hc : (bytesRow x cap)[k]? = some (.int .u8 (x[k].toNat : Int)) := by
    unfold bytesRow
    rw [Array.getElem?_append_left (by simpa using hs)]
    rw [Array.getElem?_map, Array.getElem?_eq_getElem hs]
    rfl
  unfold World.cell?
  rw [h]
  exact hc

theorem or_shift (a : Int) (b : Nat) (_h0 : 0 ≤ a) (hb : b < 256) : bits .or .u32 (a * 256 % 4294967296) ((b : Int) % 4294967296) = (a * 256 + (b : Int)) % 4294967296 := by
  obtain ⟨q, hq⟩ : ∃ q : Nat, (q : Int) = a % 16777216 := ⟨(a % 16777216).toNat, by omega⟩
  have e1 : a * 256 % 4294967296 = ((256 * q : Nat) : Int) := by omega
  have e2 : (b : Int) % 4294967296 = ((b : Nat) : Int) := by omega
  have e3 : (a * 256 + (b : Int)) % 4294967296 = ((256 * q + b : Nat) : Int) := by omega
  have hq' : q < 16777216 := by omega
  rw [e1, e2, e3]
  have e4 : 256 * q ||| b = 256 * q + b := (Nat.two_pow_add_eq_or_of_lt (i := 8) (by omega) q).symm
  unfold bits
  show IntKind.u32.wrap (((BitVec.ofInt 32 ((256 * q : Nat) : Int)) ||| (BitVec.ofInt 32 ((b : Nat) : Int))).toNat : Int) = _
  rw [BitVec.ofInt_natCast, BitVec.ofInt_natCast, BitVec.toNat_or, BitVec.toNat_ofNat, BitVec.toNat_ofNat, Nat.mod_eq_of_lt (by omega), Nat.mod_eq_of_lt (by omega), e4, IntKind.wrap_u32]
  omega

theorem be_snoc (l : List UInt8) (b : UInt8) : be (l ++ [b]) = (be l * 256 + (b.toNat : Int)) % 4294967296 := by
  simp [be]


set_option maxHeartbeats 400000 in
theorem u32_of (cb j : Nat) (x : ByteArray) (w : World) (hlt : x.size = 4)
    (h : Hid (Calls Tryz.prog 141 #[cptr cb, .int .i64 4] w fun e w' => e = .returned (.string x) ∧ ∃ m, w' = (w.drewN m).setCell ⟨cb, 1, none⟩ (.int .i64 j))) :
    Calls Tryz.prog 131 #[cptr cb] w fun e w' => e = .returned (.int .u32 (be x.data.toList)) ∧ ∃ m, Below w.heap.size ((w.drewN m).setCell ⟨cb, 1, none⟩ (.int .i64 j)) w' := by
  have hcv := fun (W : World) => run_bytes_of_string W 9 50 5 x Tryz.underlying9 Tryz.underlying50 Tryz.underlying5
  go_enter Tryz.func131, Tryz.ntmps131
  go_wp2_with (go_at_call 141; refine h.out.mono ?_; rintro e w1 ⟨rfl, m, rfl⟩)
  have hbw : Below w.heap.size ((w.drewN m).setCell ⟨cb, 1, none⟩ (.int .i64 j)) (((((w.drewN m).setCell ⟨cb, 1, none⟩ (.int .i64 j))).alloc (.cells (bytesRow x (grownCap ((w.drewN m).setCell ⟨cb, 1, none⟩ (.int .i64 j)) 4 0 5)) 5
      ((bytesRow x (grownCap ((w.drewN m).setCell ⟨cb, 1, none⟩ (.int .i64 j)) 4 0 5)).size, (bytesRow x (grownCap ((w.drewN m).setCell ⟨cb, 1, none⟩ (.int .i64 j)) 4 0 5)).size + 1))).drew) :=
    ((Below.refl _ _).alloc (by simp [World.setCell]) _).drew
  have hcell : ∀ k (hk : k < x.size), (((((w.drewN m).setCell ⟨cb, 1, none⟩ (.int .i64 j))).alloc (.cells (bytesRow x (grownCap ((w.drewN m).setCell ⟨cb, 1, none⟩ (.int .i64 j)) 4 0 5)) 5
      ((bytesRow x (grownCap ((w.drewN m).setCell ⟨cb, 1, none⟩ (.int .i64 j)) 4 0 5)).size, (bytesRow x (grownCap ((w.drewN m).setCell ⟨cb, 1, none⟩ (.int .i64 j)) 4 0 5)).size + 1))).drew).cell? ⟨w.heap.size, k, none⟩ = some (.int .u8 (x[k].toNat : Int)) := by
    intro k hk
    exact bytes_cell _ _ _ _ _ (by simp [World.setCell]) k hk
  clear hcv
  generalize ((((w.drewN m).setCell ⟨cb, 1, none⟩ (.int .i64 j))).alloc (.cells (bytesRow x (grownCap ((w.drewN m).setCell ⟨cb, 1, none⟩ (.int .i64 j)) 4 0 5)) 5
      ((bytesRow x (grownCap ((w.drewN m).setCell ⟨cb, 1, none⟩ (.int .i64 j)) 4 0 5)).size, (bytesRow x (grownCap ((w.drewN m).setCell ⟨cb, 1, none⟩ (.int .i64 j)) 4 0 5)).size + 1))).drew = w2 at *
  have HC := Lib.hid hcell
  have HW := Lib.hid hbw
  have HL := Lib.hid hlt
  clear hcell hbw hlt h
  go_loop [3, 10] (fun n i => ∃ k : Nat, k ≤ 4 ∧ i = .int .i64 k ∧ n = .int .u32 (be (x.data.toList.take k))) (fun _ i => 4 - (intOf i).toNat)
  case atStart => exact ⟨0, by omega, rfl, rfl⟩
  case round =>
    obtain ⟨k, hk, rfl, rfl⟩ := hrel
    by_cases hlt : k < 4
    · have hc := HC.out k (by have := HL.out; omega)
      have hb := be_range (x.data.toList.take k)
      have hs : Hid (bits BinOp.or IntKind.u32 (be (x.data.toList.take k) * 256 % 4294967296) ((x[k]'(by have := HL.out; omega)).toNat % 4294967296 : Int) = be (x.data.toList.take (k + 1))) := by
        rw [take_snoc x k (by have := HL.out; omega), be_snoc]
        exact or_shift _ _ hb.1 (x[k]'(by have := HL.out; omega)).toNat_lt
      go_wp2
      go_round
      case rel => exact ⟨k + 1, by omega, by go_num, by rw [hs.out]⟩
      case measure => simp [intOf]; omega
    · obtain rfl : k = 4 := by omega
      go_wp2
      go_ret
      refine ⟨?_, m, HW.out⟩
      rw [List.take_of_length_le (by have := HL.out; simp; omega)]
      rfl

/-- The number of the four bytes from k on. -/
def be4 (s : ByteArray) (k : Nat) : Int := be (s.extract k (k + 4)).data.toList

theorem u32_ok (cb k : Nat) (s : ByteArray) (w : World) (h : Cur w cb s k) (hk : k + 4 ≤ s.size) (hs : s.size ≤ 9223372036854775807) :
    Calls Tryz.prog 131 #[cptr cb] w fun e w' => e = .returned (.int .u32 (be4 s k)) ∧ Mv w.heap.size [cb] w w' ∧ Cur w' cb s (k + 4) := by
  have hsz : (s.extract k (k + 4)).size = 4 := by simp; omega
  refine (u32_of cb (k + 4) _ w hsz (take_ok cb k 4 s w h hk hs)).mono ?_
  rintro e w' ⟨rfl, m, hb⟩
  obtain ⟨h1, h2⟩ := Cur.put (j := k + 4) (h.drewN m) rfl
  exact ⟨rfl, (((Mv.refl _ _ _).drewN m).trans h1).trans (Mv.of_below hb _), h2.below hb h.lt⟩

set_option maxHeartbeats 400000 in
theorem u32_far (cb k : Nat) (s : ByteArray) (w : World) (h : Cur w cb s k) (hk : k ≤ s.size) (hk4 : s.size < k + 4) (hs : s.size ≤ 9223372036854775807) :
    Calls Tryz.prog 131 #[cptr cb] w fun e w' => e = pnc k 8 ∧ Drawn w w' := by
  go_enter Tryz.func131, Tryz.ntmps131
  go_wp2_with (go_at_call 141; refine (take_far cb k s 4 _ h hk hs (by omega) (by omega)).mono ?_; rintro e w1 ⟨rfl, hD⟩)
  exact ⟨rfl, rfl, hD⟩

end Go.Proofs.YtjaockmbnjflaaaGreatDoor
namespace Go.Proofs.YtjaockmbnjflaaaGreatDoor

/-- The number of four bytes at a place, the highest first. -/
def fourB (s : ByteArray) (i : Nat) : Nat := ((s[i]!.toNat * 256 + s[i + 1]!.toNat) * 256 + s[i + 2]!.toNat) * 256 + s[i + 3]!.toNat
theorem fourB_lt (s : ByteArray) (i : Nat) : fourB s i < 4294967296 := by
  have h0 := (s[i]!).toNat_lt
  have h1 := (s[i + 1]!).toNat_lt
  have h2 := (s[i + 2]!).toNat_lt
  have h3 := (s[i + 3]!).toNat_lt
  unfold fourB
  omega
abbrev ftypS : ByteArray := ⟨#[102, 116, 121, 112]⟩
abbrev mp4S : ByteArray := ⟨#[109, 112, 52]⟩
/-- Whether the fourth to the seventh byte say that it is a film. -/
def ftypB (s : ByteArray) : Bool := (s.extract 4 8).toList == ftypS.toList
/-- Whether a film's first box is whole. -/
def filmH (s : ByteArray) : Bool := decide (12 ≤ s.size) && (decide (fourB s 0 ≤ s.size) && (decide (fourB s 0 % 4 = 0) && ftypB s))
theorem filmH_all {s : ByteArray} (h : filmH s = true) : 12 ≤ s.size ∧ fourB s 0 ≤ s.size ∧ fourB s 0 % 4 = 0 ∧ ftypB s = true := by
  unfold filmH at h
  simp only [Bool.and_eq_true, decide_eq_true_eq] at h
  exact h
theorem filmH_short {s : ByteArray} (h : ¬12 ≤ s.size) : filmH s = false := by
  unfold filmH
  rw [show decide (12 ≤ s.size) = false from by simpa using h]
  rfl
theorem filmH_far {s : ByteArray} (h : ¬fourB s 0 ≤ s.size) : filmH s = false := by
  unfold filmH
  rw [show decide (fourB s 0 ≤ s.size) = false from by simpa using h]
  simp
theorem filmH_odd {s : ByteArray} (h : ¬fourB s 0 % 4 = 0) : filmH s = false := by
  unfold filmH
  rw [show decide (fourB s 0 % 4 = 0) = false from by simpa using h]
  simp
theorem filmH_else {s : ByteArray} (h0 : 12 ≤ s.size) (h1 : fourB s 0 ≤ s.size) (h2 : fourB s 0 % 4 = 0) : filmH s = ftypB s := by
  unfold filmH
  rw [show decide (12 ≤ s.size) = true from by simpa using h0, show decide (fourB s 0 ≤ s.size) = true from by simpa using h1, show decide (fourB s 0 % 4 = 0) = true from by simpa using h2]
  rfl

/-- How many names a film's first box has. -/
def namN (s : ByteArray) : Nat := if filmH s = true then (if 16 < fourB s 0 then (fourB s 0 - 12) / 4 else 1) else 0
/-- Where a name stands. -/
def namP (j : Nat) : Nat := if j = 0 then 8 else 12 + 4 * j
def namT (s : ByteArray) (j : Nat) : ByteArray := s.extract (namP j) (namP j + 4)
/-- The first k names. -/
def namL (s : ByteArray) : Nat → List ByteArray
  | 0 => []
  | k + 1 => namL s k ++ [namT s k]
theorem namN_none {s : ByteArray} (h : filmH s = false) : namN s = 0 := by
  unfold namN
  rw [h]
  rfl
theorem namN_is {s : ByteArray} (h : filmH s = true) : namN s = if 16 < fourB s 0 then (fourB s 0 - 12) / 4 else 1 := by
  unfold namN
  rw [if_pos h]
theorem namN_pos {s : ByteArray} (h : 0 < namN s) : filmH s = true := by
  cases e : filmH s
  · rw [namN_none e] at h; omega
  · rfl
theorem namN_some {s : ByteArray} (h : filmH s = true) : 1 ≤ namN s := by
  rw [namN_is h]
  split <;> omega
theorem namP_end {s : ByteArray} {j : Nat} (h : j < namN s) : namP j + 4 ≤ s.size := by
  have hf := namN_pos (by omega : 0 < namN s)
  obtain ⟨h0, h1, h2, _⟩ := filmH_all hf
  rw [namN_is hf] at h
  unfold namP
  split
  · omega
  · split at h <;> omega
theorem namT_size {s : ByteArray} {j : Nat} (h : j < namN s) : (namT s j).size = 4 := by
  have := namP_end h
  unfold namT
  simp
  omega
/-- A further name lies below the first box's end, and only such. -/
theorem namN_more {s : ByteArray} (h : filmH s = true) {j : Nat} (hj : 1 ≤ j) : j < namN s ↔ 12 + 4 * j < fourB s 0 := by
  obtain ⟨_, _, h2, _⟩ := filmH_all h
  rw [namN_is h]
  split <;> omega
theorem namN_le (s : ByteArray) : namN s ≤ s.size := by
  cases e : filmH s
  · rw [namN_none e]; omega
  · obtain ⟨h0, h1, h2, _⟩ := filmH_all e
    rw [namN_is e]
    split <;> omega
theorem namL_len (s : ByteArray) : ∀ k, (namL s k).length = k
  | 0 => rfl
  | k + 1 => by rw [namL, List.length_append, namL_len s k]; rfl
theorem namL_at (s : ByteArray) : ∀ (k i : Nat) (h : i < (namL s k).length), (namL s k)[i] = namT s i
  | 0, i, h => absurd h (by simp [namL])
  | k + 1, i, h => by
    have hl := namL_len s k
    by_cases e : i = k
    · subst e
      simp only [namL]
      rw [List.getElem_append_right (by omega)]
      simp [hl]
    · have h2 : i < (namL s k).length := by rw [hl]; rw [namL_len] at h; omega
      have := namL_at s k i h2
      simp only [namL]
      rw [List.getElem_append_left h2]
      exact this

/-- Whether a name begins as it must. -/
def mp4B (x : ByteArray) : Bool := (x.extract 0 3).toList == mp4S.toList
/-- Whether one of the first k names does. -/
def filmA (s : ByteArray) : Nat → Bool
  | 0 => false
  | k + 1 => filmA s k || mp4B (namT s k)
def filmB (s : ByteArray) : Bool := filmA s (namN s)
theorem filmA_on {s : ByteArray} {k : Nat} : ∀ {n : Nat}, k ≤ n → filmA s k = true → filmA s n = true
  | 0, h, e => by rw [show k = 0 from by omega] at e; exact e
  | n + 1, h, e => by
    by_cases hk : k = n + 1
    · rw [← hk]; exact e
    · rw [filmA, filmA_on (n := n) (by omega) e]; rfl
theorem filmB_here {s : ByteArray} {k : Nat} (h : k < namN s) (e : mp4B (namT s k) = true) : filmB s = true :=
  filmA_on (k := k + 1) (by omega) (by rw [filmA, e, Bool.or_true])

end Go.Proofs.YtjaockmbnjflaaaGreatDoor
namespace Go.Proofs.YtjaockmbnjflaaaGreatDoor
open Go.RowKit

theorem be4_four {s : ByteArray} {k : Nat} (h : k + 4 ≤ s.size) : be4 s k = (fourB s k : Int) := by
  unfold be4
  have e : (s.extract k (k + 4)).data.toList = [s[k], s[k + 1], s[k + 2], s[k + 3]] := by
    rw [bytes_extract_cons (by omega) (by omega), bytes_extract_cons (by omega) (by omega), bytes_extract_cons (by omega) (by omega), bytes_extract_cons (by omega) (by omega)]
    rw [List.cons.injEq, List.cons.injEq, List.cons.injEq, List.cons.injEq]
    refine ⟨rfl, rfl, rfl, rfl, ?_⟩
    simp
  rw [e]
  unfold fourB be
  rw [getElem!_pos s k (by omega), getElem!_pos s (k + 1) (by omega), getElem!_pos s (k + 2) (by omega), getElem!_pos s (k + 3) (by omega)]
  have h0 := s[k].toNat_lt
  have h1 := s[k + 1].toNat_lt
  have h2 := s[k + 2].toNat_lt
  have h3 := s[k + 3].toNat_lt
  simp only [List.foldl_cons, List.foldl_nil]
  omega

/-- The number of the first box; 0, if there is none. -/
def sizN (s : ByteArray) : Nat := if 4 ≤ s.size then fourB s 0 else 0
theorem sizN_lt (s : ByteArray) : sizN s < 4294967296 := by
  have := fourB_lt s 0
  unfold sizN
  split <;> omega

theorem sizeU_enter (a : Value) (w : World) : (callFunc 129 (#[] ++ #[a])).run Tryz.prog w = .ok (.enter 129 (#[] ++ #[a])) w := by simp [go_sem]

set_option maxHeartbeats 400000 in
theorem firstSize1_ok (b : Nat) (s : ByteArray) (w : World) (hb : Blk w b 9 #[.string s]) (hk : 4 ≤ s.size) (hs : s.size ≤ 9223372036854775807) :
    Calls Tryz.prog 129 #[.pointer (some ⟨b, 0, none⟩)] w fun e w' => e = .returned (.int .u32 (fourB s 0 : Nat)) ∧ Below w.heap.size w w' := by
  have c0 : w.cell? ⟨b, 0, none⟩ = some (.string s) := hb.cell 0
  have HC0 := Lib.hid (show Cur (w.alloc (.cells #[.string s, .int .i64 0] 129)) w.heap.size s 0 from Blk.new w 129 #[.string s, .int .i64 0])
  have HU := Lib.hid (u32_ok w.heap.size 0 s _ HC0.out (by omega) hs)
  rw [be4_four (by omega)] at HU
  clear hb hk
  go_enter Tryz.func129, Tryz.ntmps129
  go_wp2_with (first
    | (go_at_call 130; refine (new_any s _).mono ?_; rintro e w1 ⟨rfl, rfl⟩)
    | (go_at_call 131; refine HU.out.mono ?_; rintro e w2 ⟨rfl, hm, _⟩))
  go_ret
  exact ⟨rfl, ((Below.refl _ _).alloc (Nat.le_refl _) _).trans (hm.below (by simp) (by simp))⟩

set_option maxHeartbeats 400000 in
theorem firstSize1_far (b : Nat) (s : ByteArray) (w : World) (hb : Blk w b 9 #[.string s]) (hk : s.size < 4) (hs : s.size ≤ 9223372036854775807) :
    Calls Tryz.prog 129 #[.pointer (some ⟨b, 0, none⟩)] w fun e w' => e = pnc 0 8 ∧ Below w.heap.size w w' := by
  have c0 : w.cell? ⟨b, 0, none⟩ = some (.string s) := hb.cell 0
  have HC0 := Lib.hid (show Cur (w.alloc (.cells #[.string s, .int .i64 0] 129)) w.heap.size s 0 from Blk.new w 129 #[.string s, .int .i64 0])
  have HU := Lib.hid (u32_far w.heap.size 0 s _ HC0.out (by omega) (by omega) hs)
  clear hb hk
  go_enter Tryz.func129, Tryz.ntmps129
  go_wp2_with (first
    | (go_at_call 130; refine (new_any s _).mono ?_; rintro e w1 ⟨rfl, rfl⟩)
    | (go_at_call 131; refine HU.out.mono ?_; rintro e w2 ⟨rfl, hD⟩))
  exact ⟨rfl, rfl, ((Below.refl _ _).alloc (Nat.le_refl _) _).trans (hD.below.mono (by simp))⟩

set_option maxHeartbeats 1000000 in
theorem firstSize_any (s : ByteArray) (w : World) (hs : s.size ≤ 9223372036854775807) :
    Calls Tryz.prog 114 #[.string s] w fun e w' => e = .returned (.tuple #[.int .u32 (sizN s : Nat), .bool (decide (4 ≤ s.size))]) ∧ Below w.heap.size w w' := by
  have HB0 := Lib.hid (Blk.new w 9 #[.string s])
  have hmf := make_func
  by_cases hk : 4 ≤ s.size
  · have HV := Lib.hid (valueU32_returns 129 #[] #[.pointer (some ⟨w.heap.size, 0, none⟩)] (fourB s 0 : Nat) (w.alloc (.cells #[.string s] 9)) [] (fun _ => True) (none_lt _) (true_stable _) (sizeU_enter _)
      fun W hW => (firstSize1_ok w.heap.size s W (HB0.out.below hW (by simp)) hk hs).mono fun _ _ ⟨h1, h2⟩ => ⟨h1, Mv.of_below h2 _, trivial⟩)
    rw [show sizN s = fourB s 0 from if_pos hk, decide_eq_true hk]
    clear hk
    go_enter Tryz.func114, Tryz.ntmps114
    go_wp2_with (go_at_call 128; refine HV.out.mono ?_; rintro e w1 ⟨rfl, hm, _⟩)
    have hb := Lib.hid (((Below.refl w.heap.size w).alloc (Nat.le_refl _) (.cells #[.string s] 9)).trans ((hm.none_below).mono (by simp)))
    clear hm
    go_quiet (fail)
    go_wp2
    refine bodyPost_ret (v := .tuple #[.int .u32 _, .bool _]) (by simp [results, Tryz.results114, go_sem]) rfl ⟨rfl, Below.drewN' (hb.out.alloc hb.out.size _) _⟩
  · have HV := Lib.hid (valueU32_throws 129 #[] #[.pointer (some ⟨w.heap.size, 0, none⟩)] 0 8 (w.alloc (.cells #[.string s] 9)) [] (fun _ => True) (none_lt _) (true_stable _) (sizeU_enter _)
      fun W hW => (firstSize1_far w.heap.size s W (HB0.out.below hW (by simp)) (by omega) hs).mono fun _ _ ⟨h1, h2⟩ => ⟨h1, Mv.of_below h2 _, trivial⟩)
    rw [show sizN s = 0 from if_neg hk, decide_eq_false hk]
    clear hk
    go_enter Tryz.func114, Tryz.ntmps114
    go_wp2_with (go_at_call 128; refine HV.out.mono ?_; rintro e w1 ⟨rfl, hm, _⟩)
    have hb := Lib.hid (((Below.refl w.heap.size w).alloc (Nat.le_refl _) (.cells #[.string s] 9)).trans ((hm.none_below).mono (by simp)))
    clear hm
    go_quiet (fail)
    go_wp2
    refine bodyPost_ret (v := .tuple #[.int .u32 _, .bool _]) (by simp [results, Tryz.results114, go_sem]) rfl ⟨rfl, Below.drewN' (hb.out.alloc hb.out.size _) _⟩

set_option maxHeartbeats 400000 in
theorem mp4Size_any (s : ByteArray) (w : World) (hs : s.size ≤ 9223372036854775807) :
    Calls Tryz.prog 89 #[.string s] w fun e w' => e = .returned (.tuple #[.int .i64 (sizN s : Nat), .bool (decide (4 ≤ s.size))]) ∧ Below w.heap.size w w' := by
  have HF := Lib.hid (fun W => firstSize_any s W hs)
  have hlt := sizN_lt s
  generalize sizN s = n at *
  go_enter Tryz.func89, Tryz.ntmps89
  go_wp2_with (go_at_call 114; refine (HF.out _).mono ?_; rintro e w1 ⟨rfl, hb⟩)
  refine bodyPost_ret (v := .tuple #[.int .i64 _, .bool _]) (by simp [results, Tryz.results89, go_sem]) rfl ⟨rfl, hb⟩

set_option maxHeartbeats 1000000 in
theorem mp4Head_any (s : ByteArray) (w : World) (hs : s.size ≤ 9223372036854775807) :
    Calls Tryz.prog 88 #[.string s] w fun e w' => e = .returned (.bool (filmH s)) ∧ Below w.heap.size w w' := by
  by_cases h0 : 12 ≤ s.size
  · have HF := Lib.hid (fun W => firstSize_any s W hs)
    rw [show sizN s = fourB s 0 from if_pos (by omega), decide_eq_true (by omega : 4 ≤ s.size)] at HF
    have hn := fourB_lt s 0
    have HX := Lib.hid (filmH_far (s := s))
    have HY := Lib.hid (filmH_odd (s := s))
    have HZ := Lib.hid (fun h1 h2 => filmH_else (s := s) h0 h1 h2)
    have hft : Hid (ftypB s = ((s.extract 4 8).toList == [102, 116, 121, 112])) := by unfold ftypB; rw [show ftypS.toList = [102, 116, 121, 112] from by kernel_rfl]; exact rfl
    generalize fourB s 0 = n at *
    by_cases h1 : n ≤ s.size
    · by_cases h2 : n % 4 = 0
      · have HV := Lib.hid (HZ.out h1 h2)
        cases hc : ((s.extract 4 8).toList == [102, 116, 121, 112])
        all_goals
          have HE := Lib.hid (show filmH s = _ from HV.out.trans (hft.out.trans hc))
          rw [HE.out]
          clear HX HY HZ HV hft HE
          go_enter Tryz.func88, Tryz.ntmps88
          go_wp2_with (go_at_call 114; refine (HF.out _).mono ?_; rintro e w1 ⟨rfl, hb⟩)
          go_ret
          exact ⟨rfl, hb⟩
      · have HV := Lib.hid (HY.out h2)
        rw [HV.out]
        clear HX HY HZ HV hft
        go_enter Tryz.func88, Tryz.ntmps88
        go_wp2_with (go_at_call 114; refine (HF.out _).mono ?_; rintro e w1 ⟨rfl, hb⟩)
        go_ret
        exact ⟨rfl, hb⟩
    · have HV := Lib.hid (HX.out h1)
      rw [HV.out]
      clear HX HY HZ HV hft
      go_enter Tryz.func88, Tryz.ntmps88
      go_wp2_with (go_at_call 114; refine (HF.out _).mono ?_; rintro e w1 ⟨rfl, hb⟩)
      go_ret
      exact ⟨rfl, hb⟩
  · rw [filmH_short h0]
    go_enter Tryz.func88, Tryz.ntmps88
    go_wp2
    go_ret
    exact ⟨rfl, Below.refl _ _⟩

end Go.Proofs.YtjaockmbnjflaaaGreatDoor
