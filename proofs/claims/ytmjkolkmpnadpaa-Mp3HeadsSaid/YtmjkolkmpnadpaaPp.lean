/-
  The document's own answer for layer 18: a frame's bytes. No condition.
-/
import Derived.Test.YtmjkolkmpnadpaaPo
import Derived.Lib.AppendZerosOnto
import Derived.Lib.SlBytesRow
namespace Go.Proofs.Ytmjkolkmpnadpaa
open Go.RowKit

theorem szF_ge {f : Frm} (h : 4 ≤ szF f) : 12 ≤ szF f := by
  cases hg : gdB f
  · rw [szF_no hg] at h
    omega
  · obtain ⟨v, l, r, q, p⟩ := f
    rw [szF_yes hg] at h ⊢
    simp only at h ⊢
    have hh := hg
    obtain ⟨a1, a2, a3, a4, a5, a6, a7⟩ := gdB_all hg
    simp only at a1 a2 a3 a4 a5 a6 a7
    subst a3
    rw [gdB_parts ⟨a1, a2⟩ rfl, Bool.and_eq_true] at hh
    obtain ⟨n, hn, e⟩ := List.any_eq_true.1 hh.1
    have e := of_decide_eq_true e
    have hr : n = 0 ∨ 8000 ≤ n := by
      have : (ratL (oddB v)).all (fun n => decide (n = 0) || decide (8000 ≤ n)) = true := by cases oddB v <;> rfl
      simpa using List.all_eq_true.1 this n hn
    have hl : 72 ≤ lenN v / 8 := by unfold lenN; split <;> decide
    rcases hr with rfl | hr
    · have e0 : r.toNat = 0 := by omega
      rw [e0, Nat.zero_mul, Nat.zero_div] at h
      have : (if p = true then 1 else 0) ≤ 1 := by split <;> omega
      omega
    · have b1 : 8000 * 72 ≤ r.toNat * (lenN v / 8) := Nat.mul_le_mul (by omega) hl
      have b2 : 8000 * 72 / q.toNat ≤ r.toNat * (lenN v / 8) / q.toNat := Nat.div_le_div_right b1
      have b3 : 12 ≤ 8000 * 72 / q.toNat := by rw [Nat.le_div_iff_mul_le (by omega)]; omega
      omega

theorem Try.infoU8b : (Try.prog.info? 5).map (fun i => (i.zero, i.size, i.bytes)) = some (some (.int .u8 0), 1, 1) := by kernel_rfl
/-- The cells of a head. -/
def fourC (b c : UInt8) : Array Value := #[.int .u8 255, .int .u8 (b.toNat : Int), .int .u8 (c.toNat : Int), .int .u8 0]
theorem nought_cells (k : Nat) : (Builtin.zeroCells (Value.int .u8 0).cells k).toList = List.replicate k (.int .u8 0) := by
  unfold Builtin.zeroCells Value.cells
  rw [show (#[Value.int .u8 0] : Array Value).size = 1 from rfl, Nat.mul_one]
  apply List.ext_getElem
  · simp
  · intro i h1 h2
    simp [Nat.mod_one]
theorem frmS_list (b c : UInt8) (k : Nat) : (headS b c ++ nouS k).data.toList = 255 :: b :: c :: 0 :: List.replicate k 0 := by
  have : (headS b c ++ nouS k).data = (headS b c).data ++ (nouS k).data := ByteArray.data_append
  rw [this]
  show (#[255, b, c, 0] ++ (List.replicate k (0 : UInt8)).toArray).toList = _
  simp

theorem append_noughts (b c : UInt8) (g k : Nat) (ty : TypeId) (W : World) (h : Blk W g 5 (fourC b c)) (h0 : 8 ≤ k) (h1 : k ≤ 2000) :
    ∃ cap W', (Builtin.append_ #[54, 3] ty #[.slice (some ⟨g, 0, none⟩) 4 4, .int .i64 k]).run Try.prog W = .ok (.slice (some ⟨W.heap.size, 0, none⟩) (4 + k) cap) W' ∧ Below W.heap.size W W' ∧
      (convert 54 9 (.slice (some ⟨W.heap.size, 0, none⟩) (4 + k) cap)).run Try.prog W' = .ok (.string (headS b c ++ nouS k)) W' := by
  obtain ⟨i0, hi, hz0, hz1, hz2⟩ := info_parts Try.infoU8b
  have hnx : Builtin.nextslicecap (4 + k) 4 = 4 + k := by unfold Builtin.nextslicecap; simp; omega
  have hr := Lib.run_append_grow_zeros (P := Try.prog) W 54 3 ty 5 i0 (.int .u8 0) .i64 .i64 Try.underlying54 Try.underlying3 hi hz0 (some ⟨g, 0, none⟩) 4 4 (fourC b c).toList
    (run_firstCells_some _ _ _ _ _ _ _ (by rw [hz1]; rfl) (fun j v hj => by
      have e : (⟨g, 0, none⟩ : Addr).add j = ⟨g, j, none⟩ := by cases j <;> simp [Addr.add]
      rw [e]
      exact (Blk.cell (Blk.drew h) j).trans (by simpa using hj))) k (by omega) (by rw [hz1]; decide) (by omega) (by omega) (by rw [hz2]; omega) (by rw [hz2, hnx]; omega)
  refine ⟨_, _, hr, (Below.refl W.heap.size W).drew.alloc (Nat.le_refl _) _, ?_⟩
  have hl : (255 :: b :: c :: (0 : UInt8) :: List.replicate k 0).length = 4 + k := by simp; omega
  have := run_convert_bytes_back (P := Try.prog) (W.drew.alloc (.cells ((fourC b c).toList.toArray ++ Builtin.zeroCells (Value.int .u8 0).cells k ++ Builtin.zeroCells (Value.int .u8 0).cells (grownCap W (4 + k) 4 5 - (4 + k))) 5)) 54 9 5 ⟨W.heap.size, 0, none⟩ (grownCap W (4 + k) 4 5) (255 :: b :: c :: (0 : UInt8) :: List.replicate k 0) Try.underlying54 Try.underlying5 Try.underlying9 (fun j hj => by
    have e : (⟨W.heap.size, 0, none⟩ : Addr).add j = ⟨W.heap.size, j, none⟩ := by cases j <;> simp [Addr.add]
    rw [e]
    refine (Blk.cell (Blk.new W.drew _ _) j).trans ?_
    rw [hl] at hj
    rw [← Array.getElem?_toList, Array.toList_append, Array.toList_append, nought_cells, List.getElem?_append_left (by simp [fourC]; omega)]
    match j, hj with
    | 0, _ => rfl
    | 1, _ => rfl
    | 2, _ => rfl
    | 3, _ => rfl
    | j + 4, hj =>
      have hj2 : j < k := by omega
      simp [fourC, hj2])
  rw [hl] at this
  rw [this]
  refine congrArg (fun x => Result.ok (Value.string x) _) ?_
  have e := frmS_list b c k
  generalize headS b c ++ nouS k = x at *
  cases x with | mk d => exact congrArg ByteArray.mk (by rw [← e])

theorem head_back (b c : UInt8) (g : Nat) (W : World) (h : Blk W g 5 (fourC b c)) :
    (convert 54 9 (.slice (some ⟨g, 0, none⟩) 4 4)).run Try.prog W = .ok (.string (headS b c)) W := by
  have := run_convert_bytes_back (P := Try.prog) W 54 9 5 ⟨g, 0, none⟩ 4 [255, b, c, 0] Try.underlying54 Try.underlying5 Try.underlying9 (fun j hj => by
    have e : (⟨g, 0, none⟩ : Addr).add j = ⟨g, j, none⟩ := by cases j <;> simp [Addr.add]
    rw [e, h.cell]
    match j, hj with
    | 0, _ => rfl
    | 1, _ => rfl
    | 2, _ => rfl
    | 3, _ => rfl)
  exact this

/-- What is made of two bytes: a frame, or nothing. -/
def twoS (b c : UInt8) : ByteArray := if 4 ≤ szF (hdF (headS b c)) then frmS b c else ⟨#[]⟩

set_option maxHeartbeats 2000000 in
theorem rframe_any (b c : UInt8) (w : World) :
    Calls Try.prog 22 #[.int .u8 (b.toNat : Int), .int .u8 (c.toNat : Int)] w fun e w' => e = .returned (.string (twoS b c)) ∧ Below w.heap.size w w' := by
  obtain ⟨d, hd⟩ : ∃ d, d = twoS b c := ⟨_, rfl⟩
  rw [← hd]
  have HD := Lib.hid hd
  clear hd
  have HC := Lib.hid (head_back b c w.heap.size _ (Blk.new w 5 (fourC b c)))
  have HH := Lib.hid (fun W => rhead_any (headS b c) W (by rw [headS_size]; decide))
  have HS := Lib.hid (fun W => rsize_any (hdF (headS b c)) W)
  have hz := szF_le (hdF (headS b c))
  have hge := szF_ge (f := hdF (headS b c))
  have HX : Hid (frmS b c = headS b c ++ nouS (szF (hdF (headS b c)) - 4)) := rfl
  have HT : Hid (twoS b c = if 4 ≤ szF (hdF (headS b c)) then frmS b c else ⟨#[]⟩) := rfl
  have HA := Lib.hid (fun k W (h : Blk W w.heap.size 5 (fourC b c)) => append_noughts b c w.heap.size k 54 W h)
  generalize szF (hdF (headS b c)) = n at *
  generalize hdF (headS b c) = f at *
  obtain ⟨v, l, r, q, p⟩ := f
  have hcv : (convert 54 9 (.slice (some ⟨w.heap.size, 0, none⟩) 4 4)).run Try.prog (w.alloc (.cells #[.int .u8 255, .int .u8 (b.toNat : Int), .int .u8 (c.toNat : Int), .int .u8 0] 5)) = .ok (.string (headS b c)) (w.alloc (.cells #[.int .u8 255, .int .u8 (b.toNat : Int), .int .u8 (c.toNat : Int), .int .u8 0] 5)) := HC.out
  have HK0 := Lib.hid (Blk.new w 5 (fourC b c))
  have HB0 := Lib.hid ((Below.refl w.heap.size w).alloc (Nat.le_refl _) (.cells (fourC b c) 5))
  by_cases h4 : 4 ≤ n
  · have h12 := hge h4
    have HD2 := Lib.hid (show d = headS b c ++ nouS (n - 4) from by rw [HD.out, HT.out, if_pos h4, HX.out])
    clear hge HX HT HC HD
    generalize headS b c = hs at *
    obtain ⟨k, rfl⟩ : ∃ k, n = k + 4 := ⟨n - 4, by omega⟩
    rw [Nat.add_sub_cancel] at HD2
    have h8 : 8 ≤ k := by omega
    have h2000 : k ≤ 2000 := by omega
    have d4 : ((k : Int) + 4 < 4) = False := by simp; omega
    go_enter Try.func22, Try.ntmps22
    go_wp2_with (first
      | (go_at_call 9; (with_reducible refine (HH.out _).mono ?_); rintro e w1 ⟨rfl, hb⟩; have HK1 := Lib.hid (HK0.out.below hb HK0.out.lt); have HB1 := Lib.hid (HB0.out.trans (hb.mono HB0.out.size)); clear hb)
      | (go_at_call 12; (with_reducible refine (HS.out _).mono ?_); rintro e w2 ⟨rfl, hb⟩; have HK2 := Lib.hid (HK1.out.below hb HK1.out.lt); have HB2 := Lib.hid (HB1.out.trans (hb.mono HB1.out.size)); clear hb)
      | (at_builtin; obtain ⟨cap, w3, hr, hb3, hc3⟩ := HA.out k w2 HK2.out h8 h2000; have HB3 := Lib.hid (HB2.out.trans (hb3.mono HB2.out.size)); refine Lib.wpList_append_run _ rfl _ _ _ _ rfl _ _ rfl rfl _ _ hr ?_; clear hr hb3))
    go_ret
    exact ⟨by rw [HD2.out]; first | done | rfl, HB3.out⟩
  · have HD2 := Lib.hid (show d = ⟨#[]⟩ from by rw [HD.out, HT.out, if_neg h4])
    clear hge HX HT HC HD HA
    generalize headS b c = hs at *
    go_enter Try.func22, Try.ntmps22
    go_wp2_with (first
      | (go_at_call 9; (with_reducible refine (HH.out _).mono ?_); rintro e w1 ⟨rfl, hb⟩; have HK1 := Lib.hid (HK0.out.below hb HK0.out.lt); have HB1 := Lib.hid (HB0.out.trans (hb.mono HB0.out.size)); clear hb)
      | (go_at_call 12; (with_reducible refine (HS.out _).mono ?_); rintro e w2 ⟨rfl, hb⟩; have HK2 := Lib.hid (HK1.out.below hb HK1.out.lt); have HB2 := Lib.hid (HB1.out.trans (hb.mono HB1.out.size)); clear hb))
    go_ret
    exact ⟨by rw [HD2.out]; first | done | rfl, HB2.out⟩

end Go.Proofs.Ytmjkolkmpnadpaa
