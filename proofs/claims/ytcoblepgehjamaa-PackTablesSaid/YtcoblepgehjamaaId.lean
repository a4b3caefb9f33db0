/-
  What Exact and Table of the document's own answer of layer 13. Condition of Exact: the text is not longer than memory.
-/
import Derived.Test.YtcoblepgehjamaaIa
import Derived.Test.YtcoblepgehjamaaMv
import Derived.LoopTactic
import Derived.Laws.OwnMore
import Derived.Laws.AppendOwn
import Derived.BigQuiet
import Derived.Deep.QuietTactic
import Derived.OwnWalk
namespace Go.Proofs.Ytcoblepgehjamaa
open Go.RowKit

/-- The cells of the first k bytes. -/
def rowL (m : ByteArray) (k : Nat) : List Value := (m.data.toList.take k).map fun b => .int .u8 (b.toNat : Int)
theorem rowL_succ {m : ByteArray} {k : Nat} (h : k < m.size) {x : Int} (hx : x = (m[k].toNat : Int)) : rowL m (k + 1) = rowL m k ++ [.int .u8 x] := by
  unfold rowL
  rw [hx, List.take_add_one]
  have : m.data.toList[k]? = some m[k] := by
    rw [List.getElem?_eq_getElem (by simpa using h)]
    rfl
  rw [this]
  simp
theorem rowL_at {m : ByteArray} {j : Nat} (h : j < m.size) : (rowL m m.size)[j]? = some (.int .u8 (m[j].toNat : Int)) := by
  unfold rowL
  rw [List.take_of_length_le (by simp), List.getElem?_map]
  have : m.data.toList[j]? = some m[j] := by
    rw [List.getElem?_eq_getElem (by simpa using h)]
    rfl
  rw [this]
  rfl
theorem rowL_back {m : ByteArray} {v : Value} {W : World} {base : Nat} (h : W.ownsRow base 5 1 v m.size (rowL m m.size)) :
    (convert 46 9 v).run Try.prog W = .ok (.string m) W := by
  have hl : m.data.toList.length = m.size := by simp
  have h' := h
  rcases h.2 with ⟨rfl, h0⟩ | ⟨g, cap, cur, rfl, _⟩
  · have e : m = ByteArray.empty := by
      cases m with | mk d => have : d = #[] := Array.eq_empty_of_size_eq_zero h0; rw [this]; rfl
    rw [e]
    exact run_convert_bytes_nil (P := Try.prog) W 46 5 Try.underlying46 Try.underlying5 0 0 9 Try.underlying9
  · have := run_convert_bytes_back (P := Try.prog) W 46 9 5 ⟨g, 0, none⟩ cap m.data.toList Try.underlying46 Try.underlying5 Try.underlying9 (fun j hj => by
      have hj' : j < m.size := by omega
      have e : (⟨g, 0, none⟩ : Addr).add j = ⟨g, j, none⟩ := by cases j <;> simp [Addr.add]
      rw [e, h'.cellAt j (by omega), rowL_at hj']
      rfl)
    rw [hl] at this
    simpa using this
theorem infoU8 : (Try.prog.info? 5).map (fun i => (i.zero, i.size, i.bytes)) = some (some (.int .u8 0), 1, 1) := by kernel_rfl

/-- The mask of n bytes of which those from place a up to place b do not count. -/
def exM (n : Nat) (a b : Int) : ByteArray := ⟨((List.range n).map fun i : Nat => if a ≤ (i : Int) ∧ (i : Int) < b then (0 : UInt8) else 255).toArray⟩
theorem exM_size (n : Nat) (a b : Int) : (exM n a b).size = n := by
  show (((List.range n).map _).toArray).size = n
  simp
theorem exM_at {n : Nat} {a b : Int} {k : Nat} (h : k < n) : (exM n a b)[k]'(by rw [exM_size]; exact h) = if a ≤ (k : Int) ∧ (k : Int) < b then (0 : UInt8) else 255 := by
  have e : (exM n a b)[k]'(by rw [exM_size]; exact h) = (((List.range n).map fun i : Nat => if a ≤ (i : Int) ∧ (i : Int) < b then (0 : UInt8) else 255).toArray)[k]'(by simpa using h) := rfl
  rw [e]
  simp

theorem own_fresh {w : World} {base g : Nat} (hg : g = w.heap.size) (hb : base ≤ w.heap.size) : (w.alloc (.cells #[] 5)).ownsRow base 5 1 (.slice (some ⟨g, 0, none⟩) 0 0) 0 [] := by
  subst hg
  exact World.ownsRow_made w #[] 0 hb (Nat.zero_le _) rfl

set_option maxHeartbeats 2000000 in
theorem rExact_any (t kd : ByteArray) (a b : Int) (w : World) (ht : t.size ≤ 140737488351232) :
    Calls Try.prog 22 #[.string t, .string kd, .int .i64 a, .int .i64 b] w fun e w' => e = .returned (patV t (exM t.size a b) ⟨#[]⟩ kd) ∧ Below w.heap.size w w' := by
  obtain ⟨i0, hi, hz0, hz1, hz2⟩ := info_parts infoU8
  obtain ⟨w0, hw0⟩ : ∃ w0, w0 = w.alloc (.cells #[.string ⟨#[]⟩, .string ⟨#[]⟩, .string ⟨#[]⟩, .string ⟨#[]⟩] 40) := ⟨_, rfl⟩
  have HB0 := Lib.hid (show Below w.heap.size w w0 from by rw [hw0]; exact (Below.refl w.heap.size w).alloc (Nat.le_refl _) _)
  have HP := Lib.hid (show Blk w0 w.heap.size 40 #[.string ⟨#[]⟩, .string ⟨#[]⟩, .string ⟨#[]⟩, .string ⟨#[]⟩] from by rw [hw0]; exact Blk.new _ _ _)
  have HZ := Lib.hid (show w0.heap.size = w.heap.size + 1 from by rw [hw0]; simp)
  have HM := Lib.hid (exM_size t.size a b)
  have HA := Lib.hid (fun k (h : k < t.size) => exM_at (a := a) (b := b) h)
  go_enter Try.func22, Try.ntmps22
  go_wp2
  rw [← hw0]
  go_loopw [9, 10] (fun v i wr => ∃ k : Nat, k ≤ t.size ∧ i = .int .i64 k ∧ wr.ownsRow w0.heap.size 5 1 v k (rowL (exM t.size a b) k) ∧ Below w0.heap.size w0 wr) (fun _ i _ => t.size - (intOf i).toNat)
  case atStart => exact ⟨0, Nat.zero_le _, rfl, own_fresh HZ.out.symm (Nat.le_refl _), (Below.refl _ _).alloc (Nat.le_refl _) _⟩
  case round =>
    obtain ⟨k, hk, rfl, hown, hW⟩ := hrel
    have HO := Lib.hid hown
    have HW := Lib.hid hW
    have HS := Lib.hid hW.size
    clear hown hW hw0
    by_cases hlt : k < t.size
    · obtain ⟨x, hx, hd⟩ : ∃ x : Int, x = ((if a ≤ (k : Int) ∧ (k : Int) < b then (0 : UInt8) else 255).toNat : Int) ∧ (x = 0 ∧ decide (a ≤ (k : Int)) = true ∧ decide ((k : Int) < b) = true ∨ x = 255 ∧ decide (a ≤ (k : Int)) = true ∧ decide ((k : Int) < b) = false ∨ x = 255 ∧ decide (a ≤ (k : Int)) = false) := by
        refine ⟨_, rfl, ?_⟩
        by_cases h1 : a ≤ (k : Int) <;> by_cases h2 : (k : Int) < b <;> simp [h1, h2]
      have HX := Lib.hid (rowL_succ (m := exM t.size a b) (k := k) (x := x) (by rw [exM_size]; exact hlt) (by rw [HA.out k hlt]; exact hx))
      clear hx
      rcases hd with ⟨rfl, d1, d2⟩ | ⟨rfl, d1, d2⟩ | ⟨rfl, d1⟩
      · go_wp2_with (at_builtin; refine wpList_append_own _ rfl _ _ 46 rfl w0.heap.size 5 i0 (.int .u8 0) 1 1 Try.underlying46 hi hz0 hz1 hz2 rfl (by decide) _ _ _ rfl (HO.out.alloc _) ⟨wr.heap.size, 0, none⟩ 1 1 [.int .u8 0] rfl rfl ?_ ?_ ?_ ?_ ?_ ?_)
        · intro j u hj
          match j, hj with
          | 0, hj => simp at hj; subst hj; simp [Addr.add]
        · intro u hu; simp at hu; subst hu; rfl
        · unfold maxLen; omega
        · omega
        · have := HS.out; simp; omega
        · intro v' w1 hown' hgrow _
          have hown2 : w1.ownsRow w0.heap.size 5 1 v' (k + 1) (rowL (exM t.size a b) (k + 1)) := by rw [HX.out]; exact hown'
          have HO2 := Lib.hid hown2
          have HG := Lib.hid (Below.grown (HW.out.alloc HS.out _) hgrow (by have := HS.out; simp; omega) (fun g hg => (HO.out.lt g hg).1))
          clear hown2 hown' hgrow
          go_wp2
          go_roundw
          case rel => exact ⟨k + 1, by omega, by go_num, HO2.out, HG.out⟩
          case measure => simp [intOf]; omega
      · go_wp2_with (at_builtin; refine wpList_append_own _ rfl _ _ 46 rfl w0.heap.size 5 i0 (.int .u8 0) 1 1 Try.underlying46 hi hz0 hz1 hz2 rfl (by decide) _ _ _ rfl (HO.out.alloc _) ⟨wr.heap.size, 0, none⟩ 1 1 [.int .u8 255] rfl rfl ?_ ?_ ?_ ?_ ?_ ?_)
        · intro j u hj
          match j, hj with
          | 0, hj => simp at hj; subst hj; simp [Addr.add]
        · intro u hu; simp at hu; subst hu; rfl
        · unfold maxLen; omega
        · omega
        · have := HS.out; simp; omega
        · intro v' w1 hown' hgrow _
          have hown2 : w1.ownsRow w0.heap.size 5 1 v' (k + 1) (rowL (exM t.size a b) (k + 1)) := by rw [HX.out]; exact hown'
          have HO2 := Lib.hid hown2
          have HG := Lib.hid (Below.grown (HW.out.alloc HS.out _) hgrow (by have := HS.out; simp; omega) (fun g hg => (HO.out.lt g hg).1))
          clear hown2 hown' hgrow
          go_wp2
          go_roundw
          case rel => exact ⟨k + 1, by omega, by go_num, HO2.out, HG.out⟩
          case measure => simp [intOf]; omega
      · go_wp2_with (at_builtin; refine wpList_append_own _ rfl _ _ 46 rfl w0.heap.size 5 i0 (.int .u8 0) 1 1 Try.underlying46 hi hz0 hz1 hz2 rfl (by decide) _ _ _ rfl (HO.out.alloc _) ⟨wr.heap.size, 0, none⟩ 1 1 [.int .u8 255] rfl rfl ?_ ?_ ?_ ?_ ?_ ?_)
        · intro j u hj
          match j, hj with
          | 0, hj => simp at hj; subst hj; simp [Addr.add]
        · intro u hu; simp at hu; subst hu; rfl
        · unfold maxLen; omega
        · omega
        · have := HS.out; simp; omega
        · intro v' w1 hown' hgrow _
          have hown2 : w1.ownsRow w0.heap.size 5 1 v' (k + 1) (rowL (exM t.size a b) (k + 1)) := by rw [HX.out]; exact hown'
          have HO2 := Lib.hid hown2
          have HG := Lib.hid (Below.grown (HW.out.alloc HS.out _) hgrow (by have := HS.out; simp; omega) (fun g hg => (HO.out.lt g hg).1))
          clear hown2 hown' hgrow
          go_wp2
          go_roundw
          case rel => exact ⟨k + 1, by omega, by go_num, HO2.out, HG.out⟩
          case measure => simp [intOf]; omega
    · obtain rfl : k = t.size := by omega
      have HO2 := Lib.hid (show wr.ownsRow w0.heap.size 5 1 u9 (exM t.size a b).size (rowL (exM t.size a b) (exM t.size a b).size) from by rw [HM.out]; exact HO.out)
      have hback := rowL_back HO2.out
      have HQ := Lib.hid (HP.out.below HW.out HP.out.lt)
      have p0 := HQ.out.cell 0
      have p1 := HQ.out.cell 1
      have p2 := HQ.out.cell 2
      have p3 := HQ.out.cell 3
      have q0 := HQ.out.frozen 0
      have q1 := HQ.out.frozen 1
      have q2 := HQ.out.frozen 2
      have q3 := HQ.out.frozen 3
      have HY := Lib.hid (HB0.out.trans (HW.out.mono HB0.out.size))
      go_wp2
      exact bodyPost_ret (v := patV t (exM t.size a b) ⟨#[]⟩ kd) (by simp [results, Try.results22, go_sem, p0, p1, p2, p3]) rfl ⟨rfl, (((HY.out.setCell (by simp) _).setCell (by simp) _).setCell (by simp) _).setCell (by simp) _⟩

end Go.Proofs.Ytcoblepgehjamaa

