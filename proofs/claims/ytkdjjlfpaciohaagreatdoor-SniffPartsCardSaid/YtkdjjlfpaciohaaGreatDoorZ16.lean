/-
  What Exact and Table of the document's own answer of layer 13. Condition of Exact: the text is not longer than memory.
  What sign and Signs of package unknown answer, and the document's own Signs: the four patterns, in a block of their own. No condition.
  Plain facts on bytes that are no text. No condition.
-/
import Derived.Test.YtkdjjlfpaciohaaGreatDoorZ15
import Derived.LoopTactic
import Derived.Laws.OwnMore
import Derived.Laws.AppendOwn
import Derived.Test.YtkdjjlfpaciohaaGreatDoorZ8
import Derived.Test.YtkdjjlfpaciohaaGreatDoorZ6
import Derived.Test.YtkdjjlfpaciohaaGreatDoorZ1
namespace Go.Proofs.YtkdjjlfpaciohaaGreatDoor
open Go.RowKit

/-- The cells of the first k bytes. -/
def rowL (m : ByteArray) (k : Nat) : List Value := (m.data.toList.take k).map fun b => .int .u8 (b.toNat : Int)
theorem rowL_succ {m : ByteArray} {k : Nat} (h : k < m.size) {x : Int} (hx : x = (m[k].toNat : Int)) : rowL m (k + 1) = rowL m k ++ [.int .u8 x] := by
  unfold rowL
  rw [hx, List.take_add_one]
  have : m.data.toList[k]? = some m[k] := by
    rw [List.getElem?_eq_getElem (by simpa using h)]
    rfl
  rw [this]
  simp
theorem rowL_at {m : ByteArray} {j : Nat} (h : j < m.size) : (rowL m m.size)[j]? = some (.int .u8 (m[j].toNat : Int)) := by
  unfold rowL
  rw [List.take_of_length_le (by simp), List.getElem?_map]
  have : m.data.toList[j]? = some m[j] := by
    rw [List.getElem?_eq_getElem (by simpa using h)]
    rfl
  rw [this]
  rfl
theorem rowL_back {m : ByteArray} {v : Value} {W : World} {base : Nat} (h : W.ownsRow base 5 1 v m.size (rowL m m.size)) :
    (convert 62 9 v).run Tryz.prog W = .ok (.string m) W := by
  have hl : m.data.toList.length = m.size := by simp
  have h' := h
  rcases h.2 with ⟨rfl, h0⟩ | ⟨g, cap, cur, rfl, _⟩
  · have e : m = ByteArray.empty := by
      cases m with | mk d => have : d = #[] := Array.eq_empty_of_size_eq_zero h0; rw [this]; rfl
    rw [e]
    exact run_convert_bytes_nil (P := Tryz.prog) W 62 5 Tryz.underlying62 Tryz.underlying5 0 0 9 Tryz.underlying9
  · have := run_convert_bytes_back (P := Tryz.prog) W 62 9 5 ⟨g, 0, none⟩ cap m.data.toList Tryz.underlying62 Tryz.underlying5 Tryz.underlying9 (fun j hj => by
      have hj' : j < m.size := by omega
      have e : (⟨g, 0, none⟩ : Addr).add j = ⟨g, j, none⟩ := by cases j <;> simp [Addr.add]
      rw [e, h'.cellAt j (by omega), rowL_at hj']
      rfl)
    rw [hl] at this
    simpa using this
theorem infoU8 : (Tryz.prog.info? 5).map (fun i => (i.zero, i.size, i.bytes)) = some (some (.int .u8 0), 1, 1) := by kernel_rfl

/-- The mask of n bytes of which those from place a up to place b do not count. -/
def exM (n : Nat) (a b : Int) : ByteArray := ⟨((List.range n).map fun i : Nat => if a ≤ (i : Int) ∧ (i : Int) < b then (0 : UInt8) else 255).toArray⟩
theorem exM_size (n : Nat) (a b : Int) : (exM n a b).size = n := by
  show (((List.range n).map _).toArray).size = n
  simp
theorem exM_at {n : Nat} {a b : Int} {k : Nat} (h : k < n) : (exM n a b)[k]'(by rw [exM_size]; exact h) = if a ≤ (k : Int) ∧ (k : Int) < b then (0 : UInt8) else 255 := by
  have e : (exM n a b)[k]'(by rw [exM_size]; exact h) = (((List.range n).map fun i : Nat => if a ≤ (i : Int) ∧ (i : Int) < b then (0 : UInt8) else 255).toArray)[k]'(by simpa using h) := rfl
  rw [e]
  simp

theorem own_fresh {w : World} {base g : Nat} (hg : g = w.heap.size) (hb : base ≤ w.heap.size) : (w.alloc (.cells #[] 5)).ownsRow base 5 1 (.slice (some ⟨g, 0, none⟩) 0 0) 0 [] := by
  subst hg
  exact World.ownsRow_made w #[] 0 hb (Nat.zero_le _) rfl

set_option maxHeartbeats 2000000 in
theorem rExact_any (t kd : ByteArray) (a b : Int) (w : World) (ht : t.size ≤ 140737488351232) :
    Calls Tryz.prog 60 #[.string t, .string kd, .int .i64 a, .int .i64 b] w fun e w' => e = .returned (patV t (exM t.size a b) ⟨#[]⟩ kd) ∧ Below w.heap.size w w' := by
  obtain ⟨i0, hi, hz0, hz1, hz2⟩ := info_parts infoU8
  obtain ⟨w0, hw0⟩ : ∃ w0, w0 = w.alloc (.cells #[.string ⟨#[]⟩, .string ⟨#[]⟩, .string ⟨#[]⟩, .string ⟨#[]⟩] 54) := ⟨_, rfl⟩
  have HB0 := Lib.hid (show Below w.heap.size w w0 from by rw [hw0]; exact (Below.refl w.heap.size w).alloc (Nat.le_refl _) _)
  have HP := Lib.hid (show Blk w0 w.heap.size 54 #[.string ⟨#[]⟩, .string ⟨#[]⟩, .string ⟨#[]⟩, .string ⟨#[]⟩] from by rw [hw0]; exact Blk.new _ _ _)
  have HZ := Lib.hid (show w0.heap.size = w.heap.size + 1 from by rw [hw0]; simp)
  have HM := Lib.hid (exM_size t.size a b)
  have HA := Lib.hid (fun k (h : k < t.size) => exM_at (a := a) (b := b) h)
  go_enter Tryz.func60, Tryz.ntmps60
  go_wp2
  rw [← hw0]
  go_loopw [9, 10] (fun v i wr => ∃ k : Nat, k ≤ t.size ∧ i = .int .i64 k ∧ wr.ownsRow w0.heap.size 5 1 v k (rowL (exM t.size a b) k) ∧ Below w0.heap.size w0 wr) (fun _ i _ => t.size - (intOf i).toNat)
  case atStart => exact ⟨0, Nat.zero_le _, rfl, own_fresh HZ.out.symm (Nat.le_refl _), (Below.refl _ _).alloc (Nat.le_refl _) _⟩
  case round =>
    obtain ⟨k, hk, rfl, hown, hW⟩ := hrel
    have HO := Lib.hid hown
    have HW := Lib.hid hW
    have HS := Lib.hid hW.size
    clear hown hW hw0
    by_cases hlt : k < t.size
    · obtain ⟨x, hx, hd⟩ : ∃ x : Int, x = ((if a ≤ (k : Int) ∧ (k : Int) < b then (0 : UInt8) else 255).toNat : Int) ∧ (x = 0 ∧ decide (a ≤ (k : Int)) = true ∧ decide ((k : Int) < b) = true ∨ x = 255 ∧ decide (a ≤ (k : Int)) = true ∧ decide ((k : Int) < b) = false ∨ x = 255 ∧ decide (a ≤ (k : Int)) = false) := by
        refine ⟨_, rfl, ?_⟩
        by_cases h1 : a ≤ (k : Int) <;> by_cases h2 : (k : Int) < b <;> simp [h1, h2]
      have HX := Lib.hid (rowL_succ (m := exM t.size a b) (k := k) (x := x) (by rw [exM_size]; exact hlt) (by rw [HA.out k hlt]; exact hx))
      clear hx
      rcases hd with ⟨rfl, d1, d2⟩ | ⟨rfl, d1, d2⟩ | ⟨rfl, d1⟩
      · go_wp2_with (at_builtin; refine wpList_append_own _ rfl _ _ 62 rfl w0.heap.size 5 i0 (.int .u8 0) 1 1 Tryz.underlying62 hi hz0 hz1 hz2 rfl (by decide) _ _ _ rfl (HO.out.alloc _) ⟨wr.heap.size, 0, none⟩ 1 1 [.int .u8 0] rfl rfl ?_ ?_ ?_ ?_ ?_ ?_)
        · intro j u hj
          match j, hj with
          | 0, hj => simp at hj; subst hj; simp [Addr.add]
        · intro u hu; simp at hu; subst hu; rfl
        · unfold maxLen; omega
        · omega
        · have := HS.out; simp; omega
        · intro v' w1 hown' hgrow _
          have hown2 : w1.ownsRow w0.heap.size 5 1 v' (k + 1) (rowL (exM t.size a b) (k + 1)) := by rw [HX.out]; exact hown'
          have HO2 := Lib.hid hown2
          have HG := Lib.hid (Below.grown (HW.out.alloc HS.out _) hgrow (by have := HS.out; simp; omega) (fun g hg => (HO.out.lt g hg).1))
          clear hown2 hown' hgrow
          go_wp2
          go_roundw
          case rel => exact ⟨k + 1, by omega, by go_num, HO2.out, HG.out⟩
          case measure => simp [intOf]; omega
      · go_wp2_with (at_builtin; refine wpList_append_own _ rfl _ _ 62 rfl w0.heap.size 5 i0 (.int .u8 0) 1 1 Tryz.underlying62 hi hz0 hz1 hz2 rfl (by decide) _ _ _ rfl (HO.out.alloc _) ⟨wr.heap.size, 0, none⟩ 1 1 [.int .u8 255] rfl rfl ?_ ?_ ?_ ?_ ?_ ?_)
        · intro j u hj
          match j, hj with
          | 0, hj => simp at hj; subst hj; simp [Addr.add]
        · intro u hu; simp at hu; subst hu; rfl
        · unfold maxLen; omega
        · omega
        · have := HS.out; simp; omega
        · intro v' w1 hown' hgrow _
          have hown2 : w1.ownsRow w0.heap.size 5 1 v' (k + 1) (rowL (exM t.size a b) (k + 1)) := by rw [HX.out]; exact hown'
          have HO2 := Lib.hid hown2
          have HG := Lib.hid (Below.grown (HW.out.alloc HS.out _) hgrow (by have := HS.out; simp; omega) (fun g hg => (HO.out.lt g hg).1))
          clear hown2 hown' hgrow
          go_wp2
          go_roundw
          case rel => exact ⟨k + 1, by omega, by go_num, HO2.out, HG.out⟩
          case measure => simp [intOf]; omega
      · go_wp2_with (at_builtin; refine wpList_append_own _ rfl _ _ 62 rfl w0.heap.size 5 i0 (.int .u8 0) 1 1 Tryz.underlying62 hi hz0 hz1 hz2 rfl (by decide) _ _ _ rfl (HO.out.alloc _) ⟨wr.heap.size, 0, none⟩ 1 1 [.int .u8 255] rfl rfl ?_ ?_ ?_ ?_ ?_ ?_)
        · intro j u hj
          match j, hj with
          | 0, hj => simp at hj; subst hj; simp [Addr.add]
        · intro u hu; simp at hu; subst hu; rfl
        · unfold maxLen; omega
        · omega
        · have := HS.out; simp; omega
        · intro v' w1 hown' hgrow _
          have hown2 : w1.ownsRow w0.heap.size 5 1 v' (k + 1) (rowL (exM t.size a b) (k + 1)) := by rw [HX.out]; exact hown'
          have HO2 := Lib.hid hown2
          have HG := Lib.hid (Below.grown (HW.out.alloc HS.out _) hgrow (by have := HS.out; simp; omega) (fun g hg => (HO.out.lt g hg).1))
          clear hown2 hown' hgrow
          go_wp2
          go_roundw
          case rel => exact ⟨k + 1, by omega, by go_num, HO2.out, HG.out⟩
          case measure => simp [intOf]; omega
    · obtain rfl : k = t.size := by omega
      have HO2 := Lib.hid (show wr.ownsRow w0.heap.size 5 1 u9 (exM t.size a b).size (rowL (exM t.size a b) (exM t.size a b).size) from by rw [HM.out]; exact HO.out)
      have hback := rowL_back HO2.out
      have HQ := Lib.hid (HP.out.below HW.out HP.out.lt)
      have p0 := HQ.out.cell 0
      have p1 := HQ.out.cell 1
      have p2 := HQ.out.cell 2
      have p3 := HQ.out.cell 3
      have q0 := HQ.out.frozen 0
      have q1 := HQ.out.frozen 1
      have q2 := HQ.out.frozen 2
      have q3 := HQ.out.frozen 3
      have HY := Lib.hid (HB0.out.trans (HW.out.mono HB0.out.size))
      go_wp2
      exact bodyPost_ret (v := patV t (exM t.size a b) ⟨#[]⟩ kd) (by simp [results, Tryz.results60, go_sem, p0, p1, p2, p3]) rfl ⟨rfl, (((HY.out.setCell (by simp) _).setCell (by simp) _).setCell (by simp) _).setCell (by simp) _⟩

theorem imgX0 (W : World) : Calls Tryz.prog 60 #[.string ⟨#[0, 0, 1, 0]⟩, .string ⟨#[105, 109, 97, 103, 101, 47, 120, 45, 105, 99, 111, 110]⟩, .int .i64 0, .int .i64 0] W fun e w' => e = .returned (patV ⟨#[0, 0, 1, 0]⟩ ⟨#[255, 255, 255, 255]⟩ ⟨#[]⟩ ⟨#[105, 109, 97, 103, 101, 47, 120, 45, 105, 99, 111, 110]⟩) ∧ Below W.heap.size W w' := by
  have := rExact_any ⟨#[0, 0, 1, 0]⟩ ⟨#[105, 109, 97, 103, 101, 47, 120, 45, 105, 99, 111, 110]⟩ 0 0 W (by decide)
  rwa [show exM (⟨#[0, 0, 1, 0]⟩ : ByteArray).size 0 0 = ⟨#[255, 255, 255, 255]⟩ from by kernel_rfl] at this
theorem imgX1 (W : World) : Calls Tryz.prog 60 #[.string ⟨#[0, 0, 2, 0]⟩, .string ⟨#[105, 109, 97, 103, 101, 47, 120, 45, 105, 99, 111, 110]⟩, .int .i64 0, .int .i64 0] W fun e w' => e = .returned (patV ⟨#[0, 0, 2, 0]⟩ ⟨#[255, 255, 255, 255]⟩ ⟨#[]⟩ ⟨#[105, 109, 97, 103, 101, 47, 120, 45, 105, 99, 111, 110]⟩) ∧ Below W.heap.size W w' := by
  have := rExact_any ⟨#[0, 0, 2, 0]⟩ ⟨#[105, 109, 97, 103, 101, 47, 120, 45, 105, 99, 111, 110]⟩ 0 0 W (by decide)
  rwa [show exM (⟨#[0, 0, 2, 0]⟩ : ByteArray).size 0 0 = ⟨#[255, 255, 255, 255]⟩ from by kernel_rfl] at this
theorem imgX2 (W : World) : Calls Tryz.prog 60 #[.string ⟨#[66, 77]⟩, .string ⟨#[105, 109, 97, 103, 101, 47, 98, 109, 112]⟩, .int .i64 0, .int .i64 0] W fun e w' => e = .returned (patV ⟨#[66, 77]⟩ ⟨#[255, 255]⟩ ⟨#[]⟩ ⟨#[105, 109, 97, 103, 101, 47, 98, 109, 112]⟩) ∧ Below W.heap.size W w' := by
  have := rExact_any ⟨#[66, 77]⟩ ⟨#[105, 109, 97, 103, 101, 47, 98, 109, 112]⟩ 0 0 W (by decide)
  rwa [show exM (⟨#[66, 77]⟩ : ByteArray).size 0 0 = ⟨#[255, 255]⟩ from by kernel_rfl] at this
theorem imgX3 (W : World) : Calls Tryz.prog 60 #[.string ⟨#[71, 73, 70, 56, 55, 97]⟩, .string ⟨#[105, 109, 97, 103, 101, 47, 103, 105, 102]⟩, .int .i64 0, .int .i64 0] W fun e w' => e = .returned (patV ⟨#[71, 73, 70, 56, 55, 97]⟩ ⟨#[255, 255, 255, 255, 255, 255]⟩ ⟨#[]⟩ ⟨#[105, 109, 97, 103, 101, 47, 103, 105, 102]⟩) ∧ Below W.heap.size W w' := by
  have := rExact_any ⟨#[71, 73, 70, 56, 55, 97]⟩ ⟨#[105, 109, 97, 103, 101, 47, 103, 105, 102]⟩ 0 0 W (by decide)
  rwa [show exM (⟨#[71, 73, 70, 56, 55, 97]⟩ : ByteArray).size 0 0 = ⟨#[255, 255, 255, 255, 255, 255]⟩ from by kernel_rfl] at this
theorem imgX4 (W : World) : Calls Tryz.prog 60 #[.string ⟨#[71, 73, 70, 56, 57, 97]⟩, .string ⟨#[105, 109, 97, 103, 101, 47, 103, 105, 102]⟩, .int .i64 0, .int .i64 0] W fun e w' => e = .returned (patV ⟨#[71, 73, 70, 56, 57, 97]⟩ ⟨#[255, 255, 255, 255, 255, 255]⟩ ⟨#[]⟩ ⟨#[105, 109, 97, 103, 101, 47, 103, 105, 102]⟩) ∧ Below W.heap.size W w' := by
  have := rExact_any ⟨#[71, 73, 70, 56, 57, 97]⟩ ⟨#[105, 109, 97, 103, 101, 47, 103, 105, 102]⟩ 0 0 W (by decide)
  rwa [show exM (⟨#[71, 73, 70, 56, 57, 97]⟩ : ByteArray).size 0 0 = ⟨#[255, 255, 255, 255, 255, 255]⟩ from by kernel_rfl] at this
theorem imgX5 (W : World) : Calls Tryz.prog 60 #[.string ⟨#[82, 73, 70, 70, 0, 0, 0, 0, 87, 69, 66, 80, 86, 80]⟩, .string ⟨#[105, 109, 97, 103, 101, 47, 119, 101, 98, 112]⟩, .int .i64 4, .int .i64 8] W fun e w' => e = .returned (patV ⟨#[82, 73, 70, 70, 0, 0, 0, 0, 87, 69, 66, 80, 86, 80]⟩ ⟨#[255, 255, 255, 255, 0, 0, 0, 0, 255, 255, 255, 255, 255, 255]⟩ ⟨#[]⟩ ⟨#[105, 109, 97, 103, 101, 47, 119, 101, 98, 112]⟩) ∧ Below W.heap.size W w' := by
  have := rExact_any ⟨#[82, 73, 70, 70, 0, 0, 0, 0, 87, 69, 66, 80, 86, 80]⟩ ⟨#[105, 109, 97, 103, 101, 47, 119, 101, 98, 112]⟩ 4 8 W (by decide)
  rwa [show exM (⟨#[82, 73, 70, 70, 0, 0, 0, 0, 87, 69, 66, 80, 86, 80]⟩ : ByteArray).size 4 8 = ⟨#[255, 255, 255, 255, 0, 0, 0, 0, 255, 255, 255, 255, 255, 255]⟩ from by kernel_rfl] at this
theorem imgX6 (W : World) : Calls Tryz.prog 60 #[.string ⟨#[137, 80, 78, 71, 13, 10, 26, 10]⟩, .string ⟨#[105, 109, 97, 103, 101, 47, 112, 110, 103]⟩, .int .i64 0, .int .i64 0] W fun e w' => e = .returned (patV ⟨#[137, 80, 78, 71, 13, 10, 26, 10]⟩ ⟨#[255, 255, 255, 255, 255, 255, 255, 255]⟩ ⟨#[]⟩ ⟨#[105, 109, 97, 103, 101, 47, 112, 110, 103]⟩) ∧ Below W.heap.size W w' := by
  have := rExact_any ⟨#[137, 80, 78, 71, 13, 10, 26, 10]⟩ ⟨#[105, 109, 97, 103, 101, 47, 112, 110, 103]⟩ 0 0 W (by decide)
  rwa [show exM (⟨#[137, 80, 78, 71, 13, 10, 26, 10]⟩ : ByteArray).size 0 0 = ⟨#[255, 255, 255, 255, 255, 255, 255, 255]⟩ from by kernel_rfl] at this
theorem imgX7 (W : World) : Calls Tryz.prog 60 #[.string ⟨#[255, 216, 255]⟩, .string ⟨#[105, 109, 97, 103, 101, 47, 106, 112, 101, 103]⟩, .int .i64 0, .int .i64 0] W fun e w' => e = .returned (patV ⟨#[255, 216, 255]⟩ ⟨#[255, 255, 255]⟩ ⟨#[]⟩ ⟨#[105, 109, 97, 103, 101, 47, 106, 112, 101, 103]⟩) ∧ Below W.heap.size W w' := by
  have := rExact_any ⟨#[255, 216, 255]⟩ ⟨#[105, 109, 97, 103, 101, 47, 106, 112, 101, 103]⟩ 0 0 W (by decide)
  rwa [show exM (⟨#[255, 216, 255]⟩ : ByteArray).size 0 0 = ⟨#[255, 255, 255]⟩ from by kernel_rfl] at this

set_option maxHeartbeats 2000000 in
set_option maxRecDepth 100000 in
theorem refTable_any (w : World) :
    Calls Tryz.prog 39 #[] w fun e w' => ∃ g, e = .returned (.slice (some ⟨g, 0, none⟩) 8 8) ∧ w.heap.size ≤ g ∧ PatsIn w' g imgP 8 ∧ Below w.heap.size w w' := by
  have HB := Lib.hid (Below.refl w.heap.size w)
  go_enter Tryz.func39, Tryz.ntmps39
  go_wp2_with (go_at_call 60; (first | with_reducible refine (imgX0 _).mono ?_ | with_reducible refine (imgX1 _).mono ?_ | with_reducible refine (imgX2 _).mono ?_ | with_reducible refine (imgX3 _).mono ?_ | with_reducible refine (imgX4 _).mono ?_ | with_reducible refine (imgX5 _).mono ?_ | with_reducible refine (imgX6 _).mono ?_ | with_reducible refine (imgX7 _).mono ?_); rintro e w1 ⟨rfl, b1⟩; have HB := Lib.hid (HB.out.trans (b1.mono HB.out.size)); clear b1)
  go_ret
  exact ⟨w1.heap.size, rfl, HB.out.size, pats8 (Blk.new w1 _ (cells8 imgP)), HB.out.alloc HB.out.size _⟩

end Go.Proofs.YtkdjjlfpaciohaaGreatDoor
namespace Go.Proofs.YtkdjjlfpaciohaaGreatDoor
open Go.RowKit

set_option maxHeartbeats 2000000 in
theorem usign_letter (t z f kd : ByteArray) (n : Int) (w : World) (ht : t.size ≤ 11) (hz : z.size ≤ 2) (hf : f.size ≤ 11)
    (H1 : Hid (∀ W, Calls Tryz.prog 132 #[.string ⟨#[0]⟩, .int .i64 n] W fun e w' => e = .returned (.string z) ∧ Below W.heap.size W w'))
    (H2 : Hid (∀ W, Calls Tryz.prog 132 #[.string ⟨#[255]⟩, .int .i64 (t.size : Nat)] W fun e w' => e = .returned (.string f) ∧ Below W.heap.size W w')) :
    Calls Tryz.prog 105 #[.string t, .int .i64 n, .string kd] w fun e w' => e = .returned (patV (t ++ z) (f ++ z) ⟨#[]⟩ kd) ∧ Below w.heap.size w w' := by
  obtain ⟨w0, hw0⟩ : ∃ w0, w0 = w.alloc (.cells #[.string ⟨#[]⟩, .string ⟨#[]⟩, .string ⟨#[]⟩, .string ⟨#[]⟩] 54) := ⟨_, rfl⟩
  have HB0 := Lib.hid (show Below w.heap.size w w0 from by rw [hw0]; exact (Below.refl w.heap.size w).alloc (Nat.le_refl _) _)
  have HP := Lib.hid (show Blk w0 w.heap.size 54 #[.string ⟨#[]⟩, .string ⟨#[]⟩, .string ⟨#[]⟩, .string ⟨#[]⟩] from by rw [hw0]; exact Blk.new _ _ _)
  go_enter Tryz.func105, Tryz.ntmps105
  go_wp2_with fail
  rw [← hw0]
  clear hw0
  go_at_call 132
  refine (H1.out _).mono ?_
  rintro e w1 ⟨rfl, b1⟩
  have HP1 := Lib.hid (HP.out.below b1 HP.out.lt)
  have HB1 := Lib.hid (HB0.out.trans (b1.mono HB0.out.size))
  clear b1 HP HB0
  go_wp2_with ((go_at_call 132; (with_reducible refine (H2.out _).mono ?_); rintro e w2 ⟨rfl, b2⟩; have HQ := Lib.hid (HP1.out.below b2 HP1.out.lt); have p0 := HQ.out.cell 0; have p1 := HQ.out.cell 1; have p2 := HQ.out.cell 2; have p3 := HQ.out.cell 3; have q0 := HQ.out.frozen 0; have q1 := HQ.out.frozen 1; have q2 := HQ.out.frozen 2; have q3 := HQ.out.frozen 3; have HY := Lib.hid (HB1.out.trans (b2.mono HB1.out.size)); clear b2))
  exact bodyPost_ret (v := patV (t ++ z) (f ++ z) ⟨#[]⟩ kd) (by simp [results, Tryz.results105, go_sem, p0, p1, p2, p3]) rfl ⟨rfl, (((HY.out.setCell (by simp) _).setCell (by simp) _).setCell (by simp) _).setCell (by simp) _⟩
theorem repeats (s z : ByteArray) (c : Nat) (h : s.size * c ≤ 140737488355328) (hc : c ≤ 9223372036854775807) (hz : (⟨(Go.Lib.repeatL s.data.toList c).toArray⟩ : ByteArray) = z) (W : World) :
    Calls Tryz.prog 132 #[.string s, .int .i64 (c : Nat)] W fun e w' => e = .returned (.string z) ∧ Below W.heap.size W w' := by
  have := strings_Repeat_some s c W hc h
  rwa [hz] at this
theorem sgnE0 (W : World) : Calls Tryz.prog 105 #[.string ⟨#[37, 33, 80, 83, 45, 65, 100, 111, 98, 101, 45]⟩, .int .i64 0, .string ⟨#[97, 112, 112, 108, 105, 99, 97, 116, 105, 111, 110, 47, 112, 111, 115, 116, 115, 99, 114, 105, 112, 116]⟩] W fun e w' => e = .returned (patV ⟨#[37, 33, 80, 83, 45, 65, 100, 111, 98, 101, 45]⟩ ⟨#[255, 255, 255, 255, 255, 255, 255, 255, 255, 255, 255]⟩ ⟨#[]⟩ ⟨#[97, 112, 112, 108, 105, 99, 97, 116, 105, 111, 110, 47, 112, 111, 115, 116, 115, 99, 114, 105, 112, 116]⟩) ∧ Below W.heap.size W w' := by
  have := usign_letter ⟨#[37, 33, 80, 83, 45, 65, 100, 111, 98, 101, 45]⟩ ⟨#[]⟩ ⟨#[255, 255, 255, 255, 255, 255, 255, 255, 255, 255, 255]⟩ ⟨#[97, 112, 112, 108, 105, 99, 97, 116, 105, 111, 110, 47, 112, 111, 115, 116, 115, 99, 114, 105, 112, 116]⟩ 0 W (by decide) (by decide) (by decide) (Lib.hid (repeats ⟨#[0]⟩ _ 0 (by decide) (by decide) (by kernel_rfl))) (Lib.hid (repeats ⟨#[255]⟩ _ 11 (by decide) (by decide) (by kernel_rfl)))
  rwa [show (⟨#[37, 33, 80, 83, 45, 65, 100, 111, 98, 101, 45]⟩ ++ ⟨#[]⟩ : ByteArray) = ⟨#[37, 33, 80, 83, 45, 65, 100, 111, 98, 101, 45]⟩ from by kernel_rfl, show (⟨#[255, 255, 255, 255, 255, 255, 255, 255, 255, 255, 255]⟩ ++ ⟨#[]⟩ : ByteArray) = ⟨#[255, 255, 255, 255, 255, 255, 255, 255, 255, 255, 255]⟩ from by kernel_rfl] at this
theorem sgnX0 (W : World) : Calls Tryz.prog 60 #[.string ⟨#[37, 33, 80, 83, 45, 65, 100, 111, 98, 101, 45]⟩, .string ⟨#[97, 112, 112, 108, 105, 99, 97, 116, 105, 111, 110, 47, 112, 111, 115, 116, 115, 99, 114, 105, 112, 116]⟩, .int .i64 0, .int .i64 0] W fun e w' => e = .returned (patV ⟨#[37, 33, 80, 83, 45, 65, 100, 111, 98, 101, 45]⟩ ⟨#[255, 255, 255, 255, 255, 255, 255, 255, 255, 255, 255]⟩ ⟨#[]⟩ ⟨#[97, 112, 112, 108, 105, 99, 97, 116, 105, 111, 110, 47, 112, 111, 115, 116, 115, 99, 114, 105, 112, 116]⟩) ∧ Below W.heap.size W w' := by
  have := rExact_any ⟨#[37, 33, 80, 83, 45, 65, 100, 111, 98, 101, 45]⟩ ⟨#[97, 112, 112, 108, 105, 99, 97, 116, 105, 111, 110, 47, 112, 111, 115, 116, 115, 99, 114, 105, 112, 116]⟩ 0 0 W (by decide)
  rwa [show exM (⟨#[37, 33, 80, 83, 45, 65, 100, 111, 98, 101, 45]⟩ : ByteArray).size 0 0 = ⟨#[255, 255, 255, 255, 255, 255, 255, 255, 255, 255, 255]⟩ from by kernel_rfl] at this
theorem sgnE1 (W : World) : Calls Tryz.prog 105 #[.string ⟨#[254, 255]⟩, .int .i64 2, .string ⟨#[116, 101, 120, 116, 47, 112, 108, 97, 105, 110]⟩] W fun e w' => e = .returned (patV ⟨#[254, 255, 0, 0]⟩ ⟨#[255, 255, 0, 0]⟩ ⟨#[]⟩ ⟨#[116, 101, 120, 116, 47, 112, 108, 97, 105, 110]⟩) ∧ Below W.heap.size W w' := by
  have := usign_letter ⟨#[254, 255]⟩ ⟨#[0, 0]⟩ ⟨#[255, 255]⟩ ⟨#[116, 101, 120, 116, 47, 112, 108, 97, 105, 110]⟩ 2 W (by decide) (by decide) (by decide) (Lib.hid (repeats ⟨#[0]⟩ _ 2 (by decide) (by decide) (by kernel_rfl))) (Lib.hid (repeats ⟨#[255]⟩ _ 2 (by decide) (by decide) (by kernel_rfl)))
  rwa [show (⟨#[254, 255]⟩ ++ ⟨#[0, 0]⟩ : ByteArray) = ⟨#[254, 255, 0, 0]⟩ from by kernel_rfl, show (⟨#[255, 255]⟩ ++ ⟨#[0, 0]⟩ : ByteArray) = ⟨#[255, 255, 0, 0]⟩ from by kernel_rfl] at this
theorem sgnX1 (W : World) : Calls Tryz.prog 60 #[.string ⟨#[254, 255, 0, 0]⟩, .string ⟨#[116, 101, 120, 116, 47, 112, 108, 97, 105, 110]⟩, .int .i64 2, .int .i64 4] W fun e w' => e = .returned (patV ⟨#[254, 255, 0, 0]⟩ ⟨#[255, 255, 0, 0]⟩ ⟨#[]⟩ ⟨#[116, 101, 120, 116, 47, 112, 108, 97, 105, 110]⟩) ∧ Below W.heap.size W w' := by
  have := rExact_any ⟨#[254, 255, 0, 0]⟩ ⟨#[116, 101, 120, 116, 47, 112, 108, 97, 105, 110]⟩ 2 4 W (by decide)
  rwa [show exM (⟨#[254, 255, 0, 0]⟩ : ByteArray).size 2 4 = ⟨#[255, 255, 0, 0]⟩ from by kernel_rfl] at this
theorem sgnE2 (W : World) : Calls Tryz.prog 105 #[.string ⟨#[255, 254]⟩, .int .i64 2, .string ⟨#[116, 101, 120, 116, 47, 112, 108, 97, 105, 110]⟩] W fun e w' => e = .returned (patV ⟨#[255, 254, 0, 0]⟩ ⟨#[255, 255, 0, 0]⟩ ⟨#[]⟩ ⟨#[116, 101, 120, 116, 47, 112, 108, 97, 105, 110]⟩) ∧ Below W.heap.size W w' := by
  have := usign_letter ⟨#[255, 254]⟩ ⟨#[0, 0]⟩ ⟨#[255, 255]⟩ ⟨#[116, 101, 120, 116, 47, 112, 108, 97, 105, 110]⟩ 2 W (by decide) (by decide) (by decide) (Lib.hid (repeats ⟨#[0]⟩ _ 2 (by decide) (by decide) (by kernel_rfl))) (Lib.hid (repeats ⟨#[255]⟩ _ 2 (by decide) (by decide) (by kernel_rfl)))
  rwa [show (⟨#[255, 254]⟩ ++ ⟨#[0, 0]⟩ : ByteArray) = ⟨#[255, 254, 0, 0]⟩ from by kernel_rfl, show (⟨#[255, 255]⟩ ++ ⟨#[0, 0]⟩ : ByteArray) = ⟨#[255, 255, 0, 0]⟩ from by kernel_rfl] at this
theorem sgnX2 (W : World) : Calls Tryz.prog 60 #[.string ⟨#[255, 254, 0, 0]⟩, .string ⟨#[116, 101, 120, 116, 47, 112, 108, 97, 105, 110]⟩, .int .i64 2, .int .i64 4] W fun e w' => e = .returned (patV ⟨#[255, 254, 0, 0]⟩ ⟨#[255, 255, 0, 0]⟩ ⟨#[]⟩ ⟨#[116, 101, 120, 116, 47, 112, 108, 97, 105, 110]⟩) ∧ Below W.heap.size W w' := by
  have := rExact_any ⟨#[255, 254, 0, 0]⟩ ⟨#[116, 101, 120, 116, 47, 112, 108, 97, 105, 110]⟩ 2 4 W (by decide)
  rwa [show exM (⟨#[255, 254, 0, 0]⟩ : ByteArray).size 2 4 = ⟨#[255, 255, 0, 0]⟩ from by kernel_rfl] at this
theorem sgnE3 (W : World) : Calls Tryz.prog 105 #[.string ⟨#[239, 187, 191]⟩, .int .i64 1, .string ⟨#[116, 101, 120, 116, 47, 112, 108, 97, 105, 110]⟩] W fun e w' => e = .returned (patV ⟨#[239, 187, 191, 0]⟩ ⟨#[255, 255, 255, 0]⟩ ⟨#[]⟩ ⟨#[116, 101, 120, 116, 47, 112, 108, 97, 105, 110]⟩) ∧ Below W.heap.size W w' := by
  have := usign_letter ⟨#[239, 187, 191]⟩ ⟨#[0]⟩ ⟨#[255, 255, 255]⟩ ⟨#[116, 101, 120, 116, 47, 112, 108, 97, 105, 110]⟩ 1 W (by decide) (by decide) (by decide) (Lib.hid (repeats ⟨#[0]⟩ _ 1 (by decide) (by decide) (by kernel_rfl))) (Lib.hid (repeats ⟨#[255]⟩ _ 3 (by decide) (by decide) (by kernel_rfl)))
  rwa [show (⟨#[239, 187, 191]⟩ ++ ⟨#[0]⟩ : ByteArray) = ⟨#[239, 187, 191, 0]⟩ from by kernel_rfl, show (⟨#[255, 255, 255]⟩ ++ ⟨#[0]⟩ : ByteArray) = ⟨#[255, 255, 255, 0]⟩ from by kernel_rfl] at this
theorem sgnX3 (W : World) : Calls Tryz.prog 60 #[.string ⟨#[239, 187, 191, 0]⟩, .string ⟨#[116, 101, 120, 116, 47, 112, 108, 97, 105, 110]⟩, .int .i64 3, .int .i64 4] W fun e w' => e = .returned (patV ⟨#[239, 187, 191, 0]⟩ ⟨#[255, 255, 255, 0]⟩ ⟨#[]⟩ ⟨#[116, 101, 120, 116, 47, 112, 108, 97, 105, 110]⟩) ∧ Below W.heap.size W w' := by
  have := rExact_any ⟨#[239, 187, 191, 0]⟩ ⟨#[116, 101, 120, 116, 47, 112, 108, 97, 105, 110]⟩ 3 4 W (by decide)
  rwa [show exM (⟨#[239, 187, 191, 0]⟩ : ByteArray).size 3 4 = ⟨#[255, 255, 255, 0]⟩ from by kernel_rfl] at this
/-- The cells of a table of four patterns. -/
def cells4 (ps : Nat → Pat) : Array Value := #[.string (ps 0).b, .string (ps 0).m, .string (ps 0).k, .string (ps 0).t, .string (ps 1).b, .string (ps 1).m, .string (ps 1).k, .string (ps 1).t, .string (ps 2).b, .string (ps 2).m, .string (ps 2).k, .string (ps 2).t, .string (ps 3).b, .string (ps 3).m, .string (ps 3).k, .string (ps 3).t]
theorem pats4 {W : World} {g : Nat} {ps : Nat → Pat} (h : Blk W g 54 (cells4 ps)) : PatsIn W g ps 4 :=
  ⟨h.lt, fun i hi => match i, hi with
    | 0, _ => ⟨h.cell 0, h.cell 1, h.cell 2, h.cell 3⟩
    | 1, _ => ⟨h.cell 4, h.cell 5, h.cell 6, h.cell 7⟩
    | 2, _ => ⟨h.cell 8, h.cell 9, h.cell 10, h.cell 11⟩
    | 3, _ => ⟨h.cell 12, h.cell 13, h.cell 14, h.cell 15⟩
    | n + 4, h => absurd h (by omega)⟩
set_option maxHeartbeats 2000000 in
set_option maxRecDepth 100000 in
theorem usigns_any (w : World) :
    Calls Tryz.prog 76 #[] w fun e w' => ∃ g, e = .returned (.slice (some ⟨g, 0, none⟩) 4 4) ∧ w.heap.size ≤ g ∧ PatsIn w' g sgnP 4 ∧ Below w.heap.size w w' := by
  have HB := Lib.hid (Below.refl w.heap.size w)
  go_enter Tryz.func76, Tryz.ntmps76
  go_wp2_with (go_at_call 105; (first | with_reducible refine (sgnE0 _).mono ?_ | with_reducible refine (sgnE1 _).mono ?_ | with_reducible refine (sgnE2 _).mono ?_ | with_reducible refine (sgnE3 _).mono ?_); rintro e w1 ⟨rfl, b1⟩; have HB := Lib.hid (HB.out.trans (b1.mono HB.out.size)); clear b1)
  go_ret
  exact ⟨w1.heap.size, rfl, HB.out.size, pats4 (Blk.new w1 _ (cells4 sgnP)), HB.out.alloc HB.out.size _⟩
set_option maxHeartbeats 2000000 in
set_option maxRecDepth 100000 in
theorem rsigns_any (w : World) :
    Calls Tryz.prog 47 #[] w fun e w' => ∃ g, e = .returned (.slice (some ⟨g, 0, none⟩) 4 4) ∧ w.heap.size ≤ g ∧ PatsIn w' g sgnP 4 ∧ Below w.heap.size w w' := by
  have HB := Lib.hid (Below.refl w.heap.size w)
  go_enter Tryz.func47, Tryz.ntmps47
  go_wp2_with (go_at_call 60; (first | with_reducible refine (sgnX0 _).mono ?_ | with_reducible refine (sgnX1 _).mono ?_ | with_reducible refine (sgnX2 _).mono ?_ | with_reducible refine (sgnX3 _).mono ?_); rintro e w1 ⟨rfl, b1⟩; have HB := Lib.hid (HB.out.trans (b1.mono HB.out.size)); clear b1)
  go_ret
  exact ⟨w1.heap.size, rfl, HB.out.size, pats4 (Blk.new w1 _ (cells4 sgnP)), HB.out.alloc HB.out.size _⟩

end Go.Proofs.YtkdjjlfpaciohaaGreatDoor
namespace Go.Proofs.YtkdjjlfpaciohaaGreatDoor

/-- Whether a byte is binary. -/
def binB (b : UInt8) : Bool := decide (b.toNat ≤ 8) || (decide (b.toNat = 11) || ((decide (14 ≤ b.toNat) && decide (b.toNat ≤ 26)) || (decide (28 ≤ b.toNat) && decide (b.toNat ≤ 31))))
/-- Where the first binary byte stands; how many bytes there are, if none is. -/
def binF (s : ByteArray) : Nat := scan (fun b => !binB b) s 0
/-- The mark of the order of bytes. -/
def mkU (a b : UInt8) : Nat := if (a.toNat = 254 ∧ b.toNat = 255) ∨ (a.toNat = 255 ∧ b.toNat = 254) then 2 else 0
def mkT (a b c : UInt8) : Nat := if a.toNat = 239 ∧ b.toNat = 187 ∧ c.toNat = 191 then 3 else mkU a b
def mrkN (s : ByteArray) : Nat := if _h : 2 < s.size then mkT s[0] s[1] s[2] else if _h : 1 < s.size then mkU s[0] s[1] else 0
theorem mrk_three {s : ByteArray} (h : 2 < s.size) : mrkN s = mkT s[0] s[1] s[2] := dif_pos h
theorem mrk_two {s : ByteArray} (h : ¬ 2 < s.size) (h1 : 1 < s.size) : mrkN s = mkU s[0] s[1] := (dif_neg h).trans (dif_pos h1)
theorem mrk_few {s : ByteArray} (h : ¬ 1 < s.size) : mrkN s = 0 := (dif_neg (by omega)).trans (dif_neg h)
/-- The first three bytes, and the first two. -/
theorem ext_three {s : ByteArray} (h : 2 < s.size) : (s.extract 0 3).toList = [s[0], s[1], s[2]] := by
  rw [Lib.toList_data]
  obtain ⟨⟨l⟩⟩ := s
  match l, h with
  | a :: b :: c :: l, _ => simp [ByteArray.extract, ByteArray.copySlice]; exact ⟨rfl, rfl, rfl⟩
theorem ext_two {s : ByteArray} (h : 1 < s.size) : (s.extract 0 2).toList = [s[0], s[1]] := by
  rw [Lib.toList_data]
  obtain ⟨⟨l⟩⟩ := s
  match l, h with
  | a :: b :: l, _ => simp [ByteArray.extract, ByteArray.copySlice]; exact ⟨rfl, rfl⟩
end Go.Proofs.YtkdjjlfpaciohaaGreatDoor
