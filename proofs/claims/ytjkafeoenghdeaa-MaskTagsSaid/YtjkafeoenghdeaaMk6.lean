/-
  What the document's Tag answers: the pattern of a text whose letters may be small or great. Condition: the text is as long as a length can be.
-/
import Derived.Test.YtjkafeoenghdeaaMk5
import Derived.Maps.AppendAt
namespace Go.Proofs.Ytjkafeoenghdeaa
open Go.RowKit

/-- The cells of the first k bytes, each turned by f. -/
def mapL (f : UInt8 → UInt8) (s : ByteArray) (k : Nat) : List Value := (s.data.toList.take k).map fun b => .int .u8 ((f b).toNat : Int)
theorem mapL_succ {f : UInt8 → UInt8} {s : ByteArray} {k : Nat} (h : k < s.size) {x : Int} (hx : x = ((f s[k]).toNat : Int)) : mapL f s (k + 1) = mapL f s k ++ [.int .u8 x] := by
  unfold mapL
  rw [hx, List.take_add_one]
  have : s.data.toList[k]? = some s[k] := by
    rw [List.getElem?_eq_getElem (by simpa using h)]
    rfl
  rw [this]
  simp
theorem mapL_at {f : UInt8 → UInt8} {s : ByteArray} {j : Nat} (h : j < s.size) : (mapL f s s.size)[j]? = some (.int .u8 ((f s[j]).toNat : Int)) := by
  unfold mapL
  rw [List.take_of_length_le (by simp), List.getElem?_map]
  have : s.data.toList[j]? = some s[j] := by
    rw [List.getElem?_eq_getElem (by simpa using h)]
    rfl
  rw [this]
  rfl
theorem mapL_back {f : UInt8 → UInt8} {s : ByteArray} {v : Value} {W : World} {base : Nat} (h : W.ownsRow base 5 1 v s.size (mapL f s s.size)) :
    (convert 50 9 v).run Try.prog W = .ok (.string (mapS f s)) W := by
  have hl : (mapS f s).data.toList.length = s.size := by
    have h3 : (mapS f s).data.toList.length = (mapS f s).size := by simp
    rw [h3, mapS_size]
  have h' := h
  rcases h.2 with ⟨rfl, h0⟩ | ⟨g, cap, cur, rfl, _⟩
  · have e : mapS f s = ByteArray.empty := by
      generalize mapS f s = x at *
      cases x with | mk d => have : d = #[] := Array.eq_empty_of_size_eq_zero (by simpa using hl.trans h0); rw [this]; rfl
    rw [e]
    exact run_convert_bytes_nil (P := Try.prog) W 50 5 Try.underlying50 Try.underlying5 0 0 9 Try.underlying9
  · have := run_convert_bytes_back (P := Try.prog) W 50 9 5 ⟨g, 0, none⟩ cap (mapS f s).data.toList Try.underlying50 Try.underlying5 Try.underlying9 (fun j hj => by
      have hj' : j < s.size := by omega
      have e : (⟨g, 0, none⟩ : Addr).add j = ⟨g, j, none⟩ := by cases j <;> simp [Addr.add]
      rw [e, h'.cellAt j (by omega), mapL_at hj']
      congr 3
      exact congrArg UInt8.toNat (mapS_at f s j hj').symm)
    rw [hl] at this
    simpa using this

theorem own_new {w : World} {base g : Nat} (hg : g = w.heap.size) (hb : base ≤ w.heap.size) : (w.alloc (.cells #[] 5)).ownsRow base 5 1 (.slice (some ⟨g, 0, none⟩) 0 0) 0 [] := by
  subst hg
  exact World.ownsRow_made w #[] 0 hb (Nat.zero_le _) rfl

/-- Two rows of bytes of the call's own, in blocks that differ, beside a pattern's block. -/
structure Two (w wr : World) (kb km : Nat) (b m : Value) (xs ys : List Value) : Prop where
  rb : wr.ownsRow (w.heap.size + 1) 5 1 b kb xs
  rm : wr.ownsRow (w.heap.size + 1) 5 1 m km ys
  ne : b.ownBlock ≠ m.ownBlock
  bl : Below w.heap.size w wr
  pt : Blk wr w.heap.size 23 #[.string ⟨#[]⟩, .string ⟨#[]⟩, .string ⟨#[]⟩, .string ⟨#[]⟩]
theorem Two.size {w wr : World} {kb km : Nat} {b m : Value} {xs ys : List Value} (h : Two w wr kb km b m xs ys) : w.heap.size + 1 ≤ wr.heap.size := h.pt.lt
theorem Two.left {w wr : World} {kb km : Nat} {b m : Value} {xs ys : List Value} (h : Two w wr kb km b m xs ys) (o : Obj) {v' : Value} {w1 : World} {xs' : List Value} {kb' : Nat}
    (hown : w1.ownsRow (w.heap.size + 1) 5 1 v' kb' xs') (hg : (wr.alloc o).grownBy w1 b.ownBlock) (hat : v'.ownBlock = b.ownBlock ∨ v'.ownBlock = some (wr.heap.size + 1)) : Two w w1 kb' km v' m xs' ys := by
  have hsz := h.size
  refine ⟨hown, (h.rm.alloc o).kept hg (.inr h.ne.symm), ?_, ?_, ?_⟩
  · rcases hat with e | e
    · rw [e]; exact h.ne
    · rw [e]
      intro e2
      have := (h.rm.lt _ e2.symm).2
      omega
  · exact Below.grown (h.bl.alloc h.bl.size o) hg (by simp; omega) (fun g hg => by have := (h.rb.lt g hg).1; omega)
  · refine (hg.block _ (by simp; omega) ?_).trans (h.pt.alloc o)
    intro e
    have := (h.rb.lt _ e.symm).1
    omega
theorem Two.right {w wr : World} {kb km : Nat} {b m : Value} {xs ys : List Value} (h : Two w wr kb km b m xs ys) (o : Obj) {v' : Value} {w1 : World} {ys' : List Value} {km' : Nat}
    (hown : w1.ownsRow (w.heap.size + 1) 5 1 v' km' ys') (hg : (wr.alloc o).grownBy w1 m.ownBlock) (hat : v'.ownBlock = m.ownBlock ∨ v'.ownBlock = some (wr.heap.size + 1)) : Two w w1 kb km' b v' xs ys' := by
  have hsz := h.size
  refine ⟨(h.rb.alloc o).kept hg (.inr h.ne), hown, ?_, ?_, ?_⟩
  · rcases hat with e | e
    · rw [e]; exact h.ne
    · rw [e]
      intro e2
      have := (h.rb.lt _ e2).2
      omega
  · exact Below.grown (h.bl.alloc h.bl.size o) hg (by simp; omega) (fun g hg => by have := (h.rm.lt g hg).1; omega)
  · refine (hg.block _ (by simp; omega) ?_).trans (h.pt.alloc o)
    intro e
    have := (h.rm.lt _ e.symm).1
    omega

set_option maxHeartbeats 2000000 in
set_option maxRecDepth 100000 in
theorem refTag_any (s t : ByteArray) (w : World) (hs : s.size ≤ 140737488351232) (ht : t.size ≤ 9223372036854775807) :
    Calls Try.prog 21 #[.string s, .string t] w fun e w' => e = .returned (patV (upS s) (mskS s) blk5 t) ∧ Below w.heap.size w w' := by
  obtain ⟨i0, hi, hz0, hz1, hz2⟩ := info_parts Try.info5
  go_enter Try.func21, Try.ntmps21
  go_wp2
  go_loopw [5, 6, 7, 8, 9] (fun b m i _ _ wr => ∃ k : Nat, k ≤ s.size ∧ i = .int .i64 k ∧ Two w wr k k b m (mapL upB s k) (mapL mskB s k)) (fun _ _ i _ _ _ => s.size - (intOf i).toNat)
  case atStart =>
    refine ⟨0, Nat.zero_le _, rfl, ?_⟩
    refine ⟨?_, ?_, ?_, ?_, ?_⟩
    · exact (own_new (by simp) (by simp)).alloc _
    · exact own_new (by simp) (by simp)
    · simp [Value.ownBlock]
    · exact (((Below.refl _ _).alloc (Nat.le_refl _) _).alloc (by simp) _).alloc (by simp; omega) _
    · exact ((Blk.new _ _ _).alloc _).alloc _
  case round =>
    obtain ⟨k, hk, rfl, hT⟩ := hrel
    have HT := Lib.hid hT
    clear hT
    by_cases hlt : k < s.size
    · have hb := s[k].toNat_lt
      have hsz := HT.out.size
      have hup := upB_ref s[k]
      cases hl : letB s[k]
      · have HU := upB_not hl
        have HX := Lib.hid (mapL_succ (f := upB) (x := (s[k].toNat : Int)) hlt (by rw [HU.1]))
        have HY := Lib.hid (mapL_succ (f := mskB) (x := 255) hlt (by rw [HU.2]; rfl))
        clear hup HU
        go_wp2_with (first
          | (go_at_call 32; refine (refLetter_any s[k] _).mono ?_; rintro e w' ⟨rfl, rfl⟩; rw [hl])
          | (at_builtin; refine wpList_append_own_at _ rfl _ _ 50 rfl (w.heap.size + 1) 5 i0 (.int .u8 0) 1 1 Try.underlying50 hi hz0 hz1 hz2 rfl (by decide) _ _ _ rfl (HT.out.rb.alloc _) ⟨wr.heap.size, 0, none⟩ 1 1 [.int .u8 ((s[k].toNat : Int))] rfl rfl (cell_one_new _ _ _) ?_ ?_ ?_ ?_ ?_))
        · intro u hu; simp at hu; subst hu; rfl
        · unfold maxLen; omega
        · omega
        · simp; omega
        · intro v1 w1 hown1 hgrow1 _ hat1
          have hown1' : w1.ownsRow (w.heap.size + 1) 5 1 v1 (k + 1) (mapL upB s (k + 1)) := by rw [HX.out]; exact hown1
          have HT1 := Lib.hid (HT.out.left _ hown1' hgrow1 hat1)
          have hsz1 := HT1.out.size
          clear hown1 hown1' hgrow1 hat1 HT hsz
          go_wp2_with (at_builtin; refine wpList_append_own_at _ rfl _ _ 50 rfl (w.heap.size + 1) 5 i0 (.int .u8 0) 1 1 Try.underlying50 hi hz0 hz1 hz2 rfl (by decide) _ _ _ rfl (HT1.out.rm.alloc _) ⟨w1.heap.size, 0, none⟩ 1 1 [.int .u8 255] rfl rfl (cell_one_new _ _ _) ?_ ?_ ?_ ?_ ?_)
          · intro u hu; simp at hu; subst hu; rfl
          · unfold maxLen; omega
          · omega
          · simp; omega
          · intro v2 w2 hown2 hgrow2 _ hat2
            have hown2' : w2.ownsRow (w.heap.size + 1) 5 1 v2 (k + 1) (mapL mskB s (k + 1)) := by rw [HY.out]; exact hown2
            have HT2 := Lib.hid (HT1.out.right _ hown2' hgrow2 hat2)
            clear hown2 hown2' hgrow2 hat2 HT1 hsz1
            go_wp2
            go_roundw
            case rel => exact ⟨k + 1, by omega, by go_num, HT2.out⟩
            case measure => simp [intOf]; omega
      · have HU := (upB_let hl).2
        by_cases h97 : 97 ≤ s[k].toNat
        · have h1 : (97 : Int) ≤ (s[k].toNat : Int) := by omega
          have HX := Lib.hid (mapL_succ (f := upB) (x := (s[k].toNat : Int) - 32) hlt (by rw [hup, hl]; simp [h97]; omega))
          have HY := Lib.hid (mapL_succ (f := mskB) (x := 223) hlt (by rw [HU]; rfl))
          clear hup HU h97
          go_wp2_with (first
            | (go_at_call 32; refine (refLetter_any s[k] _).mono ?_; rintro e w' ⟨rfl, rfl⟩; rw [hl])
            | (at_builtin; refine wpList_append_own_at _ rfl _ _ 50 rfl (w.heap.size + 1) 5 i0 (.int .u8 0) 1 1 Try.underlying50 hi hz0 hz1 hz2 rfl (by decide) _ _ _ rfl (HT.out.rb.alloc _) ⟨wr.heap.size, 0, none⟩ 1 1 [.int .u8 ((s[k].toNat : Int) - 32)] rfl rfl (cell_one_new _ _ _) ?_ ?_ ?_ ?_ ?_))
          · intro u hu; simp at hu; subst hu; rfl
          · unfold maxLen; omega
          · omega
          · simp; omega
          · intro v1 w1 hown1 hgrow1 _ hat1
            have hown1' : w1.ownsRow (w.heap.size + 1) 5 1 v1 (k + 1) (mapL upB s (k + 1)) := by rw [HX.out]; exact hown1
            have HT1 := Lib.hid (HT.out.left _ hown1' hgrow1 hat1)
            have hsz1 := HT1.out.size
            clear hown1 hown1' hgrow1 hat1 HT hsz
            go_wp2_with (at_builtin; refine wpList_append_own_at _ rfl _ _ 50 rfl (w.heap.size + 1) 5 i0 (.int .u8 0) 1 1 Try.underlying50 hi hz0 hz1 hz2 rfl (by decide) _ _ _ rfl (HT1.out.rm.alloc _) ⟨w1.heap.size, 0, none⟩ 1 1 [.int .u8 223] rfl rfl (cell_one_new _ _ _) ?_ ?_ ?_ ?_ ?_)
            · intro u hu; simp at hu; subst hu; rfl
            · unfold maxLen; omega
            · omega
            · simp; omega
            · intro v2 w2 hown2 hgrow2 _ hat2
              have hown2' : w2.ownsRow (w.heap.size + 1) 5 1 v2 (k + 1) (mapL mskB s (k + 1)) := by rw [HY.out]; exact hown2
              have HT2 := Lib.hid (HT1.out.right _ hown2' hgrow2 hat2)
              clear hown2 hown2' hgrow2 hat2 HT1 hsz1
              go_wp2
              go_roundw
              case rel => exact ⟨k + 1, by omega, by go_num, HT2.out⟩
              case measure => simp [intOf]; omega
        · have h1 : decide ((97 : Int) ≤ (s[k].toNat : Int)) = false := by simp; omega
          have HX := Lib.hid (mapL_succ (f := upB) (x := (s[k].toNat : Int)) hlt (by rw [hup, hl]; simp [h97]))
          have HY := Lib.hid (mapL_succ (f := mskB) (x := 223) hlt (by rw [HU]; rfl))
          clear hup HU h97
          go_wp2_with (first
            | (go_at_call 32; refine (refLetter_any s[k] _).mono ?_; rintro e w' ⟨rfl, rfl⟩; rw [hl])
            | (at_builtin; refine wpList_append_own_at _ rfl _ _ 50 rfl (w.heap.size + 1) 5 i0 (.int .u8 0) 1 1 Try.underlying50 hi hz0 hz1 hz2 rfl (by decide) _ _ _ rfl (HT.out.rb.alloc _) ⟨wr.heap.size, 0, none⟩ 1 1 [.int .u8 ((s[k].toNat : Int))] rfl rfl (cell_one_new _ _ _) ?_ ?_ ?_ ?_ ?_))
          · intro u hu; simp at hu; subst hu; rfl
          · unfold maxLen; omega
          · omega
          · simp; omega
          · intro v1 w1 hown1 hgrow1 _ hat1
            have hown1' : w1.ownsRow (w.heap.size + 1) 5 1 v1 (k + 1) (mapL upB s (k + 1)) := by rw [HX.out]; exact hown1
            have HT1 := Lib.hid (HT.out.left _ hown1' hgrow1 hat1)
            have hsz1 := HT1.out.size
            clear hown1 hown1' hgrow1 hat1 HT hsz
            go_wp2_with (at_builtin; refine wpList_append_own_at _ rfl _ _ 50 rfl (w.heap.size + 1) 5 i0 (.int .u8 0) 1 1 Try.underlying50 hi hz0 hz1 hz2 rfl (by decide) _ _ _ rfl (HT1.out.rm.alloc _) ⟨w1.heap.size, 0, none⟩ 1 1 [.int .u8 223] rfl rfl (cell_one_new _ _ _) ?_ ?_ ?_ ?_ ?_)
            · intro u hu; simp at hu; subst hu; rfl
            · unfold maxLen; omega
            · omega
            · simp; omega
            · intro v2 w2 hown2 hgrow2 _ hat2
              have hown2' : w2.ownsRow (w.heap.size + 1) 5 1 v2 (k + 1) (mapL mskB s (k + 1)) := by rw [HY.out]; exact hown2
              have HT2 := Lib.hid (HT1.out.right _ hown2' hgrow2 hat2)
              clear hown2 hown2' hgrow2 hat2 HT1 hsz1
              go_wp2
              go_roundw
              case rel => exact ⟨k + 1, by omega, by go_num, HT2.out⟩
              case measure => simp [intOf]; omega
    · obtain rfl : k = s.size := by omega
      have hb1 := mapL_back HT.out.rb
      have hb2 := mapL_back HT.out.rm
      have p0 := HT.out.pt.cell 0
      have p1 := HT.out.pt.cell 1
      have p2 := HT.out.pt.cell 2
      have p3 := HT.out.pt.cell 3
      have q0 := HT.out.pt.frozen 0
      have q1 := HT.out.pt.frozen 1
      have q2 := HT.out.pt.frozen 2
      have q3 := HT.out.pt.frozen 3
      go_wp2
      refine bodyPost_ret (v := patV (mapS upB s) (mapS mskB s) blk5 t) (by simp [results, Try.results21, go_sem, p0, p1, p2, p3]; rfl) rfl ⟨rfl, ?_⟩
      exact (((HT.out.bl.setCell (by simp) _).setCell (by simp) _).setCell (by simp) _).setCell (by simp) _

end Go.Proofs.Ytjkafeoenghdeaa
