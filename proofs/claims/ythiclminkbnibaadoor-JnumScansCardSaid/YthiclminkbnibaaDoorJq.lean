/-
  What package jnum's Scan and State answer. Condition: the text is as long as a length can be.
-/
import Derived.Test.YthiclminkbnibaaDoorJp
namespace Go.Proofs.YthiclminkbnibaaDoor
open Go.RowKit Go.Shelf
attribute [local go_sem] Oper.semAt_some

theorem places_stops (n : Nat) (hn : 1 ≤ n) (Bn : Nat) (s : ByteArray) (hs : s.size ≤ 9223372036854775807) (w : World) (hB : w.heap[Bn]? = some (.cells #[.string s] 9 (0, 0))) :
    SeqStopsK Fence.wide n Tryd.prog 37 #[.pointer (some ⟨Bn, 0, none⟩)] encP (KeepsB Bn) (AllCome s) (fun _ => True) (s.size + 1) w := fun l J Jx W hW _ _ hY h0 => by
  have hlt : Bn < w.heap.size := (Array.getElem?_eq_some_iff.1 hB).1
  exact places1_in n hn l Bn s hs J Jx hY W ((hW.block Bn hlt).trans hB) h0

set_option maxHeartbeats 400000 in
theorem places_any (n : Nat) (s : ByteArray) (w : World) :
    CallsIn Fence.wide n Tryd.prog 20 #[.string s] w fun e w' => e = .returned (.func (.func 37) #[] #[.pointer (some ⟨w.heap.size, 0, none⟩)]) ∧ w' = w.alloc (.cells #[.string s] 9) := by
  refine callsIn_wide.2 ?_
  go_enter Tryd.func20, Tryd.ntmps20
  go_wp2
  go_ret
  exact ⟨rfl, rfl⟩

theorem keepsB_t {b : Nat} {A B C : World} (h : KeepsB b A B) (k : KeepsB b B C) : KeepsB b A C := Eq.trans k h
theorem keepsB_b {b : Nat} {w : World} (hb : b < w.heap.size) (W : World) (l : Nat) (o o' : Obj) (hl : w.heap.size ≤ l) (_ : W.heap[l]? = some o) (_ : o.isCells = false) (_ : o.isWalk = false) : KeepsB b W (W.putObj l o') :=
  World.putObj_heap_other (by omega)

set_option maxRecDepth 100000 in
set_option maxHeartbeats 4000000 in
theorem scan_any (s : ByteArray) (w : World) (hs : s.size ≤ 9223372036854775807) :
    Calls Tryd.prog 7 #[.string s] w fun e w' => e = .returned (.tuple #[.int .i64 (lng s s.size : Nat), .bool (decide (0 < lng s s.size))]) ∧ Below w.heap.size w w' := by
  refine (callsIn_wide (n := 3)).1 ?_
  refine callsIn_of_wp_marks Tryd.func7 rfl trivial ?_ rfl
  simp only [Tryd.ntmps7, List.size_toArray, List.length_cons, List.length_nil, Nat.reduceAdd, Nat.reduceSub, Array.replicate_succ, Array.replicate_zero, List.push_toArray, List.append_toArray, List.nil_append, List.cons_append]
  gi_wp2_with (refine ⟨trivial, ?_⟩; gi_at_call 20; refine (places_any _ s _).mono ?_; rintro e w' ⟨rfl, rfl⟩)
  have hB0 : Below w.heap.size w ((w.alloc (.cells #[.int .i64 0] 3)).alloc (.cells #[.string s] 9)) := ((Below.refl _ w).alloc (Nat.le_refl _) _).alloc (by simp) _
  have hbk : ((w.alloc (.cells #[.int .i64 0] 3)).alloc (.cells #[.string s] 9)).heap[w.heap.size + 1]? = some (.cells #[.string s] 9 (0, 0)) := by
    have := Blk.new (w.alloc (.cells #[.int .i64 0] 3)) 9 #[.string s]
    simpa [Blk] using this
  have hbl : Blk ((w.alloc (.cells #[.int .i64 0] 3)).alloc (.cells #[.string s] 9)) w.heap.size 3 #[.int .i64 0] := (Blk.new w 3 #[.int .i64 0]).alloc _
  refine wpIn_rangeFunc_ownF (w0 := (w.alloc (.cells #[.int .i64 0] 3)).alloc (.cells #[.string s] 9)) rfl (by omega) (gf := 37) (lb := #[.pointer (some ⟨w.heap.size + 1, 0, none⟩)]) rfl trivial (enters_of Tryd.func37 (by kernel_rfl) rfl)
    (places_stops 2 (by omega) (w.heap.size + 1) s hs _ hbk) keepsB_t (keepsB_b (by simp)) (Below.refl _ _) (fun _ => rfl)
    (fun pre W => (W.cell? ⟨w.heap.size, 0, none⟩ = some (.int .i64 (lngL pre : Nat)) ∧ W.frozen? ⟨w.heap.size, 0, none⟩ = false) ∧ Below w.heap.size w W)
    (fun _ _ _ => False)
    (OwnFrom.and (Own.from (fun s A B row hs hg hr => ⟨cell_kept hs.1 hg hr, (frozen_kept hs.1 hg hr).trans hs.2⟩) _) (ownFrom_below (Nat.le_refl _) (by simp; omega)))
    (fun _ _ _ _ _ hs _ _ => hs)
    ⟨⟨(Blk.cell hbl 0).trans rfl, Blk.frozen hbl 0⟩, hB0⟩
    (fun x => { tmps := #[.string s, undef, .int .i64 0, .bool false, .pointer (some ⟨w.heap.size, 0, none⟩), .int .i64 (x.1 : Int), .int .i64 (x.2 : Int), .string s, .func (.func 37) #[] #[.pointer (some ⟨w.heap.size + 1, 0, none⟩)], .int .i64 (x.1 : Int), .int .i64 (x.2 : Int), undef, undef, undef, undef, undef, undef], defers := [] }) ?assign ?body ?done ?stop
  case assign =>
    intro l x W K hK
    gi_wp2
    exact hK
  case body =>
    rintro l pre x W ⟨⟨hc, hf⟩, hB⟩ _
    have HE := Lib.hid fun m W => CallsIn.inRound l (callsIn_wide (n := m).2 (ends_any x.2 W))
    have HL := Lib.hid (lngL_snoc pre x)
    cases he : endB x.2
    · rw [he] at HE HL
      clear he
      gi_wp2_with (refine ⟨trivial, ?_⟩; gi_at_call 21; refine (HE.out _ _).mono ?_; rintro e w' ⟨rfl, rfl⟩)
      exact ⟨KeepsOthers.refl _, rfl, ⟨by rw [HL.out]; exact hc, hf⟩, hB⟩
    · rw [he] at HE HL
      clear he
      gi_wp2_with (refine ⟨trivial, ?_⟩; gi_at_call 21; refine (HE.out _ _).mono ?_; rintro e w' ⟨rfl, rfl⟩)
      exact ⟨KeepsOthers.setCell _ _ _, (Below.heap_setCell _ _ _ _ (by simp)), ⟨by rw [HL.out]; exact World.cell?_setCell_same' _ _ _ (by rw [hc]; rfl), by rw [World.frozen?_setCell]; exact hf⟩, hB.setCell (p := ⟨w.heap.size, 0, none⟩) (Nat.le_refl _) _⟩
  case done =>
    rintro D xs W hD hS ⟨⟨hc, hf⟩, hB⟩ hK
    rw [hS.lng] at hc
    gi_wp2
    gi_region
    gi_wp2
    refine ⟨by simp, .inl ⟨_, _, rfl, run_takeDeferred (show W.drew.heap[D]? = _ from hK), ?_⟩⟩
    exact ⟨.tuple #[.int .i64 (lng s s.size : Nat), .bool (decide (0 < lng s s.size))], by simp [results, Tryd.results7, go_sem], rfl, (Below.drewN' hB 1).trans (belowK_b (w := w) (Nat.le_refl _) W.drew D _ _ (by simp at hD; omega) hK rfl rfl)⟩
  case stop =>
    rintro D c pre W _ _ h _
    exact h.elim

theorem staB_0 {p : Nat} (h : p = 0) : staB p = 0 := by unfold staB; rw [if_pos h]
theorem staB_2 {p : Nat} (h : p ≠ 0) (e : endB p = true) : staB p = 2 := by unfold staB; rw [if_neg h, if_pos e]
theorem staB_1 {p : Nat} (h : p ≠ 0) (e : endB p = false) : staB p = 1 := by unfold staB; rw [if_neg h, if_neg (by rw [e]; decide)]

set_option maxRecDepth 100000 in
set_option maxHeartbeats 4000000 in
theorem state_any (s : ByteArray) (w : World) (hs : s.size ≤ 9223372036854775807) :
    Calls Tryd.prog 9 #[.string s] w fun e w' => e = .returned (.int .i64 (staB (plc s s.size))) ∧ Below w.heap.size w w' := by
  refine (callsIn_wide (n := 3)).1 ?_
  refine callsIn_of_wp_marks Tryd.func9 rfl trivial ?_ rfl
  simp only [Tryd.ntmps9, List.size_toArray, List.length_cons, List.length_nil, Nat.reduceAdd, Nat.reduceSub, Array.replicate_succ, Array.replicate_zero, List.push_toArray, List.append_toArray, List.nil_append, List.cons_append]
  gi_wp2_with (refine ⟨trivial, ?_⟩; gi_at_call 20; refine (places_any _ s _).mono ?_; rintro e w' ⟨rfl, rfl⟩)
  have hB0 : Below w.heap.size w ((w.alloc (.cells #[.int .i64 0] 3)).alloc (.cells #[.string s] 9)) := ((Below.refl _ w).alloc (Nat.le_refl _) _).alloc (by simp) _
  have hbk : ((w.alloc (.cells #[.int .i64 0] 3)).alloc (.cells #[.string s] 9)).heap[w.heap.size + 1]? = some (.cells #[.string s] 9 (0, 0)) := by
    have := Blk.new (w.alloc (.cells #[.int .i64 0] 3)) 9 #[.string s]
    simpa [Blk] using this
  have hbl : Blk ((w.alloc (.cells #[.int .i64 0] 3)).alloc (.cells #[.string s] 9)) w.heap.size 3 #[.int .i64 0] := (Blk.new w 3 #[.int .i64 0]).alloc _
  refine wpIn_rangeFunc_ownF (w0 := (w.alloc (.cells #[.int .i64 0] 3)).alloc (.cells #[.string s] 9)) rfl (by omega) (gf := 37) (lb := #[.pointer (some ⟨w.heap.size + 1, 0, none⟩)]) rfl trivial (enters_of Tryd.func37 (by kernel_rfl) rfl)
    (places_stops 2 (by omega) (w.heap.size + 1) s hs _ hbk) keepsB_t (keepsB_b (by simp)) (Below.refl _ _) (fun _ => rfl)
    (fun pre W => (W.cell? ⟨w.heap.size, 0, none⟩ = some (.int .i64 (lstL pre : Nat)) ∧ W.frozen? ⟨w.heap.size, 0, none⟩ = false) ∧ Below w.heap.size w W)
    (fun _ _ _ => False)
    (OwnFrom.and (Own.from (fun s A B row hs hg hr => ⟨cell_kept hs.1 hg hr, (frozen_kept hs.1 hg hr).trans hs.2⟩) _) (ownFrom_below (Nat.le_refl _) (by simp; omega)))
    (fun _ _ _ _ _ hs _ _ => hs)
    ⟨⟨(Blk.cell hbl 0).trans rfl, Blk.frozen hbl 0⟩, hB0⟩
    (fun x => { tmps := #[.string s, undef, .int .i64 0, .pointer (some ⟨w.heap.size, 0, none⟩), undef, .int .i64 (x.2 : Int), .string s, .func (.func 37) #[] #[.pointer (some ⟨w.heap.size + 1, 0, none⟩)], .int .i64 (x.1 : Int), .int .i64 (x.2 : Int), undef, undef, undef, undef, undef, undef, undef], defers := [] }) ?assign ?body ?done ?stop
  case assign =>
    intro l x W K hK
    gi_wp2
    exact hK
  case body =>
    rintro l pre x W ⟨⟨hc, hf⟩, hB⟩ _
    have HL := Lib.hid (lstL_snoc pre x)
    gi_wp2
    exact ⟨KeepsOthers.setCell _ _ _, (Below.heap_setCell _ _ _ _ (by simp)), ⟨by rw [HL.out]; exact World.cell?_setCell_same' _ _ _ (by rw [hc]; rfl), by rw [World.frozen?_setCell]; exact hf⟩, hB.setCell (p := ⟨w.heap.size, 0, none⟩) (Nat.le_refl _) _⟩
  case done =>
    rintro D xs W hD hS ⟨⟨hc, hf⟩, hB⟩ hK
    rw [hS.lst] at hc
    obtain ⟨p, hp⟩ : ∃ p, p = plc s s.size := ⟨_, rfl⟩
    rw [← hp] at hc
    have HE := Lib.hid fun m W => callsIn_wide (n := m).2 (ends_any p W)
    have HD := Lib.hid (belowK_b (w := w) (Nat.le_refl _) W D (.deferred (some [])) (.deferred none) (by simp at hD; omega) hK rfl rfl)
    by_cases h0 : p = 0
    · have HV := Lib.hid (staB_0 (p := plc s s.size) (hp ▸ h0))
      clear hp
      subst h0
      clear HE
      gi_wp2
      refine ⟨by simp, .inl ⟨_, _, rfl, run_takeDeferred hK, ?_⟩⟩
      exact ⟨_, results_tmp rfl _ _ _, by rw [HV.out]; rfl, hB.trans HD.out⟩
    · have hz : ((p : Int) == 0) = false := by simp; omega
      cases he : endB p
      · have HV := Lib.hid (staB_1 (p := plc s s.size) (hp ▸ h0) (hp ▸ he))
        rw [he] at HE
        clear h0 he hp
        gi_wp2_with (refine ⟨trivial, ?_⟩; gi_at_call 21; refine (HE.out _ _).mono ?_; rintro e w' ⟨rfl, rfl⟩)
        refine ⟨by simp, .inl ⟨_, _, rfl, run_takeDeferred hK, ?_⟩⟩
        exact ⟨_, results_tmp rfl _ _ _, by rw [HV.out]; rfl, hB.trans HD.out⟩
      · have HV := Lib.hid (staB_2 (p := plc s s.size) (hp ▸ h0) (hp ▸ he))
        rw [he] at HE
        clear h0 he hp
        gi_wp2_with (refine ⟨trivial, ?_⟩; gi_at_call 21; refine (HE.out _ _).mono ?_; rintro e w' ⟨rfl, rfl⟩)
        refine ⟨by simp, .inl ⟨_, _, rfl, run_takeDeferred hK, ?_⟩⟩
        exact ⟨_, results_tmp rfl _ _ _, by rw [HV.out]; rfl, hB.trans HD.out⟩
  case stop =>
    rintro D c pre W _ _ h _
    exact h.elim

end Go.Proofs.YthiclminkbnibaaDoor
