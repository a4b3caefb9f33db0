/-
  What package queue's Take, Drain, Push and Fill do, over a queue of its own block and row, and over none. Conditions: as XQue's.
-/
import Derived.Test.YtpckaopclgcghaaQue
import Derived.Deep.RegionLaw
import Derived.Lib.Bytealg
namespace Go.Proofs.Ytpckaopclgcghaa
open Go.RowKit

theorem toList_none {x : ByteArray} (h : x.size = 0) : (x.toList == []) = true := by
  have : x = ⟨#[]⟩ := by
    apply ByteArray.ext
    exact Array.eq_empty_of_size_eq_zero h
  subst this
  simp
theorem toList_some {x : ByteArray} (h : 0 < x.size) : (x.toList == []) = false := by
  have : x.toList.length = x.size := by rw [Lib.toList_data]; simp
  cases hx : x.toList with
  | nil => rw [hx] at this; simp at this; omega
  | cons a l => rfl

theorem Row.set {w : World} {B qb : Nat} {ao : Option Addr} {cap : Nat} {s : ByteArray} (h : Row w B 5 ao cap s) (hne : ao.map Addr.block ≠ some qb) (i : Nat) (u : Value) : Row (w.setCell ⟨qb, i, none⟩ u) B 5 ao cap s :=
  h.of_blocks fun k hk => Below.heap_setCell w ⟨qb, i, none⟩ u k (fun e => hne (by rw [hk, e]))

section
variable {B qb most gone : Nat} {s : ByteArray}

/-- What a Take leaves. -/
def Took (w : World) (B qb most gone : Nat) (s : ByteArray) (k : Nat) (e : Ending) (w' : World) : Prop :=
  e = .returned (.string (s.extract 0 k)) ∧ Que w' B qb most (gone + k) (s.extract k s.size) ∧ Below B w w'

set_option maxHeartbeats 1000000 in
theorem qtake_any (n : Int) (w : World) (h : Que w B qb most gone s) (hg : gone + s.size ≤ 9223372036854775807) :
    Calls Try.prog 10 #[qptr qb, .int .i64 n] w (Took w B qb most gone s (many n s.size)) := by
  have HP := Lib.hid (fun (W : World) (hW : Que W B qb most gone s) => qpeek_any n W hW)
  have hk := many_le n s.size
  generalize many n s.size = k at *
  obtain ⟨x, hx⟩ : ∃ x, x = s.extract 0 k := ⟨_, rfl⟩
  have hxs : x.size = k := by rw [hx]; simp; omega
  have HX := Lib.hid hx
  rw [← hx] at HP
  clear hx
  have HQ := Lib.hid h
  by_cases h0 : k = 0
  · have ht := toList_none (x := x) (by omega)
    have hf : ∀ w', w = w' → Took w B qb most gone s k (.returned (.string ⟨#[]⟩)) w' := by
      rintro _ rfl
      refine ⟨?_, ?_, Below.refl _ _⟩
      · have : s.extract 0 k = ⟨#[]⟩ := by subst h0; apply ByteArray.ext; simp
        rw [this]
      · have : s.extract k s.size = s := by subst h0; simp
        rw [this, h0]
        exact h
    clear h h0 hxs
    have HF := Lib.hid hf
    clear hf
    go_enter Try.func10, Try.ntmps10
    go_wp2_with (go_at_call 11; refine (HP.out _ HQ.out).mono ?_; rintro e w1 ⟨rfl, rfl⟩)
    go_ret
    exact HF.out _ rfl
  · have ht := toList_some (x := x) (by omega)
    obtain ⟨ao, cap, h1, h2, h3⟩ := h
    have hc := h2.cap_le
    have hne := h2.ne h1
    have c0 := h1.cell 0
    have c2 := h1.cell 2
    have z0 := h1.frozen 0
    have z2 := h1.frozen 2
    simp at c0 c2
    have H1 := Lib.hid h1
    have HR := Lib.hid h2
    have HN := Lib.hid hne
    have g1 : IntKind.i64.wrap ((gone : Int) + (k : Int)) = (gone : Int) + (k : Int) := IntWalk.i64_in _ (by omega)
    have hsz : (s.extract k s.size).size = s.size - k := by simp
    have HD := Lib.hid (h2.drop k hk)
    have HS := Lib.hid hsz
    have hkd : ((s.size - k : Nat) : Int) = (s.size : Int) - (k : Int) := by omega
    clear h1 h2 hne hsz
    by_cases hall : k = s.size
    · subst hall
      by_cases hck : cap = s.size
      · go_enter Try.func10, Try.ntmps10
        go_wp2_with (go_at_call 11; refine (HP.out _ HQ.out).mono ?_; rintro e w1 ⟨rfl, rfl⟩)
        go_ret
        refine ⟨by rw [HX.out]; rfl, ⟨none, 0, ?_, Row.nil' _ _ _ (by rw [HS.out]; omega), h3⟩, (((Below.refl B w).setCell (p := ⟨qb, 0, none⟩) h3 _).setCell (p := ⟨qb, 0, none⟩) h3 _).setCell (p := ⟨qb, 2, none⟩) h3 _⟩
        rw [HS.out, Nat.sub_self]
        exact ((H1.out.set_ 0 _).set_ 0 _).set_ 2 _
      · go_enter Try.func10, Try.ntmps10
        go_wp2_with (go_at_call 11; refine (HP.out _ HQ.out).mono ?_; rintro e w1 ⟨rfl, rfl⟩)
        go_ret
        refine ⟨by rw [HX.out]; rfl, ⟨none, 0, ?_, Row.nil' _ _ _ (by rw [HS.out]; omega), h3⟩, (((Below.refl B w).setCell (p := ⟨qb, 0, none⟩) h3 _).setCell (p := ⟨qb, 0, none⟩) h3 _).setCell (p := ⟨qb, 2, none⟩) h3 _⟩
        rw [HS.out, Nat.sub_self]
        exact ((H1.out.set_ 0 _).set_ 0 _).set_ 2 _
    · have hck : ¬ cap = k := by omega
      rw [if_neg hck, Nat.mul_one] at HD
      have d1 : (((s.size - k : Nat) : Int) == 0) = false := by simp; omega
      go_enter Try.func10, Try.ntmps10
      go_wp2_with (go_at_call 11; refine (HP.out _ HQ.out).mono ?_; rintro e w1 ⟨rfl, rfl⟩)
      go_ret
      refine ⟨by rw [HX.out]; rfl, ⟨ao.map (·.add k), cap - k, ?_, (HD.out.set ?_ _ _).set ?_ _ _, h3⟩, ((Below.refl B w).setCell (p := ⟨qb, 0, none⟩) h3 _).setCell (p := ⟨qb, 2, none⟩) h3 _⟩
      · rw [HS.out]
        exact (H1.out.set_ 0 _).set_ 2 _
      · exact HD.out.ne H1.out
      · exact HD.out.ne H1.out

set_option maxHeartbeats 400000 in
theorem qdrain_any (w : World) (h : Que w B qb most gone s) (hg : gone + s.size ≤ 9223372036854775807) :
    Calls Try.prog 12 #[qptr qb] w (Took w B qb most gone s s.size) := by
  have hm : many (s.size : Int) s.size = s.size := by unfold many; omega
  have HT := Lib.hid (qtake_any (s.size : Int) w h hg)
  rw [hm] at HT
  clear hm hg
  go_enter Try.func12, Try.ntmps12
  go_wp2_with (first
    | (go_at_call 15; refine (qlen_any _ h).mono ?_; rintro e w1 ⟨rfl, rfl⟩)
    | (go_at_call 10; refine HT.out.mono ?_; rintro e w1 ⟨rfl, hQ, hB⟩))
  go_ret
  exact ⟨by simp, hQ, hB⟩

set_option maxHeartbeats 400000 in
theorem qpush_full (t : ByteArray) (w : World) (h : Que w B qb most gone s) (hs : s.size ≤ most) (hm : most ≤ 1048576) (ht : t.size ≤ 9223372036854775807) (hl : most - s.size < t.size) :
    Calls Try.prog 13 #[qptr qb, .string t] w fun e w' => e = .returned (.int .i64 3) ∧ ∃ n, w' = w.drewN n := by
  have HQ := Lib.hid (fun (W : World) (hW : Que W B qb most gone s) => qroom_any W hW hs hm)
  have hq := q_eq_nil ⟨qb, 0, none⟩
  generalize most - s.size = d at *
  have d1 : decide ((d : Int) < (t.size : Int)) = true := by simpa using hl
  go_enter Try.func13, Try.ntmps13
  go_wp2_with (go_at_call 16; refine (HQ.out _ h).mono ?_; rintro e w1 ⟨rfl, n, rfl⟩)
  go_ret
  exact ⟨rfl, _, rfl⟩

theorem Try.infoByte1 : (Try.prog.info? 5).map (fun i => (i.zero, i.size, i.bytes)) = some (some (.int .u8 0), 1, 1) := by kernel_rfl

/-- Behind an append the queue holds more. -/
theorem Que.pushed {w w1 : World} {ao ao' : Option Addr} {cap cap' : Nat} {t : ByteArray} (h1 : Blk w qb 43 #[.slice ao s.size cap, .int .i64 most, .int .i64 gone]) (h2 : Row w B 5 ao cap s) (h3 : B ≤ qb) (hBw : B ≤ w.heap.size)
    (hr : Row w1 B 5 ao' cap' (s ++ t)) (hgr : w.grownBy w1 (ao.map Addr.block)) :
    Blk w1 qb 43 #[.slice ao s.size cap, .int .i64 most, .int .i64 gone] ∧ Que (w1.setCell ⟨qb, 0, none⟩ (.slice ao' (s ++ t).size cap')) B qb most gone (s ++ t) ∧ Below B w (w1.setCell ⟨qb, 0, none⟩ (.slice ao' (s ++ t).size cap')) := by
  have hb : Blk w1 qb 43 #[.slice ao s.size cap, .int .i64 most, .int .i64 gone] := (hgr.block qb h1.lt (fun e => h2.ne h1 e.symm)).trans h1
  exact ⟨hb, ⟨ao', cap', hb.set_ 0 _, hr.set (hr.ne hb) _ _, h3⟩, ((Below.refl B w).grown hgr hBw (fun k hk => (h2.lt k hk).1)).setCell (p := ⟨qb, 0, none⟩) h3 _⟩

set_option maxHeartbeats 1000000 in
theorem qpush_ok (t : ByteArray) (w : World) (h : Que w B qb most gone s) (hs : s.size ≤ most) (hm : most ≤ 1048576) (hl : t.size ≤ most - s.size) :
    Calls Try.prog 13 #[qptr qb, .string t] w fun e w' => e = .returned (.int .i64 0) ∧ Que w' B qb most gone (s ++ t) ∧ Below B w w' := by
  have HQ := Lib.hid (fun (W : World) (hW : Que W B qb most gone s) => qroom_any W hW hs hm)
  have hq := q_eq_nil ⟨qb, 0, none⟩
  have hbytes : s.size + t.size ≤ 140737488355328 := by omega
  obtain ⟨d, hd⟩ : ∃ d, d = most - s.size := ⟨_, rfl⟩
  rw [← hd] at HQ hl
  clear hd
  have d1 : decide ((d : Int) < (t.size : Int)) = false := by simp; omega
  have d2 : decide (d < t.size) = false := by simp; omega
  obtain ⟨i0, hi, hz0, hz1, hz2⟩ := info_parts Try.infoByte1
  have HW := Lib.hid (Below.refl B w)
  have hsz : B ≤ w.heap.size := by have := h.lt; have := h.base; omega
  go_enter Try.func13, Try.ntmps13
  go_wp2_with (go_at_call 16; refine (HQ.out _ h).mono ?_)
  rintro e w1 ⟨rfl, n, rfl⟩
  obtain ⟨ao, cap, h1, h2, h3⟩ := h.drewN n
  have hc := h2.cap_le
  have c0 := h1.cell 0
  simp at c0
  have H1 := Lib.hid h1
  have H2 := Lib.hid h2
  clear h1 h2 h
  go_wp2_with (at_builtin; refine Row.push _ rfl _ _ _ _ rfl B 5 i0 Try.underlying41 Try.underlying9 hi hz0 hz1 hz2 ao cap s rfl H2.out t rfl hbytes hsz ?_)
  clear c0
  intro ao' cap' w1 hr hgr
  obtain ⟨hb1, hQ, hB⟩ := Que.pushed H1.out H2.out h3 hsz hr hgr
  have hst : (s ++ t).size = s.size + t.size := by simp
  rw [hst] at hQ hB
  clear hst
  have z0 := hb1.frozen 0
  have c0 := hb1.cell 0
  simp at c0
  have HQ2 := Lib.hid hQ
  have HB2 := Lib.hid hB
  clear hb1 hQ hB hr hgr
  go_wp2
  go_ret
  exact ⟨rfl, HQ2.out, (Below.drewN' (Below.refl B w) n).trans HB2.out⟩

set_option maxHeartbeats 400000 in
theorem qpeek_nil (n : Int) (w : World) :
    Calls Try.prog 11 #[.pointer none, .int .i64 n] w fun e w' => e = .returned (.string ⟨#[]⟩) ∧ w = w' := by
  by_cases hn : n < 0
  · go_enter Try.func11, Try.ntmps11
    go_wp2_with (go_at_call 15; refine (qlen_nil _).mono ?_; rintro e w1 ⟨rfl, rfl⟩)
    go_ret
    exact ⟨rfl, rfl⟩
  · by_cases h0 : n = 0
    · subst h0
      go_enter Try.func11, Try.ntmps11
      go_wp2_with (go_at_call 15; refine (qlen_nil _).mono ?_; rintro e w1 ⟨rfl, rfl⟩)
      go_ret
      exact ⟨rfl, rfl⟩
    · have h1 : 0 < n := by omega
      clear h0
      go_enter Try.func11, Try.ntmps11
      go_wp2_with (go_at_call 15; refine (qlen_nil _).mono ?_; rintro e w1 ⟨rfl, rfl⟩)
      go_ret
      exact ⟨rfl, rfl⟩
set_option maxHeartbeats 400000 in
theorem qtake_nil (n : Int) (w : World) :
    Calls Try.prog 10 #[.pointer none, .int .i64 n] w fun e w' => e = .returned (.string ⟨#[]⟩) ∧ w = w' := by
  go_enter Try.func10, Try.ntmps10
  go_wp2_with (go_at_call 11; refine (qpeek_nil n _).mono ?_; rintro e w1 ⟨rfl, rfl⟩)
  go_ret
  exact ⟨rfl, rfl⟩
set_option maxHeartbeats 400000 in
theorem qdrain_nil (w : World) :
    Calls Try.prog 12 #[.pointer none] w fun e w' => e = .returned (.string ⟨#[]⟩) ∧ w = w' := by
  go_enter Try.func12, Try.ntmps12
  go_wp2_with (first | (go_at_call 15; refine (qlen_nil _).mono ?_; rintro e w1 ⟨rfl, rfl⟩) | (go_at_call 10; refine (qtake_nil _ _).mono ?_; rintro e w1 ⟨rfl, rfl⟩))
  go_ret
  exact ⟨rfl, rfl⟩
set_option maxHeartbeats 400000 in
theorem qpush_nil (t : ByteArray) (w : World) :
    Calls Try.prog 13 #[.pointer none, .string t] w fun e w' => e = .returned (.int .i64 1) ∧ w = w' := by
  have hq := q_nil_nil
  go_enter Try.func13, Try.ntmps13
  go_wp2
  go_ret
  exact ⟨rfl, rfl⟩
set_option maxHeartbeats 400000 in
theorem qfill_nil (t : ByteArray) (w : World) :
    Calls Try.prog 9 #[.pointer none, .string t] w fun e w' => e = .returned (.string t) ∧ w = w' := by
  have hq := q_nil_nil
  go_enter Try.func9, Try.ntmps9
  go_wp2
  go_ret
  exact ⟨rfl, rfl⟩

set_option maxHeartbeats 1000000 in
theorem qfill_any (t : ByteArray) (w : World) (h : Que w B qb most gone s) (hs : s.size ≤ most) (hm : most ≤ 1048576) (ht : t.size ≤ 9223372036854775807) (k : Nat) (hk : (t.size ≤ most - s.size ∧ k = t.size) ∨ (most - s.size < t.size ∧ k = most - s.size)) :
    Calls Try.prog 9 #[qptr qb, .string t] w fun e w' => e = .returned (.string (t.extract k t.size)) ∧ Que w' B qb most gone (s ++ t.extract 0 k) ∧ Below B w w' := by
  have HQ := Lib.hid (fun (W : World) (hW : Que W B qb most gone s) => qroom_any W hW hs hm)
  have hq := q_eq_nil ⟨qb, 0, none⟩
  have hkt : k ≤ t.size := by omega
  have hbytes : s.size + (t.extract 0 k).size ≤ 140737488355328 := by simp; omega
  have hbytes' : s.size + k ≤ 140737488355328 := by omega
  obtain ⟨d, hd⟩ : ∃ d, d = most - s.size := ⟨_, rfl⟩
  rw [← hd] at HQ hk
  clear hd
  have hsz : B ≤ w.heap.size := by have := h.lt; have := h.base; omega
  obtain ⟨i0, hi, hz0, hz1, hz2⟩ := info_parts Try.infoByte1
  rcases hk with ⟨hk, rfl⟩ | ⟨hk, rfl⟩
  · have d1 : ¬ (d : Int) < (t.size : Int) := by omega
    have d2 : ¬ d < t.size := by omega
    have et : t.extract 0 t.size = t := by simp
    rw [et]
    clear et
    go_enter Try.func9, Try.ntmps9
    go_wp2_with (go_at_call 16; refine (HQ.out _ h).mono ?_; rintro e w1 ⟨rfl, n, rfl⟩; have hbn := Below.drewN' (Below.refl B w) n; obtain ⟨ao, cap, h1, h2, h3⟩ := h.drewN n; clear h; generalize hwn : w.drewN n = wn at *; have hszn : B ≤ wn.heap.size := (by subst hwn; exact hsz); have hc := h2.cap_le; have c0 := h1.cell 0; simp at c0; have H1 := Lib.hid h1; have H2 := Lib.hid h2; have HBN := Lib.hid hbn; clear h1 h2 hwn hbn)
    have HR : Hid (Row wn.drew B 5 ao cap s) := H2
    have HB : Hid (Blk wn.drew qb 43 #[.slice ao s.size cap, .int .i64 most, .int .i64 gone]) := H1
    go_region_law ((refine Row.push_step _ (by rfl) _ _ _ _ (by rfl) B 5 i0 Try.underlying41 Try.underlying9 hi hz0 hz1 hz2 ao cap s (by rfl) (by exact HR.out) t (by rfl) hbytes' (by exact hszn) (s.size + t.size) (by simp) ?_; intro ao' cap' w1 hr hgr; obtain ⟨hb1, hQ, hB⟩ := Que.pushed HB.out HR.out h3 hszn hr hgr; have hB' := (HBN.out.drew).trans hB; have hst : (s ++ t).size = s.size + t.size := (by simp); rw [hst] at hQ hB'; have HQ2 := Lib.hid hQ; have HB2 := Lib.hid hB'; have z0 := hb1.frozen 0; have c1 := hb1.cell 0; simp at c1; clear hb1 hQ hB hB' hr hgr hst c0))
    go_wp2
    go_ret
    exact ⟨by simp, HQ2.out, HB2.out⟩
  · have d1 : (k : Int) < (t.size : Int) := by omega
    have hmn : min k t.size = k := by omega
    go_enter Try.func9, Try.ntmps9
    go_wp2_with (go_at_call 16; refine (HQ.out _ h).mono ?_; rintro e w1 ⟨rfl, n, rfl⟩; have hbn := Below.drewN' (Below.refl B w) n; obtain ⟨ao, cap, h1, h2, h3⟩ := h.drewN n; clear h; generalize hwn : w.drewN n = wn at *; have hszn : B ≤ wn.heap.size := (by subst hwn; exact hsz); have hc := h2.cap_le; have c0 := h1.cell 0; simp at c0; have H1 := Lib.hid h1; have H2 := Lib.hid h2; have HBN := Lib.hid hbn; clear h1 h2 hwn hbn)
    have HR : Hid (Row wn.drew B 5 ao cap s) := H2
    have HB : Hid (Blk wn.drew qb 43 #[.slice ao s.size cap, .int .i64 most, .int .i64 gone]) := H1
    go_region_law ((refine Row.push_step _ (by rfl) _ _ _ _ (by rfl) B 5 i0 Try.underlying41 Try.underlying9 hi hz0 hz1 hz2 ao cap s (by rfl) (by exact HR.out) (t.extract 0 k) (by rfl) hbytes (by exact hszn) (s.size + k) (by simp; omega) ?_; intro ao' cap' w1 hr hgr; obtain ⟨hb1, hQ, hB⟩ := Que.pushed HB.out HR.out h3 hszn hr hgr; have hB' := (HBN.out.drew).trans hB; have hst : (s ++ (t.extract 0 k)).size = s.size + k := (by simp; omega); rw [hst] at hQ hB'; have HQ2 := Lib.hid hQ; have HB2 := Lib.hid hB'; have z0 := hb1.frozen 0; have c1 := hb1.cell 0; simp at c1; clear hb1 hQ hB hB' hr hgr hst c0))
    go_wp2
    go_ret
    exact ⟨rfl, HQ2.out, HB2.out⟩
end

end Go.Proofs.Ytpckaopclgcghaa
