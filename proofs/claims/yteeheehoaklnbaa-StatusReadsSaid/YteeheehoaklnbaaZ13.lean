/-
  What the document's Line of layer 25 answers. Condition: the text is no longer than a length can be.
  What the document's Line of layer 25 answers: the same as package status' one. Condition: the text is no longer than a length can be.
  That package status is read (lives). No condition.
-/
import Derived.Test.YteeheehoaklnbaaZ12
import Derived.Test.YteeheehoaklnbaaZ8
import Derived.Deep.Cut
namespace Go.Proofs.Yteeheehoaklnbaa
open Go.RowKit


/-- The same, with the status that is read besides. -/
structure Lne (B nb : Nat) (vs : Array Value) (w : World) : Prop where
  d : Lnd B w
  loc : Blk w nb 28 vs
  far : B + 2 ≤ nb
theorem Lne.new {B : Nat} {w : World} (h : Lnd B w) (vs : Array Value) : Lne B w.heap.size vs (w.alloc (.cells vs 28)).drew :=
  ⟨(h.below ((Below.refl _ _).alloc (Nat.le_refl _) _)).below (by exact (Below.refl _ _).drew), (Blk.new w _ _).drew, by have := h.lt; omega⟩
theorem Lne.put2 {B nb : Nat} {x y z u : Value} {w : World} (h : Lne B nb #[x, y, z, u] w) (v : Value) : Lne B nb #[x, y, v, u] (w.setCell ⟨nb, 2, none⟩ v) := by
  have := h.far
  exact ⟨⟨h.d.res.far (by simp; omega) _, h.d.non.far (by simp; omega) _⟩, h.loc.set_ 2 v, h.far⟩
theorem Lne.put3 {B nb : Nat} {x y z u : Value} {w : World} (h : Lne B nb #[x, y, z, u] w) (v : Value) : Lne B nb #[x, y, z, v] (w.setCell ⟨nb, 3, none⟩ v) := by
  have := h.far
  exact ⟨⟨h.d.res.far (by simp; omega) _, h.d.non.far (by simp; omega) _⟩, h.loc.set_ 3 v, h.far⟩
theorem Lne.drew {B nb : Nat} {vs : Array Value} {w : World} (h : Lne B nb vs w) : Lne B nb vs w.drew := ⟨⟨h.d.res.drew, h.d.non.drew⟩, h.loc.drew, h.far⟩
theorem Lne.cells {B nb : Nat} {x y z u : Value} {w : World} (h : Lne B nb #[x, y, z, u] w) : w.cell? ⟨nb, 0, none⟩ = some x ∧ w.cell? ⟨nb, 1, none⟩ = some y ∧ w.cell? ⟨nb, 2, none⟩ = some z ∧ w.cell? ⟨nb, 3, none⟩ = some u := ⟨h.loc.cell 0, h.loc.cell 1, h.loc.cell 2, h.loc.cell 3⟩

theorem ext_zero {t x : ByteArray} {k : Nat} (hx : x = t.extract k t.size) (h : k < t.size) (h0 : 0 < x.size) : x[0] = t[k] := by
  subst hx
  rw [ext_at (Nat.le_refl _) (by omega)]
  simp only [Nat.add_zero]
theorem ext_more {t x : ByteArray} {k : Nat} (j : Nat) (hx : x = t.extract k t.size) : x.extract j x.size = t.extract (k + j) t.size := by
  subst hx
  rw [ByteArray.extract_extract]
  congr 1
  simp
  omega

set_option maxRecDepth 100000 in
set_option maxHeartbeats 16000000 in
theorem rline_tail (s t : ByteArray) (c : Nat) (c5 c6 c7 c8 : UInt8) (A : Ending) (w : World)
    (HE : Hid (∀ W, Calls Try.prog 25 #[.string s] W fun e w' => e = .returned (.string t) ∧ W = w'))
    (HP : Hid (∀ W, Calls Try.prog 26 #[.string t, .string htpS] W fun e w' => e = .returned (.bool true) ∧ W = w'))
    (HD5 : Hid (∀ W, Calls Try.prog 27 #[.int .u8 (c5.toNat : Int)] W fun e w' => e = .returned (.bool true) ∧ W = w'))
    (HD7 : Hid (∀ W, Calls Try.prog 27 #[.int .u8 (c7.toNat : Int)] W fun e w' => e = .returned (.bool true) ∧ W = w'))
    (hz : t.size ≤ 9223372036854775807) (hs : 12 ≤ t.size)
    (k5 : t[5] = c5) (k6 : t[6] = c6) (k7 : t[7] = c7) (k8 : t[8] = c8) (r5 : 48 ≤ c5.toNat ∧ c5.toNat ≤ 57) (r7 : 48 ≤ c7.toNat ∧ c7.toNat ≤ 57)
    (h6 : ((c6.toNat : Int) != 46) = false) (h8 : ((c8.toNat : Int) != 32) = false)
    (HC : Hid (scan blaB t 8 = c))
    (A1 : Hid (∀ x, x = t.extract c t.size → runD x < 3 → A = badE))
    (A2 : Hid (∀ x, x = t.extract c t.size → 3 ≤ runD x → t[c]! = 48 → A = badE))
    (A3 : Hid (∀ x, x = t.extract c t.size → 3 ≤ runD x → t[c]! ≠ 48 → c + 3 ≠ t.size → t[c + 3]! ≠ 32 → A = badE))
    (A4 : Hid (∀ x z, x = t.extract c t.size → 3 ≤ runD x → t[c]! ≠ 48 → c + 3 = t.size ∨ t[c + 3]! = 32 → z = t.extract (scan tabB t (c + 3)) t.size → allB quoB z = false → A = badE))
    (A5 : Hid (∀ x z, x = t.extract c t.size → 3 ≤ runD x → t[c]! ≠ 48 → c + 3 = t.size ∨ t[c + 3]! = 32 → z = t.extract (scan tabB t (c + 3)) t.size → allB quoB z = true →
      A = .returned (.tuple #[stV ((c5.toNat : Int) - 48) ((c7.toNat : Int) - 48) (100 * ((t[c]!.toNat : Int) - 48) + 10 * ((t[c + 1]!.toNat : Int) - 48) + ((t[c + 2]!.toNat : Int) - 48)) z, .int .i64 0]))) :
    Calls Try.prog 18 #[.string s] w fun r w' => r = A ∧ Below w.heap.size w w' := by
  obtain ⟨w0, hw0⟩ : ∃ w0, w0 = (w.alloc (.cells zerA 28)).alloc (.cells zerA 28) := ⟨_, rfl⟩
  have HB := Lib.hid (show Below w.heap.size w w0 from by rw [hw0]; exact ((Below.refl _ _).alloc (Nat.le_refl _) _).alloc (by simp) _)
  have HK := Lib.hid (show Lnd w.heap.size w0 from by rw [hw0]; exact Lnd.new w)
  have hs2 : ¬ (t.size : Int) < 12 := by omega
  obtain ⟨r5a, r5b⟩ := r5
  obtain ⟨r7a, r7b⟩ := r7
  go_enter Try.func18, Try.ntmps18
  go_wp2_with fail
  rw [← hw0]
  clear hw0
  go_wp2_with (first
      | (go_at_call 25; (with_reducible refine (HE.out _).mono ?_); rintro r w9 ⟨rfl, rfl⟩)
      | (go_at_call 26; (with_reducible refine (HP.out _).mono ?_); rintro r w9 ⟨rfl, rfl⟩)
      | (go_at_call 27; first | (with_reducible refine (HD5.out _).mono ?_) | (with_reducible refine (HD7.out _).mono ?_)
         rintro r w9 ⟨rfl, rfl⟩))
  go_region
  obtain ⟨w1, hw1⟩ : ∃ w1, w1 = (w0.alloc (stC ((c5.toNat : Int) - 48) ((c7.toNat : Int) - 48) 0 ⟨#[]⟩)).drew := ⟨_, rfl⟩
  rw [← hw1]
  replace HB := Lib.hid (show Below w.heap.size w w1 from by rw [hw1]; exact (HB.out.alloc HB.out.size _).drew)
  replace HK := Lib.hid (show Lne w.heap.size w0.heap.size #[.int .i64 ((c5.toNat : Int) - 48), .int .i64 ((c7.toNat : Int) - 48), .int .i64 0, .string ⟨#[]⟩] w1 from by rw [hw1]; exact Lne.new HK.out _)
  clear hw1 HE HP HD5 HD7 k5 k6 k7 k8 h6 h8 hs2
  generalize w0.heap.size = nb at *
  generalize (c5.toNat : Int) - 48 = v5 at *
  generalize (c7.toNat : Int) - 48 = v7 at *
  go_wp2_with fail
  go_loop [0] (fun i => ∃ (k : Nat) (x : ByteArray), 8 ≤ k ∧ k ≤ t.size ∧ i = .string x ∧ x = t.extract k t.size ∧ scan blaB t k = c) (fun i => strLen i)
  case atStart => exact ⟨8, _, Nat.le_refl _, by omega, rfl, rfl, HC.out⟩
  case round =>
    obtain ⟨k, x, hk8, hk, rfl, hx, hb⟩ := hrel
    have HX := Lib.hid hx
    have HB2 := Lib.hid hb
    have hzx : x.size = t.size - k := by rw [hx]; simp
    clear hx hb
    have HR := Lib.hid (fun W => refRun_any x W (by omega))
    by_cases hlt : k < t.size
    · have hx0 : 0 < x.size := by omega
      have g1 : (0 : Int) < (x.size : Int) := by omega
      have HZZ := Lib.hid hzx
      clear hzx
      obtain ⟨a0, h0⟩ : ∃ a, x[0] = a := ⟨_, rfl⟩
      have ht0 : t[k] = a0 := by rw [← h0]; exact (ext_zero HX.out hlt hx0).symm
      cases hbl : ((a0.toNat : Int) == 32)
      · have HNC := Lib.hid (show k = c from by rw [← HB2.out]; exact (scan_stop hlt (by rw [ht0]; unfold blaB; rw [beq_eq_false_iff_ne] at hbl ⊢; omega)).symm)
        have hkc := HNC.out
        subst hkc
        have hnx : runD x ≤ x.size := scan_le digB x 0 (Nat.zero_le _)
        have HZX := Lib.hid HZZ.out
        generalize hn : runD x = n at *
        by_cases hn3 : n < 3
        · have hn4 : ((n : Nat) : Int) < 3 := by omega
          have HA := Lib.hid (A1.out x HX.out (by rw [hn]; exact hn3))
          clear A1 A2 A3 A4 A5
          clear hn hnx ht0 HX HB2
          obtain ⟨e0, e1, e2, e3⟩ := HK.out.d.cells
          obtain ⟨n0, n1, n2, n3⟩ := HK.out.d.nones
          obtain ⟨f0, f1, f2, f3⟩ := HK.out.d.thaw
          go_wp2_with (go_at_call 28; (with_reducible refine (HR.out _).mono ?_); rintro r w9 ⟨rfl, rfl⟩)
          obtain ⟨j0, j1, j2, j3⟩ := HK.out.d.puts (.int .i64 0) (.int .i64 0) (.int .i64 0) (.string ⟨#[]⟩)
          exact bodyPost_ret (v := .tuple #[stV 0 0 0 ⟨#[]⟩, .int .i64 2]) (by simp [results, Try.results18, go_sem, j0, j1, j2, j3]) rfl ⟨HA.out.symm, (((HB.out.setCell (by exact Nat.le_refl _) _).setCell (by exact Nat.le_refl _) _).setCell (by exact Nat.le_refl _) _).setCell (by exact Nat.le_refl _) _⟩
        have hn4 : ¬ ((n : Nat) : Int) < 3 := by omega
        have hn3 : 3 ≤ runD x := by omega
        have q0 := digB_range (scan_within (p := digB) (s := x) (i := 0) (k := 0) (Nat.le_refl _) (by show 0 < runD x; omega) (by omega))
        have q1 := digB_range (scan_within (p := digB) (s := x) (i := 0) (k := 1) (by omega) (by show 1 < runD x; omega) (by omega))
        have q2 := digB_range (scan_within (p := digB) (s := x) (i := 0) (k := 2) (by omega) (by show 2 < runD x; omega) (by omega))
        obtain ⟨a1, h1⟩ : ∃ a, x[1] = a := ⟨_, rfl⟩
        obtain ⟨a2, h2⟩ : ∃ a, x[2] = a := ⟨_, rfl⟩
        have HZ1 := Lib.hid HZX.out
        have t1 : t[k + 1]! = a1 := by
          rw [getElem!_pos t (k + 1) (by have := HZ1.out; omega), ← h1]
          have := HX.out
          simp only [this]
          exact (ext_at (Nat.le_refl _) (by have := HZ1.out; omega)).symm
        have t2 : t[k + 2]! = a2 := by
          rw [getElem!_pos t (k + 2) (by have := HZ1.out; omega), ← h2]
          have := HX.out
          simp only [this]
          exact (ext_at (Nat.le_refl _) (by have := HZ1.out; omega)).symm
        have t0 : t[k]! = a0 := by rw [getElem!_pos t k hlt]; exact ht0
        rw [h0] at q0
        rw [h1] at q1
        rw [h2] at q2
        by_cases hf : a0 = 48
        · have hf2 : ((a0.toNat : Int) == 48) = true := by rw [hf]; rfl
          have HA := Lib.hid (A2.out x HX.out hn3 (by rw [t0]; exact hf))
          clear A1 A2 A3 A4 A5
          clear hn ht0 HX HB2 t0 t1 t2 hf hn3
          obtain ⟨e0, e1, e2, e3⟩ := HK.out.d.cells
          obtain ⟨n0, n1, n2, n3⟩ := HK.out.d.nones
          obtain ⟨f0, f1, f2, f3⟩ := HK.out.d.thaw
          go_wp2_with (go_at_call 28; (with_reducible refine (HR.out _).mono ?_); rintro r w9 ⟨rfl, rfl⟩)
          obtain ⟨j0, j1, j2, j3⟩ := HK.out.d.puts (.int .i64 0) (.int .i64 0) (.int .i64 0) (.string ⟨#[]⟩)
          exact bodyPost_ret (v := .tuple #[stV 0 0 0 ⟨#[]⟩, .int .i64 2]) (by simp [results, Try.results18, go_sem, j0, j1, j2, j3]) rfl ⟨HA.out.symm, (((HB.out.setCell (by exact Nat.le_refl _) _).setCell (by exact Nat.le_refl _) _).setCell (by exact Nat.le_refl _) _).setCell (by exact Nat.le_refl _) _⟩
        have hf2 : ((a0.toNat : Int) == 48) = false := by rw [beq_eq_false_iff_ne]; intro h; exact hf (UInt8.toNat_inj.1 (by show _ = 48; omega))
        have hf48 : t[k]! ≠ 48 := by rw [t0]; exact hf
        obtain ⟨q0a, q0b⟩ := q0
        obtain ⟨q1a, q1b⟩ := q1
        obtain ⟨q2a, q2b⟩ := q2
        have hx1 : 1 < x.size := by omega
        have hx2 : 2 < x.size := by omega
        clear hf ht0 HB2
        obtain ⟨l0, l1, l2, l3⟩ := HK.out.cells
        have m2 := HK.out.loc.frozen 2
        go_wp2_with (go_at_call 28; (with_reducible refine (HR.out _).mono ?_); rintro r w9 ⟨rfl, rfl⟩)
        go_region
        have HCD := Lib.hid (show 100 * ((t[k]!.toNat : Int) - 48) + 10 * ((t[k + 1]!.toNat : Int) - 48) + ((t[k + 2]!.toNat : Int) - 48) = 100 * ((a0.toNat : Int) - 48) + 10 * ((a1.toNat : Int) - 48) + ((a2.toNat : Int) - 48) from by rw [t0, t1, t2])
        generalize hcd : 100 * ((a0.toNat : Int) - 48) + 10 * ((a1.toNat : Int) - 48) + ((a2.toNat : Int) - 48) = cd at HCD
        obtain ⟨w2, hw2⟩ : ∃ w2, w2 = (w1.setCell ⟨nb, 2, none⟩ (.int .i64 cd)).drew := ⟨_, rfl⟩
        rw [← hw2]
        replace HB := Lib.hid (show Below w.heap.size w w2 from by rw [hw2]; exact (HB.out.setCell (by have := HK.out.far; simp; omega) _).drew)
        replace HK := Lib.hid (show Lne w.heap.size nb #[.int .i64 v5, .int .i64 v7, .int .i64 cd, .string ⟨#[]⟩] w2 from by rw [hw2]; exact (HK.out.put2 _).drew)
        clear hw2 l0 l1 l2 l3 m2 hcd t0 t1 t2 q0a q0b q1a q1b q2a q2b hf2 hn4 hn HR
        have hk3 : k + 3 ≤ t.size := by have := HZ1.out; omega
        obtain ⟨y, hy⟩ : ∃ y, x.extract 3 x.size = y := ⟨_, rfl⟩
        have HY := Lib.hid (show y = t.extract (k + 3) t.size from by rw [← hy]; exact ext_more 3 HX.out)
        have HYZ := Lib.hid (show y.size = t.size - (k + 3) from by rw [HY.out]; simp)
        have hye := size_bool y
        have hx3 : 3 ≤ x.size := by omega
        by_cases hy0 : y.size = 0
        · rw [decide_eq_true hy0] at hye
          have hgap : k + 3 = t.size ∨ t[k + 3]! = 32 := .inl (by have := HYZ.out; omega)
          go_wp2_with fail
          go_loop [0] (fun i => ∃ (m : Nat) (z : ByteArray), k + 3 ≤ m ∧ m ≤ t.size ∧ i = .string z ∧ z = t.extract m t.size ∧ scan tabB t m = scan tabB t (k + 3)) (fun i => strLen i)
          case atStart => exact ⟨k + 3, _, Nat.le_refl _, hk3, rfl, HY.out, rfl⟩
          case round =>
            obtain ⟨m, z, hkc, hk2, rfl, hzk, hb⟩ := hrel
            have HZK := Lib.hid hzk
            have HB3 := Lib.hid hb
            have hzz : z.size = t.size - m := by rw [hzk]; simp
            clear hzk hb
            have HQ := Lib.hid (fun W => rQuoted_any z W (by omega))
            by_cases hlt2 : m < t.size
            · have hz0 : 0 < z.size := by omega
              have g3 : (0 : Int) < (z.size : Int) := by omega
              have HZZ2 := Lib.hid hzz
              clear hzz
              obtain ⟨d0, hd0⟩ : ∃ a, z[0] = a := ⟨_, rfl⟩
              have htb : t[m] = d0 := by rw [← hd0]; exact (ext_zero HZK.out hlt2 hz0).symm
              have HL := Lib.hid (fun W => refTab_any d0 W)
              cases hbl2 : tabB d0
              · have HZ := Lib.hid (show z = t.extract (scan tabB t (k + 3)) t.size from by rw [← HB3.out, scan_stop hlt2 (by rw [htb]; exact hbl2)]; exact HZK.out)
                have HL2 : Hid (∀ W, Calls Try.prog 29 #[.int .u8 (d0.toNat : Int)] W fun e w' => e = .returned (.bool false) ∧ W = w') := fun W => by have := HL.out W; rwa [hbl2] at this
                clear HL hbl2 htb HB3 HZK
                go_wp2_with (go_at_call 29; (with_reducible refine (HL2.out _).mono ?_); rintro r w9 ⟨rfl, rfl⟩)
                cases hq : allB quoB z
                · rw [hq] at HQ
                  have HA := Lib.hid (A4.out x z HX.out hn3 hf48 hgap HZ.out hq)
                  clear A1 A2 A3 A4 A5 hq
                  obtain ⟨e0, e1, e2, e3⟩ := HK.out.d.cells
                  obtain ⟨n0, n1, n2, n3⟩ := HK.out.d.nones
                  obtain ⟨f0, f1, f2, f3⟩ := HK.out.d.thaw
                  go_wp2_with (go_at_call 30; (with_reducible refine (HQ.out _).mono ?_); rintro r w9 ⟨rfl, rfl⟩)
                  obtain ⟨j0, j1, j2, j3⟩ := HK.out.d.puts (.int .i64 0) (.int .i64 0) (.int .i64 0) (.string ⟨#[]⟩)
                  exact bodyPost_ret (v := .tuple #[stV 0 0 0 ⟨#[]⟩, .int .i64 2]) (by simp [results, Try.results18, go_sem, j0, j1, j2, j3]) rfl ⟨HA.out.symm, (((HB.out.setCell (by exact Nat.le_refl _) _).setCell (by exact Nat.le_refl _) _).setCell (by exact Nat.le_refl _) _).setCell (by exact Nat.le_refl _) _⟩
                · rw [hq] at HQ
                  have HA := Lib.hid (A5.out x z HX.out hn3 hf48 hgap HZ.out hq)
                  clear A1 A2 A3 A4 A5 hq
                  obtain ⟨e0, e1, e2, e3⟩ := HK.out.d.cells
                  obtain ⟨f0, f1, f2, f3⟩ := HK.out.d.thaw
                  obtain ⟨l0, l1, l2, l3⟩ := HK.out.cells
                  have m3 := HK.out.loc.frozen 3
                  have far := HK.out.far
                  replace HK := Lib.hid (HK.out.put3 (.string z))
                  obtain ⟨p0, p1, p2, p3⟩ := HK.out.cells
                  go_wp2_with (go_at_call 30; (with_reducible refine (HQ.out _).mono ?_); rintro r w9 ⟨rfl, rfl⟩)
                  obtain ⟨j0, j1, j2, j3⟩ := HK.out.d.puts (.int .i64 v5) (.int .i64 v7) (.int .i64 cd) (.string z)
                  refine bodyPost_ret (v := .tuple #[stV v5 v7 cd z, .int .i64 0]) (by simp [results, Try.results18, go_sem, j0, j1, j2, j3]) rfl ⟨?_, ((((HB.out.setCell (by simp; omega) _).setCell (by exact Nat.le_refl _) _).setCell (by exact Nat.le_refl _) _).setCell (by exact Nat.le_refl _) _).setCell (by exact Nat.le_refl _) _⟩
                  rw [HA.out, HCD.out]
              · have HN := Lib.hid ((scan_step hlt2 (by rw [htb]; exact hbl2)).trans HB3.out)
                have HL2 : Hid (∀ W, Calls Try.prog 29 #[.int .u8 (d0.toNat : Int)] W fun e w' => e = .returned (.bool true) ∧ W = w') := fun W => by have := HL.out W; rwa [hbl2] at this
                have HTL := Lib.hid (ext_more (t := t) 1 HZK.out)
                have hzt : (z.extract 1 z.size).size = z.size - 1 := by simp
                clear HL hbl2 htb
                go_wp2_with (go_at_call 29; (with_reducible refine (HL2.out _).mono ?_); rintro r w9 ⟨rfl, rfl⟩)
                go_round
                case rel => exact ⟨m + 1, _, by omega, by omega, rfl, HTL.out, HN.out⟩
                case measure => simp [strLen]; omega
            · have hke : m = t.size := by omega
              have hz0 : ¬ 0 < z.size := by omega
              have g3 : ¬ (0 : Int) < (z.size : Int) := by omega
              have HZ := Lib.hid (show z = t.extract (scan tabB t (k + 3)) t.size from by rw [← HB3.out, scan_end hke]; exact HZK.out)
              clear hke HB3 HZK hzz
              go_wp2_with fail
              cases hq : allB quoB z
              · rw [hq] at HQ
                have HA := Lib.hid (A4.out x z HX.out hn3 hf48 hgap HZ.out hq)
                clear A1 A2 A3 A4 A5 hq
                obtain ⟨e0, e1, e2, e3⟩ := HK.out.d.cells
                obtain ⟨n0, n1, n2, n3⟩ := HK.out.d.nones
                obtain ⟨f0, f1, f2, f3⟩ := HK.out.d.thaw
                go_wp2_with (go_at_call 30; (with_reducible refine (HQ.out _).mono ?_); rintro r w9 ⟨rfl, rfl⟩)
                obtain ⟨j0, j1, j2, j3⟩ := HK.out.d.puts (.int .i64 0) (.int .i64 0) (.int .i64 0) (.string ⟨#[]⟩)
                exact bodyPost_ret (v := .tuple #[stV 0 0 0 ⟨#[]⟩, .int .i64 2]) (by simp [results, Try.results18, go_sem, j0, j1, j2, j3]) rfl ⟨HA.out.symm, (((HB.out.setCell (by exact Nat.le_refl _) _).setCell (by exact Nat.le_refl _) _).setCell (by exact Nat.le_refl _) _).setCell (by exact Nat.le_refl _) _⟩
              · rw [hq] at HQ
                have HA := Lib.hid (A5.out x z HX.out hn3 hf48 hgap HZ.out hq)
                clear A1 A2 A3 A4 A5 hq
                obtain ⟨e0, e1, e2, e3⟩ := HK.out.d.cells
                obtain ⟨f0, f1, f2, f3⟩ := HK.out.d.thaw
                obtain ⟨l0, l1, l2, l3⟩ := HK.out.cells
                have m3 := HK.out.loc.frozen 3
                have far := HK.out.far
                replace HK := Lib.hid (HK.out.put3 (.string z))
                obtain ⟨p0, p1, p2, p3⟩ := HK.out.cells
                go_wp2_with (go_at_call 30; (with_reducible refine (HQ.out _).mono ?_); rintro r w9 ⟨rfl, rfl⟩)
                obtain ⟨j0, j1, j2, j3⟩ := HK.out.d.puts (.int .i64 v5) (.int .i64 v7) (.int .i64 cd) (.string z)
                refine bodyPost_ret (v := .tuple #[stV v5 v7 cd z, .int .i64 0]) (by simp [results, Try.results18, go_sem, j0, j1, j2, j3]) rfl ⟨?_, ((((HB.out.setCell (by simp; omega) _).setCell (by exact Nat.le_refl _) _).setCell (by exact Nat.le_refl _) _).setCell (by exact Nat.le_refl _) _).setCell (by exact Nat.le_refl _) _⟩
                rw [HA.out, HCD.out]
        · rw [decide_eq_false hy0] at hye
          have hyp : 0 < y.size := by omega
          obtain ⟨b0, hb0⟩ : ∃ a, y[0] = a := ⟨_, rfl⟩
          have hk4 : k + 3 < t.size := by have := HYZ.out; omega
          have htb0 : t[k + 3]! = b0 := by rw [getElem!_pos t _ hk4, ← hb0]; exact (ext_zero HY.out hk4 hyp).symm
          by_cases h32 : b0 = 32
          · have hgap : k + 3 = t.size ∨ t[k + 3]! = 32 := .inr (by rw [htb0]; exact h32)
            have h33 : ((b0.toNat : Int) != 32) = false := by rw [h32]; rfl
            clear htb0 h32
            go_wp2_with fail
            go_loop [0] (fun i => ∃ (m : Nat) (z : ByteArray), k + 3 ≤ m ∧ m ≤ t.size ∧ i = .string z ∧ z = t.extract m t.size ∧ scan tabB t m = scan tabB t (k + 3)) (fun i => strLen i)
            case atStart => exact ⟨k + 3, _, Nat.le_refl _, hk3, rfl, HY.out, rfl⟩
            case round =>
              obtain ⟨m, z, hkc, hk2, rfl, hzk, hb⟩ := hrel
              have HZK := Lib.hid hzk
              have HB3 := Lib.hid hb
              have hzz : z.size = t.size - m := by rw [hzk]; simp
              clear hzk hb
              have HQ := Lib.hid (fun W => rQuoted_any z W (by omega))
              by_cases hlt2 : m < t.size
              · have hz0 : 0 < z.size := by omega
                have g3 : (0 : Int) < (z.size : Int) := by omega
                have HZZ2 := Lib.hid hzz
                clear hzz
                obtain ⟨d0, hd0⟩ : ∃ a, z[0] = a := ⟨_, rfl⟩
                have htb : t[m] = d0 := by rw [← hd0]; exact (ext_zero HZK.out hlt2 hz0).symm
                have HL := Lib.hid (fun W => refTab_any d0 W)
                cases hbl2 : tabB d0
                · have HZ := Lib.hid (show z = t.extract (scan tabB t (k + 3)) t.size from by rw [← HB3.out, scan_stop hlt2 (by rw [htb]; exact hbl2)]; exact HZK.out)
                  have HL2 : Hid (∀ W, Calls Try.prog 29 #[.int .u8 (d0.toNat : Int)] W fun e w' => e = .returned (.bool false) ∧ W = w') := fun W => by have := HL.out W; rwa [hbl2] at this
                  clear HL hbl2 htb HB3 HZK
                  go_wp2_with (go_at_call 29; (with_reducible refine (HL2.out _).mono ?_); rintro r w9 ⟨rfl, rfl⟩)
                  cases hq : allB quoB z
                  · rw [hq] at HQ
                    have HA := Lib.hid (A4.out x z HX.out hn3 hf48 hgap HZ.out hq)
                    clear A1 A2 A3 A4 A5 hq
                    obtain ⟨e0, e1, e2, e3⟩ := HK.out.d.cells
                    obtain ⟨n0, n1, n2, n3⟩ := HK.out.d.nones
                    obtain ⟨f0, f1, f2, f3⟩ := HK.out.d.thaw
                    go_wp2_with (go_at_call 30; (with_reducible refine (HQ.out _).mono ?_); rintro r w9 ⟨rfl, rfl⟩)
                    obtain ⟨j0, j1, j2, j3⟩ := HK.out.d.puts (.int .i64 0) (.int .i64 0) (.int .i64 0) (.string ⟨#[]⟩)
                    exact bodyPost_ret (v := .tuple #[stV 0 0 0 ⟨#[]⟩, .int .i64 2]) (by simp [results, Try.results18, go_sem, j0, j1, j2, j3]) rfl ⟨HA.out.symm, (((HB.out.setCell (by exact Nat.le_refl _) _).setCell (by exact Nat.le_refl _) _).setCell (by exact Nat.le_refl _) _).setCell (by exact Nat.le_refl _) _⟩
                  · rw [hq] at HQ
                    have HA := Lib.hid (A5.out x z HX.out hn3 hf48 hgap HZ.out hq)
                    clear A1 A2 A3 A4 A5 hq
                    obtain ⟨e0, e1, e2, e3⟩ := HK.out.d.cells
                    obtain ⟨f0, f1, f2, f3⟩ := HK.out.d.thaw
                    obtain ⟨l0, l1, l2, l3⟩ := HK.out.cells
                    have m3 := HK.out.loc.frozen 3
                    have far := HK.out.far
                    replace HK := Lib.hid (HK.out.put3 (.string z))
                    obtain ⟨p0, p1, p2, p3⟩ := HK.out.cells
                    go_wp2_with (go_at_call 30; (with_reducible refine (HQ.out _).mono ?_); rintro r w9 ⟨rfl, rfl⟩)
                    obtain ⟨j0, j1, j2, j3⟩ := HK.out.d.puts (.int .i64 v5) (.int .i64 v7) (.int .i64 cd) (.string z)
                    refine bodyPost_ret (v := .tuple #[stV v5 v7 cd z, .int .i64 0]) (by simp [results, Try.results18, go_sem, j0, j1, j2, j3]) rfl ⟨?_, ((((HB.out.setCell (by simp; omega) _).setCell (by exact Nat.le_refl _) _).setCell (by exact Nat.le_refl _) _).setCell (by exact Nat.le_refl _) _).setCell (by exact Nat.le_refl _) _⟩
                    rw [HA.out, HCD.out]
                · have HN := Lib.hid ((scan_step hlt2 (by rw [htb]; exact hbl2)).trans HB3.out)
                  have HL2 : Hid (∀ W, Calls Try.prog 29 #[.int .u8 (d0.toNat : Int)] W fun e w' => e = .returned (.bool true) ∧ W = w') := fun W => by have := HL.out W; rwa [hbl2] at this
                  have HTL := Lib.hid (ext_more (t := t) 1 HZK.out)
                  have hzt : (z.extract 1 z.size).size = z.size - 1 := by simp
                  clear HL hbl2 htb
                  go_wp2_with (go_at_call 29; (with_reducible refine (HL2.out _).mono ?_); rintro r w9 ⟨rfl, rfl⟩)
                  go_round
                  case rel => exact ⟨m + 1, _, by omega, by omega, rfl, HTL.out, HN.out⟩
                  case measure => simp [strLen]; omega
              · have hke : m = t.size := by omega
                have hz0 : ¬ 0 < z.size := by omega
                have g3 : ¬ (0 : Int) < (z.size : Int) := by omega
                have HZ := Lib.hid (show z = t.extract (scan tabB t (k + 3)) t.size from by rw [← HB3.out, scan_end hke]; exact HZK.out)
                clear hke HB3 HZK hzz
                go_wp2_with fail
                cases hq : allB quoB z
                · rw [hq] at HQ
                  have HA := Lib.hid (A4.out x z HX.out hn3 hf48 hgap HZ.out hq)
                  clear A1 A2 A3 A4 A5 hq
                  obtain ⟨e0, e1, e2, e3⟩ := HK.out.d.cells
                  obtain ⟨n0, n1, n2, n3⟩ := HK.out.d.nones
                  obtain ⟨f0, f1, f2, f3⟩ := HK.out.d.thaw
                  go_wp2_with (go_at_call 30; (with_reducible refine (HQ.out _).mono ?_); rintro r w9 ⟨rfl, rfl⟩)
                  obtain ⟨j0, j1, j2, j3⟩ := HK.out.d.puts (.int .i64 0) (.int .i64 0) (.int .i64 0) (.string ⟨#[]⟩)
                  exact bodyPost_ret (v := .tuple #[stV 0 0 0 ⟨#[]⟩, .int .i64 2]) (by simp [results, Try.results18, go_sem, j0, j1, j2, j3]) rfl ⟨HA.out.symm, (((HB.out.setCell (by exact Nat.le_refl _) _).setCell (by exact Nat.le_refl _) _).setCell (by exact Nat.le_refl _) _).setCell (by exact Nat.le_refl _) _⟩
                · rw [hq] at HQ
                  have HA := Lib.hid (A5.out x z HX.out hn3 hf48 hgap HZ.out hq)
                  clear A1 A2 A3 A4 A5 hq
                  obtain ⟨e0, e1, e2, e3⟩ := HK.out.d.cells
                  obtain ⟨f0, f1, f2, f3⟩ := HK.out.d.thaw
                  obtain ⟨l0, l1, l2, l3⟩ := HK.out.cells
                  have m3 := HK.out.loc.frozen 3
                  have far := HK.out.far
                  replace HK := Lib.hid (HK.out.put3 (.string z))
                  obtain ⟨p0, p1, p2, p3⟩ := HK.out.cells
                  go_wp2_with (go_at_call 30; (with_reducible refine (HQ.out _).mono ?_); rintro r w9 ⟨rfl, rfl⟩)
                  obtain ⟨j0, j1, j2, j3⟩ := HK.out.d.puts (.int .i64 v5) (.int .i64 v7) (.int .i64 cd) (.string z)
                  refine bodyPost_ret (v := .tuple #[stV v5 v7 cd z, .int .i64 0]) (by simp [results, Try.results18, go_sem, j0, j1, j2, j3]) rfl ⟨?_, ((((HB.out.setCell (by simp; omega) _).setCell (by exact Nat.le_refl _) _).setCell (by exact Nat.le_refl _) _).setCell (by exact Nat.le_refl _) _).setCell (by exact Nat.le_refl _) _⟩
                  rw [HA.out, HCD.out]
          · have h33 : ((b0.toNat : Int) != 32) = true := by rw [bne_iff_ne]; intro h; exact h32 (UInt8.toNat_inj.1 (by show _ = 32; omega))
            have HA := Lib.hid (A3.out x HX.out hn3 hf48 (by omega) (by rw [htb0]; exact h32))
            clear A1 A2 A3 A4 A5
            clear htb0 h32
            obtain ⟨e0, e1, e2, e3⟩ := HK.out.d.cells
            obtain ⟨n0, n1, n2, n3⟩ := HK.out.d.nones
            obtain ⟨f0, f1, f2, f3⟩ := HK.out.d.thaw
            go_wp2_with fail
            obtain ⟨j0, j1, j2, j3⟩ := HK.out.d.puts (.int .i64 0) (.int .i64 0) (.int .i64 0) (.string ⟨#[]⟩)
            exact bodyPost_ret (v := .tuple #[stV 0 0 0 ⟨#[]⟩, .int .i64 2]) (by simp [results, Try.results18, go_sem, j0, j1, j2, j3]) rfl ⟨HA.out.symm, (((HB.out.setCell (by exact Nat.le_refl _) _).setCell (by exact Nat.le_refl _) _).setCell (by exact Nat.le_refl _) _).setCell (by exact Nat.le_refl _) _⟩

      · have hba : blaB t[k] = true := by rw [ht0]; unfold blaB; rw [beq_iff_eq] at hbl ⊢; omega
        have HN := Lib.hid ((scan_step hlt hba).trans HB2.out)
        have HTL := Lib.hid (ext_more (t := t) 1 HX.out)
        have hzt : (x.extract 1 x.size).size = x.size - 1 := by simp
        clear ht0 hba
        go_wp2
        go_round
        case rel => exact ⟨k + 1, _, by omega, by omega, rfl, HTL.out, HN.out⟩
        case measure => simp [strLen]; omega
    · have hke : k = t.size := by omega
      have hx0 : ¬ 0 < x.size := by omega
      have g1 : ¬ (0 : Int) < (x.size : Int) := by omega
      have hck : c = k := by rw [← HB2.out]; exact scan_end hke
      have hr : runD x = 0 := scan_end (by omega)
      rw [hr] at HR
      have HA := Lib.hid (A1.out x (by rw [hck]; exact HX.out) (by rw [hr]; decide))
      clear A1 A2 A3 A4 A5
      clear hr hck hke HX HB2 hzx
      obtain ⟨e0, e1, e2, e3⟩ := HK.out.d.cells
      obtain ⟨n0, n1, n2, n3⟩ := HK.out.d.nones
      obtain ⟨f0, f1, f2, f3⟩ := HK.out.d.thaw
      go_wp2_with (go_at_call 28; (with_reducible refine (HR.out _).mono ?_); rintro r w9 ⟨rfl, rfl⟩)
      obtain ⟨j0, j1, j2, j3⟩ := HK.out.d.puts (.int .i64 0) (.int .i64 0) (.int .i64 0) (.string ⟨#[]⟩)
      exact bodyPost_ret (v := .tuple #[stV 0 0 0 ⟨#[]⟩, .int .i64 2]) (by simp [results, Try.results18, go_sem, j0, j1, j2, j3]) rfl ⟨HA.out.symm, (((HB.out.setCell (by exact Nat.le_refl _) _).setCell (by exact Nat.le_refl _) _).setCell (by exact Nat.le_refl _) _).setCell (by exact Nat.le_refl _) _⟩


end Go.Proofs.Yteeheehoaklnbaa
namespace Go.Proofs.Yteeheehoaklnbaa
open Go.RowKit

theorem size_cut (p : UInt8 → Bool) (s : ByteArray) : (cutP p s).size ≤ s.size := by
  have := cutP_size p s
  have := backN_le p s s.size
  omega

theorem rline25_any (s : ByteArray) (w : World) (hs : s.size ≤ 9223372036854775807) :
    Calls Try.prog 18 #[.string s] w fun r w' => r = lineV (linO (cutP tabB s)) ∧ Below w.heap.size w w' := by
  have hz : (cutP tabB s).size ≤ 9223372036854775807 := Nat.le_trans (size_cut _ _) hs
  have HE := Lib.hid (fun W => refEnds_any s W hs)
  have HP := Lib.hid (fun W => prefix_any (cutP tabB s) htpS W hz (by decide))
  obtain ⟨t, ht⟩ : ∃ t, t = cutP tabB s := ⟨_, rfl⟩
  rw [← ht] at HE HP hz ⊢
  have bad : ¬ LinD t → lineV (linO t) = badE := fun h => lineV_no fun v hv => h (lin_doc hv)
  have u46 : ∀ (c : UInt8), ((c.toNat : Int) != 46) = !(c == 46) := fun c => by rw [← int_beq c 46]; rfl
  have u32 : ∀ (c : UInt8), ((c.toNat : Int) != 32) = !(c == 32) := fun c => by rw [← int_beq c 32]; rfl
  have k5 : ∀ h : 12 ≤ t.size, t[5] = t[5]! := fun h => (getElem!_pos t 5 (by omega)).symm
  have k6 : ∀ h : 12 ≤ t.size, t[6] = t[6]! := fun h => (getElem!_pos t 6 (by omega)).symm
  have k7 : ∀ h : 12 ≤ t.size, t[7] = t[7]! := fun h => (getElem!_pos t 7 (by omega)).symm
  have k8 : ∀ h : 12 ≤ t.size, t[8] = t[8]! := fun h => (getElem!_pos t 8 (by omega)).symm
  by_cases hh : prefB t htpS = true ∧ 12 ≤ t.size ∧ digB t[5]! = true ∧ t[6]! = 46 ∧ digB t[7]! = true ∧ t[8]! = 32
  · obtain ⟨hp, h12, h5, h6, h7, h8⟩ := hh
    rw [hp] at HP
    have HD5 := Lib.hid (fun W => refDigit_any t[5]! W)
    have HD7 := Lib.hid (fun W => refDigit_any t[7]! W)
    rw [h5] at HD5
    rw [h7] at HD7
    have cle : laC t ≤ t.size := scan_le _ _ _ (by omega)
    refine rline_tail s t (laC t) t[5]! t[6]! t[7]! t[8]! (lineV (linO t)) w HE HP HD5 HD7 hz h12 (k5 h12) (k6 h12) (k7 h12) (k8 h12) (digB_range h5) (digB_range h7) (by rw [u46, h6]; rfl) (by rw [u32, h8]; rfl) (Lib.hid rfl)
      (Lib.hid fun x hx hr => bad fun h => ?_) (Lib.hid fun x hx hr hf => bad fun h => h.first hf) (Lib.hid fun x hx hr hf hn hb => bad fun h => ?_) (Lib.hid fun x z hx hr hf hg hzz hq => bad fun h => ?_) (Lib.hid fun x z hx hr hf hg hzz hq => ?_)
    · have := h.run
      rw [← hx] at this
      omega
    · rcases h.gap with h | h
      · exact hn h
      · exact hb h
    · have := h.quo
      rw [← hzz, hq] at this
      cases this
    · rw [hzz] at hq ⊢
      exact lineV_ok (lin_of_doc ht ⟨hp, h12, h5, h6, h7, h8, by rw [← hx]; exact hr, hf, hg, hq⟩)
  · refine rline_head s t (prefB t htpS) (digB t[5]!) (t[6]! == 46) (digB t[7]!) (t[8]! == 32) t[5]! t[6]! t[7]! t[8]! (lineV (linO t)) w HE HP (Lib.hid fun W => refDigit_any _ W) (Lib.hid fun W => refDigit_any _ W) (bad fun h => hh ⟨h.pre, h.size, h.d5, h.d6, h.d7, h.d8⟩) hz k5 k6 k7 k8 (u46 _) (u32 _) ?_
    cases h1 : prefB t htpS
    · exact .inl rfl
    by_cases h2 : t.size < 12
    · exact .inr (.inl h2)
    cases h3 : digB t[5]!
    · exact .inr (.inr (.inl rfl))
    cases h4 : t[6]! == 46
    · exact .inr (.inr (.inr (.inl rfl)))
    cases h5 : digB t[7]!
    · exact .inr (.inr (.inr (.inr (.inl rfl))))
    cases h6 : t[8]! == 32
    · exact .inr (.inr (.inr (.inr (.inr rfl))))
    exact absurd ⟨h1, by omega, h3, by simpa using h4, h5, by simpa using h6⟩ hh

end Go.Proofs.Yteeheehoaklnbaa
namespace Go.Proofs.Yteeheehoaklnbaa
open Go.RowKit

abbrev livS25 : ByteArray := ⟨#[72, 84, 84, 80, 47, 49, 46, 49, 32, 50, 48, 54, 32, 80, 97, 114, 116, 105, 97, 108, 32, 67, 111, 110, 116, 101, 110, 116]⟩
abbrev livR25 : ByteArray := ⟨#[80, 97, 114, 116, 105, 97, 108, 32, 67, 111, 110, 116, 101, 110, 116]⟩
theorem liv_line : linO (cutP tabB livS25) = .ok (1, 1, 206, livR25) := by kernel_rfl

set_option maxHeartbeats 1000000 in
theorem lives25_any (w : World) : Calls Try.prog 15 #[] w fun e w' => e = .returned (.bool true) ∧ Below w.heap.size w w' := by
  have HC := Lib.hid (sline_any livS25 w (by decide))
  rw [lineV_ok liv_line] at HC
  have HP := Lib.hid (fun W => partial25_any 206 W)
  go_enter Try.func15, Try.ntmps15
  go_wp2_with fail
  refine HC.out.mono ?_
  rintro e w1 ⟨rfl, b1⟩
  have HB1 := Lib.hid (show Below w.heap.size w (w1.alloc (stC 1 1 206 livR25)) from b1.alloc b1.size _)
  clear b1 HC
  go_wp2_with (go_at_call 12; (with_reducible refine (HP.out _).mono ?_); rintro e w2 ⟨rfl, rfl⟩)
  go_ret
  exact ⟨rfl, HB1.out⟩

end Go.Proofs.Yteeheehoaklnbaa
