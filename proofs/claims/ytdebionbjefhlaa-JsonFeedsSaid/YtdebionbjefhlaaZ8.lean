/-
  What the document's own list of layer 27 answers of values with names, as bytes that are left (SaidE, dscE), where its value answers so. Condition: the text is no longer than a length can be.
  What the document's own Whole and Begun of layer 27 answer: the state and the place of all bytes (whoJ). Condition: the text is no longer than a length can be.
  A machine of layer 27 in memory: its cells (Mac), what is open (EndsIs), and what package json's New, stopped, State, Place, Begun, Depth and Seen answer. No condition.
-/
import Derived.Test.YtdebionbjefhlaaZ7
import Derived.Test.YtdebionbjefhlaaZ4
import Derived.Test.YtdebionbjefhlaaZ3
import Derived.Test.YtdebionbjefhlaaZ5
import Derived.RegionTactic
import Derived.BigRegion
import Derived.Deep.QuietTactic
import Derived.BigQuiet
import Derived.Outline
import Derived.StillTailTactics
import Derived.Lib.Hide
import Derived.IntWalk
namespace Go.Proofs.Ytdebionbjefhlaa
open Go.RowKit

theorem nam_stop {k : List UInt8 → Ej} {x : Ej} (h : ∀ r, x ≠ .wl r) : namE k x = x := by
  cases x with
  | op => rfl
  | bd _ => rfl
  | dp _ => rfl
  | wl r => exact absurd rfl (h r)

set_option maxHeartbeats 16000000 in
set_option maxRecDepth 10000 in
theorem list_named {s : ByteArray} {f : Nat} (hs : s.size ≤ 4611686018427387904) (hv : ∀ g, g < f → ValH s g) (k d : Nat) (w : World) (hk : k ≤ s.size) (hd : d ≤ 200) (hf : 2 * (s.size - k) + 2 ≤ f) :
    Calls Try.prog 25 #[.string s, .int .i64 (k : Nat), .int .i64 (d : Nat), .bool true] w fun e w' => (∃ v, e = .returned v ∧ SaidE s (dscE f (some (true, true)) d (LL s k)) v) ∧ Below w.heap.size w w' := by
  have hz := Try.zeroSaid
  obtain ⟨q, hq⟩ : ∃ q, q = dscE f (some (true, true)) d (LL s k) := ⟨_, rfl⟩
  rw [← hq]
  have HQ := Lib.hid hq
  have HO0 := Lib.hid (OwnW.new w)
  clear hq
  go_enter Try.func25, Try.ntmps25
  go_wp2
  go_loopw [1, 10] (fun a n wr => ∃ j i g : Nat, j ≤ s.size ∧ i ≤ j ∧ a = .int .i64 j ∧ n = .int .i64 i ∧ g ≤ f ∧ 2 * (s.size - j) + 2 ≤ g ∧ Hid (q = dscE g (some (true, (i == 0))) d (LL s j)) ∧ Hid (OwnW w wr)) (fun a _ _ => s.size - (intOf a).toNat)
  case atStart => exact ⟨k, 0, f, hk, Nat.zero_le _, rfl, rfl, Nat.le_refl _, hf, HQ, HO0⟩
  case round =>
    obtain ⟨j, i, g0, hj, hij, rfl, rfl, hg0, hgj, HJ, HO⟩ := hrel
    obtain ⟨x0, x1, z0, z1, hlw⟩ := HO.out.facts
    obtain ⟨g, rfl⟩ : ∃ g, g0 = g + 1 := ⟨g0 - 1, by omega⟩
    have HG := Lib.hid (show g + 1 ≤ f ∧ 2 * (s.size - j) + 2 ≤ g + 1 from ⟨hg0, hgj⟩)
    obtain ⟨hJ1, hj1, lj1⟩ := skP_is hj
    have HK1 := Lib.hid (fun W => skip27_at s j W hj hs)
    obtain ⟨j1, hj1k⟩ : ∃ j1, j1 = skP s j := ⟨_, rfl⟩
    rw [← hj1k] at HK1 hJ1 hj1 lj1
    clear hj1k
    by_cases h1 : j1 < s.size
    · have HC0 := Lib.hid (ll_cons h1)
      have t1 : (((j1 : Nat) : Int) == ((s.size : Nat) : Int)) = false := by rw [beq_eq_false_iff_ne]; omega
      obtain ⟨m1, hm1⟩ : ∃ m1, m1 = j1 + 1 := ⟨_, rfl⟩
      have gm1 : ((j1 : Nat) : Int) + 1 = (m1 : Int) := by omega
      have lm1 : m1 ≤ s.size := by omega
      rw [← hm1] at HC0
      have HQ1 := Lib.hid (HJ.out.trans (dsc_lis (f := g) (depth := d) (named := true) (first := (i == 0)) (hJ1.symm.trans HC0.out)))
      have HM1 := Lib.hid hm1
      have HV0 := Lib.hid (fun (k : Nat) (hk : k ≤ s.size) (hk2 : 2 * (s.size - k) + 1 ≤ g) W => hv g (by omega) k d W hk hd hk2)
      have HLJ := Lib.hid hJ1
      clear hJ1 hm1 hg0 hgj
      have hc : (i = 0 ∧ ((s[j1].toNat : Int) == 125) = true) ∨ ((i == 0 && s[j1] == (if true then (125 : UInt8) else 93)) = false ∧ (((((i : Nat) : Int) == 0) = true ∧ ((s[j1].toNat : Int) == 125) = false) ∨ (((i : Nat) : Int) == 0) = false)) := by
        by_cases h0 : i = 0
        · subst h0
          cases he : ((s[j1].toNat : Int) == 125)
          · exact Or.inr ⟨(i_byte s[j1] 125).trans he, Or.inl ⟨rfl, rfl⟩⟩
          · exact Or.inl ⟨rfl, rfl⟩
        · refine Or.inr ⟨?_, Or.inr ?_⟩
          · rw [show (i == 0) = false from by rw [beq_eq_false_iff_ne]; exact h0]
            rfl
          · rw [beq_eq_false_iff_ne]
            omega
      rcases hc with ⟨rfl, he⟩ | ⟨he, hrest⟩
      · have HZ : Hid (q = .wl (LL s m1)) := Lib.hid (by rw [HQ1.out, show ((0 : Nat) == 0 && s[j1] == (if true then (125 : UInt8) else 93)) = true from (i_byte s[j1] 125).trans he]; rfl)
        go_wp2_with (go_at_call 21; (with_reducible refine (HK1.out _).mono ?_); rintro e w1 ⟨rfl, rfl⟩)
        have hE := (HO.out.fin (m1 : Nat) (-1))
        obtain ⟨d0, d1⟩ := hE.facts
        exact bodyPost_ret (v := sdV (m1 : Nat) (-1)) (by simp only [results, Try.results25]; simp [go_sem, d0, d1]) rfl ⟨⟨_, rfl, by rw [HZ.out]; exact ⟨m1, lm1, rfl, rfl⟩⟩, hE.below⟩
      · have c34 := (i_byte s[j1] 34)
        rw [show (((34 : UInt8).toNat : Nat) : Int) = 34 from rfl] at c34
        cases cq : ((s[j1].toNat : Int) == 34)
        · have cn : ((s[j1].toNat : Int) != 34) = true := by unfold bne; rw [cq]; rfl
          have HZ : Hid (q = .bd (LL s j1)) := Lib.hid (by rw [HQ1.out, he, show (s[j1] == (34 : UInt8)) = false from c34.trans cq, ← HC0.out]; rfl)
          clear he c34
          rcases hrest with ⟨hi0, hne⟩ | hne
          all_goals
            go_wp2_with (go_at_call 21; (with_reducible refine (HK1.out _).mono ?_); rintro e w1 ⟨rfl, rfl⟩)
            have hE := (HO.out.fin (j1 : Nat) 0)
            obtain ⟨d0, d1⟩ := hE.facts
            exact bodyPost_ret (v := sdV (j1 : Nat) (0)) (by simp only [results, Try.results25]; simp [go_sem, d0, d1]) rfl ⟨⟨_, rfl, by rw [HZ.out]; exact ⟨j1, lj1, rfl, rfl⟩⟩, hE.below⟩
        · have cn : ((s[j1].toNat : Int) != 34) = false := by unfold bne; rw [cq]; rfl
          have HQA : Hid (q = talE true (fun r => dscE g (some (true, false)) d r) (namE (fun r => dscE g none d r) (quoE 0 (LL s m1)))) := Lib.hid (by rw [HQ1.out, he, show (s[j1] == (34 : UInt8)) = true from c34.trans cq]; rfl)
          have HQR := Lib.hid (fun W => quote27_any s m1 W lm1 hs)
          clear he c34
          rcases hrest with ⟨hi0, hne⟩ | hne
          all_goals
            by_cases hQ : ∃ r, quoE 0 (LL s m1) = .wl r
            · obtain ⟨r1, hr0⟩ := hQ
              obtain ⟨ja, hja⟩ : ∃ ja, ja = s.size - r1.length := ⟨_, rfl⟩
              have HC1 := Lib.hid (fun W => said_go (s := s) (r := r1) (by have h := HQR.out W; rw [hr0] at h; exact h) hja)
              have lja : ja ≤ s.size := by omega
              have HQB : Hid (q = talE true (fun r => dscE g (some (true, false)) d r) (namE (fun r => dscE g none d r) (.wl r1))) := Lib.hid (by rw [HQA.out, hr0])
              have HLQ := Lib.hid (show r1.length ≤ s.size - m1 by have h := quo_len (LL s m1) 0 hr0; rw [ll_len] at h; exact h)
              clear hr0 hja
              by_cases hr1 : r1 = LL s ja
              · obtain ⟨hJb, hjb, ljb⟩ := skP_is lja
                have HK2 := Lib.hid (fun W => skip27_at s ja W lja hs)
                obtain ⟨jb, hjbk⟩ : ∃ jb, jb = skP s ja := ⟨_, rfl⟩
                rw [← hjbk] at HK2 hJb hjb ljb
                rw [← hr1] at hJb
                have HJA := Lib.hid (show m1 ≤ ja by have h := HLQ.out; rw [hr1, ll_len] at h; omega)
                clear hjbk hr1
                by_cases hb : jb < s.size
                · have HCB := Lib.hid (ll_cons hb)
                  have tb : (((jb : Nat) : Int) == ((s.size : Nat) : Int)) = false := by rw [beq_eq_false_iff_ne]; omega
                  obtain ⟨mb, hmb⟩ : ∃ mb, mb = jb + 1 := ⟨_, rfl⟩
                  have gmb : ((jb : Nat) : Int) + 1 = (mb : Int) := by omega
                  have lmb : mb ≤ s.size := by omega
                  rw [← hmb] at HCB
                  have HQC := Lib.hid (HQB.out.trans (congrArg (talE true (fun r => dscE g (some (true, false)) d r)) (nam_cons (k := fun r => dscE g none d r) (hJb.symm.trans HCB.out))))
                  have c58 := (i_byte s[jb] 58)
                  rw [show (((58 : UInt8).toNat : Nat) : Int) = 58 from rfl] at c58
                  have HMB := Lib.hid hmb
                  clear hmb hJb
                  cases cc : ((s[jb].toNat : Int) == 58)
                  · have cm : ((s[jb].toNat : Int) != 58) = true := by unfold bne; rw [cc]; rfl
                    have HZ : Hid (q = .bd (LL s jb)) := Lib.hid (by rw [HQC.out, show (s[jb] == (58 : UInt8)) = false from c58.trans cc, ← HCB.out]; rfl)
                    clear c58
                    go_wp2_with (first | (go_at_call 21; (with_reducible refine (HK1.out _).mono ?_); rintro e w1 ⟨rfl, rfl⟩) | (go_at_call 26; (with_reducible refine (HC1.out _).mono ?_); rintro e w2 ⟨rfl, HRQ, hb⟩; have HT1 := Lib.hid (HO.out.on hb); obtain ⟨e0, e1, y0, y1, hl⟩ := HT1.out.facts; clear hb) | (go_at_call 21; (with_reducible refine (HK2.out _).mono ?_); rintro e w1 ⟨rfl, rfl⟩))
                    have hE := (HT1.out.fin (jb : Nat) 0).alloc (.cells #[.int .i64 (ja : Nat), .int .i64 (-1)] 38)
                    obtain ⟨d0, d1⟩ := hE.facts
                    exact bodyPost_ret (v := sdV (jb : Nat) (0)) (by simp only [results, Try.results25]; simp [go_sem, d0, d1]) rfl ⟨⟨_, rfl, by rw [HZ.out]; exact ⟨jb, ljb, rfl, rfl⟩⟩, hE.below⟩
                  · have cm : ((s[jb].toNat : Int) != 58) = false := by unfold bne; rw [cc]; rfl
                    have HQ2 : Hid (q = talE true (fun r => dscE g (some (true, false)) d r) (dscE g none d (LL s mb))) := Lib.hid (by rw [HQC.out, show (s[jb] == (58 : UInt8)) = true from c58.trans cc]; rfl)
                    clear c58
                    have HJM := Lib.hid (show j + 2 ≤ mb by have h1 := HM1.out; have h2 := HJA.out; have h3 := HMB.out; omega)
                    have HV := Lib.hid (fun W => HV0.out mb lmb (by have h := HG.out; have h2 := HJM.out; omega) W)
                    by_cases hX : ∃ r, dscE g none d (LL s mb) = .wl r
                    · obtain ⟨r, hr⟩ := hX
                      obtain ⟨j2, hj2⟩ : ∃ j2, j2 = s.size - r.length := ⟨_, rfl⟩
                      have HC2 := Lib.hid (fun W => said_go (s := s) (r := r) (by have h := HV.out W; rw [hr] at h; exact h) hj2)
                      have lj2 : j2 ≤ s.size := by omega
                      have HY := Lib.hid (HQ2.out.trans (congrArg (talE true (fun r => dscE g (some (true, false)) d r)) hr))
                      have HLE := Lib.hid (show r.length ≤ s.size - mb by have h := dsc_len g none d (LL s mb) (s.size - mb) r (by rw [ll_len]; exact Nat.le_refl _) hr; exact h)
                      clear hr hj2
                      by_cases hr2 : r = LL s j2
                      · obtain ⟨hJ3, hj23, lj3⟩ := skP_is lj2
                        have HK3 := Lib.hid (fun W => skip27_at s j2 W lj2 hs)
                        obtain ⟨j3, hj3⟩ : ∃ j3, j3 = skP s j2 := ⟨_, rfl⟩
                        rw [← hj3] at HK3 hJ3 hj23 lj3
                        rw [← hr2] at hJ3
                        have HJ2 := Lib.hid (show mb ≤ j2 by have h := HLE.out; rw [hr2, ll_len] at h; omega)
                        clear hj3 hr2
                        by_cases h3 : j3 < s.size
                        · have HC3 := Lib.hid (ll_cons h3)
                          have t3 : (((j3 : Nat) : Int) == ((s.size : Nat) : Int)) = false := by rw [beq_eq_false_iff_ne]; omega
                          obtain ⟨m3, hm3⟩ : ∃ m3, m3 = j3 + 1 := ⟨_, rfl⟩
                          have gm3 : ((j3 : Nat) : Int) + 1 = (m3 : Int) := by omega
                          have lm3 : m3 ≤ s.size := by omega
                          rw [← hm3] at HC3
                          have HY2 := Lib.hid (HY.out.trans (tal_cons (hJ3.symm.trans HC3.out)))
                          have ce := (i_byte s[j3] 125)
                          have ck := (i_byte s[j3] 44)
                          rw [show (((125 : UInt8).toNat : Nat) : Int) = 125 from rfl] at ce
                          rw [show (((44 : UInt8).toNat : Nat) : Int) = 44 from rfl] at ck
                          have HM3 := Lib.hid hm3
                          clear hm3 hJ3
                          cases c1 : ((s[j3].toNat : Int) == 125)
                          · cases c2 : ((s[j3].toNat : Int) == 44)
                            · have c3 : ((s[j3].toNat : Int) != 44) = true := by unfold bne; rw [c2]; rfl
                              have HZ : Hid (q = .bd (LL s j3)) := Lib.hid (by rw [HY2.out, show (s[j3] == (if true then (125 : UInt8) else 93)) = false from ce.trans c1, show (s[j3] == (44 : UInt8)) = false from ck.trans c2, ← HC3.out]; rfl)
                              clear ce ck
                              go_wp2_with (first | (go_at_call 21; (with_reducible refine (HK1.out _).mono ?_); rintro e w1 ⟨rfl, rfl⟩) | (go_at_call 26; (with_reducible refine (HC1.out _).mono ?_); rintro e w2 ⟨rfl, HRQ, hb⟩; have HT1 := Lib.hid (HO.out.on hb); obtain ⟨e0, e1, y0, y1, hl⟩ := HT1.out.facts; clear hb) | (go_at_call 21; (with_reducible refine (HK2.out _).mono ?_); rintro e w1 ⟨rfl, rfl⟩) | (go_at_call 20; (with_reducible refine (HC2.out _).mono ?_); rintro e w3 ⟨rfl, HRV, hb⟩; have HT := Lib.hid ((HT1.out.alloc (.cells #[.int .i64 (ja : Nat), .int .i64 (-1)] 38)).on hb); obtain ⟨e5, e6, y5, y6, hl2⟩ := HT.out.facts; clear hb) | (go_at_call 21; (with_reducible refine (HK3.out _).mono ?_); rintro e w1 ⟨rfl, rfl⟩))
                              have hE := (HT.out.fin (j3 : Nat) 0).alloc (.cells #[.int .i64 (j2 : Nat), .int .i64 (-1)] 38)
                              obtain ⟨d0, d1⟩ := hE.facts
                              exact bodyPost_ret (v := sdV (j3 : Nat) (0)) (by simp only [results, Try.results25]; simp [go_sem, d0, d1]) rfl ⟨⟨_, rfl, by rw [HZ.out]; exact ⟨j3, lj3, rfl, rfl⟩⟩, hE.below⟩
                            · have c3 : ((s[j3].toNat : Int) != 44) = false := by unfold bne; rw [c2]; rfl
                              have HZ : Hid (q = dscE g (some (true, (i + 1 == 0))) d (LL s m3)) := Lib.hid (by rw [HY2.out, show (s[j3] == (if true then (125 : UInt8) else 93)) = false from ce.trans c1, show (s[j3] == (44 : UInt8)) = true from ck.trans c2]; rfl)
                              clear ce ck
                              go_wp2_with (first | (go_at_call 21; (with_reducible refine (HK1.out _).mono ?_); rintro e w1 ⟨rfl, rfl⟩) | (go_at_call 26; (with_reducible refine (HC1.out _).mono ?_); rintro e w2 ⟨rfl, HRQ, hb⟩; have HT1 := Lib.hid (HO.out.on hb); obtain ⟨e0, e1, y0, y1, hl⟩ := HT1.out.facts; clear hb) | (go_at_call 21; (with_reducible refine (HK2.out _).mono ?_); rintro e w1 ⟨rfl, rfl⟩) | (go_at_call 20; (with_reducible refine (HC2.out _).mono ?_); rintro e w3 ⟨rfl, HRV, hb⟩; have HT := Lib.hid ((HT1.out.alloc (.cells #[.int .i64 (ja : Nat), .int .i64 (-1)] 38)).on hb); obtain ⟨e5, e6, y5, y6, hl2⟩ := HT.out.facts; clear hb) | (go_at_call 21; (with_reducible refine (HK3.out _).mono ?_); rintro e w1 ⟨rfl, rfl⟩))
                              go_roundw
                              case rel => exact ⟨m3, i + 1, g, lm3, by have h2 := HJ2.out; have h3 := HM3.out; have h5 := HJM.out; omega, by go_num, rfl, by have h2 := HJ2.out; have h3 := HM3.out; have h4 := HG.out; have h5 := HJM.out; omega, by have h2 := HJ2.out; have h3 := HM3.out; have h4 := HG.out; have h5 := HJM.out; omega, HZ, Lib.hid (HT.out.alloc _)⟩
                              case measure => have hm3o := HM3.out; have hj2o := HJ2.out; have hjmo := HJM.out; simp [intOf]; omega
                          · have HZ : Hid (q = .wl (LL s m3)) := Lib.hid (by rw [HY2.out, show (s[j3] == (if true then (125 : UInt8) else 93)) = true from ce.trans c1]; rfl)
                            clear ce ck
                            go_wp2_with (first | (go_at_call 21; (with_reducible refine (HK1.out _).mono ?_); rintro e w1 ⟨rfl, rfl⟩) | (go_at_call 26; (with_reducible refine (HC1.out _).mono ?_); rintro e w2 ⟨rfl, HRQ, hb⟩; have HT1 := Lib.hid (HO.out.on hb); obtain ⟨e0, e1, y0, y1, hl⟩ := HT1.out.facts; clear hb) | (go_at_call 21; (with_reducible refine (HK2.out _).mono ?_); rintro e w1 ⟨rfl, rfl⟩) | (go_at_call 20; (with_reducible refine (HC2.out _).mono ?_); rintro e w3 ⟨rfl, HRV, hb⟩; have HT := Lib.hid ((HT1.out.alloc (.cells #[.int .i64 (ja : Nat), .int .i64 (-1)] 38)).on hb); obtain ⟨e5, e6, y5, y6, hl2⟩ := HT.out.facts; clear hb) | (go_at_call 21; (with_reducible refine (HK3.out _).mono ?_); rintro e w1 ⟨rfl, rfl⟩))
                            have hE := (HT.out.fin (m3 : Nat) (-1)).alloc (.cells #[.int .i64 (j2 : Nat), .int .i64 (-1)] 38)
                            obtain ⟨d0, d1⟩ := hE.facts
                            exact bodyPost_ret (v := sdV (m3 : Nat) (-1)) (by simp only [results, Try.results25]; simp [go_sem, d0, d1]) rfl ⟨⟨_, rfl, by rw [HZ.out]; exact ⟨m3, lm3, rfl, rfl⟩⟩, hE.below⟩
                        · obtain rfl : j3 = s.size := by omega
                          have HZ : Hid (q = .op) := Lib.hid (HY.out.trans (tal_nil (hJ3.symm.trans (ll_nil (Nat.le_refl _)))))
                          clear hJ3
                          go_wp2_with (first | (go_at_call 21; (with_reducible refine (HK1.out _).mono ?_); rintro e w1 ⟨rfl, rfl⟩) | (go_at_call 26; (with_reducible refine (HC1.out _).mono ?_); rintro e w2 ⟨rfl, HRQ, hb⟩; have HT1 := Lib.hid (HO.out.on hb); obtain ⟨e0, e1, y0, y1, hl⟩ := HT1.out.facts; clear hb) | (go_at_call 21; (with_reducible refine (HK2.out _).mono ?_); rintro e w1 ⟨rfl, rfl⟩) | (go_at_call 20; (with_reducible refine (HC2.out _).mono ?_); rintro e w3 ⟨rfl, HRV, hb⟩; have HT := Lib.hid ((HT1.out.alloc (.cells #[.int .i64 (ja : Nat), .int .i64 (-1)] 38)).on hb); obtain ⟨e5, e6, y5, y6, hl2⟩ := HT.out.facts; clear hb) | (go_at_call 21; (with_reducible refine (HK3.out _).mono ?_); rintro e w1 ⟨rfl, rfl⟩))
                          have hE := (HT.out.fin (s.size : Nat) 1).alloc (.cells #[.int .i64 (j2 : Nat), .int .i64 (-1)] 38)
                          obtain ⟨d0, d1⟩ := hE.facts
                          exact bodyPost_ret (v := sdV (s.size : Nat) (1)) (by simp only [results, Try.results25]; simp [go_sem, d0, d1]) rfl ⟨⟨_, rfl, by rw [HZ.out]; exact ⟨_, rfl⟩⟩, hE.below⟩
                      · go_wp2_with (first | (go_at_call 21; (with_reducible refine (HK1.out _).mono ?_); rintro e w1 ⟨rfl, rfl⟩) | (go_at_call 26; (with_reducible refine (HC1.out _).mono ?_); rintro e w2 ⟨rfl, HRQ, hb⟩; have HT1 := Lib.hid (HO.out.on hb); obtain ⟨e0, e1, y0, y1, hl⟩ := HT1.out.facts; clear hb) | (go_at_call 21; (with_reducible refine (HK2.out _).mono ?_); rintro e w1 ⟨rfl, rfl⟩) | (go_at_call 20; (with_reducible refine (HC2.out _).mono ?_); rintro e w3 ⟨rfl, HRV, hb⟩; exact absurd HRV.out hr2) | (go_at_call 21; (with_reducible refine (HK3.out _).mono ?_); rintro e w1 ⟨rfl, rfl⟩))
                    · have HC2 := Lib.hid (fun W => said_stop (HV.out W) (fun r hr => hX ⟨r, hr⟩))
                      have HN := Lib.hid (tal_stop (named := true) (k := fun r => dscE g (some (true, false)) d r) (fun r hr => hX ⟨r, hr⟩))
                      clear hX
                      go_wp2_with (first | (go_at_call 21; (with_reducible refine (HK1.out _).mono ?_); rintro e w1 ⟨rfl, rfl⟩) | (go_at_call 26; (with_reducible refine (HC1.out _).mono ?_); rintro e w2 ⟨rfl, HRQ, hb⟩; have HT1 := Lib.hid (HO.out.on hb); obtain ⟨e0, e1, y0, y1, hl⟩ := HT1.out.facts; clear hb) | (go_at_call 21; (with_reducible refine (HK2.out _).mono ?_); rintro e w1 ⟨rfl, rfl⟩) | (go_at_call 20; (with_reducible refine (HC2.out _).mono ?_); rintro e w3 ⟨a, st, rfl, HST, HS, hb⟩; have hst := HST.out; have HT := Lib.hid ((HT1.out.alloc (.cells #[.int .i64 (ja : Nat), .int .i64 (-1)] 38)).on hb); obtain ⟨e5, e6, y5, y6, hl2⟩ := HT.out.facts; clear hb) | (go_at_call 21; (with_reducible refine (HK3.out _).mono ?_); rintro e w1 ⟨rfl, rfl⟩))
                      have hE := (HT.out.fin a st).alloc (.cells #[.int .i64 (a), .int .i64 (st)] 38)
                      obtain ⟨d0, d1⟩ := hE.facts
                      exact bodyPost_ret (v := sdV (a) (st)) (by simp only [results, Try.results25]; simp [go_sem, d0, d1]) rfl ⟨⟨_, rfl, by rw [HQ2.out, HN.out]; exact HS.out⟩, hE.below⟩
                · obtain rfl : jb = s.size := by omega
                  have HZ : Hid (q = .op) := Lib.hid (HQB.out.trans (congrArg (talE true (fun r => dscE g (some (true, false)) d r)) (nam_nil (hJb.symm.trans (ll_nil (Nat.le_refl _))))))
                  clear hJb
                  go_wp2_with (first | (go_at_call 21; (with_reducible refine (HK1.out _).mono ?_); rintro e w1 ⟨rfl, rfl⟩) | (go_at_call 26; (with_reducible refine (HC1.out _).mono ?_); rintro e w2 ⟨rfl, HRQ, hb⟩; have HT1 := Lib.hid (HO.out.on hb); obtain ⟨e0, e1, y0, y1, hl⟩ := HT1.out.facts; clear hb) | (go_at_call 21; (with_reducible refine (HK2.out _).mono ?_); rintro e w1 ⟨rfl, rfl⟩))
                  have hE := (HT1.out.fin (s.size : Nat) 1).alloc (.cells #[.int .i64 (ja : Nat), .int .i64 (-1)] 38)
                  obtain ⟨d0, d1⟩ := hE.facts
                  exact bodyPost_ret (v := sdV (s.size : Nat) (1)) (by simp only [results, Try.results25]; simp [go_sem, d0, d1]) rfl ⟨⟨_, rfl, by rw [HZ.out]; exact ⟨_, rfl⟩⟩, hE.below⟩
              · go_wp2_with (first | (go_at_call 21; (with_reducible refine (HK1.out _).mono ?_); rintro e w1 ⟨rfl, rfl⟩) | (go_at_call 26; (with_reducible refine (HC1.out _).mono ?_); rintro e w2 ⟨rfl, HRQ, hb⟩; exact absurd HRQ.out hr1))
            · have HC1 := Lib.hid (fun W => said_stop (HQR.out W) (fun r hr => hQ ⟨r, hr⟩))
              have HN := Lib.hid (nam_stop (k := fun r => dscE g none d r) (fun r hr => hQ ⟨r, hr⟩))
              have HN2 := Lib.hid (tal_stop (named := true) (k := fun r => dscE g (some (true, false)) d r) (fun r hr => hQ ⟨r, hr⟩))
              clear hQ
              go_wp2_with (first | (go_at_call 21; (with_reducible refine (HK1.out _).mono ?_); rintro e w1 ⟨rfl, rfl⟩) | (go_at_call 26; (with_reducible refine (HC1.out _).mono ?_); rintro e w2 ⟨a, st, rfl, HST, HS, hb⟩; have hst := HST.out; have HT := Lib.hid (HO.out.on hb); obtain ⟨e0, e1, y0, y1, hl⟩ := HT.out.facts; clear hb))
              have hE := (HT.out.fin a st).alloc (.cells #[.int .i64 (a), .int .i64 (st)] 38)
              obtain ⟨d0, d1⟩ := hE.facts
              exact bodyPost_ret (v := sdV (a) (st)) (by simp only [results, Try.results25]; simp [go_sem, d0, d1]) rfl ⟨⟨_, rfl, by rw [HQA.out, HN.out, HN2.out]; exact HS.out⟩, hE.below⟩
    · obtain rfl : j1 = s.size := by omega
      have HZ : Hid (q = .op) := Lib.hid (HJ.out.trans (dsc_nil (hJ1.symm.trans (ll_nil (Nat.le_refl _)))))
      clear hJ1
      go_wp2_with (go_at_call 21; (with_reducible refine (HK1.out _).mono ?_); rintro e w1 ⟨rfl, rfl⟩)
      have hE := (HO.out.fin (s.size : Nat) 1)
      obtain ⟨d0, d1⟩ := hE.facts
      exact bodyPost_ret (v := sdV (s.size : Nat) (1)) (by simp only [results, Try.results25]; simp [go_sem, d0, d1]) rfl ⟨⟨_, rfl, by rw [HZ.out]; exact ⟨_, rfl⟩⟩, hE.below⟩
end Go.Proofs.Ytdebionbjefhlaa
namespace Go.Proofs.Ytdebionbjefhlaa
open Go.RowKit

theorem both27 {s : ByteArray} (hs : s.size ≤ 4611686018427387904) (f : Nat) : ValH s f ∧ LisH s f := by
  induction f using Nat.strongRecOn with
  | ind f ih =>
    refine ⟨?_, ?_⟩
    · cases f with
      | zero => intro k d W _ _ h; omega
      | succ f => exact value_step hs (ih f (Nat.lt_succ_self f)).2
    · intro k d named W hk hd hf
      cases named with
      | false => exact list_plain hs (fun g hg => (ih g hg).1) k d W hk hd hf
      | true => exact list_named hs (fun g hg => (ih g hg).1) k d W hk hd hf
theorem said_bd {s : ByteArray} {r : List UInt8} {f : Nat} {vs : Array Value} {w : World} (h : Calls Try.prog f vs w fun e w' => (∃ v, e = .returned v ∧ SaidE s (.bd r) v) ∧ Below w.heap.size w w') :
    Calls Try.prog f vs w fun e w' => e = .returned (sdV (s.size - r.length : Nat) 0) ∧ Below w.heap.size w w' ∧ Hid (r.length ≤ s.size) := by
  refine h.mono ?_
  rintro e w' ⟨⟨v, rfl, k, hk, rfl, rfl⟩, hb⟩
  rw [ll_len, show s.size - (s.size - k) = k from by omega]
  exact ⟨rfl, hb, Lib.hid (by omega)⟩
theorem said_dp {s : ByteArray} {r : List UInt8} {f : Nat} {vs : Array Value} {w : World} (h : Calls Try.prog f vs w fun e w' => (∃ v, e = .returned v ∧ SaidE s (.dp r) v) ∧ Below w.heap.size w w') :
    Calls Try.prog f vs w fun e w' => e = .returned (sdV (s.size - r.length : Nat) 3) ∧ Below w.heap.size w w' ∧ Hid (r.length ≤ s.size) := by
  refine h.mono ?_
  rintro e w' ⟨⟨v, rfl, k, hk, rfl, rfl⟩, hb⟩
  rw [ll_len, show s.size - (s.size - k) = k from by omega]
  exact ⟨rfl, hb, Lib.hid (by omega)⟩
theorem who_top (d : Nat) (s : ByteArray) : whoJ d s = match topE (dscE (2 * s.size + 1) none d (LL s 0)) with
    | (x, r) => (x, if x == 0 || x == 3 then (s.size : Int) - (r.length : Int) else -1) := by
  unfold whoJ
  rw [ans_top d s.data.toList (f := 2 * s.size + 1) (by simp), ll_zero]

set_option maxHeartbeats 4000000 in
set_option maxRecDepth 10000 in
theorem whole27_any (s : ByteArray) (d : Nat) (w : World) (hs : s.size ≤ 4611686018427387904) (hd : d ≤ 200) :
    Calls Try.prog 9 #[.string s, .int .i64 (d : Nat)] w fun e w' => e = .returned (.tuple #[.int .i64 (whoJ d s).1, .int .i64 (whoJ d s).2]) ∧ Below w.heap.size w w' := by
  have hV : ∀ W, Calls Try.prog 20 #[.string s, .int .i64 0, .int .i64 (d : Nat)] W fun e w' => (∃ v, e = .returned v ∧ SaidE s (dscE (2 * s.size + 1) none d (LL s 0)) v) ∧ Below W.heap.size W w' := fun W =>
    (both27 hs (2 * s.size + 1)).1 0 d W (Nat.zero_le _) hd (by omega)
  obtain ⟨x, hx⟩ : ∃ x, x = (whoJ d s).1 := ⟨_, rfl⟩
  obtain ⟨y, hy⟩ : ∃ y, y = (whoJ d s).2 := ⟨_, rfl⟩
  rw [← hx, ← hy]
  rw [who_top] at hx hy
  cases hE : dscE (2 * s.size + 1) none d (LL s 0) with
  | op =>
    rw [hE] at hV hx hy
    have ex : x = 1 := hx
    have ey : y = -1 := hy
    subst ex ey
    have HV := Lib.hid (fun W => (hV W).mono fun e w' h => show ∃ a : Int, e = .returned (sdV a 1) ∧ Below W.heap.size W w' by obtain ⟨⟨v, rfl, a, rfl⟩, hb⟩ := h; exact ⟨a, rfl, hb⟩)
    clear hV hx hy hE
    go_enter Try.func9, Try.ntmps9
    go_wp2_with (go_at_call 20; (with_reducible refine (HV.out _).mono ?_); rintro e w1 ⟨a, rfl, hb⟩; have HB := Lib.hid hb; clear hb)
    go_ret2
    exact ⟨rfl, HB.out.alloc HB.out.size _⟩
  | bd r =>
    rw [hE] at hV hx hy
    have ex : x = 0 := hx
    have HY := Lib.hid (show y = (s.size : Int) - (r.length : Int) from hy)
    subst ex
    have HV := Lib.hid (fun W => said_bd (hV W))
    clear hV hx hy hE
    obtain ⟨n, hn⟩ : ∃ n, n = s.size - r.length := ⟨_, rfl⟩
    rw [← hn] at HV
    have HN := Lib.hid hn
    clear hn
    go_enter Try.func9, Try.ntmps9
    go_wp2_with (go_at_call 20; (with_reducible refine (HV.out _).mono ?_); rintro e w1 ⟨rfl, hb, HL⟩; have HB := Lib.hid hb; clear hb)
    go_quiet (fail)
    go_wp2
    go_ret2
    refine ⟨?_, Below.drewN' (HB.out.alloc HB.out.size _) _⟩
    rw [HY.out, show (s.size : Int) - (r.length : Int) = (n : Int) from by have h1 := HN.out; have h2 := HL.out; omega]
    rfl
  | dp r =>
    rw [hE] at hV hx hy
    have ex : x = 3 := hx
    have HY := Lib.hid (show y = (s.size : Int) - (r.length : Int) from hy)
    subst ex
    have HV := Lib.hid (fun W => said_dp (hV W))
    clear hV hx hy hE
    obtain ⟨n, hn⟩ : ∃ n, n = s.size - r.length := ⟨_, rfl⟩
    rw [← hn] at HV
    have HN := Lib.hid hn
    clear hn
    go_enter Try.func9, Try.ntmps9
    go_wp2_with (go_at_call 20; (with_reducible refine (HV.out _).mono ?_); rintro e w1 ⟨rfl, hb, HL⟩; have HB := Lib.hid hb; clear hb)
    go_quiet (fail)
    go_wp2
    go_ret2
    refine ⟨?_, Below.drewN' (HB.out.alloc HB.out.size _) _⟩
    rw [HY.out, show (s.size : Int) - (r.length : Int) = (n : Int) from by have h1 := HN.out; have h2 := HL.out; omega]
    rfl
  | wl r =>
    rw [hE] at hV hx hy
    obtain ⟨j, hj⟩ : ∃ j, j = s.size - r.length := ⟨_, rfl⟩
    have HV := Lib.hid (fun W => said_go (hV W) hj)
    have lj : j ≤ s.size := by omega
    clear hV hE
    by_cases hr : r = LL s j
    · obtain ⟨hJ, hjk, lk⟩ := skP_is lj
      have HK := Lib.hid (fun W => skip27_at s j W lj hs)
      obtain ⟨k, hk⟩ : ∃ k, k = skP s j := ⟨_, rfl⟩
      rw [← hk] at HK hJ hjk lk
      rw [← hr] at hJ
      by_cases hlt : k < s.size
      · have hC := hJ.symm.trans (ll_cons hlt)
        have hT : topE (.wl r) = (0, LL s k) := by
          show (match r.dropWhile whiB with | [] => ((2 : Int), ([] : List UInt8)) | b :: r' => (0, b :: r')) = _
          rw [hC, ll_cons hlt]
        rw [hT] at hx hy
        have ex : x = 0 := hx
        have ey : y = (k : Int) := by
          have h : y = (s.size : Int) - ((LL s k).length : Int) := hy
          rw [h, ll_len]
          omega
        subst ex ey
        clear hC hT hx hy hJ hr hj hk
        go_enter Try.func9, Try.ntmps9
        go_wp2_with (first
          | (go_at_call 20; (with_reducible refine (HV.out _).mono ?_); rintro e w1 ⟨rfl, HRV, hb⟩; have HB := Lib.hid hb; clear hb)
          | (go_at_call 21; (with_reducible refine (HK.out _).mono ?_); rintro e w2 ⟨rfl, rfl⟩))
        go_ret2
        exact ⟨rfl, HB.out.alloc HB.out.size _⟩
      · obtain rfl : k = s.size := by omega
        have hC := hJ.symm.trans (ll_nil (Nat.le_refl _))
        have hT : topE (.wl r) = (2, []) := by
          show (match r.dropWhile whiB with | [] => ((2 : Int), ([] : List UInt8)) | b :: r' => (0, b :: r')) = _
          rw [hC]
        rw [hT] at hx hy
        have ex : x = 2 := hx
        have ey : y = -1 := hy
        subst ex ey
        clear hC hT hx hy hJ hr hj hk
        go_enter Try.func9, Try.ntmps9
        go_wp2_with (first
          | (go_at_call 20; (with_reducible refine (HV.out _).mono ?_); rintro e w1 ⟨rfl, HRV, hb⟩; have HB := Lib.hid hb; clear hb)
          | (go_at_call 21; (with_reducible refine (HK.out _).mono ?_); rintro e w2 ⟨rfl, rfl⟩))
        go_ret2
        exact ⟨rfl, HB.out.alloc HB.out.size _⟩
    · clear hx hy hj
      go_enter Try.func9, Try.ntmps9
      go_wp2_with (go_at_call 20; (with_reducible refine (HV.out _).mono ?_); rintro e w1 ⟨rfl, HRV, hb⟩; exact absurd HRV.out hr)

/-- Whether something came but what parts. -/
def bgnB (s : ByteArray) : Bool := !s.data.toList.all whiB
theorem drop_all27 : ∀ l : List UInt8, (l.dropWhile whiB = []) ↔ l.all whiB = true
  | [] => ⟨fun _ => rfl, fun _ => rfl⟩
  | b :: l => by
    rw [List.dropWhile_cons, List.all_cons]
    cases h : whiB b with
    | true =>
      rw [if_pos rfl, Bool.true_and]
      exact drop_all27 l
    | false =>
      rw [if_neg (by decide), Bool.false_and]
      exact ⟨fun h => (by cases h), fun h => (by cases h)⟩
theorem bgn_is (s : ByteArray) : decide (skP s 0 < s.size) = bgnB s := by
  obtain ⟨h1, _, h2⟩ := skP_is (s := s) (k := 0) (Nat.zero_le _)
  unfold bgnB
  cases ha : s.data.toList.all whiB with
  | true =>
    have h3 := (drop_all27 _).2 ha
    rw [← ll_zero, ← h1] at h3
    have h4 := congrArg List.length h3
    rw [ll_len, List.length_nil] at h4
    exact decide_eq_false (by omega)
  | false =>
    refine decide_eq_true ?_
    rcases Nat.lt_or_ge (skP s 0) s.size with h | h
    · exact h
    · rw [ll_nil h, ll_zero] at h1
      rw [(drop_all27 _).1 h1.symm] at ha
      cases ha
set_option maxHeartbeats 1000000 in
theorem begun27_any (s : ByteArray) (w : World) (hs : s.size ≤ 4611686018427387904) :
    Calls Try.prog 18 #[.string s] w fun e w' => e = .returned (.bool (bgnB s)) ∧ w = w' := by
  have HK : Hid (∀ W, Calls Try.prog 21 #[.string s, .int .i64 0] W fun e w' => e = .returned (.int .i64 (skP s 0 : Nat)) ∧ W = w') := Lib.hid fun W => skip27_at s 0 W (Nat.zero_le _) hs
  have HE := Lib.hid (bgn_is s)
  generalize skP s 0 = k at *
  go_enter Try.func18, Try.ntmps18
  go_wp2_with (go_at_call 21; (with_reducible refine (HK.out _).mono ?_); rintro e w2 ⟨rfl, rfl⟩)
  go_ret
  refine ⟨?_, rfl⟩
  rw [← HE.out]
  first | done | rfl | (congr 2; simp)
end Go.Proofs.Ytdebionbjefhlaa
namespace Go.Proofs.Ytdebionbjefhlaa
open Go.RowKit

/-- The cells of a machine. -/
def mcC (D sn pl sp tn lf : Int) (rs : ByteArray) (dp : Int) (E : List Value) : Array Value :=
  (.int .i64 D :: .int .i64 sn :: .int .i64 pl :: .int .i64 sp :: .int .i64 tn :: .int .i64 lf :: .string rs :: .int .i64 dp :: E).toArray
abbrev Mac (w : World) (mb : Nat) (D sn pl sp tn lf : Int) (rs : ByteArray) (dp : Int) (E : List Value) : Prop := Blk w mb 43 (mcC D sn pl sp tn lf rs dp E)
abbrev mptr (mb : Nat) : Value := .pointer (some ⟨mb, 0, none⟩)
section
variable {w : World} {mb : Nat} {D sn pl sp tn lf : Int} {rs : ByteArray} {dp : Int} {E : List Value}
theorem Mac.c0 (h : Mac w mb D sn pl sp tn lf rs dp E) : w.cell? ⟨mb, 0, none⟩ = some (.int .i64 D) := h.cell 0
theorem Mac.c1 (h : Mac w mb D sn pl sp tn lf rs dp E) : w.cell? ⟨mb, 1, none⟩ = some (.int .i64 sn) := h.cell 1
theorem Mac.c2 (h : Mac w mb D sn pl sp tn lf rs dp E) : w.cell? ⟨mb, 2, none⟩ = some (.int .i64 pl) := h.cell 2
theorem Mac.c3 (h : Mac w mb D sn pl sp tn lf rs dp E) : w.cell? ⟨mb, 3, none⟩ = some (.int .i64 sp) := h.cell 3
theorem Mac.c4 (h : Mac w mb D sn pl sp tn lf rs dp E) : w.cell? ⟨mb, 4, none⟩ = some (.int .i64 tn) := h.cell 4
theorem Mac.c5 (h : Mac w mb D sn pl sp tn lf rs dp E) : w.cell? ⟨mb, 5, none⟩ = some (.int .i64 lf) := h.cell 5
theorem Mac.c6 (h : Mac w mb D sn pl sp tn lf rs dp E) : w.cell? ⟨mb, 6, none⟩ = some (.string rs) := h.cell 6
theorem Mac.c7 (h : Mac w mb D sn pl sp tn lf rs dp E) : w.cell? ⟨mb, 7, none⟩ = some (.int .i64 dp) := h.cell 7
theorem Mac.cE (h : Mac w mb D sn pl sp tn lf rs dp E) (i : Nat) : w.cell? ⟨mb, 8 + i, none⟩ = E[i]? := by
  rw [h.cell, Nat.add_comm]
  unfold mcC
  rw [List.getElem?_toArray]
  rfl
theorem Mac.s1 (h : Mac w mb D sn pl sp tn lf rs dp E) (x : Int) : Mac (w.setCell ⟨mb, 1, none⟩ (.int .i64 x)) mb D x pl sp tn lf rs dp E := by
  have := h.set_ 1 (.int .i64 x)
  unfold mcC at this
  rw [List.setIfInBounds_toArray] at this
  exact this
theorem Mac.s2 (h : Mac w mb D sn pl sp tn lf rs dp E) (x : Int) : Mac (w.setCell ⟨mb, 2, none⟩ (.int .i64 x)) mb D sn x sp tn lf rs dp E := by
  have := h.set_ 2 (.int .i64 x)
  unfold mcC at this
  rw [List.setIfInBounds_toArray] at this
  exact this
theorem Mac.s3 (h : Mac w mb D sn pl sp tn lf rs dp E) (x : Int) : Mac (w.setCell ⟨mb, 3, none⟩ (.int .i64 x)) mb D sn pl x tn lf rs dp E := by
  have := h.set_ 3 (.int .i64 x)
  unfold mcC at this
  rw [List.setIfInBounds_toArray] at this
  exact this
theorem Mac.s4 (h : Mac w mb D sn pl sp tn lf rs dp E) (x : Int) : Mac (w.setCell ⟨mb, 4, none⟩ (.int .i64 x)) mb D sn pl sp x lf rs dp E := by
  have := h.set_ 4 (.int .i64 x)
  unfold mcC at this
  rw [List.setIfInBounds_toArray] at this
  exact this
theorem Mac.s5 (h : Mac w mb D sn pl sp tn lf rs dp E) (x : Int) : Mac (w.setCell ⟨mb, 5, none⟩ (.int .i64 x)) mb D sn pl sp tn x rs dp E := by
  have := h.set_ 5 (.int .i64 x)
  unfold mcC at this
  rw [List.setIfInBounds_toArray] at this
  exact this
theorem Mac.s6 (h : Mac w mb D sn pl sp tn lf rs dp E) (x : ByteArray) : Mac (w.setCell ⟨mb, 6, none⟩ (.string x)) mb D sn pl sp tn lf x dp E := by
  have := h.set_ 6 (.string x)
  unfold mcC at this
  rw [List.setIfInBounds_toArray] at this
  exact this
theorem Mac.s7 (h : Mac w mb D sn pl sp tn lf rs dp E) (x : Int) : Mac (w.setCell ⟨mb, 7, none⟩ (.int .i64 x)) mb D sn pl sp tn lf rs x E := by
  have := h.set_ 7 (.int .i64 x)
  unfold mcC at this
  rw [List.setIfInBounds_toArray] at this
  exact this
theorem Mac.sE (h : Mac w mb D sn pl sp tn lf rs dp E) (i : Nat) (x : Value) : Mac (w.setCell ⟨mb, 8 + i, none⟩ x) mb D sn pl sp tn lf rs dp (E.set i x) := by
  have := h.set_ (8 + i) x
  unfold mcC at this
  rw [List.setIfInBounds_toArray, Nat.add_comm 8 i] at this
  rw [Nat.add_comm 8 i]
  exact this
end

theorem mac_eq_nil (p : Addr) (w : World) : (binOp .eql 29 (.pointer (some p)) (.pointer none)).run Try.prog w = .ok (.bool false) w := by kernel_rfl
theorem mac_eq_nilptr (w : World) : (binOp .eql 29 (.pointer none) (.pointer none)).run Try.prog w = .ok (.bool true) w := by kernel_rfl
theorem mac_neq_nil (p : Addr) (w : World) : (binOp .neq 29 (.pointer (some p)) (.pointer none)).run Try.prog w = .ok (.bool true) w := by kernel_rfl
theorem mac_neq_nilptr (w : World) : (binOp .neq 29 (.pointer none) (.pointer none)).run Try.prog w = .ok (.bool false) w := by kernel_rfl

def shutB (t : Bool) : UInt8 := if t then 125 else 93
/-- What ends each one that is open, from without to within. -/
def EndsIs : List Bool → List Value → Prop
  | [], _ => True
  | t :: r, E => E[r.length]? = some (.int .u8 ((shutB t).toNat : Int)) ∧ EndsIs r E
theorem EndsIs.set {x : Value} : ∀ {st : List Bool} {E : List Value} {i : Nat}, EndsIs st E → st.length ≤ i → EndsIs st (E.set i x)
  | [], _, _, _, _ => trivial
  | t :: r, E, i, h, hi => by
    have hi' : r.length < i := hi
    exact ⟨by rw [List.getElem?_set_ne (by omega)]; exact h.1, EndsIs.set h.2 (by omega)⟩
theorem EndsIs.push {t : Bool} {st : List Bool} {E : List Value} (h : EndsIs st E) (hl : st.length < E.length) : EndsIs (t :: st) (E.set st.length (.int .u8 ((shutB t).toNat : Int))) :=
  ⟨by rw [List.getElem?_set_self hl], h.set (Nat.le_refl _)⟩

/-! What may end a number; the step behind a byte of one. -/
def fulZ (sp : Int) : Bool := sp == 12 || sp == 13 || sp == 15 || sp == 18
def digZ (sp : Int) (b : UInt8) : Int := if sp == 12 then 19 else if sp == 14 || sp == 15 then 15 else if sp == 16 || sp == 17 || sp == 18 then 18 else if sp != 13 && (b.toNat : Int) == 48 then 12 else 13
def numZ (sp : Int) (b : UInt8) : Int :=
  if digB b then digZ sp b else if (b.toNat : Int) == 46 && (sp == 12 || sp == 13) then 14
  else if ((b.toNat : Int) == 101 || (b.toNat : Int) == 69) && fulZ sp && sp != 18 then 16
  else if ((b.toNat : Int) == 43 || (b.toNat : Int) == 45) && sp == 16 then 17 else 19

set_option maxHeartbeats 400000 in
theorem full_any (sp : Int) (w : World) :
    Calls Try.prog 24 #[.int .i64 sp] w fun e w' => e = .returned (.bool (fulZ sp)) ∧ w = w' := by
  unfold fulZ
  cases h0 : (sp == 12) <;> cases h1 : (sp == 13) <;> cases h2 : (sp == 15) <;>
  · go_enter Try.func24, Try.ntmps24
    go_wp2
    go_ret
    exact ⟨rfl, rfl⟩

set_option maxHeartbeats 400000 in
theorem jdigit_any (sp : Int) (b : UInt8) (w : World) :
    Calls Try.prog 48 #[.int .i64 sp, .int .u8 (b.toNat : Int)] w fun e w' => e = .returned (.int .i64 (digZ sp b)) ∧ w = w' := by
  obtain ⟨v, hv⟩ : ∃ v, v = digZ sp b := ⟨_, rfl⟩
  rw [← hv]
  have HV := Lib.hid hv
  clear hv
  have hc : (sp == 12) = true ∨ ((sp == 12) = false ∧ (sp == 14) = true) ∨ ((sp == 12) = false ∧ (sp == 14) = false ∧ (sp == 15) = true) ∨ ((sp == 12) = false ∧ (sp == 14) = false ∧ (sp == 15) = false ∧ (sp == 16) = true)
      ∨ ((sp == 12) = false ∧ (sp == 14) = false ∧ (sp == 15) = false ∧ (sp == 16) = false ∧ (sp == 17) = true) ∨ ((sp == 12) = false ∧ (sp == 14) = false ∧ (sp == 15) = false ∧ (sp == 16) = false ∧ (sp == 17) = false ∧ (sp == 18) = true)
      ∨ ((sp == 12) = false ∧ (sp == 14) = false ∧ (sp == 15) = false ∧ (sp == 16) = false ∧ (sp == 17) = false ∧ (sp == 18) = false ∧ (sp != 13) = false)
      ∨ ((sp == 12) = false ∧ (sp == 14) = false ∧ (sp == 15) = false ∧ (sp == 16) = false ∧ (sp == 17) = false ∧ (sp == 18) = false ∧ (sp != 13) = true ∧ ((b.toNat : Int) == 48) = true)
      ∨ ((sp == 12) = false ∧ (sp == 14) = false ∧ (sp == 15) = false ∧ (sp == 16) = false ∧ (sp == 17) = false ∧ (sp == 18) = false ∧ (sp != 13) = true ∧ ((b.toNat : Int) == 48) = false) := by
    generalize (sp == 12) = a
    generalize (sp == 14) = c
    generalize (sp == 15) = d
    generalize (sp == 16) = f
    generalize (sp == 17) = g
    generalize (sp == 18) = i
    generalize (sp != 13) = j
    generalize ((b.toNat : Int) == 48) = k
    cases a <;> simp
    cases c <;> simp
    cases d <;> simp
    cases f <;> simp
    cases g <;> simp
    cases i <;> simp
    cases j <;> simp
  rcases hc with h0 | ⟨h0, h1⟩ | ⟨h0, h1, h2⟩ | ⟨h0, h1, h2, h3⟩ | ⟨h0, h1, h2, h3, h4⟩ | ⟨h0, h1, h2, h3, h4, h5⟩ | ⟨h0, h1, h2, h3, h4, h5, h6⟩ | ⟨h0, h1, h2, h3, h4, h5, h6, h7⟩ | ⟨h0, h1, h2, h3, h4, h5, h6, h7⟩
  all_goals
    go_enter Try.func48, Try.ntmps48
    go_wp2
    go_ret
    refine ⟨?_, rfl⟩
    rw [HV.out]
    unfold digZ
    simp only [*, Bool.or_true, Bool.true_or, Bool.or_false, Bool.and_true, Bool.and_false, if_true, if_false, Bool.false_eq_true]
    first | done | rfl
set_option maxHeartbeats 1000000 in
theorem jnumber_any (sp : Int) (b : UInt8) (w : World) :
    Calls Try.prog 40 #[.int .i64 sp, .int .u8 (b.toNat : Int)] w fun e w' => e = .returned (.int .i64 (numZ sp b)) ∧ w = w' := by
  obtain ⟨v, hv⟩ : ∃ v, v = numZ sp b := ⟨_, rfl⟩
  rw [← hv]
  have HV := Lib.hid hv
  clear hv
  have HD := Lib.hid (fun W => digit_any b W)
  have HJ := Lib.hid (fun W => jdigit_any sp b W)
  have HF := Lib.hid (fun W => full_any sp W)
  obtain ⟨d, hd⟩ : ∃ d, d = digB b := ⟨_, rfl⟩
  obtain ⟨z, hz⟩ : ∃ z, z = digZ sp b := ⟨_, rfl⟩
  obtain ⟨f, hf⟩ : ∃ f, f = fulZ sp := ⟨_, rfl⟩
  unfold numZ at HV
  simp only [← hd, ← hz, ← hf] at HV HD HJ HF
  clear hd hz hf
  have hb : (((b.toNat : Int) == 46) = true ∧ ((b.toNat : Int) == 101) = false ∧ ((b.toNat : Int) == 69) = false ∧ ((b.toNat : Int) == 43) = false ∧ ((b.toNat : Int) == 45) = false)
      ∨ (((b.toNat : Int) == 46) = false ∧ ((b.toNat : Int) == 101) = true ∧ ((b.toNat : Int) == 69) = false ∧ ((b.toNat : Int) == 43) = false ∧ ((b.toNat : Int) == 45) = false)
      ∨ (((b.toNat : Int) == 46) = false ∧ ((b.toNat : Int) == 101) = false ∧ ((b.toNat : Int) == 69) = true ∧ ((b.toNat : Int) == 43) = false ∧ ((b.toNat : Int) == 45) = false)
      ∨ (((b.toNat : Int) == 46) = false ∧ ((b.toNat : Int) == 101) = false ∧ ((b.toNat : Int) == 69) = false ∧ ((b.toNat : Int) == 43) = true ∧ ((b.toNat : Int) == 45) = false)
      ∨ (((b.toNat : Int) == 46) = false ∧ ((b.toNat : Int) == 101) = false ∧ ((b.toNat : Int) == 69) = false ∧ ((b.toNat : Int) == 43) = false ∧ ((b.toNat : Int) == 45) = true)
      ∨ (((b.toNat : Int) == 46) = false ∧ ((b.toNat : Int) == 101) = false ∧ ((b.toNat : Int) == 69) = false ∧ ((b.toNat : Int) == 43) = false ∧ ((b.toNat : Int) == 45) = false) := by
    simp only [beq_iff_eq, beq_eq_false_iff_ne, ne_eq]
    omega
  cases d
  case' false => rcases hb with ⟨h1, h2, h3, h4, h5⟩ | ⟨h1, h2, h3, h4, h5⟩ | ⟨h1, h2, h3, h4, h5⟩ | ⟨h1, h2, h3, h4, h5⟩ | ⟨h1, h2, h3, h4, h5⟩ | ⟨h1, h2, h3, h4, h5⟩
  case' false.inl => cases h6 : (sp == 12)
  case' false.inl.false => cases h7 : (sp == 13)
  case' false.inr.inl => cases f
  case' false.inr.inl.true => cases h7 : (sp == 18)
  case' false.inr.inr.inl => cases f
  case' false.inr.inr.inl.true => cases h7 : (sp == 18)
  case' false.inr.inr.inr.inl => cases h7 : (sp == 16)
  case' false.inr.inr.inr.inr.inl => cases h7 : (sp == 16)
  all_goals
    go_enter Try.func40, Try.ntmps40
    go_wp2_with (first
      | (go_at_call 47; (with_reducible refine (HD.out _).mono ?_); rintro e w1 ⟨rfl, rfl⟩)
      | (go_at_call 48; (with_reducible refine (HJ.out _).mono ?_); rintro e w1 ⟨rfl, rfl⟩)
      | (go_at_call 24; (with_reducible refine (HF.out _).mono ?_); rintro e w1 ⟨rfl, rfl⟩))
    go_ret
    refine ⟨?_, rfl⟩
    rw [HV.out]
    simp only [*, bne, Bool.or_true, Bool.true_or, Bool.or_false, Bool.and_true, Bool.false_and, Bool.and_false, Bool.not_true, Bool.not_false, if_true, if_false, Bool.false_eq_true]
    first | done | rfl

/-! What is told of a machine. -/
set_option maxHeartbeats 400000 in
theorem stopped_any {w : World} {mb : Nat} {D sn pl sp tn lf : Int} {rs : ByteArray} {dp : Int} {E : List Value} (h : Mac w mb D sn pl sp tn lf rs dp E) :
    Calls Try.prog 22 #[mptr mb] w fun e w' => e = .returned (.bool (sp == 19 || sp == 20)) ∧ w = w' := by
  have c3 := h.c3
  clear h
  cases h0 : (sp == 19) <;>
  · go_enter Try.func22, Try.ntmps22
    go_wp2
    go_ret
    exact ⟨rfl, rfl⟩
/-- The state that a step tells. -/
def staZ (sp dp : Int) : Int := if sp == 19 then 0 else if sp == 20 then 3 else if dp == 0 && (sp == 6 || fulZ sp) then 2 else 1
set_option maxHeartbeats 400000 in
theorem jstate_any {w : World} {mb : Nat} {D sn pl sp tn lf : Int} {rs : ByteArray} {dp : Int} {E : List Value} (h : Mac w mb D sn pl sp tn lf rs dp E) :
    Calls Try.prog 14 #[mptr mb] w fun e w' => e = .returned (.int .i64 (staZ sp dp)) ∧ w = w' := by
  have c3 := h.c3
  have c7 := h.c7
  clear h
  obtain ⟨v, hv⟩ : ∃ v, v = staZ sp dp := ⟨_, rfl⟩
  rw [← hv]
  have HV := Lib.hid hv
  clear hv
  have HF := Lib.hid (fun W => full_any sp W)
  obtain ⟨f, hf⟩ : ∃ f, f = fulZ sp := ⟨_, rfl⟩
  unfold staZ at HV
  simp only [← hf] at HV HF
  clear hf
  have hc : (sp == 19) = true ∨ ((sp == 19) = false ∧ (sp == 20) = true) ∨ ((sp == 19) = false ∧ (sp == 20) = false ∧ (dp == 0) = false) ∨ ((sp == 19) = false ∧ (sp == 20) = false ∧ (dp == 0) = true ∧ (sp == 6) = true)
      ∨ ((sp == 19) = false ∧ (sp == 20) = false ∧ (dp == 0) = true ∧ (sp == 6) = false ∧ f = true) ∨ ((sp == 19) = false ∧ (sp == 20) = false ∧ (dp == 0) = true ∧ (sp == 6) = false ∧ f = false) := by
    generalize (sp == 19) = a
    generalize (sp == 20) = b
    generalize (dp == 0) = c
    generalize (sp == 6) = d
    cases a <;> simp
    cases b <;> simp
    cases c <;> simp
    cases d <;> simp
  rcases hc with h0 | ⟨h0, h1⟩ | ⟨h0, h1, h2⟩ | ⟨h0, h1, h2, h3⟩ | ⟨h0, h1, h2, h3, rfl⟩ | ⟨h0, h1, h2, h3, rfl⟩
  all_goals
    go_enter Try.func14, Try.ntmps14
    go_wp2_with (go_at_call 24; (with_reducible refine (HF.out _).mono ?_); rintro e w1 ⟨rfl, rfl⟩)
    go_ret
    refine ⟨?_, rfl⟩
    rw [HV.out]
    simp only [*, Bool.or_true, Bool.true_or, Bool.or_false, Bool.and_true, Bool.false_and, Bool.and_false, if_true, if_false, Bool.false_eq_true]
    first | done | rfl

set_option maxHeartbeats 400000 in
theorem state_nil (w : World) :
    Calls Try.prog 14 #[.pointer none] w fun e w' => e = .returned (.int .i64 0) ∧ w = w' := by
  go_enter Try.func14, Try.ntmps14
  go_wp2
  go_ret
  exact ⟨rfl, rfl⟩
set_option maxHeartbeats 400000 in
theorem jplace_any {w : World} {mb : Nat} {D sn pl sp tn lf : Int} {rs : ByteArray} {dp : Int} {E : List Value} (h : Mac w mb D sn pl sp tn lf rs dp E) :
    Calls Try.prog 15 #[mptr mb] w fun e w' => e = .returned (.int .i64 (if sp == 19 || sp == 20 then pl else -1)) ∧ w = w' := by
  have c2 := h.c2
  have HS := Lib.hid (stopped_any h)
  clear h
  obtain ⟨v, hv⟩ : ∃ v, v = if sp == 19 || sp == 20 then pl else -1 := ⟨_, rfl⟩
  rw [← hv]
  have HV := Lib.hid hv
  clear hv
  obtain ⟨f, hf⟩ : ∃ f, f = (sp == 19 || sp == 20) := ⟨_, rfl⟩
  rw [← hf] at HV HS
  clear hf
  cases f
  all_goals
    go_enter Try.func15, Try.ntmps15
    go_wp2_with (go_at_call 22; (with_reducible refine HS.out.mono ?_); rintro e w1 ⟨rfl, rfl⟩)
    go_ret
    refine ⟨?_, rfl⟩
    rw [HV.out]
    first | done | rfl
set_option maxHeartbeats 400000 in
theorem place_nil (w : World) :
    Calls Try.prog 15 #[.pointer none] w fun e w' => e = .returned (.int .i64 (-1)) ∧ w = w' := by
  go_enter Try.func15, Try.ntmps15
  go_wp2
  go_ret
  exact ⟨rfl, rfl⟩
set_option maxHeartbeats 400000 in
theorem begun_any {w : World} {mb : Nat} {D sn pl sp tn lf : Int} {rs : ByteArray} {dp : Int} {E : List Value} (h : Mac w mb D sn pl sp tn lf rs dp E) :
    Calls Try.prog 17 #[mptr mb] w fun e w' => e = .returned (.bool (sp != 0)) ∧ w = w' := by
  have c3 := h.c3
  clear h
  go_enter Try.func17, Try.ntmps17
  go_wp2
  go_ret
  exact ⟨rfl, rfl⟩
set_option maxHeartbeats 400000 in
theorem begun_nil (w : World) :
    Calls Try.prog 17 #[.pointer none] w fun e w' => e = .returned (.bool false) ∧ w = w' := by
  go_enter Try.func17, Try.ntmps17
  go_wp2
  go_ret
  exact ⟨rfl, rfl⟩
set_option maxHeartbeats 400000 in
theorem depth_any {w : World} {mb : Nat} {D sn pl sp tn lf : Int} {rs : ByteArray} {dp : Int} {E : List Value} (h : Mac w mb D sn pl sp tn lf rs dp E) :
    Calls Try.prog 19 #[mptr mb] w fun e w' => e = .returned (.int .i64 dp) ∧ w = w' := by
  have c7 := h.c7
  clear h
  go_enter Try.func19, Try.ntmps19
  go_wp2
  go_ret
  exact ⟨rfl, rfl⟩
set_option maxHeartbeats 400000 in
theorem depth_nil (w : World) :
    Calls Try.prog 19 #[.pointer none] w fun e w' => e = .returned (.int .i64 0) ∧ w = w' := by
  go_enter Try.func19, Try.ntmps19
  go_wp2
  go_ret
  exact ⟨rfl, rfl⟩
set_option maxHeartbeats 400000 in
theorem seen_any {w : World} {mb : Nat} {D sn pl sp tn lf : Int} {rs : ByteArray} {dp : Int} {E : List Value} (h : Mac w mb D sn pl sp tn lf rs dp E) :
    Calls Try.prog 16 #[mptr mb] w fun e w' => e = .returned (.int .i64 sn) ∧ w = w' := by
  have c1 := h.c1
  clear h
  go_enter Try.func16, Try.ntmps16
  go_wp2
  go_ret
  exact ⟨rfl, rfl⟩
set_option maxHeartbeats 400000 in
theorem seen_nil (w : World) :
    Calls Try.prog 16 #[.pointer none] w fun e w' => e = .returned (.int .i64 0) ∧ w = w' := by
  go_enter Try.func16, Try.ntmps16
  go_wp2
  go_ret
  exact ⟨rfl, rfl⟩
set_option maxHeartbeats 400000 in
theorem feed_nil (s : ByteArray) (w : World) :
    Calls Try.prog 13 #[.pointer none, .string s] w fun e w' => e = .returned (.int .i64 0) ∧ w = w' := by
  go_enter Try.func13, Try.ntmps13
  go_wp2
  go_ret
  exact ⟨rfl, rfl⟩
end Go.Proofs.Ytdebionbjefhlaa
