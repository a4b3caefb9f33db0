/-
  What the document's own value of layer 27 answers, as bytes that are left (SaidE, dscE), where its list answers so. Condition: the text is no longer than a length can be.
  What the document's own list of layer 27 answers of values without names, as bytes that are left (SaidE, dscE), where its value answers so. Condition: the text is no longer than a length can be.
  What the document's own list of layer 27 answers of values with names, as bytes that are left (SaidE, dscE), where its value answers so. Condition: the text is no longer than a length can be.
-/
import Derived.Test.YtbojbkpplejdmaaGreatZ19
namespace Go.Proofs.YtbojbkpplejdmaaGreat
open Go.RowKit

def ValH (s : ByteArray) (f : Nat) : Prop := ∀ (k d : Nat) (W : World), k ≤ s.size → d ≤ 200 → 2 * (s.size - k) + 1 ≤ f →
  Calls Tryz.prog 25 #[.string s, .int .i64 (k : Nat), .int .i64 (d : Nat)] W fun e w' => (∃ v, e = .returned v ∧ SaidE s (dscE f none d (LL s k)) v) ∧ Below W.heap.size W w'
def LisH (s : ByteArray) (f : Nat) : Prop := ∀ (k d : Nat) (named : Bool) (W : World), k ≤ s.size → d ≤ 200 → 2 * (s.size - k) + 2 ≤ f →
  Calls Tryz.prog 44 #[.string s, .int .i64 (k : Nat), .int .i64 (d : Nat), .bool named] W fun e w' => (∃ v, e = .returned v ∧ SaidE s (dscE f (some (named, true)) d (LL s k)) v) ∧ Below W.heap.size W w'

/-- The answer's block as it was made, all else as it was. -/
structure OwnW (w wx : World) : Prop where
  own : Blk wx w.heap.size 57 #[.int .i64 0, .int .i64 0]
  below : Below w.heap.size w wx
theorem OwnW.facts {w wx : World} (h : OwnW w wx) : wx.cell? ⟨w.heap.size, 0, none⟩ = some (.int .i64 0) ∧ wx.cell? ⟨w.heap.size, 1, none⟩ = some (.int .i64 0) ∧ wx.frozen? ⟨w.heap.size, 0, none⟩ = false ∧ wx.frozen? ⟨w.heap.size, 1, none⟩ = false ∧ w.heap.size < wx.heap.size :=
  ⟨h.own.cell 0, h.own.cell 1, h.own.frozen 0, h.own.frozen 1, h.own.lt⟩
theorem OwnW.on {w wx wy : World} (h : OwnW w wx) (hb : Below wx.heap.size wx wy) : OwnW w wy := ⟨h.own.below hb h.own.lt, h.below.trans (hb.mono h.below.size)⟩
theorem OwnW.alloc {w wx : World} (h : OwnW w wx) (o : Obj) : OwnW w (wx.alloc o) := ⟨h.own.alloc o, h.below.alloc h.below.size o⟩
theorem OwnW.new (w : World) : OwnW w (w.alloc (.cells #[.int .i64 0, .int .i64 0] 57)) := ⟨Blk.new _ _ _, (Below.refl _ _).alloc (Nat.le_refl _) _⟩
/-- The answer, written. -/
structure EndW (w : World) (a st : Int) (wx : World) : Prop where
  own : Blk wx w.heap.size 57 #[.int .i64 a, .int .i64 st]
  below : Below w.heap.size w wx
theorem OwnW.fin {w wx : World} (h : OwnW w wx) (a st : Int) : EndW w a st ((wx.setCell ⟨w.heap.size, 0, none⟩ (.int .i64 a)).setCell ⟨w.heap.size, 1, none⟩ (.int .i64 st)) := ⟨h.own.two a st, below_two h.below _ _⟩
theorem EndW.alloc {w wx : World} {a st : Int} (h : EndW w a st wx) (o : Obj) : EndW w a st (wx.alloc o) := ⟨h.own.alloc o, h.below.alloc h.below.size o⟩
theorem EndW.new (w : World) (a st : Int) : EndW w a st (w.alloc (.cells #[.int .i64 a, .int .i64 st] 57)) := ⟨Blk.new _ _ _, (Below.refl _ _).alloc (Nat.le_refl _) _⟩
theorem EndW.facts {w wx : World} {a st : Int} (h : EndW w a st wx) : wx.cell? ⟨w.heap.size, 0, none⟩ = some (.int .i64 a) ∧ wx.cell? ⟨w.heap.size, 1, none⟩ = some (.int .i64 st) := ⟨h.own.cell 0, h.own.cell 1⟩

theorem fst_rest {list : Bool → List UInt8 → Ej} {d : Nat} {b : UInt8} {r : List UInt8} (h1 : ((b.toNat : Int) == 91) = false) (h2 : ((b.toNat : Int) == 123) = false) (h3 : ((b.toNat : Int) == 34) = false) :
    fstE list d b r = if (b.toNat : Int) == 45 then numE 0 r else if digB b then numE 0 (b :: r) else if (b.toNat : Int) == 116 then worE [116, 114, 117, 101] (b :: r) else if (b.toNat : Int) == 102 then worE [102, 97, 108, 115, 101] (b :: r) else if (b.toNat : Int) == 110 then worE [110, 117, 108, 108] (b :: r) else .bd (b :: r) := by
  rw [show ((b.toNat : Int) == 91) = (b == 91) from (i_byte b 91).symm] at h1
  rw [show ((b.toNat : Int) == 123) = (b == 123) from (i_byte b 123).symm] at h2
  rw [show ((b.toNat : Int) == 34) = (b == 34) from (i_byte b 34).symm] at h3
  rw [show ((b.toNat : Int) == 45) = (b == 45) from (i_byte b 45).symm, show ((b.toNat : Int) == 116) = (b == 116) from (i_byte b 116).symm, show ((b.toNat : Int) == 102) = (b == 102) from (i_byte b 102).symm, show ((b.toNat : Int) == 110) = (b == 110) from (i_byte b 110).symm]
  unfold fstE
  rw [h1, h2, h3]
  simp only [Bool.false_eq_true, if_false]
  cases h4 : (b == 45)
  · cases h5 : digB b
    · cases h6 : (b == 116)
      · cases h7 : (b == 102)
        · cases h8 : (b == 110)
          · rfl
          · rw [show b = 110 from eq_of_beq h8]
            rfl
        · rw [show b = 102 from eq_of_beq h7]
          rfl
      · rw [show b = 116 from eq_of_beq h6]
        rfl
    · rfl
  · rfl
theorem fst_text {list : Bool → List UInt8 → Ej} {d : Nat} {b : UInt8} {r : List UInt8} (h : ((b.toNat : Int) == 34) = true) : fstE list d b r = quoE 0 r := by
  rw [show ((b.toNat : Int) == 34) = (b == 34) from (i_byte b 34).symm] at h
  rw [show b = 34 from eq_of_beq h]
  rfl
theorem fst_arr {list : Bool → List UInt8 → Ej} {d : Nat} {b : UInt8} {r : List UInt8} (h : ((b.toNat : Int) == 91) = true) : fstE list d b r = if d == 0 then .dp (b :: r) else list false r := by
  rw [show ((b.toNat : Int) == 91) = (b == 91) from (i_byte b 91).symm] at h
  rw [show b = 91 from eq_of_beq h]
  rfl
theorem fst_obj {list : Bool → List UInt8 → Ej} {d : Nat} {b : UInt8} {r : List UInt8} (h : ((b.toNat : Int) == 123) = true) : fstE list d b r = if d == 0 then .dp (b :: r) else list true r := by
  rw [show ((b.toNat : Int) == 123) = (b == 123) from (i_byte b 123).symm] at h
  rw [show b = 123 from eq_of_beq h]
  rfl

/-- Where what parts is gone by. -/
def skP (s : ByteArray) (k : Nat) : Nat := s.size - ((LL s k).dropWhile whiB).length
theorem skP_is {s : ByteArray} {k : Nat} (hk : k ≤ s.size) : LL s (skP s k) = (LL s k).dropWhile whiB ∧ k ≤ skP s k ∧ skP s k ≤ s.size := by
  have h1 := drop_len (LL s k)
  rw [ll_len] at h1
  have h2 : (LL s k).dropWhile whiB = (LL s k).drop ((LL s k).length - ((LL s k).dropWhile whiB).length) := List.suffix_iff_eq_drop.1 (List.dropWhile_suffix _)
  rw [ll_len] at h2
  unfold skP
  refine ⟨?_, by omega, by omega⟩
  rw [h2]
  generalize ((LL s k).dropWhile whiB).length = n at *
  unfold LL
  rw [List.drop_drop, List.length_drop]
  congr 1
  have : s.data.toList.length = s.size := by simp
  omega
theorem skip27_at (s : ByteArray) (k : Nat) (w : World) (hk : k ≤ s.size) (hs : s.size ≤ 4611686018427387904) :
    Calls Tryz.prog 26 #[.string s, .int .i64 (k : Nat)] w fun e w' => e = .returned (.int .i64 (skP s k : Nat)) ∧ w = w' := by
  refine (skip27_any s k w hk hs).mono ?_
  rintro e w' ⟨⟨j, h1, h2, h3, rfl⟩, rfl⟩
  have h := congrArg List.length h3
  rw [ll_len] at h
  have e : j = skP s k := by unfold skP; omega
  rw [e]
  exact ⟨rfl, rfl⟩

set_option maxHeartbeats 4000000 in
set_option maxRecDepth 10000 in
theorem value_step {s : ByteArray} {f : Nat} (hs : s.size ≤ 4611686018427387904) (hl : LisH s f) : ValH s (f + 1) := by
  intro k d w hk hd hf
  have hz := Tryz.zeroSaid
  obtain ⟨q, hq⟩ : ∃ q, q = dscE (f + 1) none d (LL s k) := ⟨_, rfl⟩
  rw [← hq]
  have HK := Lib.hid (fun W => skip27_at s k W hk hs)
  obtain ⟨hJ, hkj, hj⟩ := skP_is hk
  obtain ⟨j, hjk⟩ : ∃ j, j = skP s k := ⟨_, rfl⟩
  rw [← hjk] at HK hJ hkj hj
  have HO := Lib.hid (OwnW.new w)
  by_cases hjs : j < s.size
  · have HC := Lib.hid (ll_cons hjs)
    have HQ := Lib.hid (hq.trans (dsc_val (f := f) (depth := d) (hJ.symm.trans HC.out)))
    have t0 : (((j : Nat) : Int) == ((s.size : Nat) : Int)) = false := by rw [beq_eq_false_iff_ne]; omega
    obtain ⟨m, hm⟩ : ∃ m, m = j + 1 := ⟨_, rfl⟩
    have g1 : ((j : Nat) : Int) + 1 = (m : Int) := by omega
    rw [← hm] at HQ HC
    have hms : m ≤ s.size := by omega
    have HLI := Lib.hid (fun named W (h : d ≠ 0) => hl m (d - 1) named W hms (by omega) (by omega))
    have HDG := Lib.hid (fun W => refDigit_any s[j] W)
    have HM := Lib.hid hm
    clear hq hJ hl hf hm hjk
    cases c91 : ((s[j].toNat : Int) == 91)
    · cases c123 : ((s[j].toNat : Int) == 123)
      · cases c34 : ((s[j].toNat : Int) == 34)
        · have HR := Lib.hid (HQ.out.trans (fst_rest c91 c123 c34))
          cases c45 : ((s[j].toNat : Int) == 45)
          · cases cd : digB s[j]
            · rw [cd] at HDG
              cases c116 : ((s[j].toNat : Int) == 116)
              · cases c102 : ((s[j].toNat : Int) == 102)
                · cases c110 : ((s[j].toNat : Int) == 110)
                  · have HZ : Hid (q = .bd (LL s j)) := Lib.hid (by rw [HR.out, c45, cd, c116, c102, c110, ← HC.out]; rfl)
                    clear cd
                    go_enter Tryz.func25, Tryz.ntmps25
                    go_wp2_with (first | (go_at_call 26; (with_reducible refine (HK.out _).mono ?_); rintro e w1 ⟨rfl, rfl⟩) | (go_at_call 46; (with_reducible refine (HDG.out _).mono ?_); rintro e w1 ⟨rfl, rfl⟩))
                    obtain ⟨d0, d1⟩ := (EndW.new w ((j : Nat)) 0).facts
                    exact bodyPost_ret (v := sdV ((j : Nat)) 0) (by simp only [results, Tryz.results25]; simp [go_sem, d0, d1]) rfl ⟨⟨_, rfl, by rw [HZ.out]; exact ⟨j, hj, rfl, rfl⟩⟩, (EndW.new w ((j : Nat)) 0).below⟩
                  · have HZ : Hid (q = worE [110, 117, 108, 108] (LL s j)) := Lib.hid (by rw [HR.out, c45, cd, c116, c102, c110, ← HC.out]; rfl)
                    have HV := Lib.hid (fun W => said_any27 (word27_any s ⟨#[110, 117, 108, 108]⟩ j W hj hs (by decide)))
                    clear cd
                    go_enter Tryz.func25, Tryz.ntmps25
                    go_wp2_with (first | (go_at_call 26; (with_reducible refine (HK.out _).mono ?_); rintro e w1 ⟨rfl, rfl⟩) | (go_at_call 46; (with_reducible refine (HDG.out _).mono ?_); rintro e w1 ⟨rfl, rfl⟩) | (go_at_call 48; (with_reducible refine (HV.out _).mono ?_); rintro e w2 ⟨a, st, rfl, HS, hb⟩; have HT := Lib.hid (HO.out.on hb); obtain ⟨e0, e1, y0, y1, hl⟩ := HT.out.facts; clear hb))
                    obtain ⟨d0, d1⟩ := (HT.out.fin a st).facts
                    exact bodyPost_ret (v := sdV a st) (by simp only [results, Tryz.results25]; simp [go_sem, d0, d1]) rfl ⟨⟨_, rfl, by rw [HZ.out]; exact HS.out⟩, (HT.out.fin a st).below⟩
                · have HZ : Hid (q = worE [102, 97, 108, 115, 101] (LL s j)) := Lib.hid (by rw [HR.out, c45, cd, c116, c102, ← HC.out]; rfl)
                  have HV := Lib.hid (fun W => said_any27 (word27_any s ⟨#[102, 97, 108, 115, 101]⟩ j W hj hs (by decide)))
                  clear cd
                  go_enter Tryz.func25, Tryz.ntmps25
                  go_wp2_with (first | (go_at_call 26; (with_reducible refine (HK.out _).mono ?_); rintro e w1 ⟨rfl, rfl⟩) | (go_at_call 46; (with_reducible refine (HDG.out _).mono ?_); rintro e w1 ⟨rfl, rfl⟩) | (go_at_call 48; (with_reducible refine (HV.out _).mono ?_); rintro e w2 ⟨a, st, rfl, HS, hb⟩; have HT := Lib.hid (HO.out.on hb); obtain ⟨e0, e1, y0, y1, hl⟩ := HT.out.facts; clear hb))
                  obtain ⟨d0, d1⟩ := (HT.out.fin a st).facts
                  exact bodyPost_ret (v := sdV a st) (by simp only [results, Tryz.results25]; simp [go_sem, d0, d1]) rfl ⟨⟨_, rfl, by rw [HZ.out]; exact HS.out⟩, (HT.out.fin a st).below⟩
              · have HZ : Hid (q = worE [116, 114, 117, 101] (LL s j)) := Lib.hid (by rw [HR.out, c45, cd, c116, ← HC.out]; rfl)
                have HV := Lib.hid (fun W => said_any27 (word27_any s ⟨#[116, 114, 117, 101]⟩ j W hj hs (by decide)))
                clear cd
                go_enter Tryz.func25, Tryz.ntmps25
                go_wp2_with (first | (go_at_call 26; (with_reducible refine (HK.out _).mono ?_); rintro e w1 ⟨rfl, rfl⟩) | (go_at_call 46; (with_reducible refine (HDG.out _).mono ?_); rintro e w1 ⟨rfl, rfl⟩) | (go_at_call 48; (with_reducible refine (HV.out _).mono ?_); rintro e w2 ⟨a, st, rfl, HS, hb⟩; have HT := Lib.hid (HO.out.on hb); obtain ⟨e0, e1, y0, y1, hl⟩ := HT.out.facts; clear hb))
                obtain ⟨d0, d1⟩ := (HT.out.fin a st).facts
                exact bodyPost_ret (v := sdV a st) (by simp only [results, Tryz.results25]; simp [go_sem, d0, d1]) rfl ⟨⟨_, rfl, by rw [HZ.out]; exact HS.out⟩, (HT.out.fin a st).below⟩
            · rw [cd] at HDG
              have HZ : Hid (q = numE 0 (LL s j)) := Lib.hid (by rw [HR.out, c45, cd, ← HC.out]; rfl)
              have HV := Lib.hid (fun W => said_any27 (by have h := number27_any s j W hjs hs; rw [c45, if_neg (by decide)] at h; exact h))
              clear cd
              go_enter Tryz.func25, Tryz.ntmps25
              go_wp2_with (first | (go_at_call 26; (with_reducible refine (HK.out _).mono ?_); rintro e w1 ⟨rfl, rfl⟩) | (go_at_call 46; (with_reducible refine (HDG.out _).mono ?_); rintro e w1 ⟨rfl, rfl⟩) | (go_at_call 47; (with_reducible refine (HV.out _).mono ?_); rintro e w2 ⟨a, st, rfl, HS, hb⟩; have HT := Lib.hid (HO.out.on hb); obtain ⟨e0, e1, y0, y1, hl⟩ := HT.out.facts; clear hb))
              obtain ⟨d0, d1⟩ := (HT.out.fin a st).facts
              exact bodyPost_ret (v := sdV a st) (by simp only [results, Tryz.results25]; simp [go_sem, d0, d1]) rfl ⟨⟨_, rfl, by rw [HZ.out]; exact HS.out⟩, (HT.out.fin a st).below⟩
          · have HZ : Hid (q = numE 0 (LL s m)) := Lib.hid (by rw [HR.out, c45]; rfl)
            have HV := Lib.hid (fun W => said_any27 (by have h := number27_any s j W hjs hs; rw [c45, if_pos rfl, ← HM.out] at h; exact h))
            go_enter Tryz.func25, Tryz.ntmps25
            go_wp2_with (first | (go_at_call 26; (with_reducible refine (HK.out _).mono ?_); rintro e w1 ⟨rfl, rfl⟩) | (go_at_call 46; (with_reducible refine (HDG.out _).mono ?_); rintro e w1 ⟨rfl, rfl⟩) | (go_at_call 47; (with_reducible refine (HV.out _).mono ?_); rintro e w2 ⟨a, st, rfl, HS, hb⟩; have HT := Lib.hid (HO.out.on hb); obtain ⟨e0, e1, y0, y1, hl⟩ := HT.out.facts; clear hb))
            obtain ⟨d0, d1⟩ := (HT.out.fin a st).facts
            exact bodyPost_ret (v := sdV a st) (by simp only [results, Tryz.results25]; simp [go_sem, d0, d1]) rfl ⟨⟨_, rfl, by rw [HZ.out]; exact HS.out⟩, (HT.out.fin a st).below⟩
        · have HZ : Hid (q = quoE 0 (LL s m)) := Lib.hid (by rw [HQ.out, fst_text c34])
          have HV := Lib.hid (fun W => said_any27 (quote27_any s m W hms hs))
          go_enter Tryz.func25, Tryz.ntmps25
          go_wp2_with (first | (go_at_call 26; (with_reducible refine (HK.out _).mono ?_); rintro e w1 ⟨rfl, rfl⟩) | (go_at_call 46; (with_reducible refine (HDG.out _).mono ?_); rintro e w1 ⟨rfl, rfl⟩) | (go_at_call 45; (with_reducible refine (HV.out _).mono ?_); rintro e w2 ⟨a, st, rfl, HS, hb⟩; have HT := Lib.hid (HO.out.on hb); obtain ⟨e0, e1, y0, y1, hl⟩ := HT.out.facts; clear hb))
          obtain ⟨d0, d1⟩ := (HT.out.fin a st).facts
          exact bodyPost_ret (v := sdV a st) (by simp only [results, Tryz.results25]; simp [go_sem, d0, d1]) rfl ⟨⟨_, rfl, by rw [HZ.out]; exact HS.out⟩, (HT.out.fin a st).below⟩
      · by_cases h0 : d = 0
        · subst h0
          have HZ : Hid (q = .dp (LL s j)) := Lib.hid (by rw [HQ.out, fst_obj c123, ← HC.out]; rfl)
          go_enter Tryz.func25, Tryz.ntmps25
          go_wp2_with (first | (go_at_call 26; (with_reducible refine (HK.out _).mono ?_); rintro e w1 ⟨rfl, rfl⟩) | (go_at_call 46; (with_reducible refine (HDG.out _).mono ?_); rintro e w1 ⟨rfl, rfl⟩))
          obtain ⟨d0, d1⟩ := (EndW.new w ((j : Nat)) 3).facts
          exact bodyPost_ret (v := sdV ((j : Nat)) 3) (by simp only [results, Tryz.results25]; simp [go_sem, d0, d1]) rfl ⟨⟨_, rfl, by rw [HZ.out]; exact ⟨j, hj, rfl, rfl⟩⟩, (EndW.new w ((j : Nat)) 3).below⟩
        · have HZ : Hid (q = dscE f (some (true, true)) (d - 1) (LL s m)) := Lib.hid (by rw [HQ.out, fst_obj c123, if_neg (by simpa using h0)])
          have HV := Lib.hid (fun W => said_any27 (HLI.out true W h0))
          have t1 : (((d : Nat) : Int) == 0) = false := by rw [beq_eq_false_iff_ne]; omega
          obtain ⟨d9, hd9⟩ : ∃ d9, d9 = d - 1 := ⟨_, rfl⟩
          have g2 : ((d : Nat) : Int) - 1 = (d9 : Int) := by omega
          rw [← hd9] at HZ HV
          clear hd9 h0
          go_enter Tryz.func25, Tryz.ntmps25
          go_wp2_with (first | (go_at_call 26; (with_reducible refine (HK.out _).mono ?_); rintro e w1 ⟨rfl, rfl⟩) | (go_at_call 46; (with_reducible refine (HDG.out _).mono ?_); rintro e w1 ⟨rfl, rfl⟩) | (go_at_call 44; (with_reducible refine (HV.out _).mono ?_); rintro e w2 ⟨a, st, rfl, HS, hb⟩; have HT := Lib.hid (HO.out.on hb); obtain ⟨e0, e1, y0, y1, hl⟩ := HT.out.facts; clear hb))
          obtain ⟨d0, d1⟩ := (HT.out.fin a st).facts
          exact bodyPost_ret (v := sdV a st) (by simp only [results, Tryz.results25]; simp [go_sem, d0, d1]) rfl ⟨⟨_, rfl, by rw [HZ.out]; exact HS.out⟩, (HT.out.fin a st).below⟩
    · by_cases h0 : d = 0
      · subst h0
        have HZ : Hid (q = .dp (LL s j)) := Lib.hid (by rw [HQ.out, fst_arr c91, ← HC.out]; rfl)
        go_enter Tryz.func25, Tryz.ntmps25
        go_wp2_with (first | (go_at_call 26; (with_reducible refine (HK.out _).mono ?_); rintro e w1 ⟨rfl, rfl⟩) | (go_at_call 46; (with_reducible refine (HDG.out _).mono ?_); rintro e w1 ⟨rfl, rfl⟩))
        obtain ⟨d0, d1⟩ := (EndW.new w ((j : Nat)) 3).facts
        exact bodyPost_ret (v := sdV ((j : Nat)) 3) (by simp only [results, Tryz.results25]; simp [go_sem, d0, d1]) rfl ⟨⟨_, rfl, by rw [HZ.out]; exact ⟨j, hj, rfl, rfl⟩⟩, (EndW.new w ((j : Nat)) 3).below⟩
      · have HZ : Hid (q = dscE f (some (false, true)) (d - 1) (LL s m)) := Lib.hid (by rw [HQ.out, fst_arr c91, if_neg (by simpa using h0)])
        have HV := Lib.hid (fun W => said_any27 (HLI.out false W h0))
        have c123 : ((s[j].toNat : Int) == 123) = false := by
          rw [beq_iff_eq] at c91
          rw [beq_eq_false_iff_ne]
          omega
        have t1 : (((d : Nat) : Int) == 0) = false := by rw [beq_eq_false_iff_ne]; omega
        obtain ⟨d9, hd9⟩ : ∃ d9, d9 = d - 1 := ⟨_, rfl⟩
        have g2 : ((d : Nat) : Int) - 1 = (d9 : Int) := by omega
        rw [← hd9] at HZ HV
        clear hd9 h0
        go_enter Tryz.func25, Tryz.ntmps25
        go_wp2_with (first | (go_at_call 26; (with_reducible refine (HK.out _).mono ?_); rintro e w1 ⟨rfl, rfl⟩) | (go_at_call 46; (with_reducible refine (HDG.out _).mono ?_); rintro e w1 ⟨rfl, rfl⟩) | (go_at_call 44; (with_reducible refine (HV.out _).mono ?_); rintro e w2 ⟨a, st, rfl, HS, hb⟩; have HT := Lib.hid (HO.out.on hb); obtain ⟨e0, e1, y0, y1, hl⟩ := HT.out.facts; clear hb))
        obtain ⟨d0, d1⟩ := (HT.out.fin a st).facts
        exact bodyPost_ret (v := sdV a st) (by simp only [results, Tryz.results25]; simp [go_sem, d0, d1]) rfl ⟨⟨_, rfl, by rw [HZ.out]; exact HS.out⟩, (HT.out.fin a st).below⟩
  · obtain rfl : j = s.size := by omega
    have HZ : Hid (q = .op) := Lib.hid (hq.trans (dsc_nil (hJ.symm.trans (ll_nil (Nat.le_refl _)))))
    clear hq hJ hl hf hjk
    go_enter Tryz.func25, Tryz.ntmps25
    go_wp2_with (first | (go_at_call 26; (with_reducible refine (HK.out _).mono ?_); rintro e w1 ⟨rfl, rfl⟩) | (go_at_call 46; (with_reducible refine (HDG.out _).mono ?_); rintro e w1 ⟨rfl, rfl⟩))
    obtain ⟨d0, d1⟩ := (EndW.new w ((s.size : Nat)) 1).facts
    exact bodyPost_ret (v := sdV ((s.size : Nat)) 1) (by simp only [results, Tryz.results25]; simp [go_sem, d0, d1]) rfl ⟨⟨_, rfl, by rw [HZ.out]; exact ⟨_, rfl⟩⟩, (EndW.new w ((s.size : Nat)) 1).below⟩
end Go.Proofs.YtbojbkpplejdmaaGreat
namespace Go.Proofs.YtbojbkpplejdmaaGreat
open Go.RowKit

theorem tal_stop {named : Bool} {k : List UInt8 → Ej} {x : Ej} (h : ∀ r, x ≠ .wl r) : talE named k x = x := by
  cases x with
  | op => rfl
  | bd _ => rfl
  | dp _ => rfl
  | wl r => exact absurd rfl (h r)

set_option maxHeartbeats 16000000 in
set_option maxRecDepth 10000 in
theorem list_plain {s : ByteArray} {f : Nat} (hs : s.size ≤ 4611686018427387904) (hv : ∀ g, g < f → ValH s g) (k d : Nat) (w : World) (hk : k ≤ s.size) (hd : d ≤ 200) (hf : 2 * (s.size - k) + 2 ≤ f) :
    Calls Tryz.prog 44 #[.string s, .int .i64 (k : Nat), .int .i64 (d : Nat), .bool false] w fun e w' => (∃ v, e = .returned v ∧ SaidE s (dscE f (some (false, true)) d (LL s k)) v) ∧ Below w.heap.size w w' := by
  have hz := Tryz.zeroSaid
  obtain ⟨q, hq⟩ : ∃ q, q = dscE f (some (false, true)) d (LL s k) := ⟨_, rfl⟩
  rw [← hq]
  have HQ := Lib.hid hq
  have HO0 := Lib.hid (OwnW.new w)
  clear hq
  go_enter Tryz.func44, Tryz.ntmps44
  go_wp2
  go_loopw [1, 10] (fun a n wr => ∃ j i g : Nat, j ≤ s.size ∧ i ≤ j ∧ a = .int .i64 j ∧ n = .int .i64 i ∧ g ≤ f ∧ 2 * (s.size - j) + 2 ≤ g ∧ Hid (q = dscE g (some (false, (i == 0))) d (LL s j)) ∧ Hid (OwnW w wr)) (fun a _ _ => s.size - (intOf a).toNat)
  case atStart => exact ⟨k, 0, f, hk, Nat.zero_le _, rfl, rfl, Nat.le_refl _, hf, HQ, HO0⟩
  case round =>
    obtain ⟨j, i, g0, hj, hij, rfl, rfl, hg0, hgj, HJ, HO⟩ := hrel
    obtain ⟨x0, x1, z0, z1, hlw⟩ := HO.out.facts
    obtain ⟨g, rfl⟩ : ∃ g, g0 = g + 1 := ⟨g0 - 1, by omega⟩
    have HG := Lib.hid (show g + 1 ≤ f ∧ 2 * (s.size - j) + 2 ≤ g + 1 from ⟨hg0, hgj⟩)
    obtain ⟨hJ1, hj1, lj1⟩ := skP_is hj
    have HK1 := Lib.hid (fun W => skip27_at s j W hj hs)
    obtain ⟨j1, hj1k⟩ : ∃ j1, j1 = skP s j := ⟨_, rfl⟩
    rw [← hj1k] at HK1 hJ1 hj1 lj1
    clear hj1k
    by_cases h1 : j1 < s.size
    · have HC0 := Lib.hid (ll_cons h1)
      have t1 : (((j1 : Nat) : Int) == ((s.size : Nat) : Int)) = false := by rw [beq_eq_false_iff_ne]; omega
      obtain ⟨m1, hm1⟩ : ∃ m1, m1 = j1 + 1 := ⟨_, rfl⟩
      have gm1 : ((j1 : Nat) : Int) + 1 = (m1 : Int) := by omega
      have lm1 : m1 ≤ s.size := by omega
      rw [← hm1] at HC0
      have HQ1 := Lib.hid (HJ.out.trans (dsc_lis (f := g) (depth := d) (named := false) (first := (i == 0)) (hJ1.symm.trans HC0.out)))
      have HM1 := Lib.hid hm1
      have HV0 := Lib.hid (fun (k : Nat) (hk : k ≤ s.size) (hk2 : 2 * (s.size - k) + 1 ≤ g) W => hv g (by omega) k d W hk hd hk2)
      have HLJ := Lib.hid hJ1
      clear hJ1 hm1 hg0 hgj
      have hc : (i = 0 ∧ ((s[j1].toNat : Int) == 93) = true) ∨ ((i == 0 && s[j1] == (if false then (125 : UInt8) else 93)) = false ∧ (((((i : Nat) : Int) == 0) = true ∧ ((s[j1].toNat : Int) == 93) = false) ∨ (((i : Nat) : Int) == 0) = false)) := by
        by_cases h0 : i = 0
        · subst h0
          cases he : ((s[j1].toNat : Int) == 93)
          · exact Or.inr ⟨(i_byte s[j1] 93).trans he, Or.inl ⟨rfl, rfl⟩⟩
          · exact Or.inl ⟨rfl, rfl⟩
        · refine Or.inr ⟨?_, Or.inr ?_⟩
          · rw [show (i == 0) = false from by rw [beq_eq_false_iff_ne]; exact h0]
            rfl
          · rw [beq_eq_false_iff_ne]
            omega
      rcases hc with ⟨rfl, he⟩ | ⟨he, hrest⟩
      · have HZ : Hid (q = .wl (LL s m1)) := Lib.hid (by rw [HQ1.out, show ((0 : Nat) == 0 && s[j1] == (if false then (125 : UInt8) else 93)) = true from (i_byte s[j1] 93).trans he]; rfl)
        go_wp2_with (go_at_call 26; (with_reducible refine (HK1.out _).mono ?_); rintro e w1 ⟨rfl, rfl⟩)
        have hE := (HO.out.fin (m1 : Nat) (-1))
        obtain ⟨d0, d1⟩ := hE.facts
        exact bodyPost_ret (v := sdV (m1 : Nat) (-1)) (by simp only [results, Tryz.results44]; simp [go_sem, d0, d1]) rfl ⟨⟨_, rfl, by rw [HZ.out]; exact ⟨m1, lm1, rfl, rfl⟩⟩, hE.below⟩
      · have HQ2 : Hid (q = talE false (fun r => dscE g (some (false, false)) d r) (dscE g none d (LL s j1))) := Lib.hid (by rw [HQ1.out, he, ← HC0.out]; rfl)
        have HV := Lib.hid (fun W => HV0.out j1 lj1 (by have h := HG.out; omega) W)
        clear he
        rcases hrest with ⟨hi0, hne⟩ | hne
        all_goals
          by_cases hX : ∃ r, dscE g none d (LL s j1) = .wl r
          · obtain ⟨r, hr⟩ := hX
            obtain ⟨j2, hj2⟩ : ∃ j2, j2 = s.size - r.length := ⟨_, rfl⟩
            have HC2 := Lib.hid (fun W => said_go (s := s) (r := r) (by have h := HV.out W; rw [hr] at h; exact h) hj2)
            have lj2 : j2 ≤ s.size := by omega
            have HY := Lib.hid (HQ2.out.trans (congrArg (talE false (fun r => dscE g (some (false, false)) d r)) hr))
            have HLE := Lib.hid (show r.length ≤ s.size - j1 by have h := dsc_len g none d (LL s j1) (s.size - j1) r (by rw [ll_len]; exact Nat.le_refl _) hr; exact h)
            clear hr hj2
            by_cases hr2 : r = LL s j2
            · obtain ⟨hJ3, hj23, lj3⟩ := skP_is lj2
              have HK3 := Lib.hid (fun W => skip27_at s j2 W lj2 hs)
              obtain ⟨j3, hj3⟩ : ∃ j3, j3 = skP s j2 := ⟨_, rfl⟩
              rw [← hj3] at HK3 hJ3 hj23 lj3
              rw [← hr2] at hJ3
              have HJ2 := Lib.hid (show j1 ≤ j2 by have h := HLE.out; rw [hr2, ll_len] at h; omega)
              clear hj3 hr2
              by_cases h3 : j3 < s.size
              · have HC3 := Lib.hid (ll_cons h3)
                have t3 : (((j3 : Nat) : Int) == ((s.size : Nat) : Int)) = false := by rw [beq_eq_false_iff_ne]; omega
                obtain ⟨m3, hm3⟩ : ∃ m3, m3 = j3 + 1 := ⟨_, rfl⟩
                have gm3 : ((j3 : Nat) : Int) + 1 = (m3 : Int) := by omega
                have lm3 : m3 ≤ s.size := by omega
                rw [← hm3] at HC3
                have HY2 := Lib.hid (HY.out.trans (tal_cons (hJ3.symm.trans HC3.out)))
                have ce := (i_byte s[j3] 93)
                have ck := (i_byte s[j3] 44)
                rw [show (((93 : UInt8).toNat : Nat) : Int) = 93 from rfl] at ce
                rw [show (((44 : UInt8).toNat : Nat) : Int) = 44 from rfl] at ck
                have HM3 := Lib.hid hm3
                clear hm3 hJ3
                cases c1 : ((s[j3].toNat : Int) == 93)
                · cases c2 : ((s[j3].toNat : Int) == 44)
                  · have c3 : ((s[j3].toNat : Int) != 44) = true := by unfold bne; rw [c2]; rfl
                    have HZ : Hid (q = .bd (LL s j3)) := Lib.hid (by rw [HY2.out, show (s[j3] == (if false then (125 : UInt8) else 93)) = false from ce.trans c1, show (s[j3] == (44 : UInt8)) = false from ck.trans c2, ← HC3.out]; rfl)
                    clear ce ck
                    go_wp2_with (first | (go_at_call 26; (with_reducible refine (HK1.out _).mono ?_); rintro e w1 ⟨rfl, rfl⟩) | (go_at_call 25; (with_reducible refine (HC2.out _).mono ?_); rintro e w3 ⟨rfl, HRV, hb⟩; have HT := Lib.hid (HO.out.on hb); obtain ⟨e5, e6, y5, y6, hl2⟩ := HT.out.facts; clear hb) | (go_at_call 26; (with_reducible refine (HK3.out _).mono ?_); rintro e w1 ⟨rfl, rfl⟩))
                    have hE := (HT.out.fin (j3 : Nat) 0).alloc (.cells #[.int .i64 (j2 : Nat), .int .i64 (-1)] 57)
                    obtain ⟨d0, d1⟩ := hE.facts
                    exact bodyPost_ret (v := sdV (j3 : Nat) (0)) (by simp only [results, Tryz.results44]; simp [go_sem, d0, d1]) rfl ⟨⟨_, rfl, by rw [HZ.out]; exact ⟨j3, lj3, rfl, rfl⟩⟩, hE.below⟩
                  · have c3 : ((s[j3].toNat : Int) != 44) = false := by unfold bne; rw [c2]; rfl
                    have HZ : Hid (q = dscE g (some (false, (i + 1 == 0))) d (LL s m3)) := Lib.hid (by rw [HY2.out, show (s[j3] == (if false then (125 : UInt8) else 93)) = false from ce.trans c1, show (s[j3] == (44 : UInt8)) = true from ck.trans c2]; rfl)
                    clear ce ck
                    go_wp2_with (first | (go_at_call 26; (with_reducible refine (HK1.out _).mono ?_); rintro e w1 ⟨rfl, rfl⟩) | (go_at_call 25; (with_reducible refine (HC2.out _).mono ?_); rintro e w3 ⟨rfl, HRV, hb⟩; have HT := Lib.hid (HO.out.on hb); obtain ⟨e5, e6, y5, y6, hl2⟩ := HT.out.facts; clear hb) | (go_at_call 26; (with_reducible refine (HK3.out _).mono ?_); rintro e w1 ⟨rfl, rfl⟩))
                    go_roundw
                    case rel => exact ⟨m3, i + 1, g, lm3, by have h2 := HJ2.out; have h3 := HM3.out; omega, by go_num, rfl, by have h2 := HJ2.out; have h3 := HM3.out; have h4 := HG.out; omega, by have h2 := HJ2.out; have h3 := HM3.out; have h4 := HG.out; omega, HZ, Lib.hid (HT.out.alloc _)⟩
                    case measure => have hm3o := HM3.out; have hj2o := HJ2.out; simp [intOf]; omega
                · have HZ : Hid (q = .wl (LL s m3)) := Lib.hid (by rw [HY2.out, show (s[j3] == (if false then (125 : UInt8) else 93)) = true from ce.trans c1]; rfl)
                  clear ce ck
                  go_wp2_with (first | (go_at_call 26; (with_reducible refine (HK1.out _).mono ?_); rintro e w1 ⟨rfl, rfl⟩) | (go_at_call 25; (with_reducible refine (HC2.out _).mono ?_); rintro e w3 ⟨rfl, HRV, hb⟩; have HT := Lib.hid (HO.out.on hb); obtain ⟨e5, e6, y5, y6, hl2⟩ := HT.out.facts; clear hb) | (go_at_call 26; (with_reducible refine (HK3.out _).mono ?_); rintro e w1 ⟨rfl, rfl⟩))
                  have hE := (HT.out.fin (m3 : Nat) (-1)).alloc (.cells #[.int .i64 (j2 : Nat), .int .i64 (-1)] 57)
                  obtain ⟨d0, d1⟩ := hE.facts
                  exact bodyPost_ret (v := sdV (m3 : Nat) (-1)) (by simp only [results, Tryz.results44]; simp [go_sem, d0, d1]) rfl ⟨⟨_, rfl, by rw [HZ.out]; exact ⟨m3, lm3, rfl, rfl⟩⟩, hE.below⟩
              · obtain rfl : j3 = s.size := by omega
                have HZ : Hid (q = .op) := Lib.hid (HY.out.trans (tal_nil (hJ3.symm.trans (ll_nil (Nat.le_refl _)))))
                clear hJ3
                go_wp2_with (first | (go_at_call 26; (with_reducible refine (HK1.out _).mono ?_); rintro e w1 ⟨rfl, rfl⟩) | (go_at_call 25; (with_reducible refine (HC2.out _).mono ?_); rintro e w3 ⟨rfl, HRV, hb⟩; have HT := Lib.hid (HO.out.on hb); obtain ⟨e5, e6, y5, y6, hl2⟩ := HT.out.facts; clear hb) | (go_at_call 26; (with_reducible refine (HK3.out _).mono ?_); rintro e w1 ⟨rfl, rfl⟩))
                have hE := (HT.out.fin (s.size : Nat) 1).alloc (.cells #[.int .i64 (j2 : Nat), .int .i64 (-1)] 57)
                obtain ⟨d0, d1⟩ := hE.facts
                exact bodyPost_ret (v := sdV (s.size : Nat) (1)) (by simp only [results, Tryz.results44]; simp [go_sem, d0, d1]) rfl ⟨⟨_, rfl, by rw [HZ.out]; exact ⟨_, rfl⟩⟩, hE.below⟩
            · go_wp2_with (first | (go_at_call 26; (with_reducible refine (HK1.out _).mono ?_); rintro e w1 ⟨rfl, rfl⟩) | (go_at_call 25; (with_reducible refine (HC2.out _).mono ?_); rintro e w3 ⟨rfl, HRV, hb⟩; exact absurd HRV.out hr2) | (go_at_call 26; (with_reducible refine (HK3.out _).mono ?_); rintro e w1 ⟨rfl, rfl⟩))
          · have HC2 := Lib.hid (fun W => said_stop (HV.out W) (fun r hr => hX ⟨r, hr⟩))
            have HN := Lib.hid (tal_stop (named := false) (k := fun r => dscE g (some (false, false)) d r) (fun r hr => hX ⟨r, hr⟩))
            clear hX
            go_wp2_with (first | (go_at_call 26; (with_reducible refine (HK1.out _).mono ?_); rintro e w1 ⟨rfl, rfl⟩) | (go_at_call 25; (with_reducible refine (HC2.out _).mono ?_); rintro e w3 ⟨a, st, rfl, HST, HS, hb⟩; have hst := HST.out; have HT := Lib.hid (HO.out.on hb); obtain ⟨e5, e6, y5, y6, hl2⟩ := HT.out.facts; clear hb) | (go_at_call 26; (with_reducible refine (HK3.out _).mono ?_); rintro e w1 ⟨rfl, rfl⟩))
            have hE := (HT.out.fin a st).alloc (.cells #[.int .i64 (a), .int .i64 (st)] 57)
            obtain ⟨d0, d1⟩ := hE.facts
            exact bodyPost_ret (v := sdV (a) (st)) (by simp only [results, Tryz.results44]; simp [go_sem, d0, d1]) rfl ⟨⟨_, rfl, by rw [HQ2.out, HN.out]; exact HS.out⟩, hE.below⟩
    · obtain rfl : j1 = s.size := by omega
      have HZ : Hid (q = .op) := Lib.hid (HJ.out.trans (dsc_nil (hJ1.symm.trans (ll_nil (Nat.le_refl _)))))
      clear hJ1
      go_wp2_with (go_at_call 26; (with_reducible refine (HK1.out _).mono ?_); rintro e w1 ⟨rfl, rfl⟩)
      have hE := (HO.out.fin (s.size : Nat) 1)
      obtain ⟨d0, d1⟩ := hE.facts
      exact bodyPost_ret (v := sdV (s.size : Nat) (1)) (by simp only [results, Tryz.results44]; simp [go_sem, d0, d1]) rfl ⟨⟨_, rfl, by rw [HZ.out]; exact ⟨_, rfl⟩⟩, hE.below⟩
end Go.Proofs.YtbojbkpplejdmaaGreat
namespace Go.Proofs.YtbojbkpplejdmaaGreat
open Go.RowKit

theorem nam_stop {k : List UInt8 → Ej} {x : Ej} (h : ∀ r, x ≠ .wl r) : namE k x = x := by
  cases x with
  | op => rfl
  | bd _ => rfl
  | dp _ => rfl
  | wl r => exact absurd rfl (h r)

set_option maxHeartbeats 16000000 in
set_option maxRecDepth 10000 in
theorem list_named {s : ByteArray} {f : Nat} (hs : s.size ≤ 4611686018427387904) (hv : ∀ g, g < f → ValH s g) (k d : Nat) (w : World) (hk : k ≤ s.size) (hd : d ≤ 200) (hf : 2 * (s.size - k) + 2 ≤ f) :
    Calls Tryz.prog 44 #[.string s, .int .i64 (k : Nat), .int .i64 (d : Nat), .bool true] w fun e w' => (∃ v, e = .returned v ∧ SaidE s (dscE f (some (true, true)) d (LL s k)) v) ∧ Below w.heap.size w w' := by
  have hz := Tryz.zeroSaid
  obtain ⟨q, hq⟩ : ∃ q, q = dscE f (some (true, true)) d (LL s k) := ⟨_, rfl⟩
  rw [← hq]
  have HQ := Lib.hid hq
  have HO0 := Lib.hid (OwnW.new w)
  clear hq
  go_enter Tryz.func44, Tryz.ntmps44
  go_wp2
  go_loopw [1, 10] (fun a n wr => ∃ j i g : Nat, j ≤ s.size ∧ i ≤ j ∧ a = .int .i64 j ∧ n = .int .i64 i ∧ g ≤ f ∧ 2 * (s.size - j) + 2 ≤ g ∧ Hid (q = dscE g (some (true, (i == 0))) d (LL s j)) ∧ Hid (OwnW w wr)) (fun a _ _ => s.size - (intOf a).toNat)
  case atStart => exact ⟨k, 0, f, hk, Nat.zero_le _, rfl, rfl, Nat.le_refl _, hf, HQ, HO0⟩
  case round =>
    obtain ⟨j, i, g0, hj, hij, rfl, rfl, hg0, hgj, HJ, HO⟩ := hrel
    obtain ⟨x0, x1, z0, z1, hlw⟩ := HO.out.facts
    obtain ⟨g, rfl⟩ : ∃ g, g0 = g + 1 := ⟨g0 - 1, by omega⟩
    have HG := Lib.hid (show g + 1 ≤ f ∧ 2 * (s.size - j) + 2 ≤ g + 1 from ⟨hg0, hgj⟩)
    obtain ⟨hJ1, hj1, lj1⟩ := skP_is hj
    have HK1 := Lib.hid (fun W => skip27_at s j W hj hs)
    obtain ⟨j1, hj1k⟩ : ∃ j1, j1 = skP s j := ⟨_, rfl⟩
    rw [← hj1k] at HK1 hJ1 hj1 lj1
    clear hj1k
    by_cases h1 : j1 < s.size
    · have HC0 := Lib.hid (ll_cons h1)
      have t1 : (((j1 : Nat) : Int) == ((s.size : Nat) : Int)) = false := by rw [beq_eq_false_iff_ne]; omega
      obtain ⟨m1, hm1⟩ : ∃ m1, m1 = j1 + 1 := ⟨_, rfl⟩
      have gm1 : ((j1 : Nat) : Int) + 1 = (m1 : Int) := by omega
      have lm1 : m1 ≤ s.size := by omega
      rw [← hm1] at HC0
      have HQ1 := Lib.hid (HJ.out.trans (dsc_lis (f := g) (depth := d) (named := true) (first := (i == 0)) (hJ1.symm.trans HC0.out)))
      have HM1 := Lib.hid hm1
      have HV0 := Lib.hid (fun (k : Nat) (hk : k ≤ s.size) (hk2 : 2 * (s.size - k) + 1 ≤ g) W => hv g (by omega) k d W hk hd hk2)
      have HLJ := Lib.hid hJ1
      clear hJ1 hm1 hg0 hgj
      have hc : (i = 0 ∧ ((s[j1].toNat : Int) == 125) = true) ∨ ((i == 0 && s[j1] == (if true then (125 : UInt8) else 93)) = false ∧ (((((i : Nat) : Int) == 0) = true ∧ ((s[j1].toNat : Int) == 125) = false) ∨ (((i : Nat) : Int) == 0) = false)) := by
        by_cases h0 : i = 0
        · subst h0
          cases he : ((s[j1].toNat : Int) == 125)
          · exact Or.inr ⟨(i_byte s[j1] 125).trans he, Or.inl ⟨rfl, rfl⟩⟩
          · exact Or.inl ⟨rfl, rfl⟩
        · refine Or.inr ⟨?_, Or.inr ?_⟩
          · rw [show (i == 0) = false from by rw [beq_eq_false_iff_ne]; exact h0]
            rfl
          · rw [beq_eq_false_iff_ne]
            omega
      rcases hc with ⟨rfl, he⟩ | ⟨he, hrest⟩
      · have HZ : Hid (q = .wl (LL s m1)) := Lib.hid (by rw [HQ1.out, show ((0 : Nat) == 0 && s[j1] == (if true then (125 : UInt8) else 93)) = true from (i_byte s[j1] 125).trans he]; rfl)
        go_wp2_with (go_at_call 26; (with_reducible refine (HK1.out _).mono ?_); rintro e w1 ⟨rfl, rfl⟩)
        have hE := (HO.out.fin (m1 : Nat) (-1))
        obtain ⟨d0, d1⟩ := hE.facts
        exact bodyPost_ret (v := sdV (m1 : Nat) (-1)) (by simp only [results, Tryz.results44]; simp [go_sem, d0, d1]) rfl ⟨⟨_, rfl, by rw [HZ.out]; exact ⟨m1, lm1, rfl, rfl⟩⟩, hE.below⟩
      · have c34 := (i_byte s[j1] 34)
        rw [show (((34 : UInt8).toNat : Nat) : Int) = 34 from rfl] at c34
        cases cq : ((s[j1].toNat : Int) == 34)
        · have cn : ((s[j1].toNat : Int) != 34) = true := by unfold bne; rw [cq]; rfl
          have HZ : Hid (q = .bd (LL s j1)) := Lib.hid (by rw [HQ1.out, he, show (s[j1] == (34 : UInt8)) = false from c34.trans cq, ← HC0.out]; rfl)
          clear he c34
          rcases hrest with ⟨hi0, hne⟩ | hne
          all_goals
            go_wp2_with (go_at_call 26; (with_reducible refine (HK1.out _).mono ?_); rintro e w1 ⟨rfl, rfl⟩)
            have hE := (HO.out.fin (j1 : Nat) 0)
            obtain ⟨d0, d1⟩ := hE.facts
            exact bodyPost_ret (v := sdV (j1 : Nat) (0)) (by simp only [results, Tryz.results44]; simp [go_sem, d0, d1]) rfl ⟨⟨_, rfl, by rw [HZ.out]; exact ⟨j1, lj1, rfl, rfl⟩⟩, hE.below⟩
        · have cn : ((s[j1].toNat : Int) != 34) = false := by unfold bne; rw [cq]; rfl
          have HQA : Hid (q = talE true (fun r => dscE g (some (true, false)) d r) (namE (fun r => dscE g none d r) (quoE 0 (LL s m1)))) := Lib.hid (by rw [HQ1.out, he, show (s[j1] == (34 : UInt8)) = true from c34.trans cq]; rfl)
          have HQR := Lib.hid (fun W => quote27_any s m1 W lm1 hs)
          clear he c34
          rcases hrest with ⟨hi0, hne⟩ | hne
          all_goals
            by_cases hQ : ∃ r, quoE 0 (LL s m1) = .wl r
            · obtain ⟨r1, hr0⟩ := hQ
              obtain ⟨ja, hja⟩ : ∃ ja, ja = s.size - r1.length := ⟨_, rfl⟩
              have HC1 := Lib.hid (fun W => said_go (s := s) (r := r1) (by have h := HQR.out W; rw [hr0] at h; exact h) hja)
              have lja : ja ≤ s.size := by omega
              have HQB : Hid (q = talE true (fun r => dscE g (some (true, false)) d r) (namE (fun r => dscE g none d r) (.wl r1))) := Lib.hid (by rw [HQA.out, hr0])
              have HLQ := Lib.hid (show r1.length ≤ s.size - m1 by have h := quo_len (LL s m1) 0 hr0; rw [ll_len] at h; exact h)
              clear hr0 hja
              by_cases hr1 : r1 = LL s ja
              · obtain ⟨hJb, hjb, ljb⟩ := skP_is lja
                have HK2 := Lib.hid (fun W => skip27_at s ja W lja hs)
                obtain ⟨jb, hjbk⟩ : ∃ jb, jb = skP s ja := ⟨_, rfl⟩
                rw [← hjbk] at HK2 hJb hjb ljb
                rw [← hr1] at hJb
                have HJA := Lib.hid (show m1 ≤ ja by have h := HLQ.out; rw [hr1, ll_len] at h; omega)
                clear hjbk hr1
                by_cases hb : jb < s.size
                · have HCB := Lib.hid (ll_cons hb)
                  have tb : (((jb : Nat) : Int) == ((s.size : Nat) : Int)) = false := by rw [beq_eq_false_iff_ne]; omega
                  obtain ⟨mb, hmb⟩ : ∃ mb, mb = jb + 1 := ⟨_, rfl⟩
                  have gmb : ((jb : Nat) : Int) + 1 = (mb : Int) := by omega
                  have lmb : mb ≤ s.size := by omega
                  rw [← hmb] at HCB
                  have HQC := Lib.hid (HQB.out.trans (congrArg (talE true (fun r => dscE g (some (true, false)) d r)) (nam_cons (k := fun r => dscE g none d r) (hJb.symm.trans HCB.out))))
                  have c58 := (i_byte s[jb] 58)
                  rw [show (((58 : UInt8).toNat : Nat) : Int) = 58 from rfl] at c58
                  have HMB := Lib.hid hmb
                  clear hmb hJb
                  cases cc : ((s[jb].toNat : Int) == 58)
                  · have cm : ((s[jb].toNat : Int) != 58) = true := by unfold bne; rw [cc]; rfl
                    have HZ : Hid (q = .bd (LL s jb)) := Lib.hid (by rw [HQC.out, show (s[jb] == (58 : UInt8)) = false from c58.trans cc, ← HCB.out]; rfl)
                    clear c58
                    go_wp2_with (first | (go_at_call 26; (with_reducible refine (HK1.out _).mono ?_); rintro e w1 ⟨rfl, rfl⟩) | (go_at_call 45; (with_reducible refine (HC1.out _).mono ?_); rintro e w2 ⟨rfl, HRQ, hb⟩; have HT1 := Lib.hid (HO.out.on hb); obtain ⟨e0, e1, y0, y1, hl⟩ := HT1.out.facts; clear hb) | (go_at_call 26; (with_reducible refine (HK2.out _).mono ?_); rintro e w1 ⟨rfl, rfl⟩))
                    have hE := (HT1.out.fin (jb : Nat) 0).alloc (.cells #[.int .i64 (ja : Nat), .int .i64 (-1)] 57)
                    obtain ⟨d0, d1⟩ := hE.facts
                    exact bodyPost_ret (v := sdV (jb : Nat) (0)) (by simp only [results, Tryz.results44]; simp [go_sem, d0, d1]) rfl ⟨⟨_, rfl, by rw [HZ.out]; exact ⟨jb, ljb, rfl, rfl⟩⟩, hE.below⟩
                  · have cm : ((s[jb].toNat : Int) != 58) = false := by unfold bne; rw [cc]; rfl
                    have HQ2 : Hid (q = talE true (fun r => dscE g (some (true, false)) d r) (dscE g none d (LL s mb))) := Lib.hid (by rw [HQC.out, show (s[jb] == (58 : UInt8)) = true from c58.trans cc]; rfl)
                    clear c58
                    have HJM := Lib.hid (show j + 2 ≤ mb by have h1 := HM1.out; have h2 := HJA.out; have h3 := HMB.out; omega)
                    have HV := Lib.hid (fun W => HV0.out mb lmb (by have h := HG.out; have h2 := HJM.out; omega) W)
                    by_cases hX : ∃ r, dscE g none d (LL s mb) = .wl r
                    · obtain ⟨r, hr⟩ := hX
                      obtain ⟨j2, hj2⟩ : ∃ j2, j2 = s.size - r.length := ⟨_, rfl⟩
                      have HC2 := Lib.hid (fun W => said_go (s := s) (r := r) (by have h := HV.out W; rw [hr] at h; exact h) hj2)
                      have lj2 : j2 ≤ s.size := by omega
                      have HY := Lib.hid (HQ2.out.trans (congrArg (talE true (fun r => dscE g (some (true, false)) d r)) hr))
                      have HLE := Lib.hid (show r.length ≤ s.size - mb by have h := dsc_len g none d (LL s mb) (s.size - mb) r (by rw [ll_len]; exact Nat.le_refl _) hr; exact h)
                      clear hr hj2
                      by_cases hr2 : r = LL s j2
                      · obtain ⟨hJ3, hj23, lj3⟩ := skP_is lj2
                        have HK3 := Lib.hid (fun W => skip27_at s j2 W lj2 hs)
                        obtain ⟨j3, hj3⟩ : ∃ j3, j3 = skP s j2 := ⟨_, rfl⟩
                        rw [← hj3] at HK3 hJ3 hj23 lj3
                        rw [← hr2] at hJ3
                        have HJ2 := Lib.hid (show mb ≤ j2 by have h := HLE.out; rw [hr2, ll_len] at h; omega)
                        clear hj3 hr2
                        by_cases h3 : j3 < s.size
                        · have HC3 := Lib.hid (ll_cons h3)
                          have t3 : (((j3 : Nat) : Int) == ((s.size : Nat) : Int)) = false := by rw [beq_eq_false_iff_ne]; omega
                          obtain ⟨m3, hm3⟩ : ∃ m3, m3 = j3 + 1 := ⟨_, rfl⟩
                          have gm3 : ((j3 : Nat) : Int) + 1 = (m3 : Int) := by omega
                          have lm3 : m3 ≤ s.size := by omega
                          rw [← hm3] at HC3
                          have HY2 := Lib.hid (HY.out.trans (tal_cons (hJ3.symm.trans HC3.out)))
                          have ce := (i_byte s[j3] 125)
                          have ck := (i_byte s[j3] 44)
                          rw [show (((125 : UInt8).toNat : Nat) : Int) = 125 from rfl] at ce
                          rw [show (((44 : UInt8).toNat : Nat) : Int) = 44 from rfl] at ck
                          have HM3 := Lib.hid hm3
                          clear hm3 hJ3
                          cases c1 : ((s[j3].toNat : Int) == 125)
                          · cases c2 : ((s[j3].toNat : Int) == 44)
                            · have c3 : ((s[j3].toNat : Int) != 44) = true := by unfold bne; rw [c2]; rfl
                              have HZ : Hid (q = .bd (LL s j3)) := Lib.hid (by rw [HY2.out, show (s[j3] == (if true then (125 : UInt8) else 93)) = false from ce.trans c1, show (s[j3] == (44 : UInt8)) = false from ck.trans c2, ← HC3.out]; rfl)
                              clear ce ck
                              go_wp2_with (first | (go_at_call 26; (with_reducible refine (HK1.out _).mono ?_); rintro e w1 ⟨rfl, rfl⟩) | (go_at_call 45; (with_reducible refine (HC1.out _).mono ?_); rintro e w2 ⟨rfl, HRQ, hb⟩; have HT1 := Lib.hid (HO.out.on hb); obtain ⟨e0, e1, y0, y1, hl⟩ := HT1.out.facts; clear hb) | (go_at_call 26; (with_reducible refine (HK2.out _).mono ?_); rintro e w1 ⟨rfl, rfl⟩) | (go_at_call 25; (with_reducible refine (HC2.out _).mono ?_); rintro e w3 ⟨rfl, HRV, hb⟩; have HT := Lib.hid ((HT1.out.alloc (.cells #[.int .i64 (ja : Nat), .int .i64 (-1)] 57)).on hb); obtain ⟨e5, e6, y5, y6, hl2⟩ := HT.out.facts; clear hb) | (go_at_call 26; (with_reducible refine (HK3.out _).mono ?_); rintro e w1 ⟨rfl, rfl⟩))
                              have hE := (HT.out.fin (j3 : Nat) 0).alloc (.cells #[.int .i64 (j2 : Nat), .int .i64 (-1)] 57)
                              obtain ⟨d0, d1⟩ := hE.facts
                              exact bodyPost_ret (v := sdV (j3 : Nat) (0)) (by simp only [results, Tryz.results44]; simp [go_sem, d0, d1]) rfl ⟨⟨_, rfl, by rw [HZ.out]; exact ⟨j3, lj3, rfl, rfl⟩⟩, hE.below⟩
                            · have c3 : ((s[j3].toNat : Int) != 44) = false := by unfold bne; rw [c2]; rfl
                              have HZ : Hid (q = dscE g (some (true, (i + 1 == 0))) d (LL s m3)) := Lib.hid (by rw [HY2.out, show (s[j3] == (if true then (125 : UInt8) else 93)) = false from ce.trans c1, show (s[j3] == (44 : UInt8)) = true from ck.trans c2]; rfl)
                              clear ce ck
                              go_wp2_with (first | (go_at_call 26; (with_reducible refine (HK1.out _).mono ?_); rintro e w1 ⟨rfl, rfl⟩) | (go_at_call 45; (with_reducible refine (HC1.out _).mono ?_); rintro e w2 ⟨rfl, HRQ, hb⟩; have HT1 := Lib.hid (HO.out.on hb); obtain ⟨e0, e1, y0, y1, hl⟩ := HT1.out.facts; clear hb) | (go_at_call 26; (with_reducible refine (HK2.out _).mono ?_); rintro e w1 ⟨rfl, rfl⟩) | (go_at_call 25; (with_reducible refine (HC2.out _).mono ?_); rintro e w3 ⟨rfl, HRV, hb⟩; have HT := Lib.hid ((HT1.out.alloc (.cells #[.int .i64 (ja : Nat), .int .i64 (-1)] 57)).on hb); obtain ⟨e5, e6, y5, y6, hl2⟩ := HT.out.facts; clear hb) | (go_at_call 26; (with_reducible refine (HK3.out _).mono ?_); rintro e w1 ⟨rfl, rfl⟩))
                              go_roundw
                              case rel => exact ⟨m3, i + 1, g, lm3, by have h2 := HJ2.out; have h3 := HM3.out; have h5 := HJM.out; omega, by go_num, rfl, by have h2 := HJ2.out; have h3 := HM3.out; have h4 := HG.out; have h5 := HJM.out; omega, by have h2 := HJ2.out; have h3 := HM3.out; have h4 := HG.out; have h5 := HJM.out; omega, HZ, Lib.hid (HT.out.alloc _)⟩
                              case measure => have hm3o := HM3.out; have hj2o := HJ2.out; have hjmo := HJM.out; simp [intOf]; omega
                          · have HZ : Hid (q = .wl (LL s m3)) := Lib.hid (by rw [HY2.out, show (s[j3] == (if true then (125 : UInt8) else 93)) = true from ce.trans c1]; rfl)
                            clear ce ck
                            go_wp2_with (first | (go_at_call 26; (with_reducible refine (HK1.out _).mono ?_); rintro e w1 ⟨rfl, rfl⟩) | (go_at_call 45; (with_reducible refine (HC1.out _).mono ?_); rintro e w2 ⟨rfl, HRQ, hb⟩; have HT1 := Lib.hid (HO.out.on hb); obtain ⟨e0, e1, y0, y1, hl⟩ := HT1.out.facts; clear hb) | (go_at_call 26; (with_reducible refine (HK2.out _).mono ?_); rintro e w1 ⟨rfl, rfl⟩) | (go_at_call 25; (with_reducible refine (HC2.out _).mono ?_); rintro e w3 ⟨rfl, HRV, hb⟩; have HT := Lib.hid ((HT1.out.alloc (.cells #[.int .i64 (ja : Nat), .int .i64 (-1)] 57)).on hb); obtain ⟨e5, e6, y5, y6, hl2⟩ := HT.out.facts; clear hb) | (go_at_call 26; (with_reducible refine (HK3.out _).mono ?_); rintro e w1 ⟨rfl, rfl⟩))
                            have hE := (HT.out.fin (m3 : Nat) (-1)).alloc (.cells #[.int .i64 (j2 : Nat), .int .i64 (-1)] 57)
                            obtain ⟨d0, d1⟩ := hE.facts
                            exact bodyPost_ret (v := sdV (m3 : Nat) (-1)) (by simp only [results, Tryz.results44]; simp [go_sem, d0, d1]) rfl ⟨⟨_, rfl, by rw [HZ.out]; exact ⟨m3, lm3, rfl, rfl⟩⟩, hE.below⟩
                        · obtain rfl : j3 = s.size := by omega
                          have HZ : Hid (q = .op) := Lib.hid (HY.out.trans (tal_nil (hJ3.symm.trans (ll_nil (Nat.le_refl _)))))
                          clear hJ3
                          go_wp2_with (first | (go_at_call 26; (with_reducible refine (HK1.out _).mono ?_); rintro e w1 ⟨rfl, rfl⟩) | (go_at_call 45; (with_reducible refine (HC1.out _).mono ?_); rintro e w2 ⟨rfl, HRQ, hb⟩; have HT1 := Lib.hid (HO.out.on hb); obtain ⟨e0, e1, y0, y1, hl⟩ := HT1.out.facts; clear hb) | (go_at_call 26; (with_reducible refine (HK2.out _).mono ?_); rintro e w1 ⟨rfl, rfl⟩) | (go_at_call 25; (with_reducible refine (HC2.out _).mono ?_); rintro e w3 ⟨rfl, HRV, hb⟩; have HT := Lib.hid ((HT1.out.alloc (.cells #[.int .i64 (ja : Nat), .int .i64 (-1)] 57)).on hb); obtain ⟨e5, e6, y5, y6, hl2⟩ := HT.out.facts; clear hb) | (go_at_call 26; (with_reducible refine (HK3.out _).mono ?_); rintro e w1 ⟨rfl, rfl⟩))
                          have hE := (HT.out.fin (s.size : Nat) 1).alloc (.cells #[.int .i64 (j2 : Nat), .int .i64 (-1)] 57)
                          obtain ⟨d0, d1⟩ := hE.facts
                          exact bodyPost_ret (v := sdV (s.size : Nat) (1)) (by simp only [results, Tryz.results44]; simp [go_sem, d0, d1]) rfl ⟨⟨_, rfl, by rw [HZ.out]; exact ⟨_, rfl⟩⟩, hE.below⟩
                      · go_wp2_with (first | (go_at_call 26; (with_reducible refine (HK1.out _).mono ?_); rintro e w1 ⟨rfl, rfl⟩) | (go_at_call 45; (with_reducible refine (HC1.out _).mono ?_); rintro e w2 ⟨rfl, HRQ, hb⟩; have HT1 := Lib.hid (HO.out.on hb); obtain ⟨e0, e1, y0, y1, hl⟩ := HT1.out.facts; clear hb) | (go_at_call 26; (with_reducible refine (HK2.out _).mono ?_); rintro e w1 ⟨rfl, rfl⟩) | (go_at_call 25; (with_reducible refine (HC2.out _).mono ?_); rintro e w3 ⟨rfl, HRV, hb⟩; exact absurd HRV.out hr2) | (go_at_call 26; (with_reducible refine (HK3.out _).mono ?_); rintro e w1 ⟨rfl, rfl⟩))
                    · have HC2 := Lib.hid (fun W => said_stop (HV.out W) (fun r hr => hX ⟨r, hr⟩))
                      have HN := Lib.hid (tal_stop (named := true) (k := fun r => dscE g (some (true, false)) d r) (fun r hr => hX ⟨r, hr⟩))
                      clear hX
                      go_wp2_with (first | (go_at_call 26; (with_reducible refine (HK1.out _).mono ?_); rintro e w1 ⟨rfl, rfl⟩) | (go_at_call 45; (with_reducible refine (HC1.out _).mono ?_); rintro e w2 ⟨rfl, HRQ, hb⟩; have HT1 := Lib.hid (HO.out.on hb); obtain ⟨e0, e1, y0, y1, hl⟩ := HT1.out.facts; clear hb) | (go_at_call 26; (with_reducible refine (HK2.out _).mono ?_); rintro e w1 ⟨rfl, rfl⟩) | (go_at_call 25; (with_reducible refine (HC2.out _).mono ?_); rintro e w3 ⟨a, st, rfl, HST, HS, hb⟩; have hst := HST.out; have HT := Lib.hid ((HT1.out.alloc (.cells #[.int .i64 (ja : Nat), .int .i64 (-1)] 57)).on hb); obtain ⟨e5, e6, y5, y6, hl2⟩ := HT.out.facts; clear hb) | (go_at_call 26; (with_reducible refine (HK3.out _).mono ?_); rintro e w1 ⟨rfl, rfl⟩))
                      have hE := (HT.out.fin a st).alloc (.cells #[.int .i64 (a), .int .i64 (st)] 57)
                      obtain ⟨d0, d1⟩ := hE.facts
                      exact bodyPost_ret (v := sdV (a) (st)) (by simp only [results, Tryz.results44]; simp [go_sem, d0, d1]) rfl ⟨⟨_, rfl, by rw [HQ2.out, HN.out]; exact HS.out⟩, hE.below⟩
                · obtain rfl : jb = s.size := by omega
                  have HZ : Hid (q = .op) := Lib.hid (HQB.out.trans (congrArg (talE true (fun r => dscE g (some (true, false)) d r)) (nam_nil (hJb.symm.trans (ll_nil (Nat.le_refl _))))))
                  clear hJb
                  go_wp2_with (first | (go_at_call 26; (with_reducible refine (HK1.out _).mono ?_); rintro e w1 ⟨rfl, rfl⟩) | (go_at_call 45; (with_reducible refine (HC1.out _).mono ?_); rintro e w2 ⟨rfl, HRQ, hb⟩; have HT1 := Lib.hid (HO.out.on hb); obtain ⟨e0, e1, y0, y1, hl⟩ := HT1.out.facts; clear hb) | (go_at_call 26; (with_reducible refine (HK2.out _).mono ?_); rintro e w1 ⟨rfl, rfl⟩))
                  have hE := (HT1.out.fin (s.size : Nat) 1).alloc (.cells #[.int .i64 (ja : Nat), .int .i64 (-1)] 57)
                  obtain ⟨d0, d1⟩ := hE.facts
                  exact bodyPost_ret (v := sdV (s.size : Nat) (1)) (by simp only [results, Tryz.results44]; simp [go_sem, d0, d1]) rfl ⟨⟨_, rfl, by rw [HZ.out]; exact ⟨_, rfl⟩⟩, hE.below⟩
              · go_wp2_with (first | (go_at_call 26; (with_reducible refine (HK1.out _).mono ?_); rintro e w1 ⟨rfl, rfl⟩) | (go_at_call 45; (with_reducible refine (HC1.out _).mono ?_); rintro e w2 ⟨rfl, HRQ, hb⟩; exact absurd HRQ.out hr1))
            · have HC1 := Lib.hid (fun W => said_stop (HQR.out W) (fun r hr => hQ ⟨r, hr⟩))
              have HN := Lib.hid (nam_stop (k := fun r => dscE g none d r) (fun r hr => hQ ⟨r, hr⟩))
              have HN2 := Lib.hid (tal_stop (named := true) (k := fun r => dscE g (some (true, false)) d r) (fun r hr => hQ ⟨r, hr⟩))
              clear hQ
              go_wp2_with (first | (go_at_call 26; (with_reducible refine (HK1.out _).mono ?_); rintro e w1 ⟨rfl, rfl⟩) | (go_at_call 45; (with_reducible refine (HC1.out _).mono ?_); rintro e w2 ⟨a, st, rfl, HST, HS, hb⟩; have hst := HST.out; have HT := Lib.hid (HO.out.on hb); obtain ⟨e0, e1, y0, y1, hl⟩ := HT.out.facts; clear hb))
              have hE := (HT.out.fin a st).alloc (.cells #[.int .i64 (a), .int .i64 (st)] 57)
              obtain ⟨d0, d1⟩ := hE.facts
              exact bodyPost_ret (v := sdV (a) (st)) (by simp only [results, Tryz.results44]; simp [go_sem, d0, d1]) rfl ⟨⟨_, rfl, by rw [HQA.out, HN.out, HN2.out]; exact HS.out⟩, hE.below⟩
    · obtain rfl : j1 = s.size := by omega
      have HZ : Hid (q = .op) := Lib.hid (HJ.out.trans (dsc_nil (hJ1.symm.trans (ll_nil (Nat.le_refl _)))))
      clear hJ1
      go_wp2_with (go_at_call 26; (with_reducible refine (HK1.out _).mono ?_); rintro e w1 ⟨rfl, rfl⟩)
      have hE := (HO.out.fin (s.size : Nat) 1)
      obtain ⟨d0, d1⟩ := hE.facts
      exact bodyPost_ret (v := sdV (s.size : Nat) (1)) (by simp only [results, Tryz.results44]; simp [go_sem, d0, d1]) rfl ⟨⟨_, rfl, by rw [HZ.out]; exact ⟨_, rfl⟩⟩, hE.below⟩
end Go.Proofs.YtbojbkpplejdmaaGreat
