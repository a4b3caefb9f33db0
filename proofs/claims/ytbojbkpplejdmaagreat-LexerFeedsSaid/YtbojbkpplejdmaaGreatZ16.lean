/-
  What package jscript's New and Whole, and lives, answer. Conditions: the texts are no longer than a length can be.
  What the document's Keyword of layer 28 answers: whether the text is one of the 39 words (kwdH). No condition.
  What the document's own word and grave of layer 28 read (SaO). Conditions: the text is no longer than a length can be; no more is open than may be; the count of pieces is no greater than a length can be.
-/
import Derived.Test.YtbojbkpplejdmaaGreatZ13
import Derived.OwnWalk
import Derived.Test.YtbojbkpplejdmaaGreatZ15
namespace Go.Proofs.YtbojbkpplejdmaaGreat
open Go.RowKit

set_option maxHeartbeats 1000000 in
theorem hnew_bad (n : Int) (w : World) (h : n < 0 ∨ 200 < n) :
    Calls Tryz.prog 21 #[.int .i64 n] w fun e w' => e = .returned (.tuple #[.pointer none, .int .i64 1]) ∧ w = w' := by
  have hc : decide (n < 0) = true ∨ (decide (n < 0) = false ∧ decide ((200 : Int) < n) = true) := by
    rw [decide_eq_true_iff, decide_eq_false_iff_not, decide_eq_true_iff]
    omega
  clear h
  rcases hc with h0 | ⟨h0, h1⟩
  all_goals
    go_enter Tryz.func21, Tryz.ntmps21
    go_wp2
    go_ret2
    exact ⟨rfl, rfl⟩
def zeroB : List Value := List.replicate 11 (.int .u8 0)
def zeroH : List Value := List.replicate 200 (.int .u8 0)
theorem Tryz.zeroMaH (w : World) : (zeroValue 64).run Tryz.prog w = .ok (.agg (maC 0 0 0 0 0 0 0 0 false 0 ⟨#[]⟩ 0 zeroB 0 zeroH)) w := by kernel_rfl
theorem zeroH_ne : (maC 0 0 0 0 0 0 0 0 false 0 ⟨#[]⟩ 0 zeroB 0 zeroH = #[]) = False := by
  rw [eq_iff_iff, iff_false]
  intro h
  have := congrArg Array.size h
  simp [maC] at this
theorem zeroH_set (x : Int) : (maC 0 0 0 0 0 0 0 0 false 0 ⟨#[]⟩ 0 zeroB 0 zeroH).setIfInBounds 0 (.int .i64 x) = maC x 0 0 0 0 0 0 0 false 0 ⟨#[]⟩ 0 zeroB 0 zeroH := by
  unfold maC
  rw [List.setIfInBounds_toArray]
  rfl
set_option maxHeartbeats 1000000 in
theorem hnew_ok (n : Nat) (w : World) (h : n ≤ 200) :
    Calls Tryz.prog 21 #[.int .i64 (n : Nat)] w fun e w' => e = .returned (.tuple #[mptr w.heap.size, .int .i64 0]) ∧ Below w.heap.size w w' ∧ MacBH w' w.heap.size n 0 [] := by
  have h0 : decide (((n : Nat) : Int) < 0) = false := by rw [decide_eq_false_iff_not]; omega
  have h1 : decide ((200 : Int) < ((n : Nat) : Int)) = false := by rw [decide_eq_false_iff_not]; omega
  have HN := Lib.hid h
  have hz := Tryz.zeroMaH w
  have hne := zeroH_ne
  have hset := zeroH_set n
  have HB := Lib.hid (Blk.new w 64 (maC n 0 0 0 0 0 0 0 false 0 ⟨#[]⟩ 0 zeroB 0 zeroH))
  clear h
  generalize maC 0 0 0 0 0 0 0 0 false 0 ⟨#[]⟩ 0 zeroB 0 zeroH = Z at *
  go_enter Tryz.func21, Tryz.ntmps21
  go_wp2
  go_ret2
  refine ⟨rfl, (Below.refl _ _).alloc (Nat.le_refl _) _, 0, ⟨0, 0, 0, ⟨#[]⟩, 0, zeroB, zeroH⟩, ⟨HB.out, List.length_replicate .., List.length_replicate .., trivial, rfl, Nat.zero_le _, HN.out⟩, rfl⟩

/-- How many ends are told. -/
def endsH (x : Th) : Int := (x.2.2.2.2 : Nat)
theorem ends_of (R : Rh) : (((ofR R).en : Nat) : Int) = endsH (telH R) := by cases R <;> rfl
end Go.Proofs.YtbojbkpplejdmaaGreat
namespace Go.Proofs.YtbojbkpplejdmaaGreat
open Go.RowKit

def kwV : List Value := kwdL.map fun k => .string ⟨k.toArray⟩
theorem kwd_len : kwdL.length = 39 := rfl
theorem kwd_hit {l : List UInt8} {k : Nat} (hk : k < kwdL.length) (h : kwdL[k] = l) : kwdH l = true := by
  unfold kwdH
  rw [List.any_eq_true]
  exact ⟨kwdL[k], List.getElem_mem hk, by rw [beq_iff_eq]; exact h⟩
theorem kwd_miss {l : List UInt8} (h : ∀ j (hj : j < kwdL.length), kwdL[j] ≠ l) : kwdH l = false := by
  unfold kwdH
  rw [List.any_eq_false]
  intro k hk e
  obtain ⟨j, hj, he⟩ := List.mem_iff_getElem.1 hk
  rw [beq_iff_eq] at e
  exact h j hj (he.trans e)
set_option maxHeartbeats 4000000 in
set_option maxRecDepth 100000 in
theorem rkeyword28_any (s : ByteArray) (w : World) :
    Calls Tryz.prog 55 #[.string s] w fun e w' => e = .returned (.bool (kwdH s.data.toList)) ∧ Below w.heap.size w w' := by
  obtain ⟨w0, hw0⟩ : ∃ w0, w0 = w.alloc (.cells kwV.toArray 9) := ⟨_, rfl⟩
  have HB := Lib.hid (show Below w.heap.size w w0 from by rw [hw0]; exact (Below.refl _ _).alloc (Nat.le_refl _) _)
  have HC := Lib.hid (fun k (hk : k < kwdL.length) => show w0.cell? ⟨w.heap.size, k, none⟩ = some (.string ⟨(kwdL[k]).toArray⟩) from by
    have h : Blk w0 w.heap.size 9 kwV.toArray := by rw [hw0]; exact Blk.new _ _ _
    rw [h.cell, List.getElem?_toArray]
    unfold kwV
    rw [List.getElem?_map, List.getElem?_eq_getElem hk]
    rfl)
  have HW0 := Lib.hid hw0
  obtain ⟨v, hv⟩ : ∃ v, v = kwdH s.data.toList := ⟨_, rfl⟩
  rw [← hv]
  have HV := Lib.hid hv
  clear hw0 hv
  go_enter Tryz.func55, Tryz.ntmps55
  go_wp2
  go_loopw [4] (fun i wr => ∃ k : Nat, k ≤ 39 ∧ i = .int .i64 k ∧ wr = w0 ∧ Hid (∀ j (hj : j < kwdL.length), j < k → kwdL[j] ≠ s.data.toList)) (fun i _ => 39 - (intOf i).toNat)
  case atStart => exact ⟨0, by omega, rfl, HW0.out.symm, Lib.hid (fun j _ h0 => absurd h0 (Nat.not_lt_zero _))⟩
  case round =>
    obtain ⟨k, hk, rfl, rfl, HN⟩ := hrel
    by_cases hlt : k < 39
    · have hkl : k < kwdL.length := by rw [kwd_len]; exact hlt
      have c := HC.out k hkl
      obtain ⟨x, hx⟩ : ∃ x : ByteArray, x = ⟨(kwdL[k]).toArray⟩ := ⟨_, rfl⟩
      rw [← hx] at c
      have hxl : x.toList = kwdL[k] := by rw [Lib.toList_data, hx]
      cases he : (x.toList == s.toList) with
      | false =>
        have HN2 : Hid (∀ j (hj : j < kwdL.length), j < k + 1 → kwdL[j] ≠ s.data.toList) := Lib.hid fun j hj hjk e => by
          by_cases hjk2 : j < k
          · exact HN.out j hj hjk2 e
          · obtain rfl : j = k := by omega
            rw [beq_eq_false_iff_ne] at he
            exact he (by rw [hxl, e, Lib.toList_data])
        clear hx hxl HN hkl
        go_wp2
        go_roundw
        case rel => exact ⟨k + 1, by omega, by go_num, by trivial, HN2⟩
        case measure => simp [intOf]; omega
      | true =>
        have HX : Hid (v = true) := Lib.hid (by
          rw [HV.out]
          rw [beq_iff_eq] at he
          exact kwd_hit hkl (by rw [← hxl, he, Lib.toList_data]))
        clear hx hxl HN hkl
        go_wp2
        go_ret
        exact ⟨by rw [HX.out]; rfl, HB.out⟩
    · obtain rfl : k = 39 := by omega
      have HX : Hid (v = false) := Lib.hid (by
        rw [HV.out]
        exact kwd_miss fun j hj => HN.out j hj hj)
      go_wp2
      go_ret
      exact ⟨by rw [HX.out]; rfl, HB.out⟩
end Go.Proofs.YtbojbkpplejdmaaGreat
namespace Go.Proofs.YtbojbkpplejdmaaGreat
open Go.RowKit

theorem Sa.below {w w' : World} {xb D : Nat} {bad : Int} {win : Bool} {h : Hs} (m : Sa w xb D bad win h) (hb : Below w.heap.size w w') : Sa w' xb D bad win h := Blk.below m hb (Blk.lt m)
theorem ll_take {s : ByteArray} {k j : Nat} (hk : k ≤ j) (hj : j < s.size) : (LL s k).take (j + 1 - k) = (LL s k).take (j - k) ++ [s[j]] := by
  have hl : j - k < (LL s k).length := by rw [ll_len]; omega
  have hz : s.data.toList.length = s.size := by simp
  have hl2 : k + (j - k) < s.data.toList.length := by omega
  have e : (LL s k)[j - k] = s.data.toList[k + (j - k)] := List.getElem_drop
  rw [show j + 1 - k = (j - k) + 1 from by omega, List.take_succ_eq_append_getElem hl, e]
  congr 2
  have e2 : k + (j - k) = j := by omega
  simp only [e2]
  rfl
theorem ll_extract {s : ByteArray} {k j : Nat} : (s.extract k j).data.toList = (LL s k).take (j - k) := by
  rw [ByteArray.data_extract, Array.toList_extract, List.extract_eq_take_drop]
  rfl
/-- A word: what has been gone by, and what is left. -/
def WrdJ (s : ByteArray) (p : UInt8 → Bool) (k j : Nat) : Prop := (LL s k).takeWhile p = (LL s k).take (j - k) ++ (LL s j).takeWhile p ∧ (LL s k).dropWhile p = (LL s j).dropWhile p
theorem wrd_zero {s : ByteArray} {p : UInt8 → Bool} {k : Nat} : WrdJ s p k k := ⟨by rw [Nat.sub_self, List.take_zero, List.nil_append], rfl⟩
theorem wrd_on {s : ByteArray} {p : UInt8 → Bool} {k j : Nat} (hk : k ≤ j) (hj : j < s.size) (hp : p s[j] = true) (h : WrdJ s p k j) : WrdJ s p k (j + 1) := by
  refine ⟨?_, ?_⟩
  · rw [h.1, ll_take hk hj, ll_cons hj, List.takeWhile_cons, hp, if_pos rfl, List.append_assoc, List.singleton_append]
  · rw [h.2, ll_cons hj, List.dropWhile_cons, hp, if_pos rfl]
theorem wrd_end {s : ByteArray} {p : UInt8 → Bool} {k j : Nat} (hp : ∀ hj : j < s.size, p s[j] = false) (h : WrdJ s p k j) : (LL s k).takeWhile p = (s.extract k j).data.toList ∧ (LL s k).dropWhile p = LL s j := by
  by_cases hj : j < s.size
  · refine ⟨?_, ?_⟩
    · rw [h.1, ll_extract, ll_cons hj, List.takeWhile_cons, hp hj, if_neg (by decide), List.append_nil]
    · rw [h.2, ll_cons hj, List.dropWhile_cons, hp hj, if_neg (by decide)]
  · have e : LL s j = [] := ll_nil (by omega)
    refine ⟨?_, ?_⟩
    · rw [h.1, ll_extract, e, List.takeWhile_nil, List.append_nil]
    · rw [h.2, e]
      rfl
def wordO (h : Hs) (b : UInt8) (l : List UInt8) : Ho := if joiH h then .bad h l else .on (worH (pcH h) (l.takeWhile (wpB (digB b)))) (l.dropWhile (wpB (digB b)))

set_option maxHeartbeats 8000000 in
set_option maxRecDepth 10000 in
theorem sword_any {w : World} {s : ByteArray} {xb D : Nat} {h : Hs} (m : Sa w xb D (-1) false h) (k : Nat) (hk : k < s.size) (hs : s.size ≤ 4611686018427387904) (hp : h.pc + 1 ≤ 4611686018427387904) :
    Calls Tryz.prog 35 #[mptr xb, .string s, .int .i64 (k : Nat)] w fun e w' => ∃ v : Int, e = .returned (.int .i64 v) ∧ Mv w.heap.size [xb] w w' ∧ SaO s w' xb D (wordO h s[k] (LL s k)) v := by
  have c3 := m.c3
  have z3 := m.fr 3
  have HJ := Lib.hid (sjoined_any m)
  obtain ⟨q, hq⟩ : ∃ q, q = wordO h s[k] (LL s k) := ⟨_, rfl⟩
  rw [← hq]
  have HQ := Lib.hid hq
  unfold wordO at HQ
  clear hq
  cases hj : joiH h with
  | true =>
    rw [hj] at HJ
    have HZ : Hid (q = .bad h (LL s k)) := Lib.hid (by rw [HQ.out, hj]; rfl)
    have HA := Lib.hid (fun k => sfail_any m k)
    clear hj
    go_enter Tryz.func35, Tryz.ntmps35
    go_wp2_with (first
      | (go_at_call 36; (with_reducible refine HJ.out.mono ?_); rintro e w1 ⟨rfl, rfl⟩)
      | (go_at_call 37; (with_reducible refine (HA.out _).mono ?_); rintro e w1 ⟨rfl, hm, hx⟩; have HM1 := Lib.hid hm; have HX := Lib.hid hx; clear hm hx))
    go_ret
    exact ⟨_, rfl, HM1.out, by rw [HZ.out]; exact ⟨rfl, k, h, HX.out⟩⟩
  | false =>
    rw [hj] at HJ
    have HZ := Lib.hid (show q = .on (worH (pcH h) ((LL s k).takeWhile (wpB (digB s[k])))) ((LL s k).dropWhile (wpB (digB s[k]))) by rw [HQ.out, hj]; rfl)
    have M1 := Lib.hid (show Sa (w.setCell ⟨xb, 3, none⟩ (.int .i64 ((h.pc : Int) + 1))) xb D (-1) false (pcH h) from m.s3 (n := h.pc + 1) (by simp))
    have HI := Lib.hid sinner_any
    have HDG := Lib.hid (fun W => refDigit_any s[k] W)
    have HKW := Lib.hid rkeyword28_any
    have HEN : ∀ W, Below (w.setCell ⟨xb, 3, none⟩ (.int .i64 ((h.pc : Int) + 1))).heap.size (w.setCell ⟨xb, 3, none⟩ (.int .i64 ((h.pc : Int) + 1))) W → ∀ (n : Nat) (x : Int), x = (n : Int) → Calls Tryz.prog 56 #[mptr xb, .int .i64 x] W fun e w' => e = .returned (.tuple #[]) ∧ Mv w.heap.size [xb] w w' ∧ Sa w' xb D (-1) false (endH (pcH h) n) := fun W hb n x hx => by
      refine (sended_any (M1.out.below hb) n hx).mono ?_
      rintro e w' ⟨rfl, h1, h2⟩
      exact ⟨rfl, (((mv0 w xb).put1 _ _).then1 (Mv.of_below hb [xb])).then1 h1, h2⟩
    have HE0 := Lib.hid (fun W hb => HEN W hb 0 0 rfl)
    have HE1 := Lib.hid (fun W hb => HEN W hb 1 1 rfl)
    have hk0 : k ≤ s.size := Nat.le_of_lt hk
    clear hj HEN m HQ
    obtain ⟨p, hpd⟩ : ∃ p, p = wpB (digB s[k]) := ⟨_, rfl⟩
    rw [← hpd] at HZ
    go_enter Tryz.func35, Tryz.ntmps35
    go_wp2_with (go_at_call 36; (with_reducible refine HJ.out.mono ?_); rintro e w1 ⟨rfl, rfl⟩)
    go_loop [7] (fun i => ∃ j : Nat, k ≤ j ∧ j ≤ s.size ∧ i = .int .i64 j ∧ Hid (WrdJ s p k j)) (fun i => s.size - (intOf i).toNat)
    case atStart => exact ⟨k, Nat.le_refl _, hk0, rfl, Lib.hid wrd_zero⟩
    case round =>
      obtain ⟨j, hkj, hjs, rfl, HW⟩ := hrel
      have HKJ := Lib.hid (fun W => HKW.out (s.extract k j) W)
      by_cases hlt : j < s.size
      · have e1 : decide (j < s.size) = true := by simpa using hlt
        have HB := Lib.hid (fun W => HI.out s[j] W)
        have e46 : (s[j] == 46) = ((s[j].toNat : Int) == 46) := bE s[j] 46
        have hpj : p s[j] = (innB s[j] || (digB s[k] && s[j] == 46)) := by rw [hpd]; rfl
        have hways : (innB s[j] = true ∧ p s[j] = true) ∨ (innB s[j] = false ∧ digB s[k] = true ∧ ((s[j].toNat : Int) == 46) = true ∧ p s[j] = true) ∨ (innB s[j] = false ∧ digB s[k] = false ∧ p s[j] = false) ∨ (innB s[j] = false ∧ digB s[k] = true ∧ ((s[j].toNat : Int) == 46) = false ∧ p s[j] = false) := by
          rw [hpj, ← e46]
          cases innB s[j] <;> cases digB s[k] <;> cases (s[j] == 46) <;> simp
        have HN : p s[j] = true → Hid (WrdJ s p k (j + 1)) := fun hp2 => Lib.hid (wrd_on hkj hlt hp2 HW.out)
        have HF : p s[j] = false → Hid ((LL s k).takeWhile p = (s.extract k j).data.toList ∧ (LL s k).dropWhile p = LL s j) := fun hp2 => Lib.hid (wrd_end (fun _ => hp2) HW.out)
        clear hpj e46 hpd
        rcases hways with ⟨h1, h2⟩ | ⟨h1, h2, h3, h4⟩ | ⟨h1, h2, h4⟩ | ⟨h1, h2, h3, h4⟩
        · rw [h1] at HB
          have HN2 := HN h2
          clear HN HF h1 h2 HKJ
          go_wp2_with (go_at_call 34; (with_reducible refine (HB.out _).mono ?_); rintro e w1 ⟨rfl, rfl⟩)
          go_round
          case rel => exact ⟨j + 1, by omega, by omega, by go_num, HN2⟩
          case measure => simp [intOf]; omega
        · rw [h1] at HB
          rw [h2] at HDG
          have HN2 := HN h4
          clear HN HF h1 h2 h4 HKJ
          go_wp2_with (first
            | (go_at_call 34; (with_reducible refine (HB.out _).mono ?_); rintro e w1 ⟨rfl, rfl⟩)
            | (go_at_call 46; (with_reducible refine (HDG.out _).mono ?_); rintro e w1 ⟨rfl, rfl⟩))
          go_round
          case rel => exact ⟨j + 1, by omega, by omega, by go_num, HN2⟩
          case measure => simp [intOf]; omega
        all_goals
          rw [h1] at HB
          rw [h2] at HDG
          have HF2 := HF h4
          clear HN HF h1 h2 h4
          have HV : Hid (q = .on (worH (pcH h) (s.extract k j).data.toList) (LL s j)) := Lib.hid (by rw [HZ.out, HF2.out.1, HF2.out.2])
          unfold worH at HV
          clear HF2 HZ
          generalize kwdH (s.extract k j).data.toList = kv at *
          cases kv
          all_goals
            go_wp2_with (first
              | (go_at_call 34; (with_reducible refine (HB.out _).mono ?_); rintro e w1 ⟨rfl, rfl⟩)
              | (go_at_call 46; (with_reducible refine (HDG.out _).mono ?_); rintro e w1 ⟨rfl, rfl⟩)
              | (go_at_call 55; (with_reducible refine (HKJ.out _).mono ?_); rintro e w2 ⟨rfl, hb⟩; have HB2 := Lib.hid hb; clear hb)
              | (go_at_call 56; (with_reducible refine (HE0.out _ HB2.out).mono ?_); rintro e w3 ⟨rfl, hm, hx⟩; have HM1 := Lib.hid hm; have HX := Lib.hid hx; clear hm hx)
              | (go_at_call 56; (with_reducible refine (HE1.out _ HB2.out).mono ?_); rintro e w3 ⟨rfl, hm, hx⟩; have HM1 := Lib.hid hm; have HX := Lib.hid hx; clear hm hx))
            go_ret
            exact ⟨_, rfl, HM1.out, by rw [HV.out]; exact ⟨j, hjs, rfl, rfl, HX.out⟩⟩
      · obtain rfl : j = s.size := by omega
        have HF2 := wrd_end (fun hj => absurd hj hlt) HW.out
        have HV : Hid (q = .on (worH (pcH h) (s.extract k s.size).data.toList) (LL s s.size)) := Lib.hid (by rw [HZ.out, HF2.1, HF2.2])
        unfold worH at HV
        clear HF2 HZ
        generalize kwdH (s.extract k s.size).data.toList = kv at *
        cases kv
        all_goals
          go_wp2_with (first
            | (go_at_call 55; (with_reducible refine (HKJ.out _).mono ?_); rintro e w2 ⟨rfl, hb⟩; have HB2 := Lib.hid hb; clear hb)
            | (go_at_call 56; (with_reducible refine (HE0.out _ HB2.out).mono ?_); rintro e w3 ⟨rfl, hm, hx⟩; have HM1 := Lib.hid hm; have HX := Lib.hid hx; clear hm hx)
            | (go_at_call 56; (with_reducible refine (HE1.out _ HB2.out).mono ?_); rintro e w3 ⟨rfl, hm, hx⟩; have HM1 := Lib.hid hm; have HX := Lib.hid hx; clear hm hx))
          go_ret
          exact ⟨_, rfl, HM1.out, by rw [HV.out]; exact ⟨s.size, Nat.le_refl _, rfl, rfl, HX.out⟩⟩

theorem grave_esc {D : Nat} {h : Hs} {s : ByteArray} {j : Nat} {b : UInt8} (hb : (b == 92) = true) : graveO D h (b :: LL s (j + 1)) = graveO D h (LL s (j + 2)) := by
  rw [graveO_cons, if_pos hb]
  by_cases hlt : j + 1 < s.size
  · rw [ll_cons hlt]
  · rw [ll_nil (s := s) (k := j + 1) (by omega), ll_nil (s := s) (k := j + 2) (by omega)]
    rfl
theorem grave_no {D : Nat} {h : Hs} {b : UInt8} {l : List UInt8} (hb : (b == 92) = false) : graveO D h (b :: l) = if b == 96 then .on (endH h 1) l else if b == 36 && l.head? == some 123 then dolO D h l else graveO D h l := by
  rw [graveO_cons, hb]
  rfl
set_option maxHeartbeats 8000000 in
set_option maxRecDepth 10000 in
theorem sgrave_any {w : World} {s : ByteArray} {xb D : Nat} {h : Hs} (m : Sa w xb D (-1) false h) (hd : h.op.length ≤ D) (hD : D ≤ 200) (k : Nat) (hk : k ≤ s.size) (hs : s.size ≤ 4611686018427387904) :
    Calls Tryz.prog 39 #[mptr xb, .string s, .int .i64 (k : Nat)] w fun e w' => ∃ v : Int, e = .returned (.int .i64 v) ∧ Mv w.heap.size [xb] w w' ∧ SaO s w' xb D (graveO D h (LL s k)) v := by
  have HE := Lib.hid (sended_any m 1 (x := 1) rfl)
  have HT := Lib.hid (sstop_any m)
  have HA := Lib.hid (fun n k => sfail_any (m.drewN n) k)
  have M := Lib.hid m
  have c2 := m.c2
  have c7 := m.c7
  have z2 := m.fr 2
  have HE2 := Lib.hid (fun W (hm : Sa W xb D (-1) false { h with op := 36 :: h.op }) => sended_any hm 0 (x := 0) rfl)
  have HP := Lib.hid (opT_push 36 h.op)
  have hxs := opT_size h.op
  obtain ⟨q, hq⟩ : ∃ q, q = graveO D h (LL s k) := ⟨_, rfl⟩
  rw [← hq]
  have HQ := Lib.hid hq
  clear hq m
  go_enter Tryz.func39, Tryz.ntmps39
  go_wp2
  go_loop [2] (fun i => ∃ j : Nat, j ≤ s.size + 1 ∧ i = .int .i64 j ∧ Hid (q = graveO D h (LL s j))) (fun i => s.size + 1 - (intOf i).toNat)
  case atStart => exact ⟨k, by omega, rfl, HQ⟩
  case round =>
    obtain ⟨j, hjs, rfl, HJ⟩ := hrel
    clear HQ
    by_cases hlt : j < s.size
    · have e1 : decide (j < s.size) = true := by simpa using hlt
      have HC := Lib.hid (ll_cons hlt)
      have e92 : (s[j] == 92) = ((s[j].toNat : Int) == 92) := bE s[j] 92
      have e96 : (s[j] == 96) = ((s[j].toNat : Int) == 96) := bE s[j] 96
      have e36 : (s[j] == 36) = ((s[j].toNat : Int) == 36) := bE s[j] 36
      cases h92 : (s[j] == 92) with
      | true =>
        rw [h92] at e92
        have t1 := e92.symm
        have HZ : Hid (q = graveO D h (LL s (j + 2))) := Lib.hid (by rw [HJ.out, HC.out, grave_esc h92])
        clear h92 e92 e96 e36
        go_wp2
        go_round
        case rel => exact ⟨j + 2, by omega, by go_num, HZ⟩
        case measure => simp [intOf]; omega
      | false =>
        rw [h92] at e92
        have t1 := e92.symm
        have HR := Lib.hid (HJ.out.trans ((congrArg _ HC.out).trans (grave_no h92)))
        cases h96 : (s[j] == 96) with
        | true =>
          rw [h96] at e96
          have t2 := e96.symm
          have HZ : Hid (q = .on (endH h 1) (LL s (j + 1))) := Lib.hid (by rw [HR.out, h96]; rfl)
          clear h92 e92 e96 e36 h96
          go_wp2_with (go_at_call 56; (with_reducible refine HE.out.mono ?_); rintro e w1 ⟨rfl, hm, hx⟩; have HM1 := Lib.hid hm; have HX := Lib.hid hx; clear hm hx)
          go_ret
          exact ⟨_, rfl, HM1.out, by rw [HZ.out]; exact ⟨j + 1, by omega, rfl, by go_num, HX.out⟩⟩
        | false =>
          rw [h96] at e96
          have t2 := e96.symm
          obtain ⟨n, hn⟩ : ∃ n, n = j + 1 := ⟨_, rfl⟩
          have g : ((j : Nat) : Int) + 1 = (n : Int) := by omega
          rw [← hn] at HR
          have HN := Lib.hid hn
          have hns : n ≤ s.size := by omega
          by_cases hopen : ((s[j] == 36) && ((LL s n).head? == some 123)) = true
          · have HZ : Hid (q = dolO D h (LL s n)) := Lib.hid (by rw [HR.out, h96, if_neg (by decide), if_pos hopen])
            rw [Bool.and_eq_true] at hopen
            obtain ⟨h36, hh⟩ := hopen
            rw [h36] at e36
            have t3 := e36.symm
            have hnl : n < s.size := by
              rcases Nat.lt_or_ge n s.size with h1 | h1
              · exact h1
              · rw [ll_nil h1] at hh; cases hh
            have e2 : decide (n < s.size) = true := by simpa using hnl
            have t4 : ((s[n].toNat : Int) == 123) = true := by
              rw [← (show (s[n] == 123) = ((s[n].toNat : Int) == 123) from bE s[n] 123), ← ll_head hnl]
              exact hh
            clear h92 e92 e96 e36 h96 h36 hh hn HR HJ HC HE
            cases hdd : (h.op.length == D) with
            | true =>
              have HY : Hid (q = .bad h (LL s n)) := Lib.hid (by rw [HZ.out]; unfold dolO; rw [hdd]; rfl)
              have t5 : (((opT h.op).size : Int) == (D : Int)) = true := by rw [beq_iff_eq] at hdd ⊢; omega
              have hxz : (opT h.op).size ≤ 4611686018427387904 := by omega
              clear hdd HZ HP hxs hd
              generalize opT h.op = x at *
              go_wp2
              go_quiet (fail)
              go_wp2_with (go_at_call 37; (with_reducible refine (HA.out _ _).mono ?_); rintro e w1 ⟨rfl, hm, hx⟩; have HM1 := Lib.hid hm; have HX := Lib.hid hx; clear hm hx)
              go_ret
              exact ⟨_, rfl, ((mv0 w xb).drewN _).then1 HM1.out, by rw [HY.out]; exact ⟨rfl, n, h, by first | exact HX.out | (rw [← g]; exact HX.out)⟩⟩
            | false =>
              have HY : Hid (q = .on (endH { h with op := 36 :: h.op } 0) (LL s (n + 1))) := Lib.hid (by rw [HZ.out]; unfold dolO; rw [hdd, if_neg (by decide), ll_tail])
              have t5 : (((opT h.op).size : Int) == (D : Int)) = false := by rw [beq_eq_false_iff_ne] at hdd ⊢; omega
              have hxz : (opT h.op).size ≤ 4611686018427387904 := by omega
              clear hdd HZ hxs hd
              have HS : Hid (∀ n W, W = (w.drewN n).setCell ⟨xb, 2, none⟩ (.string (opT h.op ++ ⟨#[36]⟩)) → Sa W xb D (-1) false { h with op := 36 :: h.op }) := Lib.hid (fun n W hW => by rw [hW]; exact (M.out.drewN n).s2 HP.out)
              clear HP
              generalize opT h.op = x at *
              go_wp2
              go_quiet (fail)
              go_wp2_with (go_at_call 56; (with_reducible refine (HE2.out _ (HS.out _ _ rfl)).mono ?_); rintro e w1 ⟨rfl, hm, hx⟩; have HM1 := Lib.hid hm; have HX := Lib.hid hx; clear hm hx)
              go_ret
              exact ⟨_, rfl, (((mv0 w xb).drewN _).put1 _ _).then1 HM1.out, by rw [HY.out]; exact ⟨n + 1, by omega, rfl, by have := HN.out; go_num, HX.out⟩⟩
          · have HZ : Hid (q = graveO D h (LL s n)) := Lib.hid (by rw [HR.out, h96, if_neg (by decide), if_neg hopen])
            have hc : ((s[j].toNat : Int) == 36) = false ∨ (((s[j].toNat : Int) == 36) = true ∧ decide (n < s.size) = false) ∨ (∃ hnl : n < s.size, decide (n < s.size) = true ∧ ((s[j].toNat : Int) == 36) = true ∧ ((s[n].toNat : Int) == 123) = false) := by
              cases hb : (s[j] == 36) with
              | false => exact Or.inl (by rw [← e36]; exact hb)
              | true =>
                refine Or.inr ?_
                by_cases hnl : n < s.size
                · refine Or.inr ⟨hnl, by simpa using hnl, by rw [← e36]; exact hb, ?_⟩
                  rw [hb, Bool.true_and, ll_head hnl] at hopen
                  rw [← (show (s[n] == 123) = ((s[n].toNat : Int) == 123) from bE s[n] 123)]
                  exact Bool.eq_false_iff.2 hopen
                · exact Or.inl ⟨by rw [← e36]; exact hb, by simpa using hnl⟩
            clear h92 e92 e96 e36 h96 hopen hn HR HJ HC HE
            rcases hc with c1 | ⟨c1, c3⟩ | ⟨hnl, c1, c3, c4⟩
            all_goals
              go_wp2
              go_round
              case rel => exact ⟨n, by omega, rfl, HZ⟩
              case measure => have := HN.out; simp [intOf]; omega
    · have HZ : Hid (q = .win h) := Lib.hid (by rw [HJ.out, ll_nil (by omega)]; rfl)
      have e1 : decide (j < s.size) = false := by simpa using hlt
      go_wp2_with (go_at_call 57; (with_reducible refine HT.out.mono ?_); rintro e w1 ⟨rfl, hm, hx⟩; have HM1 := Lib.hid hm; have HX := Lib.hid hx; clear hm hx)
      go_ret
      exact ⟨_, rfl, HM1.out, by rw [HZ.out]; exact ⟨rfl, HX.out⟩⟩
end Go.Proofs.YtbojbkpplejdmaaGreat
