/-
  What the document's own Read and Serial of layer 4 answer. Condition: the text takes at most 2^45 bytes.
-/
import Derived.Test.YtancilcfbhfopaaConv
import Derived.Test.YtancilcfbhfopaaQuo
import Derived.Test.YtancilcfbhfopaaMv
import Derived.LoopTactic
import Derived.WalkKit
import Derived.WalkSpells
import Derived.WalkLawsBesides
import Derived.Lib.Hide
import Derived.Outline
namespace Go.Proofs.Ytancilcfbhfopaa
open Go.RowKit

theorem arr_one (l : List UInt8) (b : UInt8) : (⟨l.toArray⟩ : ByteArray) ++ ⟨#[b]⟩ = ⟨(l ++ [b]).toArray⟩ := by
  apply ByteArray.ext
  rw [ByteArray.data_append]
  simp

set_option maxHeartbeats 2000000 in
theorem refRead_any (s : ByteArray) (w : World) (h0 : 0 < s.size) (hs : s.size ≤ 35184372088832) :
    Calls Try.prog 36 #[.string s] w fun e w' => e = .returned (.tuple #[.string ⟨(quoS s 1).1.toArray⟩, .int .i64 (1 + (quoS s 1).2 : Nat)]) ∧ Below w.heap.size w w' := by
  go_enter Try.func36, Try.ntmps36
  go_wp2
  go_loopw [4, 5] (fun o i wr => ∃ (k : Nat) (l : List UInt8), k ≤ s.size ∧ l.length ≤ k ∧ o = .string ⟨l.toArray⟩ ∧ i = .int .i64 k ∧ Below w.heap.size w wr ∧ l ++ (quoS s k).1 = (quoS s 1).1 ∧ k + (quoS s k).2 = 1 + (quoS s 1).2) (fun _ i _ => s.size - (intOf i).toNat)
  case atStart => exact ⟨1, [], by omega, by simp, rfl, rfl, Below.refl _ _, by simp, rfl⟩
  case round =>
    obtain ⟨k, l, hk, hl, rfl, rfl, hm, ht, hn⟩ := hrel
    have HT := Lib.hid ht
    have HK := Lib.hid hn
    have HM := Lib.hid hm
    clear ht hn hm
    by_cases hlt : k < s.size
    · by_cases hq : s[k].toNat = 34
      · have d1 : ((s[k].toNat : Int) == 34) = true := by rw [hq]; rfl
        have HQ := Lib.hid (quoS_quote hlt hq)
        clear hq
        go_wp2
        refine bodyPost_ret (v := .tuple #[.string ⟨l.toArray⟩, .int .i64 (k + 1 : Nat)]) (by simp [results, Try.results36, go_sem]) rfl ⟨?_, HM.out⟩
        have ht := HT.out
        have hn := HK.out
        rw [HQ.out] at ht hn
        rw [← ht, ← hn]
        simp
      · have d1 : ((s[k].toNat : Int) == 34) = false := by simp; omega
        by_cases hy : s[k].toNat = 92
        · have d2 : ((s[k].toNat : Int) == 92) = true := by rw [hy]; rfl
          by_cases hlast : k + 1 < s.size
          · have HQ := Lib.hid (quoS_slash hlast hy)
            have d3 : decide (k + 1 < s.size) = true := by simpa using hlast
            have d4 : decide ((k : Int) + 1 < (s.size : Int)) = true := by simp; omega
            clear hy hq
            have hcv := conv_one s[k + 1]
            go_wp2
            go_roundw
            case rel =>
              have ht := HT.out
              have hn := HK.out
              rw [HQ.out] at ht hn
              exact ⟨k + 1 + 1, l ++ [s[k + 1]], by omega, by simp; omega, by rw [arr_one], by go_num, HM.out.alloc HM.out.size _, by simpa using ht, by simp only [] at hn; omega⟩
            case measure => simp [intOf]; omega
          · have HQ := Lib.hid (quoS_slash_end hlt (by omega) hy)
            have d3 : decide (k + 1 < s.size) = false := by simpa using hlast
            have d4 : decide ((k : Int) + 1 < (s.size : Int)) = false := by simp; omega
            have HE := Lib.hid (show s[k] = 92 from UInt8.toNat_inj.1 (by rw [hy]; rfl))
            clear hy hq
            have hcv := conv_one s[k]
            go_wp2
            go_roundw
            case rel =>
              have ht := HT.out
              have hn := HK.out
              have h2 := quoS_end (s := s) (k := k + 1) (by omega)
              rw [HQ.out] at ht hn
              exact ⟨k + 1, l ++ [s[k]], by omega, by simp; omega, by rw [arr_one], by go_num, HM.out.alloc HM.out.size _, by rw [h2, HE.out]; simpa using ht, by rw [h2]; simp only [] at hn ⊢; omega⟩
            case measure => simp [intOf]; omega
        · have d2 : ((s[k].toNat : Int) == 92) = false := by simp; omega
          have HQ := Lib.hid (quoS_other hlt hq hy)
          clear hy hq
          have hcv := conv_one s[k]
          go_wp2
          go_roundw
          case rel =>
            have ht := HT.out
            have hn := HK.out
            rw [HQ.out] at ht hn
            exact ⟨k + 1, l ++ [s[k]], by omega, by simp; omega, by rw [arr_one], by go_num, HM.out.alloc HM.out.size _, by simpa using ht, by simp only [] at hn; omega⟩
          case measure => simp [intOf]; omega
    · obtain rfl : k = s.size := by omega
      go_wp2
      refine bodyPost_ret (v := .tuple #[.string ⟨l.toArray⟩, .int .i64 (s.size : Nat)]) (by simp [results, Try.results36, go_sem]) rfl ⟨?_, HM.out⟩
      have ht := HT.out
      have hn := HK.out
      rw [quoS_end (s := s) (k := s.size) (by omega)] at ht hn
      rw [← ht, ← hn]
      simp

/-- The document's text in quotes, behind k bytes, as it is put together. -/
theorem arr_app (l : List UInt8) (s : ByteArray) : (⟨l.toArray⟩ : ByteArray) ++ s = ⟨(l ++ s.data.toList).toArray⟩ := by
  apply ByteArray.ext
  rw [ByteArray.data_append]
  simp

set_option maxHeartbeats 2000000 in
theorem refSerial_any (s : ByteArray) (w : World) (hs : s.size ≤ 35184372088832) :
    Calls Try.prog 45 #[.string s] w fun e w' => e = .returned (.string (serS s)) ∧ Below w.heap.size w w' := by
  go_enter Try.func45, Try.ntmps45
  go_wp2
  go_loopw [3, 4] (fun o i wr => ∃ k : Nat, k ≤ s.size ∧ o = .string ⟨(34 :: serL (s.data.toList.take k)).toArray⟩ ∧ i = .int .i64 k ∧ Below w.heap.size w wr) (fun _ i _ => s.size - (intOf i).toNat)
  case atStart => exact ⟨0, by omega, rfl, rfl, Below.refl _ _⟩
  case round =>
    obtain ⟨k, hk, rfl, rfl, hm⟩ := hrel
    have HM := Lib.hid hm
    have hl1 := serL_len (s.data.toList.take k)
    have hl : (serL (s.data.toList.take k)).length ≤ 2 * k := by simp at hl1; omega
    clear hm hl1
    by_cases hlt : k < s.size
    · have HX := Lib.hid (show (s.extract k (k + 1)).data.toList = [s[k]] from by rw [bytes_extract_cons (by omega) (by omega), bytes_extract_none])
      by_cases hy : s[k].toNat = 34 ∨ s[k].toNat = 92
      · have HE := Lib.hid (show 34 :: serL (s.data.toList.take (k + 1)) = 34 :: serL (s.data.toList.take k) ++ [92] ++ [s[k]] from by rw [take_snoc s k hlt, serL_append, serL_yes hy]; simp)
        have HR : ∀ K : Prop, ((((s[k].toNat : Int) == 34) = true → K) ∧ (((s[k].toNat : Int) == 34) = false → ((s[k].toNat : Int) == 92) = true → K)) → K := by
          rintro K ⟨h1, h2⟩
          rcases hy with h | h
          · exact h1 (by rw [h]; rfl)
          · exact h2 (by rw [h]; rfl) (by rw [h]; rfl)
        clear hy
        refine HR _ ⟨fun d1 => ?_, fun d1 d2 => ?_⟩
        all_goals
          clear HR
          go_wp2
          go_roundw
          case rel => exact ⟨k + 1, by omega, by rw [HE.out, arr_one, arr_app, HX.out], by go_num, HM.out⟩
          case measure => simp [intOf]; omega
      · have d1 : ((s[k].toNat : Int) == 34) = false := by simp; omega
        have d2 : ((s[k].toNat : Int) == 92) = false := by simp; omega
        have HE := Lib.hid (show 34 :: serL (s.data.toList.take (k + 1)) = 34 :: serL (s.data.toList.take k) ++ [s[k]] from by rw [take_snoc s k hlt, serL_append, serL_no (by omega) (by omega)]; simp)
        clear hy
        go_wp2
        go_roundw
        case rel => exact ⟨k + 1, by omega, by rw [HE.out, arr_app, HX.out], by go_num, HM.out⟩
        case measure => simp [intOf]; omega
    · obtain rfl : k = s.size := by omega
      have HE := Lib.hid (show (⟨(34 :: serL (s.data.toList.take s.size) ++ [34]).toArray⟩ : ByteArray) = serS s from by rw [List.take_of_length_le (by simp)]; rfl)
      go_wp2
      go_ret
      exact ⟨by rw [← HE.out, ← arr_one]; rfl, HM.out⟩

end Go.Proofs.Ytancilcfbhfopaa
