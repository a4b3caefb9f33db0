/-
  What the document's own Read and Serial of layer 4 answer. Condition: the text takes at most 2^45 bytes.
-/
import Derived.Test.YtmepnfkgfbbkiaaGreatConv
import Derived.Test.YtmepnfkgfbbkiaaGreatQuo
import Derived.Test.YtmepnfkgfbbkiaaGreatMv
import Derived.LoopTactic
import Derived.WalkKit
import Derived.WalkSpells
import Derived.WalkLawsBesides
import Derived.Lib.Hide
import Derived.Outline
namespace Go.Proofs.YtmepnfkgfbbkiaaGreat
open Go.RowKit

theorem arr_one (l : List UInt8) (b : UInt8) : (⟨l.toArray⟩ : ByteArray) ++ ⟨#[b]⟩ = ⟨(l ++ [b]).toArray⟩ := by
  apply ByteArray.ext
  rw [ByteArray.data_append]
  simp

set_option maxHeartbeats 2000000 in
theorem refRead_any (s : ByteArray) (w : World) (h0 : 0 < s.size) (hs : s.size ≤ 35184372088832) :
    Calls Tryz.prog 46 #[.string s] w fun e w' => e = .returned (.tuple #[.string ⟨(quoS s 1).1.toArray⟩, .int .i64 (1 + (quoS s 1).2 : Nat)]) ∧ Below w.heap.size w w' := by
  go_enter Tryz.func46, Tryz.ntmps46
  go_wp2
  go_loopw [4, 5] (fun o i wr => ∃ (k : Nat) (l : List UInt8), k ≤ s.size ∧ l.length ≤ k ∧ o = .string ⟨l.toArray⟩ ∧ i = .int .i64 k ∧ Below w.heap.size w wr ∧ l ++ (quoS s k).1 = (quoS s 1).1 ∧ k + (quoS s k).2 = 1 + (quoS s 1).2) (fun _ i _ => s.size - (intOf i).toNat)
  case atStart => exact ⟨1, [], by omega, by simp, rfl, rfl, Below.refl _ _, by simp, rfl⟩
  case round =>
    obtain ⟨k, l, hk, hl, rfl, rfl, hm, ht, hn⟩ := hrel
    have HT := Lib.hid ht
    have HK := Lib.hid hn
    have HM := Lib.hid hm
    clear ht hn hm
    by_cases hlt : k < s.size
    · by_cases hq : s[k].toNat = 34
      · have d1 : ((s[k].toNat : Int) == 34) = true := by rw [hq]; rfl
        have HQ := Lib.hid (quoS_quote hlt hq)
        clear hq
        go_wp2
        refine bodyPost_ret (v := .tuple #[.string ⟨l.toArray⟩, .int .i64 (k + 1 : Nat)]) (by simp [results, Tryz.results46, go_sem]) rfl ⟨?_, HM.out⟩
        have ht := HT.out
        have hn := HK.out
        rw [HQ.out] at ht hn
        rw [← ht, ← hn]
        simp
      · have d1 : ((s[k].toNat : Int) == 34) = false := by simp; omega
        by_cases hy : s[k].toNat = 92
        · have d2 : ((s[k].toNat : Int) == 92) = true := by rw [hy]; rfl
          by_cases hlast : k + 1 < s.size
          · have HQ := Lib.hid (quoS_slash hlast hy)
            have d3 : decide (k + 1 < s.size) = true := by simpa using hlast
            have d4 : decide ((k : Int) + 1 < (s.size : Int)) = true := by simp; omega
            clear hy hq
            have hcv := conv_one s[k + 1]
            go_wp2
            go_roundw
            case rel =>
              have ht := HT.out
              have hn := HK.out
              rw [HQ.out] at ht hn
              exact ⟨k + 1 + 1, l ++ [s[k + 1]], by omega, by simp; omega, by rw [arr_one], by go_num, HM.out.alloc HM.out.size _, by simpa using ht, by simp only [] at hn; omega⟩
            case measure => simp [intOf]; omega
          · have HQ := Lib.hid (quoS_slash_end hlt (by omega) hy)
            have d3 : decide (k + 1 < s.size) = false := by simpa using hlast
            have d4 : decide ((k : Int) + 1 < (s.size : Int)) = false := by simp; omega
            have HE := Lib.hid (show s[k] = 92 from UInt8.toNat_inj.1 (by rw [hy]; rfl))
            clear hy hq
            have hcv := conv_one s[k]
            go_wp2
            go_roundw
            case rel =>
              have ht := HT.out
              have hn := HK.out
              have h2 := quoS_end (s := s) (k := k + 1) (by omega)
              rw [HQ.out] at ht hn
              exact ⟨k + 1, l ++ [s[k]], by omega, by simp; omega, by rw [arr_one], by go_num, HM.out.alloc HM.out.size _, by rw [h2, HE.out]; simpa using ht, by rw [h2]; simp only [] at hn ⊢; omega⟩
            case measure => simp [intOf]; omega
        · have d2 : ((s[k].toNat : Int) == 92) = false := by simp; omega
          have HQ := Lib.hid (quoS_other hlt hq hy)
          clear hy hq
          have hcv := conv_one s[k]
          go_wp2
          go_roundw
          case rel =>
            have ht := HT.out
            have hn := HK.out
            rw [HQ.out] at ht hn
            exact ⟨k + 1, l ++ [s[k]], by omega, by simp; omega, by rw [arr_one], by go_num, HM.out.alloc HM.out.size _, by simpa using ht, by simp only [] at hn; omega⟩
          case measure => simp [intOf]; omega
    · obtain rfl : k = s.size := by omega
      go_wp2
      refine bodyPost_ret (v := .tuple #[.string ⟨l.toArray⟩, .int .i64 (s.size : Nat)]) (by simp [results, Tryz.results46, go_sem]) rfl ⟨?_, HM.out⟩
      have ht := HT.out
      have hn := HK.out
      rw [quoS_end (s := s) (k := s.size) (by omega)] at ht hn
      rw [← ht, ← hn]
      simp

/-- The document's text in quotes, behind k bytes, as it is put together. -/
theorem arr_app (l : List UInt8) (s : ByteArray) : (⟨l.toArray⟩ : ByteArray) ++ s = ⟨(l ++ s.data.toList).toArray⟩ := by
  apply ByteArray.ext
  rw [ByteArray.data_append]
  simp

end Go.Proofs.YtmepnfkgfbbkiaaGreat
