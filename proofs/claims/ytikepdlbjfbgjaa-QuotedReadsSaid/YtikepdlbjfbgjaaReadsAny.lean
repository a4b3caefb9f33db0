/-
  The law QuotedReads returns true for any text and byte. Condition: the text is as long as a length can be.
-/
import Derived.Test.YtikepdlbjfbgjaaReadsLaw
namespace Go.Proofs.Ytikepdlbjfbgjaa
open Go.RowKit

theorem ref_from (u : ByteArray) (m : Nat) (W : World) (h : m < u.size) (hs : u.size ≤ 35184372088832) :
    Calls Try.prog 11 #[.string (u.extract m u.size)] W fun e w' => e = .returned (.tuple #[.string ⟨(quoS u (m + 1)).1.toArray⟩, .int .i64 (1 + (quoS u (m + 1)).2 : Nat)]) ∧ Below W.heap.size W w' := by
  have := refRead_any (u.extract m u.size) W (by simp; omega) (by simp; omega)
  have e : quoS (u.extract m u.size) 1 = quoS u (m + 1) := by
    unfold quoS
    rw [bytes_extract, List.drop_drop, List.take_of_length_le (by simp)]
  rwa [e] at this

theorem quotedReads_any (s : ByteArray) (b : UInt8) (w : World) (hs : s.size ≤ 9223372036854775807) :
    Calls Try.prog 3 #[.string s, .int .u8 (b.toNat : Int)] w fun e w' => e = .returned (.bool true) ∧ Below w.heap.size w w' := by
  have hu := cutB_size s 80
  obtain ⟨r, hr⟩ : ∃ r : Nat, r = b.toNat % 10 := ⟨_, rfl⟩
  have hm3 : (b.toNat : Int) % 10 = (r : Int) := by omega
  obtain ⟨m, hme⟩ : ∃ m : Nat, m = min r (cutB s 80).size := ⟨_, rfl⟩
  have hm' : m ≤ (cutB s 80).size := by omega
  have hy : ((((cutB s 80).extract 0 m).size : Int) != (m : Int)) = false := by
    rw [bne_eq_false_iff_eq]
    simp
    omega
  clear hr
  have key : ∀ K : Prop, (∀ (_ : ((cutB s 80).size : Int) == 0) (_ : ∀ h : 0 < (cutB s 80).size, ((cutB s 80)[0]).toNat ≠ 34), K) →
      (∀ (hr1 : 0 < (cutB s 80).size) (_ : (((cutB s 80).size : Int) == 0) = false) (_ : ((((cutB s 80)[0]).toNat : Int) != 34) = true) (_ : ∀ h : 0 < (cutB s 80).size, ((cutB s 80)[0]).toNat ≠ 34), K) →
      (∀ (hr1 : 0 < (cutB s 80).size) (_ : (((cutB s 80).size : Int) == 0) = false) (_ : ((((cutB s 80)[0]).toNat : Int) != 34) = false) (_ : ((cutB s 80)[0]).toNat = 34), K) → K := by
    intro K k1 k2 k3
    by_cases h0 : 0 < (cutB s 80).size
    · have h1 : (((cutB s 80).size : Int) == 0) = false := by rw [beq_eq_false_iff_ne]; omega
      by_cases h2 : ((cutB s 80)[0]).toNat = 34
      · exact k3 h0 h1 (by rw [h2]; rfl) h2
      · exact k2 h0 h1 (by rw [bne_iff_ne]; omega) fun _ => h2
    · exact k1 (by rw [beq_iff_eq]; omega) fun h => absurd h h0
  have key2 : ∀ K : Prop, (∀ (_ : ((m : Int) == ((cutB s 80).size : Int)) = true) (_ : ∀ h : m < (cutB s 80).size, ((cutB s 80)[m]).toNat ≠ 34), K) →
      (∀ (he1 : m < (cutB s 80).size) (_ : ((m : Int) == ((cutB s 80).size : Int)) = false) (_ : ((((cutB s 80)[m]).toNat : Int) != 34) = true) (_ : ∀ h : m < (cutB s 80).size, ((cutB s 80)[m]).toNat ≠ 34), K) →
      (∀ (he1 : m < (cutB s 80).size) (_ : ((m : Int) == ((cutB s 80).size : Int)) = false) (_ : ((((cutB s 80)[m]).toNat : Int) != 34) = false) (_ : ((cutB s 80)[m]).toNat = 34), K) → K := by
    intro K k1 k2 k3
    by_cases h0 : m < (cutB s 80).size
    · have h1 : ((m : Int) == ((cutB s 80).size : Int)) = false := by rw [beq_eq_false_iff_ne]; omega
      by_cases h2 : ((cutB s 80)[m]).toNat = 34
      · exact k3 h0 h1 (by rw [h2]; rfl) h2
      · exact k2 h0 h1 (by rw [bne_iff_ne]; omega) fun _ => h2
    · exact k1 (by rw [beq_iff_eq]; omega) fun h => absurd h h0
  by_cases hc : (cutB s 80).size < r
  · have hm : m = (cutB s 80).size := by omega
    have he0 : ((m : Int) == ((cutB s 80).size : Int)) = true := by rw [beq_iff_eq]; omega
    have hq1 : ∀ h : m < (cutB s 80).size, ((cutB s 80)[m]).toNat ≠ 34 := fun h => absurd h (by omega)
    refine key _ (fun hr0 hq0 => ?_) (fun hr1 hr0 hr2 hq0 => ?_) (fun hr1 hr0 hr2 hq0 => ?_)
    · exact reads_none_far_end s (cutB s 80) ⟨#[]⟩ ((cutB s 80).extract 0 m) ⟨#[]⟩ ⟨#[]⟩ b r m 0 0 (decide ((128 : Int) ≤ (b.toNat : Int))) rfl w hu hy hr0 hc hm3 hm he0 (fun W hW => (cut_any s 80 W hs).mono fun _ _ h => ⟨h.1, by rw [← h.2]; exact hW⟩) (fun W hW => (read_bad (cutB s 80) W hq0 (by omega)).mono fun _ _ h => ⟨h.1, hW.trans (h.2.mono hW.size)⟩) (fun W cb hC => by have := value_skip cb 0 m (cutB s 80) W hC (by omega) (by omega); simpa only [Nat.zero_add] using this) (fun W cb hC => value_bad cb m _ (cutB s 80) W hC hm' hq1 (by omega)) (fun W hW => (lives4_any W).mono fun _ _ h => ⟨h.1, hW.trans (h.2.mono hW.size)⟩)
    · exact reads_other_far_end s (cutB s 80) ⟨#[]⟩ ((cutB s 80).extract 0 m) ⟨#[]⟩ ⟨#[]⟩ b r m 0 0 (decide ((128 : Int) ≤ (b.toNat : Int))) rfl w hu hy hr1 hr0 hr2 hc hm3 hm he0 (fun W hW => (cut_any s 80 W hs).mono fun _ _ h => ⟨h.1, by rw [← h.2]; exact hW⟩) (fun W hW => (read_bad (cutB s 80) W hq0 (by omega)).mono fun _ _ h => ⟨h.1, hW.trans (h.2.mono hW.size)⟩) (fun W cb hC => by have := value_skip cb 0 m (cutB s 80) W hC (by omega) (by omega); simpa only [Nat.zero_add] using this) (fun W cb hC => value_bad cb m _ (cutB s 80) W hC hm' hq1 (by omega)) (fun W hW => (lives4_any W).mono fun _ _ h => ⟨h.1, hW.trans (h.2.mono hW.size)⟩)
    · exact reads_quote_far_end s (cutB s 80) ⟨(quoS (cutB s 80) 1).1.toArray⟩ ((cutB s 80).extract 0 m) ⟨#[]⟩ ⟨#[]⟩ b r m (1 + (quoS (cutB s 80) 1).2) 0 (decide ((128 : Int) ≤ (b.toNat : Int))) rfl w hu hy hr1 hr0 hr2 hc hm3 hm he0 (fun W hW => (cut_any s 80 W hs).mono fun _ _ h => ⟨h.1, by rw [← h.2]; exact hW⟩) (fun W hW => (read_ok (cutB s 80) W hr1 hq0 (by omega)).mono fun _ _ h => ⟨h.1, hW.trans (h.2.mono hW.size)⟩) (fun W cb hC => by have := value_skip cb 0 m (cutB s 80) W hC (by omega) (by omega); simpa only [Nat.zero_add] using this) (fun W cb hC => value_bad cb m _ (cutB s 80) W hC hm' hq1 (by omega)) (fun W hW => (lives4_any W).mono fun _ _ h => ⟨h.1, hW.trans (h.2.mono hW.size)⟩) (fun W => refRead_any (cutB s 80) W hr1 (by omega))
  · have hrm : m = r := by omega
    subst hrm
    have r := 0
    have hm : m ≤ (cutB s 80).size := hm'
    refine key _ (fun hr0 hq0 => ?_) (fun hr1 hr0 hr2 hq0 => ?_) (fun hr1 hr0 hr2 hq0 => ?_)
    · have hz : (cutB s 80).size = 0 := by have := beq_iff_eq.1 hr0; omega
      have he0 : ((m : Int) == ((cutB s 80).size : Int)) = true := by rw [beq_iff_eq]; omega
      have hq1 : ∀ h : m < (cutB s 80).size, ((cutB s 80)[m]).toNat ≠ 34 := fun h => absurd h (by omega)
      exact reads_none_in_end s (cutB s 80) ⟨#[]⟩ ((cutB s 80).extract 0 m) ⟨#[]⟩ ⟨#[]⟩ b r m 0 0 (decide ((128 : Int) ≤ (b.toNat : Int))) rfl w hu hy hr0 hm hm3 he0 (fun W hW => (cut_any s 80 W hs).mono fun _ _ h => ⟨h.1, by rw [← h.2]; exact hW⟩) (fun W hW => (read_bad (cutB s 80) W hq0 (by omega)).mono fun _ _ h => ⟨h.1, hW.trans (h.2.mono hW.size)⟩) (fun W cb hC => by have := value_skip cb 0 m (cutB s 80) W hC (by omega) (by omega); simpa only [Nat.zero_add] using this) (fun W cb hC => value_bad cb m _ (cutB s 80) W hC hm' hq1 (by omega)) (fun W hW => (lives4_any W).mono fun _ _ h => ⟨h.1, hW.trans (h.2.mono hW.size)⟩)
    · refine key2 _ (fun he0 hq1 => ?_) (fun he1 he0 he2 hq1 => ?_) (fun he1 he0 he2 hq1 => ?_)
      · exact reads_other_in_end s (cutB s 80) ⟨#[]⟩ ((cutB s 80).extract 0 m) ⟨#[]⟩ ⟨#[]⟩ b r m 0 0 (decide ((128 : Int) ≤ (b.toNat : Int))) rfl w hu hy hr1 hr0 hr2 hm hm3 he0 (fun W hW => (cut_any s 80 W hs).mono fun _ _ h => ⟨h.1, by rw [← h.2]; exact hW⟩) (fun W hW => (read_bad (cutB s 80) W hq0 (by omega)).mono fun _ _ h => ⟨h.1, hW.trans (h.2.mono hW.size)⟩) (fun W cb hC => by have := value_skip cb 0 m (cutB s 80) W hC (by omega) (by omega); simpa only [Nat.zero_add] using this) (fun W cb hC => value_bad cb m _ (cutB s 80) W hC hm' hq1 (by omega)) (fun W hW => (lives4_any W).mono fun _ _ h => ⟨h.1, hW.trans (h.2.mono hW.size)⟩)
      · exact reads_other_in_other s (cutB s 80) ⟨#[]⟩ ((cutB s 80).extract 0 m) ⟨#[]⟩ ⟨#[]⟩ b r m 0 0 (decide ((128 : Int) ≤ (b.toNat : Int))) rfl w hu hy hr1 hr0 hr2 hm hm3 he1 he0 he2 (fun W hW => (cut_any s 80 W hs).mono fun _ _ h => ⟨h.1, by rw [← h.2]; exact hW⟩) (fun W hW => (read_bad (cutB s 80) W hq0 (by omega)).mono fun _ _ h => ⟨h.1, hW.trans (h.2.mono hW.size)⟩) (fun W cb hC => by have := value_skip cb 0 m (cutB s 80) W hC (by omega) (by omega); simpa only [Nat.zero_add] using this) (fun W cb hC => value_bad cb m _ (cutB s 80) W hC hm' hq1 (by omega)) (fun W hW => (lives4_any W).mono fun _ _ h => ⟨h.1, hW.trans (h.2.mono hW.size)⟩)
      · have hqle := quoS_le (s := cutB s 80) (k := m + 1) (by omega)
        by_cases hx : (128 : Int) ≤ (b.toNat : Int)
        · exact reads_other_in_said s (cutB s 80) ⟨#[]⟩ ((cutB s 80).extract 0 m) ⟨(quoS (cutB s 80) (m + 1)).1.toArray⟩ ⟨(quoS (cutB s 80) (m + 1)).1.toArray⟩ b r m 0 (1 + (quoS (cutB s 80) (m + 1)).2) hx w hu hy (by omega) rfl hr1 hr0 hr2 hm hm3 he1 he0 he2 (fun W hW => (cut_any s 80 W hs).mono fun _ _ h => ⟨h.1, by rw [← h.2]; exact hW⟩) (fun W hW => (read_bad (cutB s 80) W hq0 (by omega)).mono fun _ _ h => ⟨h.1, hW.trans (h.2.mono hW.size)⟩) (fun W cb hC => by have := value_skip cb 0 m (cutB s 80) W hC (by omega) (by omega); simpa only [Nat.zero_add] using this) (fun W cb hC => by have := value_said cb m (cutB s 80) W hC he1 hq1 (by omega); simpa only [Nat.add_assoc] using this) (fun W hW => (lives4_any W).mono fun _ _ h => ⟨h.1, hW.trans (h.2.mono hW.size)⟩) (fun W => ref_from (cutB s 80) m W he1 (by omega))
        · have hx : (b.toNat : Int) < 128 := by omega
          exact reads_other_in_all s (cutB s 80) ⟨#[]⟩ ((cutB s 80).extract 0 m) ((cutB s 80).extract m (m + (1 + (quoS (cutB s 80) (m + 1)).2))) ⟨(quoS (cutB s 80) (m + 1)).1.toArray⟩ b r m 0 (1 + (quoS (cutB s 80) (m + 1)).2) (by simp; omega) (by simp; omega) w hu hy (by omega) (by simp) hr1 hr0 hr2 hm hm3 he1 he0 he2 (fun W hW => (cut_any s 80 W hs).mono fun _ _ h => ⟨h.1, by rw [← h.2]; exact hW⟩) (fun W hW => (read_bad (cutB s 80) W hq0 (by omega)).mono fun _ _ h => ⟨h.1, hW.trans (h.2.mono hW.size)⟩) (fun W cb hC => by have := value_skip cb 0 m (cutB s 80) W hC (by omega) (by omega); simpa only [Nat.zero_add] using this) (fun W cb hC => by have := value_all cb m (cutB s 80) W hC he1 hq1 (by omega); simpa only [Nat.add_assoc] using this) (fun W hW => (lives4_any W).mono fun _ _ h => ⟨h.1, hW.trans (h.2.mono hW.size)⟩) (fun W => ref_from (cutB s 80) m W he1 (by omega))
    · refine key2 _ (fun he0 hq1 => ?_) (fun he1 he0 he2 hq1 => ?_) (fun he1 he0 he2 hq1 => ?_)
      · exact reads_quote_in_end s (cutB s 80) ⟨(quoS (cutB s 80) 1).1.toArray⟩ ((cutB s 80).extract 0 m) ⟨#[]⟩ ⟨#[]⟩ b r m (1 + (quoS (cutB s 80) 1).2) 0 (decide ((128 : Int) ≤ (b.toNat : Int))) rfl w hu hy hr1 hr0 hr2 hm hm3 he0 (fun W hW => (cut_any s 80 W hs).mono fun _ _ h => ⟨h.1, by rw [← h.2]; exact hW⟩) (fun W hW => (read_ok (cutB s 80) W hr1 hq0 (by omega)).mono fun _ _ h => ⟨h.1, hW.trans (h.2.mono hW.size)⟩) (fun W cb hC => by have := value_skip cb 0 m (cutB s 80) W hC (by omega) (by omega); simpa only [Nat.zero_add] using this) (fun W cb hC => value_bad cb m _ (cutB s 80) W hC hm' hq1 (by omega)) (fun W hW => (lives4_any W).mono fun _ _ h => ⟨h.1, hW.trans (h.2.mono hW.size)⟩) (fun W => refRead_any (cutB s 80) W hr1 (by omega))
      · exact reads_quote_in_other s (cutB s 80) ⟨(quoS (cutB s 80) 1).1.toArray⟩ ((cutB s 80).extract 0 m) ⟨#[]⟩ ⟨#[]⟩ b r m (1 + (quoS (cutB s 80) 1).2) 0 (decide ((128 : Int) ≤ (b.toNat : Int))) rfl w hu hy hr1 hr0 hr2 hm hm3 he1 he0 he2 (fun W hW => (cut_any s 80 W hs).mono fun _ _ h => ⟨h.1, by rw [← h.2]; exact hW⟩) (fun W hW => (read_ok (cutB s 80) W hr1 hq0 (by omega)).mono fun _ _ h => ⟨h.1, hW.trans (h.2.mono hW.size)⟩) (fun W cb hC => by have := value_skip cb 0 m (cutB s 80) W hC (by omega) (by omega); simpa only [Nat.zero_add] using this) (fun W cb hC => value_bad cb m _ (cutB s 80) W hC hm' hq1 (by omega)) (fun W hW => (lives4_any W).mono fun _ _ h => ⟨h.1, hW.trans (h.2.mono hW.size)⟩) (fun W => refRead_any (cutB s 80) W hr1 (by omega))
      · have hqle := quoS_le (s := cutB s 80) (k := m + 1) (by omega)
        by_cases hx : (128 : Int) ≤ (b.toNat : Int)
        · exact reads_quote_in_said s (cutB s 80) ⟨(quoS (cutB s 80) 1).1.toArray⟩ ((cutB s 80).extract 0 m) ⟨(quoS (cutB s 80) (m + 1)).1.toArray⟩ ⟨(quoS (cutB s 80) (m + 1)).1.toArray⟩ b r m (1 + (quoS (cutB s 80) 1).2) (1 + (quoS (cutB s 80) (m + 1)).2) hx w hu hy (by omega) rfl hr1 hr0 hr2 hm hm3 he1 he0 he2 (fun W hW => (cut_any s 80 W hs).mono fun _ _ h => ⟨h.1, by rw [← h.2]; exact hW⟩) (fun W hW => (read_ok (cutB s 80) W hr1 hq0 (by omega)).mono fun _ _ h => ⟨h.1, hW.trans (h.2.mono hW.size)⟩) (fun W cb hC => by have := value_skip cb 0 m (cutB s 80) W hC (by omega) (by omega); simpa only [Nat.zero_add] using this) (fun W cb hC => by have := value_said cb m (cutB s 80) W hC he1 hq1 (by omega); simpa only [Nat.add_assoc] using this) (fun W hW => (lives4_any W).mono fun _ _ h => ⟨h.1, hW.trans (h.2.mono hW.size)⟩) (fun W => refRead_any (cutB s 80) W hr1 (by omega)) (fun W => ref_from (cutB s 80) m W he1 (by omega))
        · have hx : (b.toNat : Int) < 128 := by omega
          exact reads_quote_in_all s (cutB s 80) ⟨(quoS (cutB s 80) 1).1.toArray⟩ ((cutB s 80).extract 0 m) ((cutB s 80).extract m (m + (1 + (quoS (cutB s 80) (m + 1)).2))) ⟨(quoS (cutB s 80) (m + 1)).1.toArray⟩ b r m (1 + (quoS (cutB s 80) 1).2) (1 + (quoS (cutB s 80) (m + 1)).2) (by simp; omega) (by simp; omega) w hu hy (by omega) (by simp) hr1 hr0 hr2 hm hm3 he1 he0 he2 (fun W hW => (cut_any s 80 W hs).mono fun _ _ h => ⟨h.1, by rw [← h.2]; exact hW⟩) (fun W hW => (read_ok (cutB s 80) W hr1 hq0 (by omega)).mono fun _ _ h => ⟨h.1, hW.trans (h.2.mono hW.size)⟩) (fun W cb hC => by have := value_skip cb 0 m (cutB s 80) W hC (by omega) (by omega); simpa only [Nat.zero_add] using this) (fun W cb hC => by have := value_all cb m (cutB s 80) W hC he1 hq1 (by omega); simpa only [Nat.add_assoc] using this) (fun W hW => (lives4_any W).mono fun _ _ h => ⟨h.1, hW.trans (h.2.mono hW.size)⟩) (fun W => refRead_any (cutB s 80) W hr1 (by omega)) (fun W => ref_from (cutB s 80) m W he1 (by omega))

end Go.Proofs.Ytikepdlbjfbgjaa
