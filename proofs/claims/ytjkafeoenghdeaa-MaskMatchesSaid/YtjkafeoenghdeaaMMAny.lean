/-
  The law MaskMatches returns true for any text, pattern and text behind: the four ways together. Condition: texts are as long as a length can be.
-/
import Derived.Test.YtjkafeoenghdeaaMMLaw
namespace Go.Proofs.Ytjkafeoenghdeaa
open Go.RowKit

theorem cutB_le (s : ByteArray) (n : Nat) : (cutB s n).size ≤ s.size := by
  unfold cutB
  split
  · simp; omega
  · omega
theorem few_ok (p : Pat) : (fewP p).ok := by
  have h0 := cutB_size p.b 70
  have h1 := cutB_size p.m 70
  have h2 := cutB_size p.k 20
  exact ⟨by unfold fewP; simp only; omega, by unfold fewP; simp only; omega, by unfold fewP; simp only; omega⟩

theorem maskMatches_any (s more : ByteArray) (p : Pat) (w : World) (hs : s.size ≤ 9223372036854775807) (hmo : more.size ≤ 9223372036854775807) (hp : p.ok) (hpt : p.t.size ≤ 9223372036854775807) :
    Calls Try.prog 3 #[.string s, patV p.b p.m p.k p.t, .string more] w fun e w' => e = .returned (.bool true) ∧ Below w.heap.size w w' := by
  have HCS : Hid (∀ W, Calls Try.prog 6 #[.string s, .int .i64 150] W fun e w' => e = .returned (.string (cutB s 150)) ∧ W = w') := fun W => cut_any s 150 W hs
  have HCM : Hid (∀ W, Calls Try.prog 6 #[.string more, .int .i64 100] W fun e w' => e = .returned (.string (cutB more 100)) ∧ W = w') := fun W => cut_any more 100 W hmo
  have HFW := Lib.hid (fun W => few_any p W hp hpt)
  have hu := cutB_size s 150
  have hv := cutB_size more 100
  have hq := few_ok p
  generalize cutB s 150 = u at *
  generalize cutB more 100 = v at *
  generalize fewP p = q at *
  obtain ⟨q0, q1, q2⟩ := hq
  have hus : u.size ≤ 9223372036854775807 := by omega
  have huv : (u ++ v).size ≤ 9223372036854775807 := by simp; omega
  have HMT := Lib.hid (fun W => match_any u q.b q.m q.k q.t W hus q0 q1 q2)
  have HOP := Lib.hid (fun W => open_any u q.b q.m q.k q.t W hus q0 q1 q2)
  have HGD := Lib.hid (fun W => good_any q.b q.m q.k q.t W q0 q1)
  have HRG := Lib.hid (fun W => refGood_any q.b q.m q.k q.t W q0 q1)
  have HBG := Lib.hid (fun W => mbegins_any u q.b q.m q.k q.t W hus q2)
  have HRB := Lib.hid (fun W => refBegins_any u q.b q.m q.k q.t W hus q2)
  have HRM := Lib.hid (fun W => refMatch_any u q.b q.m q.k q.t W hus q0 q1 q2)
  have HMV := Lib.hid (fun W => match_any (u ++ v) q.b q.m q.k q.t W huv q0 q1 q2)
  have HLV := Lib.hid (fun W => mlives_any W)
  cases hg : goodP q.b q.m
  · have ha : matB u q.b q.m q.k = false := by unfold matB; rw [hg]; rfl
    have ho : opnB u q.b q.m q.k = false := by unfold opnB; rw [hg]; rfl
    rw [ha] at HMT HRM
    rw [ho] at HOP
    rw [hg] at HGD HRG
    exact matches_none s more u v p q _ w hu hv HCS HCM HFW HMT HOP HGD HRG HBG HRB HRM HLV
  · have hms : q.m.size = q.b.size := by unfold goodP at hg; simp only [Bool.and_eq_true, decide_eq_true_eq] at hg; omega
    have HIS := Lib.hid (fun W => refIs_any u q.b q.m q.k q.t W hus q0 q2 hms _ _ rfl rfl)
    have ha : matB u q.b q.m q.k = (decide (q.b.size ≤ (restS u q.k).size) && fitB (restS u q.k) q.b q.m) := by unfold matB; rw [hg]; rfl
    have ho : opnB u q.b q.m q.k = (decide ((restS u q.k).size < q.b.size) && fitB (restS u q.k) q.b q.m) := by unfold opnB; rw [hg]; rfl
    have hd : decide ((restS u q.k).size < q.b.size) = !decide (q.b.size ≤ (restS u q.k).size) := by
      rw [Bool.eq_iff_iff]
      simp
    rw [hd] at ho
    rw [hg] at HGD HRG
    cases hf : fitB (restS u q.k) q.b q.m
    · rw [hf] at ha ho HIS
      rw [Bool.and_false] at ha ho
      have hmv := mat_less v ha ho
      rw [ha] at HMT HRM
      rw [ho] at HOP
      rw [hmv] at HMV
      exact matches_not s more u v p q _ w hu hv HCS HCM HFW HMT HOP HGD HRG HBG HRB HRM HIS HMV HLV
    · cases hl : decide (q.b.size ≤ (restS u q.k).size)
      · rw [hf, hl] at ha ho HIS
        rw [show (false && true) = false from rfl] at ha
        rw [show (!false && true) = true from rfl] at ho
        rw [ha] at HMT HRM
        rw [ho] at HOP
        exact matches_part s more u v p q _ w hu hv HCS HCM HFW HMT HOP HGD HRG HBG HRB HRM HIS HLV
      · rw [hf, hl] at ha ho HIS
        rw [show (true && true) = true from rfl] at ha
        rw [show (!true && true) = false from rfl] at ho
        have hmv := mat_more v ha
        rw [ha] at HMT HRM
        rw [ho] at HOP
        rw [hmv] at HMV
        exact matches_all s more u v p q _ w hu hv HCS HCM HFW HMT HOP HGD HRG HBG HRB HRM HIS HMV HLV

end Go.Proofs.Ytjkafeoenghdeaa
