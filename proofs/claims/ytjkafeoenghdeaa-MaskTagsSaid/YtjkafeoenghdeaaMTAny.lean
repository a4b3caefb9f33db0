/-
  The law MaskTags returns true for any text, two texts and number: what it asks of its callees, paid. Condition: texts are as long as a length can be.
-/
import Derived.Test.YtjkafeoenghdeaaMTLaw
namespace Go.Proofs.Ytjkafeoenghdeaa
open Go.RowKit

theorem maskTags_any (s t0 t1 : ByteArray) (n : Int) (w : World) (hs : s.size ≤ 9223372036854775807) (h0 : t0.size ≤ 9223372036854775807) (h1 : t1.size ≤ 9223372036854775807) :
    Calls Try.prog 5 #[.string s, .agg #[.string t0, .string t1], .int .i64 n] w fun e w' => e = .returned (.bool true) ∧ Below w.heap.size w w' := by
  have HK : Hid (∀ W, Calls Try.prog 6 #[.string t0, .int .i64 20] W fun e w' => e = .returned (.string (cutB t0 20)) ∧ W = w') := fun W => cut_any t0 20 W h0
  have HT : Hid (∀ W, Calls Try.prog 6 #[.string t1, .int .i64 60] W fun e w' => e = .returned (.string (cutB t1 60)) ∧ W = w') := fun W => cut_any t1 60 W h1
  have HS : Hid (∀ W, Calls Try.prog 6 #[.string s, .int .i64 40] W fun e w' => e = .returned (.string (cutB s 40)) ∧ W = w') := fun W => cut_any s 40 W hs
  have hK := cutB_size t0 20
  have hT := cutB_size t1 60
  have hS := cutB_size s 40
  generalize cutB t0 20 = K at *
  generalize cutB t1 60 = T at *
  generalize cutB s 40 = S at *
  have hb : (upS S).size ≤ 9223372036854775807 := by rw [upS_size]; omega
  have hm : (mskS S).size ≤ 9223372036854775807 := by rw [mskS_size]; omega
  have hk : blk5.size ≤ 9223372036854775807 := of_decide_eq_true rfl
  have hSs : S.size ≤ 9223372036854775807 := by omega
  have hLT : (lowS S ++ T).size ≤ 9223372036854775807 := by simp [lowS_size]; omega
  refine tags_walk s t0 t1 S K T (upS S) (mskS S) blk5 n (begN blk5 S) w hT hS HK HT HS (fun W => tag_any S K W (by omega) (by omega)) (fun W => refTag_any S K W (by omega) (by omega)) (fun W => ends_any T n W (by omega))
    (fun W => refBegins_any S (upS S) (mskS S) blk5 K W hSs hk) ?_ (fun W => refLowerS_any S W (by omega)) ?_ (fun W => mlives_any W)
  · intro h0 hz W
    have := match_any S (upS S) (mskS S) blk5 K W hSs hb hm hk
    rwa [tag_self h0 (by omega) hz] at this
  · intro h0 hz W
    have := match_any (lowS S ++ T) (upS S) (mskS S) blk5 K W hLT hb hm hk
    rwa [tag_low T h0 (by omega) hz] at this

end Go.Proofs.Ytjkafeoenghdeaa
