/-
  What the library's Cut at a point, package jnum's power and the document's own power of layer 9 answer. Conditions: texts as long as a length can be; what stands behind an e is a sign, or none, and digits.
-/
import Derived.Test.YthiclminkbnibaaDoorJb
import Derived.Test.YthiclminkbnibaaDoorSh9
import Derived.Test.YthiclminkbnibaaDoorDec2
import Derived.Deep.QuietTactic
import Derived.BigQuiet
import Derived.IntWalk
namespace Go.Proofs.YthiclminkbnibaaDoor
open Go.RowKit

/-- Where a point stands first. -/
theorem indexByte_take : ∀ (l : List UInt8), Lib.indexByte l 46 = if l.dropWhile notDot = [] then -1 else ((uL l).length : Int)
  | [] => rfl
  | b :: l => by
    have ih := indexByte_take l
    unfold uL at *
    by_cases hb : b = 46
    · subst hb
      rw [List.dropWhile_cons_of_neg (by decide), List.takeWhile_cons_of_neg (by decide)]
      rfl
    · have hd : notDot b = true := by
        unfold notDot dotB
        simp
        intro h
        exact hb (UInt8.toNat_inj.1 h)
      rw [List.dropWhile_cons_of_pos hd, List.takeWhile_cons_of_pos hd]
      unfold Lib.indexByte
      rw [if_neg (by simpa using hb), ih]
      by_cases h : l.dropWhile notDot = []
      · rw [if_pos h, if_pos h]; rfl
      · rw [if_neg h, if_neg h, if_neg (by simp)]
        simp

theorem take_uL (a : List UInt8) : a.take (uL a).length = uL a := by
  have := List.takeWhile_append_dropWhile (p := notDot) (l := a)
  unfold uL
  conv => lhs; rw [← this]
  rw [List.takeWhile_append_dropWhile]
  conv => lhs; arg 2; rw [← this]
  rw [List.take_left]
theorem drop_uL (a : List UInt8) : a.drop ((uL a).length + 1) = bL a := by
  have := List.takeWhile_append_dropWhile (p := notDot) (l := a)
  unfold uL bL
  rw [← List.drop_drop]
  congr 1
  conv => lhs; arg 2; rw [← this]
  rw [List.drop_left]

set_option maxHeartbeats 1000000 in
theorem cut1_any (a : List UInt8) (w : World) (ha : a.length ≤ 9223372036854775807) :
    Calls Tryd.prog 44 #[.string (bs a), .string ⟨#[46]⟩] w fun e w' => (∃ f, e = .returned (.tuple #[.string (bs (uL a)), .string (bs (bL a)), .bool f])) ∧ ∃ n, w' = w.drewN n := by
  have HI : Hid (∀ W, Calls Tryd.prog 68 #[.string (bs a), .string ⟨#[46]⟩] W fun e w' => e = .returned (.int .i64 (Lib.indexByte a 46)) ∧ W = w') := fun W => by
    have := stringslite_Index_one (bs a) 46 W
    rw [bs_list] at this
    exact this.mono fun _ _ h => ⟨h.1, h.2.symm⟩
  rw [indexByte_take] at HI
  have hz := bs_size a
  have hle := takeW_len notDot a
  by_cases h : a.dropWhile notDot = []
  · rw [if_pos h] at HI
    have eu : uL a = a := by
      have := List.takeWhile_append_dropWhile (p := notDot) (l := a)
      rw [h, List.append_nil] at this
      exact this
    have eb : bL a = [] := by unfold bL; rw [h]; rfl
    rw [eu, eb]
    have HS := Lib.hid hz
    clear eu eb h hz hle
    go_enter Tryd.func44, Tryd.ntmps44
    go_wp2_with (go_at_call 68; refine (HI.out _).mono ?_; rintro e w' ⟨rfl, rfl⟩)
    go_ret3
    exact ⟨⟨_, rfl⟩, 0, rfl⟩
  · rw [if_neg h] at HI
    have hlt : (uL a).length < a.length := by
      have h1 := congrArg List.length (List.takeWhile_append_dropWhile (p := notDot) (l := a))
      rw [List.length_append] at h1
      have h2 : 0 < (a.dropWhile notDot).length := List.length_pos_iff.2 h
      unfold uL
      omega
    have HX : Hid ((bs a).extract 0 (uL a).length = bs (uL a)) := bs_ext (by rw [Lib.extract_data, bs_list, bs_list, List.drop_zero, Nat.sub_zero, take_uL])
    have HY : Hid ((bs a).extract ((uL a).length + 1) (bs a).size = bs (bL a)) := bs_ext (by rw [Lib.extract_to_end, bs_list, bs_list, drop_uL])
    generalize bs (uL a) = U at *
    generalize bs (bL a) = B at *
    generalize (uL a).length = n at *
    generalize bs a = A at *
    rw [← hz] at hlt ha
    clear hz hle h
    have g1 : IntKind.i64.wrap ((n : Int) + 1) = (n : Int) + 1 := IntWalk.i64_in _ (by omega)
    have g2 : 0 ≤ (n : Int) + 1 := by omega
    have g3 : ((n : Int) + 1).toNat = n + 1 := by omega
    have g4 : (n : Int) + 1 ≤ (A.size : Int) := by omega
    go_enter Tryd.func44, Tryd.ntmps44
    go_wp2_with (go_at_call 68; refine (HI.out _).mono ?_; rintro e w' ⟨rfl, rfl⟩)
    go_quiet (fail)
    go_wp2
    go_ret3
    exact ⟨⟨true, by rw [← HX.out, ← HY.out]; rfl⟩, _, rfl⟩

theorem cut_dot (a : List UInt8) (w : World) (ha : a.length ≤ 9223372036854775807) :
    Calls Tryd.prog 25 #[.string (bs a), .string ⟨#[46]⟩] w fun e w' => (∃ f, e = .returned (.tuple #[.string (bs (uL a)), .string (bs (bL a)), .bool f])) ∧ ∃ n, w' = w.drewN n := by
  have HC := Lib.hid fun W => cut1_any a W ha
  clear ha
  generalize bs (uL a) = U at *
  generalize bs (bL a) = B at *
  go_enter Tryd.func25, Tryd.ntmps25
  go_wp2_with (go_at_call 44; refine (HC.out _).mono ?_; rintro e w' ⟨⟨f, rfl⟩, n, rfl⟩)
  go_ret3
  exact ⟨⟨f, rfl⟩, n, rfl⟩

/-- A text of a sign, or none, and digits; or an empty one. -/
structure PowT (z : List UInt8) : Prop where
  digs : AllD (mL z) ∧ negL z = true ∨ AllD (Lib.trimPrefix z [43]) ∧ negL z = false ∧ mL z = z
theorem powT_of {l : List UInt8} (h : NumT l) : PowT (zL l) := by
  unfold zL
  rcases h.e with k | ⟨e, sg, ds, k, hs, hn, hd⟩
  · rw [k]
    exact ⟨.inr ⟨AllD.nil, rfl, rfl⟩⟩
  · rw [k]
    show PowT (sg ++ ds)
    rcases hs with rfl | rfl | rfl
    · rw [List.nil_append]
      cases ds with
      | nil => exact absurd rfl hn
      | cons b t =>
        have hb := dig_not (hd b (List.mem_cons_self ..))
        have h1 : b ≠ 45 := fun e => by rw [e] at hb; exact hb.2.2.2.1 rfl
        have h2 : b ≠ 43 := fun e => by rw [e] at hb; exact hb.2.2.2.2 rfl
        refine ⟨.inr ⟨?_, (neg_cons b t).trans (by simpa using h1), mL_no t h1⟩⟩
        unfold Lib.trimPrefix Lib.hasPrefix
        simp [List.isPrefixOf, Ne.symm h2]
        exact hd
    · refine ⟨.inr ⟨?_, rfl, rfl⟩⟩
      exact hd
    · refine ⟨.inl ⟨?_, rfl⟩⟩
      show AllD (mL (45 :: ds))
      rw [mL_yes]
      exact hd
theorem trimPlus_digits {ds : List UInt8} (h : AllD ds) : Lib.trimPrefix ds [43] = ds := by
  cases ds with
  | nil => rfl
  | cons b t =>
    have hb := dig_not (h b (List.mem_cons_self ..))
    have h2 : b ≠ 43 := fun e => by rw [e] at hb; exact hb.2.2.2.2 rfl
    unfold Lib.trimPrefix Lib.hasPrefix
    simp [List.isPrefixOf, Ne.symm h2]
theorem runD_digits {ds : List UInt8} (h : AllD ds) : runD (bs ds) = ds.length := by
  unfold runD scan
  rw [bs_list, List.drop_zero, Nat.zero_add]
  congr 1
  have : ∀ l : List UInt8, AllD l → l.takeWhile digB = l := fun l => by
    induction l with
    | nil => intro _; rfl
    | cons b t ih =>
      intro h
      rw [List.takeWhile_cons_of_pos (h b (List.mem_cons_self ..)), ih fun x hx => h x (List.mem_cons_of_mem _ hx)]
  exact this ds h
theorem prefix_digits {ds : List UInt8} (h : AllD ds) : preV (bs ds) = .tuple #[.int .i64 (pwN 9007199254740991 ds : Nat), .int .i64 (ds.length : Nat)] := by
  unfold preV pwN
  rw [runD_digits h]
  split <;> rfl

set_option maxHeartbeats 1000000 in
theorem power_any (z : List UInt8) (w : World) (hz : z.length ≤ 9223372036854775807) (h : PowT z) :
    Calls Tryd.prog 28 #[.string (bs z)] w fun e w' => e = .returned (.int .i64 (pwZ 9007199254740991 z)) ∧ w = w' := by
  have hml := mL_len z
  have HC : Hid (∀ W, Calls Tryd.prog 23 #[.string (bs z), .string ⟨#[45]⟩] W fun e w' => e = .returned (.tuple #[.string (bs (mL z)), .bool (negL z)]) ∧ W = w') := fun W => by
    have := strings_CutPrefix (bs z) ⟨#[45]⟩ W
    rw [bs_list] at this
    exact this.mono fun _ _ h => ⟨h.1, h.2.symm⟩
  have HT : Hid (∀ W, Calls Tryd.prog 52 #[.string (bs (mL z)), .string ⟨#[43]⟩] W fun e w' => e = .returned (.string (bs (Lib.trimPrefix (mL z) [43]))) ∧ W = w') := fun W => by
    have := strings_TrimPrefix (bs (mL z)) ⟨#[43]⟩ W
    rw [bs_list] at this
    exact this.mono fun _ _ h => ⟨h.1, h.2.symm⟩
  rcases h.digs with ⟨hd, hn⟩ | ⟨hd, hn, hm⟩
  · rw [trimPlus_digits hd] at HT
    have HP := Lib.hid fun W => prefix_any (bs (mL z)) W (by rw [bs_size]; omega)
    rw [prefix_digits hd] at HP
    rw [hn] at HC
    have HV : Hid (pwZ 9007199254740991 z = -(pwN 9007199254740991 (mL z) : Int)) := by unfold pwZ; rw [if_pos hn]; exact rfl
    have hb := pwN_le 9007199254740991 (mL z)
    generalize pwN 9007199254740991 (mL z) = n at *
    generalize pwZ 9007199254740991 z = v at *
    clear hn hd h hml hz
    go_enter Tryd.func28, Tryd.ntmps28
    go_wp2_with (first
      | (go_at_call 23; refine (HC.out _).mono ?_; rintro e w' ⟨rfl, rfl⟩)
      | (go_at_call 52; refine (HT.out _).mono ?_; rintro e w' ⟨rfl, rfl⟩)
      | (go_at_call 51; refine (HP.out _).mono ?_; rintro e w' ⟨rfl, rfl⟩))
    go_ret
    exact ⟨by rw [HV.out]; rfl, rfl⟩
  · rw [hm] at HT HC
    have hl : (Lib.trimPrefix z [43]).length ≤ z.length := Lib.trimPrefix_le z [43]
    have HP := Lib.hid fun W => prefix_any (bs (Lib.trimPrefix z [43])) W (by rw [bs_size]; omega)
    rw [prefix_digits hd] at HP
    rw [hn] at HC
    have HV : Hid (pwZ 9007199254740991 z = (pwN 9007199254740991 (Lib.trimPrefix z [43]) : Int)) := by unfold pwZ; rw [if_neg (by rw [hn]; decide)]; exact rfl
    have hb := pwN_le 9007199254740991 (Lib.trimPrefix z [43])
    generalize pwN 9007199254740991 (Lib.trimPrefix z [43]) = n at *
    generalize pwZ 9007199254740991 z = v at *
    clear hn hd h hml hz hl hm
    go_enter Tryd.func28, Tryd.ntmps28
    go_wp2_with (first
      | (go_at_call 23; refine (HC.out _).mono ?_; rintro e w' ⟨rfl, rfl⟩)
      | (go_at_call 52; refine (HT.out _).mono ?_; rintro e w' ⟨rfl, rfl⟩)
      | (go_at_call 51; refine (HP.out _).mono ?_; rintro e w' ⟨rfl, rfl⟩))
    go_ret
    exact ⟨by rw [HV.out]; rfl, rfl⟩

end Go.Proofs.YthiclminkbnibaaDoor
