/-
  What lives of layer 10's statements answers, and the law MimeParses. Condition: texts are as long as a length can be.
-/
import Derived.Test.YtancilcfbhfopaaMrt
import Derived.Test.YtancilcfbhfopaaMuno
import Derived.Test.YtancilcfbhfopaaCut
namespace Go.Proofs.Ytancilcfbhfopaa
open Go.RowKit

abbrev txt0 : ByteArray := ⟨#[32, 84, 101, 120, 116, 47, 72, 84, 77, 76, 59, 67, 104, 97, 114, 115, 101, 116, 61, 34, 117, 116, 102, 45, 56, 34, 32]⟩
abbrev char0 : ByteArray := ⟨#[99, 104, 97, 114, 115, 101, 116]⟩
abbrev utf0 : ByteArray := ⟨#[117, 116, 102, 45, 56]⟩
abbrev ess0 : List UInt8 := [116, 101, 120, 116, 47, 104, 116, 109, 108]
theorem live1 : saysB (trimP whiB txt0) = true := by kernel_rfl
theorem live2 : essL (lowS (tyOf (trimP whiB txt0))) (lowS (suOf (trimP whiB txt0))) = ess0 := by kernel_rfl
theorem live3 : parV (prOf (trimP whiB txt0)) char0 = utf0 := by kernel_rfl
theorem live4 : seenB (prOf (trimP whiB txt0)) char0 = true := by kernel_rfl
theorem live5 : (trimP whiB txt0).size ≤ 100 := of_decide_eq_true (by kernel_rfl)

/-- What is read of a text that says a type. -/
theorem parse_says {s T : ByteArray} (w : World) (hs : s.size ≤ 1048576) (hT : trimP whiB s = T) (h : saysB T = true) :
    Calls Try.prog 7 #[.string s] w fun e w' => ∃ A c, e = .returned (.tuple #[mimV (lowS (tyOf T)) (lowS (suOf T)) A (prOf T).length c, .int .i64 0]) ∧ PsIn w' A (prOf T) ∧ Below w.heap.size w w' := by
  have := parse_any s w hs
  rw [hT, h] at this
  exact this.mono fun e w' hh => by
    obtain ⟨A, c, h1, h2, _, h4⟩ := (show SaysYes T w e w' from hh)
    exact ⟨A, c, h1, h2, h4⟩
theorem parse_says_not {s T : ByteArray} (w : World) (hs : s.size ≤ 1048576) (hT : trimP whiB s = T) (h : saysB T = false) :
    Calls Try.prog 7 #[.string s] w fun e w' => e = .returned (.tuple #[mimV ⟨#[]⟩ ⟨#[]⟩ none 0 0, .int .i64 2]) ∧ Below w.heap.size w w' := by
  have := parse_any s w hs
  rw [hT, h] at this
  exact this
theorem rparse_says {s T : ByteArray} (w : World) (hs : s.size ≤ 1048576) (hT : trimP whiB s = T) (h : saysB T = true) :
    Calls Try.prog 8 #[.string s] w fun e w' => ∃ A c, e = .returned (.tuple #[mimV (lowS (tyOf T)) (lowS (suOf T)) A (prOf T).length c, .int .i64 0]) ∧ PsIn w' A (prOf T) ∧ AllIn T.size (prOf T) ∧ Below w.heap.size w w' := by
  have := rparse_yes s w hs (by rw [hT]; exact h)
  rw [hT] at this
  exact this

set_option maxHeartbeats 2000000 in
set_option maxRecDepth 100000 in
theorem lives10_any (w : World) :
    Calls Try.prog 10 #[] w fun e w' => e = .returned (.bool true) ∧ Below w.heap.size w w' := by
  obtain ⟨T, hT⟩ : ∃ T, T = trimP whiB txt0 := ⟨_, rfl⟩
  have l1 := live1
  have l2 := live2
  have l3 := live3
  have l4 := live4
  have l5 := live5
  have l6 := prOf_len (trimP whiB txt0)
  have HPA := Lib.hid (fun W => parse_says W (by decide) hT.symm (by rw [hT]; exact l1))
  have hty := tyOf_size (trimP whiB txt0)
  have hsu := suOf_size (trimP whiB txt0)
  rw [← hT] at l2 l3 l4 l5 l6 hty hsu
  have hts : (lowS (tyOf T)).size ≤ 1048576 := by rw [lowS_size]; omega
  have hus : (lowS (suOf T)).size ≤ 1048576 := by rw [lowS_size]; omega
  have hln : (prOf T).length ≤ 1048576 := by omega
  clear l1 l5 l6 hty hsu hT
  generalize lowS (tyOf T) = lt at *
  generalize lowS (suOf T) = lu at *
  generalize prOf T = pr at *
  have HPM := Lib.hid (fun W A c (hW : PsIn W A pr) => param_any lt lu A pr c char0 W hW hln)
  rw [l3, l4] at HPM
  have HES := Lib.hid (fun W A n c => essence_any lt lu A n c W hts hus)
  rw [l2] at HES
  obtain ⟨x, hx⟩ : ∃ x : ByteArray, x = ⟨ess0.toArray⟩ := ⟨_, rfl⟩
  obtain ⟨y, hy⟩ : ∃ y : ByteArray, y = utf0 := ⟨_, rfl⟩
  have hxx : (x.toList == [116, 101, 120, 116, 47, 104, 116, 109, 108]) = true := by rw [hx]; kernel_rfl
  have hyy : (y.toList == [117, 116, 102, 45, 56]) = true := by rw [hy]; kernel_rfl
  rw [← hx] at HES
  rw [← hy] at HPM
  clear hx hy l2 l3 l4
  go_enter Try.func10, Try.ntmps10
  go_wp2_with fail
  refine (HPA.out _).mono ?_
  rintro e w1 ⟨A, c, rfl, hp, b1⟩
  have HB1 := Lib.hid b1
  have HP1 := Lib.hid hp
  clear b1 hp
  obtain ⟨w2, hw2⟩ : ∃ w2, w2 = w1.alloc (.cells #[.string lt, .string lu, .slice A pr.length c] 25) := ⟨_, rfl⟩
  have b2 : Below w1.heap.size w1 w2 := by rw [hw2]; exact (Below.refl _ _).alloc (Nat.le_refl _) _
  have hn2 := Lib.hid (show Blk w2 w1.heap.size 25 #[.string lt, .string lu, .slice A pr.length c] from by rw [hw2]; exact Blk.new _ _ _)
  have HB2 := Lib.hid (below_on HB1.out b2)
  have HP2 := Lib.hid (HP1.out.below b2)
  clear b2 HB1 HP1
  go_wp2_with fail
  rw [← hw2]
  clear hw2
  have HM2 := hn2
  clear hn2
  have c0 := HM2.out.cell 0
  have c1 := HM2.out.cell 1
  have c2 := HM2.out.cell 2
  refine (HPM.out _ A c HP2.out).mono ?_
  rintro e w3 ⟨rfl, b3⟩
  clear c0 c1 c2
  have HB3 := Lib.hid (below_on HB2.out b3)
  have HP3 := Lib.hid (HP2.out.below b3)
  have HM3 := Lib.hid (HM2.out.below b3 HM2.out.lt)
  clear b3 HB2 HP2 HM2
  have c0 := HM3.out.cell 0
  have c1 := HM3.out.cell 1
  have c2 := HM3.out.cell 2
  go_wp2_with fail
  refine (HES.out _ A pr.length c).mono ?_
  rintro e w4 ⟨rfl, b4⟩
  clear c0 c1 c2
  have HB4 := Lib.hid (below_on HB3.out b4)
  have HP4 := Lib.hid (HP3.out.below b4)
  have HM4 := Lib.hid (HM3.out.below b4 HM3.out.lt)
  clear b4 HB3 HP3 HM3
  go_wp2
  go_ret
  exact ⟨rfl, HB4.out⟩

set_option maxHeartbeats 2000000 in
set_option maxRecDepth 100000 in
theorem parses_no (s : ByteArray) (w : World) (hs : s.size ≤ 9223372036854775807) (h : saysB (trimP whiB (cutB s 200)) = false) :
    Calls Try.prog 3 #[.string s] w fun e w' => e = .returned (.bool true) ∧ Below w.heap.size w w' := by
  have HC : Hid (∀ W, Calls Try.prog 6 #[.string s, .int .i64 200] W fun e w' => e = .returned (.string (cutB s 200)) ∧ W = w') := fun W => cut_any s 200 W hs
  have hxs := cutB_size s 200
  generalize cutB s 200 = x at *
  have HPA := Lib.hid (fun W => parse_says_not W (by omega) rfl h)
  have HRA := Lib.hid (fun W => show Calls Try.prog 8 #[.string x] W fun e w' => e = .returned (.tuple #[mimV ⟨#[]⟩ ⟨#[]⟩ none 0 0, .int .i64 2]) ∧ Below W.heap.size W w' from rparse_no x W (by omega) h)
  have HSM := Lib.hid (fun W => show Calls Try.prog 9 #[mimV ⟨#[]⟩ ⟨#[]⟩ none 0 0, mimV ⟨#[]⟩ ⟨#[]⟩ none 0 0] W fun e w' => e = .returned (.bool true) ∧ Below W.heap.size W w' from by
    have := rsame_any ⟨#[]⟩ ⟨#[]⟩ ⟨#[]⟩ ⟨#[]⟩ none none [] [] 0 0 W (PsIn.nil _ _) (PsIn.nil _ _) (Nat.zero_le _) (Nat.zero_le _)
    rw [sameM_self] at this
    exact this)
  have HLV := Lib.hid lives10_any
  clear h
  have HB0 := Lib.hid (Below.refl w.heap.size w)
  go_enter Try.func3, Try.ntmps3
  go_wp2_with fail
  refine (HC.out _).mono ?_
  rintro e w1 ⟨rfl, rfl⟩
  go_wp2_with fail
  refine (HPA.out _).mono ?_
  rintro e w1 ⟨rfl, b1⟩
  have HB1 := Lib.hid (below_on HB0.out b1)
  clear b1 HB0
  obtain ⟨w2, hw2⟩ : ∃ w2, w2 = w1.alloc (.cells #[.string ⟨#[]⟩, .string ⟨#[]⟩, .slice none 0 0] 25) := ⟨_, rfl⟩
  have b2 : Below w1.heap.size w1 w2 := by rw [hw2]; exact (Below.refl _ _).alloc (Nat.le_refl _) _
  have hn2 := Lib.hid (show Blk w2 w1.heap.size 25 #[.string ⟨#[]⟩, .string ⟨#[]⟩, .slice none 0 0] from by rw [hw2]; exact Blk.new _ _ _)
  have HB2 := Lib.hid (below_on HB1.out b2)
  clear b2 HB1
  go_wp2_with fail
  rw [← hw2]
  clear hw2
  have HM2 := hn2
  clear hn2
  refine (HRA.out _).mono ?_
  rintro e w3 ⟨rfl, b3⟩
  have HB3 := Lib.hid (below_on HB2.out b3)
  have HM3 := Lib.hid (HM2.out.below b3 HM2.out.lt)
  clear b3 HB2 HM2
  have c0 := HM3.out.cell 0
  have c1 := HM3.out.cell 1
  have c2 := HM3.out.cell 2
  have hml := HM3.out.lt
  have hmn : w3.heap.size ≠ w1.heap.size := by omega
  have hmn2 : w1.heap.size ≠ w3.heap.size := by omega
  obtain ⟨w4, hw4⟩ : ∃ w4, w4 = w3.alloc (.cells #[.string ⟨#[]⟩, .string ⟨#[]⟩, .slice none 0 0] 25) := ⟨_, rfl⟩
  have b4 : Below w3.heap.size w3 w4 := by rw [hw4]; exact (Below.refl _ _).alloc (Nat.le_refl _) _
  have hn4 := Lib.hid (show Blk w4 w3.heap.size 25 #[.string ⟨#[]⟩, .string ⟨#[]⟩, .slice none 0 0] from by rw [hw4]; exact Blk.new _ _ _)
  have HB4 := Lib.hid (below_on HB3.out b4)
  have HM4 := Lib.hid (HM3.out.below b4 HM3.out.lt)
  clear b4 HB3 HM3
  go_wp2_with fail
  rw [← hw4]
  clear hw4
  have HX4 := hn4
  clear hn4
  refine (HSM.out _).mono ?_
  rintro e w5 ⟨rfl, b5⟩
  have HB5 := Lib.hid (below_on HB4.out b5)
  have HM5 := Lib.hid (HM4.out.below b5 HM4.out.lt)
  have HX5 := Lib.hid (HX4.out.below b5 HX4.out.lt)
  clear b5 HB4 HM4 HX4
  go_wp2_with fail
  refine (HLV.out _).mono ?_
  rintro e w6 ⟨rfl, b6⟩
  have HB6 := Lib.hid (below_on HB5.out b6)
  have HM6 := Lib.hid (HM5.out.below b6 HM5.out.lt)
  have HX6 := Lib.hid (HX5.out.below b6 HX5.out.lt)
  clear b6 HB5 HM5 HX5
  go_wp2
  go_ret
  exact ⟨rfl, HB6.out⟩

set_option maxHeartbeats 2000000 in
set_option maxRecDepth 100000 in
theorem parses_yes (s : ByteArray) (w : World) (hs : s.size ≤ 9223372036854775807) (h : saysB (trimP whiB (cutB s 200)) = true) :
    Calls Try.prog 3 #[.string s] w fun e w' => e = .returned (.bool true) ∧ Below w.heap.size w w' := by
  have HC : Hid (∀ W, Calls Try.prog 6 #[.string s, .int .i64 200] W fun e w' => e = .returned (.string (cutB s 200)) ∧ W = w') := fun W => cut_any s 200 W hs
  have hxs := cutB_size s 200
  generalize cutB s 200 = x at *
  have hTs := trimP_size whiB x
  have HPA := Lib.hid (fun W => parse_says W (by omega) rfl h)
  have HRA := Lib.hid (fun W => rparse_says W (by omega) rfl h)
  have hgd := says_good h
  generalize trimP whiB x = T at *
  have hty := tyOf_size T
  have hsu := suOf_size T
  have hln := prOf_len T
  have hts : (lowS (tyOf T)).size ≤ 200 := by rw [lowS_size]; omega
  have hus : (lowS (suOf T)).size ≤ 200 := by rw [lowS_size]; omega
  have hln2 : (prOf T).length ≤ 200 := by omega
  have HLV := Lib.hid lives10_any
  have HB0 := Lib.hid (Below.refl w.heap.size w)
  clear h hty hsu hln
  generalize lowS (tyOf T) = lt at *
  generalize lowS (suOf T) = lu at *
  generalize prOf T = pr at *
  obtain ⟨P, hP⟩ : ∃ P : ByteArray, P = ⟨(textL lt lu pr).toArray⟩ := ⟨_, rfl⟩
  obtain ⟨q1, q2, q3, q4, q5⟩ := text_says hgd P hP
  have hser : serM lt lu pr = P := by unfold serM; rw [hgd, hP]; rfl
  have HGG := Lib.hid hgd
  have HPP := Lib.hid (fun W (hPs : P.size ≤ 1048576) => show Calls Try.prog 7 #[.string P] W fun e w' => ∃ A c, e = .returned (.tuple #[mimV lt lu A pr.length c, .int .i64 0]) ∧ PsIn w' A pr ∧ Below W.heap.size W w' from by
    have := parse_says (s := P) W hPs q1 q2
    rw [q3, q4, q5] at this
    exact this)
  have HPZ : Hid (AllIn 200 pr → P.size ≤ 1048576) := fun hall => by
    have h1 := serPs_le hall
    have h2 : P.size = (lt.data.toList ++ 47 :: lu.data.toList).length + (serPs pr).length := by rw [hP, arr_size]; unfold textL essL; rw [List.length_append]
    have h3 : pr.length * (3 * 200 + 4) ≤ 200 * (3 * 200 + 4) := Nat.mul_le_mul_right _ hln2
    have h4 : (lt.data.toList ++ 47 :: lu.data.toList).length = lt.size + (lu.size + 1) := by simp
    omega
  have HSE := Lib.hid (fun W A c (hW : MimIn W lt lu A pr) => mserial_any lt lu A pr c W hW)
  rw [hser] at HSE
  have HGD := Lib.hid (fun W A c (hW : MimIn W lt lu A pr) => mgood_any lt lu A pr c W hW)
  rw [hgd] at HGD
  have HSM := Lib.hid (fun W A B c d (hA : PsIn W A pr) (hB : PsIn W B pr) => rsame_any lt lu lt lu A B pr pr c d W hA hB (by omega) (by omega))
  rw [sameM_self] at HSM
  clear q1 q2 q3 q4 q5 hser hgd hP HGG
  go_enter Try.func3, Try.ntmps3
  go_wp2_with fail
  refine (HC.out _).mono ?_
  rintro e w1 ⟨rfl, rfl⟩
  go_wp2_with fail
  refine (HPA.out _).mono ?_
  rintro e w1 ⟨A, ca, rfl, hpa, b1⟩
  have HA1 := Lib.hid hpa
  clear hpa
  have HB1 := Lib.hid (below_on HB0.out b1)
  clear b1 HB0
  obtain ⟨w2, hw2⟩ : ∃ w2, w2 = w1.alloc (.cells #[.string lt, .string lu, .slice A pr.length ca] 25) := ⟨_, rfl⟩
  have b2 : Below w1.heap.size w1 w2 := by rw [hw2]; exact (Below.refl _ _).alloc (Nat.le_refl _) _
  have hn2 := Lib.hid (show Blk w2 w1.heap.size 25 #[.string lt, .string lu, .slice A pr.length ca] from by rw [hw2]; exact Blk.new _ _ _)
  have HB2 := Lib.hid (below_on HB1.out b2)
  have HA2 := Lib.hid (HA1.out.below b2)
  clear b2 HB1 HA1
  go_wp2_with fail
  rw [← hw2]
  clear hw2
  have HM2 := hn2
  clear hn2
  refine (HRA.out _).mono ?_
  rintro e w3 ⟨B, cb, rfl, hpb, hall, b3⟩
  have HQ3 := Lib.hid hpb
  have hall2 : AllIn 200 pr := fun p hp => by have := hall p hp; omega
  have hPs := HPZ.out hall2
  have HIM := Lib.hid (fun W A (hW : PsIn W A pr) => show MimIn W lt lu A pr from ⟨hW, fun p hp => by have := hall2 p hp; omega, by omega, by omega, by omega⟩)
  clear hpb hall hall2
  have HB3 := Lib.hid (below_on HB2.out b3)
  have HA3 := Lib.hid (HA2.out.below b3)
  have HM3 := Lib.hid (HM2.out.below b3 HM2.out.lt)
  clear b3 HB2 HA2 HM2
  have c0 := HM3.out.cell 0
  have c1 := HM3.out.cell 1
  have c2 := HM3.out.cell 2
  have hml := HM3.out.lt
  have hmn : w3.heap.size ≠ w1.heap.size := by omega
  have hmn2 : w1.heap.size ≠ w3.heap.size := by omega
  obtain ⟨w4, hw4⟩ : ∃ w4, w4 = w3.alloc (.cells #[.string lt, .string lu, .slice B pr.length cb] 25) := ⟨_, rfl⟩
  have b4 : Below w3.heap.size w3 w4 := by rw [hw4]; exact (Below.refl _ _).alloc (Nat.le_refl _) _
  have hn4 := Lib.hid (show Blk w4 w3.heap.size 25 #[.string lt, .string lu, .slice B pr.length cb] from by rw [hw4]; exact Blk.new _ _ _)
  have HB4 := Lib.hid (below_on HB3.out b4)
  have HA4 := Lib.hid (HA3.out.below b4)
  have HM4 := Lib.hid (HM3.out.below b4 HM3.out.lt)
  have HQ4 := Lib.hid (HQ3.out.below b4)
  clear b4 HB3 HA3 HM3 HQ3
  go_wp2_with fail
  rw [← hw4]
  clear hw4
  have HX4 := hn4
  clear hn4
  clear c0 c1 c2
  refine (HSM.out _ A B ca cb HA4.out HQ4.out).mono ?_
  rintro e w5 ⟨rfl, b5⟩
  have HB5 := Lib.hid (below_on HB4.out b5)
  have HA5 := Lib.hid (HA4.out.below b5)
  have HM5 := Lib.hid (HM4.out.below b5 HM4.out.lt)
  have HQ5 := Lib.hid (HQ4.out.below b5)
  have HX5 := Lib.hid (HX4.out.below b5 HX4.out.lt)
  clear b5 HB4 HA4 HM4 HQ4 HX4
  have c0 := HM5.out.cell 0
  have c1 := HM5.out.cell 1
  have c2 := HM5.out.cell 2
  have d0 := HX5.out.cell 0
  have d1 := HX5.out.cell 1
  have d2 := HX5.out.cell 2
  go_wp2_with fail
  refine (HSE.out _ A ca (HIM.out _ A HA5.out)).mono ?_
  rintro e w6 ⟨rfl, b6⟩
  clear c0 c1 c2 d0 d1 d2
  have HB6 := Lib.hid (below_on HB5.out b6)
  have HA6 := Lib.hid (HA5.out.below b6)
  have HM6 := Lib.hid (HM5.out.below b6 HM5.out.lt)
  have HQ6 := Lib.hid (HQ5.out.below b6)
  have HX6 := Lib.hid (HX5.out.below b6 HX5.out.lt)
  clear b6 HB5 HA5 HM5 HQ5 HX5
  go_wp2_with fail
  refine (HPP.out _ hPs).mono ?_
  rintro e w7 ⟨D, cd, rfl, hpd, b7⟩
  have HD7 := Lib.hid hpd
  clear hpd
  have HB7 := Lib.hid (below_on HB6.out b7)
  have HA7 := Lib.hid (HA6.out.below b7)
  have HM7 := Lib.hid (HM6.out.below b7 HM6.out.lt)
  have HQ7 := Lib.hid (HQ6.out.below b7)
  have HX7 := Lib.hid (HX6.out.below b7 HX6.out.lt)
  clear b7 HB6 HA6 HM6 HQ6 HX6
  have c0 := HM7.out.cell 0
  have c1 := HM7.out.cell 1
  have c2 := HM7.out.cell 2
  have hml7 := HM7.out.lt
  have hmn7 : w7.heap.size ≠ w1.heap.size := by omega
  have hmn8 : w1.heap.size ≠ w7.heap.size := by omega
  obtain ⟨w8, hw8⟩ : ∃ w8, w8 = w7.alloc (.cells #[.string lt, .string lu, .slice D pr.length cd] 25) := ⟨_, rfl⟩
  have b8 : Below w7.heap.size w7 w8 := by rw [hw8]; exact (Below.refl _ _).alloc (Nat.le_refl _) _
  have hn8 := Lib.hid (show Blk w8 w7.heap.size 25 #[.string lt, .string lu, .slice D pr.length cd] from by rw [hw8]; exact Blk.new _ _ _)
  have HB8 := Lib.hid (below_on HB7.out b8)
  have HA8 := Lib.hid (HA7.out.below b8)
  have HM8 := Lib.hid (HM7.out.below b8 HM7.out.lt)
  have HQ8 := Lib.hid (HQ7.out.below b8)
  have HX8 := Lib.hid (HX7.out.below b8 HX7.out.lt)
  have HD8 := Lib.hid (HD7.out.below b8)
  clear b8 HB7 HA7 HM7 HQ7 HX7 HD7
  go_wp2_with fail
  rw [← hw8]
  clear hw8
  have HY8 := hn8
  clear hn8
  clear c0 c1 c2
  refine (HGD.out _ A ca (HIM.out _ A HA8.out)).mono ?_
  rintro e w9 ⟨rfl, b9⟩
  have HB9 := Lib.hid (below_on HB8.out b9)
  have HA9 := Lib.hid (HA8.out.below b9)
  have HM9 := Lib.hid (HM8.out.below b9 HM8.out.lt)
  have HQ9 := Lib.hid (HQ8.out.below b9)
  have HX9 := Lib.hid (HX8.out.below b9 HX8.out.lt)
  have HD9 := Lib.hid (HD8.out.below b9)
  have HY9 := Lib.hid (HY8.out.below b9 HY8.out.lt)
  clear b9 HB8 HA8 HM8 HQ8 HX8 HD8 HY8
  have c0 := HY9.out.cell 0
  have c1 := HY9.out.cell 1
  have c2 := HY9.out.cell 2
  have d0 := HX9.out.cell 0
  have d1 := HX9.out.cell 1
  have d2 := HX9.out.cell 2
  go_wp2_with fail
  refine (HSM.out _ D B cd cb HD9.out HQ9.out).mono ?_
  rintro e w10 ⟨rfl, b10⟩
  clear c0 c1 c2 d0 d1 d2
  have HB10 := Lib.hid (below_on HB9.out b10)
  have HA10 := Lib.hid (HA9.out.below b10)
  have HM10 := Lib.hid (HM9.out.below b10 HM9.out.lt)
  have HQ10 := Lib.hid (HQ9.out.below b10)
  have HX10 := Lib.hid (HX9.out.below b10 HX9.out.lt)
  have HD10 := Lib.hid (HD9.out.below b10)
  have HY10 := Lib.hid (HY9.out.below b10 HY9.out.lt)
  clear b10 HB9 HA9 HM9 HQ9 HX9 HD9 HY9
  go_wp2_with fail
  refine (HLV.out _).mono ?_
  rintro e w11 ⟨rfl, b11⟩
  have HB11 := Lib.hid (below_on HB10.out b11)
  have HA11 := Lib.hid (HA10.out.below b11)
  have HM11 := Lib.hid (HM10.out.below b11 HM10.out.lt)
  have HQ11 := Lib.hid (HQ10.out.below b11)
  have HX11 := Lib.hid (HX10.out.below b11 HX10.out.lt)
  have HD11 := Lib.hid (HD10.out.below b11)
  have HY11 := Lib.hid (HY10.out.below b11 HY10.out.lt)
  clear b11 HB10 HA10 HM10 HQ10 HX10 HD10 HY10
  go_wp2
  go_ret
  exact ⟨rfl, HB11.out⟩

theorem mimeParses_any (s : ByteArray) (w : World) (hs : s.size ≤ 9223372036854775807) :
    Calls Try.prog 3 #[.string s] w fun e w' => e = .returned (.bool true) ∧ Below w.heap.size w w' := by
  cases h : saysB (trimP whiB (cutB s 200))
  · exact parses_no s w hs h
  · exact parses_yes s w hs h

end Go.Proofs.Ytancilcfbhfopaa
