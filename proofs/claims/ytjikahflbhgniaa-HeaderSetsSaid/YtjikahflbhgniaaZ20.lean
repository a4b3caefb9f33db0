/-
  What Text of package header, and the document's, answer. Condition: texts of at most 1000 bytes, at most 1000 headers.
  The laws HeaderSets and HeaderBack. No condition.
-/
import Derived.Test.YtjikahflbhgniaaZ13
import Derived.Test.YtjikahflbhgniaaZ3
import Derived.BigQuiet
import Derived.Lib.Strings
import Derived.Test.YtjikahflbhgniaaZ19
namespace Go.Proofs.Ytjikahflbhgniaa
open Go.RowKit

theorem hdr_line (n v : ByteArray) : (n ++ ⟨#[58, 32]⟩ ++ v ++ ⟨#[13, 10]⟩ : ByteArray).data.toList = hdrL ⟨n, v⟩ := by
  simp [hdrL, ByteArray.data_append]
theorem hdr_size (n v : ByteArray) : (n ++ ⟨#[58, 32]⟩ ++ v ++ ⟨#[13, 10]⟩ : ByteArray).size = n.size + v.size + 4 := by
  rw [Lib.size_eq, hdr_line, hdrL_len]
theorem hdrsL_le {l : List Prm} (ha : AllIn 1000 l) : (hdrsL l).length ≤ l.length * 2004 := by
  induction l with
  | nil => simp [hdrsL]
  | cons p r ih =>
    have h1 := ih (fun q hq => ha q (List.mem_cons_of_mem _ hq))
    have h2 := hdrL_len p
    have h3 := ha p List.mem_cons_self
    have e : hdrsL (p :: r) = hdrL p ++ hdrsL r := rfl
    rw [e, List.length_append, List.length_cons]
    omega
theorem hdrsL_take {l : List Prm} (ha : AllIn 1000 l) (k : Nat) : (hdrsL (l.take k)).length ≤ l.length * 2004 := by
  have h1 := hdrsL_le (l := l.take k) (fun q hq => ha q (List.mem_of_mem_take hq))
  have h2 : (l.take k).length ≤ l.length := List.length_take_le' _ _
  exact Nat.le_trans h1 (Nat.mul_le_mul_right 2004 h2)

set_option maxHeartbeats 2000000 in
set_option maxRecDepth 100000 in
theorem htext_any (A : Option Addr) (c : Nat) (l : List Prm) (w : World) (h : HdIn w A l) (ha : AllIn 1000 l) (hn : l.length ≤ 1000) :
    Calls Try.prog 26 #[.slice A l.length c] w fun e w' => e = .returned (.string ⟨(hdrsL l).toArray⟩) ∧ Below w.heap.size w w' := by
  have HH := Lib.hid h
  have HA := Lib.hid ha
  have HB0 := Lib.hid (Bld.new w)
  have HL0 := Lib.hid ((Below.refl w.heap.size w).alloc (Nat.le_refl _) (.cells #[.pointer none, .slice none 0 0] 72))
  have HALL := Lib.hid (show l.take l.length = l from List.take_length)
  clear h ha
  go_enter Try.func26, Try.ntmps26
  go_wp2_with fail
  go_loopw [8] (fun i wr => ∃ k : Nat, k ≤ l.length ∧ i = .int .i64 k ∧ Hid (Bld w.heap.size w.heap.size (hdrsL (l.take k)) wr) ∧ Hid (Below w.heap.size w wr)) (fun i _ => l.length - (intOf i).toNat)
  case atStart => exact ⟨0, by omega, rfl, HB0, HL0⟩
  case round =>
    obtain ⟨k, hk, rfl, HBr, HLr⟩ := hrel
    have hwr := HLr.out.size
    by_cases hlt : k < l.length
    · obtain ⟨a, rfl, hal, c0, c1⟩ := (HH.out.below HLr.out) k hlt
      have hsz := HA.out.at_ hlt
      have HST := Lib.hid (hdrsL_step hlt)
      have hle := hdrsL_take HA.out k
      obtain ⟨p, hp⟩ : ∃ p, l[k] = p := ⟨_, rfl⟩
      rw [hp] at c0 c1 hsz HST
      clear hp
      obtain ⟨n, v⟩ := p
      simp only at c0 c1 hsz
      have HLN := Lib.hid (hdr_line n v)
      obtain ⟨T, hT⟩ : ∃ T, T = hdrsL (l.take k) := ⟨_, rfl⟩
      rw [← hT] at HST hle HBr
      clear hT
      have b0 : Below wr.heap.size wr (wr.alloc (.cells #[.string n, .string v] 53)) := (Below.refl _ _).alloc (Nat.le_refl _) _
      have HB1 := Lib.hid (HBr.out.mv (Mv.of_below b0 []) (by simp))
      have HL1 := Lib.hid (HLr.out.trans (b0.mono hwr))
      have hw1 : w.heap.size ≤ (wr.alloc (.cells #[.string n, .string v] 53)).heap.size := HL1.out.size
      have HW := Lib.hid (writeString_any w.heap.size w.heap.size T (n ++ ⟨#[58, 32]⟩ ++ v ++ ⟨#[13, 10]⟩) _ HB1.out (by rw [hdr_size]; omega) hw1)
      rw [HLN.out, ← HST.out] at HW
      clear b0
      go_wp2_with fail
      refine HW.out.mono ?_
      rintro e w2 ⟨rfl, h2, b2⟩
      have HB2 := Lib.hid h2
      have HL2 := Lib.hid (HL1.out.trans b2)
      clear h2 b2
      go_wp2
      go_roundw
      case rel => exact ⟨k + 1, by omega, by go_num, HB2, HL2⟩
      case measure => simp [intOf]; omega
    · obtain rfl : k = l.length := by omega
      rw [HALL.out] at HBr
      have HS := Lib.hid (string_any _ _ _ _ HBr.out hwr)
      obtain ⟨T, hT⟩ : ∃ T : ByteArray, T = ⟨(hdrsL l).toArray⟩ := ⟨_, rfl⟩
      rw [← hT] at HS
      have HT := Lib.hid hT
      clear hT
      go_wp2_with fail
      refine HS.out.mono ?_
      rintro e w2 ⟨rfl, _, b2⟩
      have HL2 := Lib.hid (HLr.out.trans b2)
      clear b2
      go_wp2
      go_ret
      exact ⟨by rw [← HT.out]; rfl, HL2.out⟩

set_option maxHeartbeats 2000000 in
set_option maxRecDepth 100000 in
theorem rtext_any (A : Option Addr) (c : Nat) (l : List Prm) (w : World) (h : HdIn w A l) (ha : AllIn 1000 l) (hn : l.length ≤ 1000) :
    Calls Try.prog 27 #[.slice A l.length c] w fun e w' => e = .returned (.string ⟨(hdrsL l).toArray⟩) ∧ Below w.heap.size w w' := by
  have HH := Lib.hid h
  have HA := Lib.hid ha
  have HALL := Lib.hid (show l.take l.length = l from List.take_length)
  obtain ⟨Z, hZ⟩ : ∃ Z : ByteArray, Z = ⟨(hdrsL l).toArray⟩ := ⟨_, rfl⟩
  rw [← hZ]
  have HZ := Lib.hid hZ
  clear h ha hZ
  go_enter Try.func27, Try.ntmps27
  go_wp2
  go_loopw [3, 4] (fun s i wr => ∃ (k : Nat) (T : ByteArray), k ≤ l.length ∧ i = .int .i64 k ∧ s = .string T ∧ Hid (T.data.toList = hdrsL (l.take k)) ∧ Hid (Below w.heap.size w wr)) (fun _ i _ => l.length - (intOf i).toNat)
  case atStart => exact ⟨0, ⟨#[]⟩, by omega, rfl, rfl, Lib.hid rfl, Lib.hid (Below.refl _ _)⟩
  case round =>
    obtain ⟨k, T, hk, rfl, rfl, HT, HLr⟩ := hrel
    have hwr := HLr.out.size
    by_cases hlt : k < l.length
    · obtain ⟨a, rfl, hal, c0, c1⟩ := (HH.out.below HLr.out) k hlt
      have hsz := HA.out.at_ hlt
      have HST := Lib.hid (hdrsL_step hlt)
      have hle := hdrsL_take HA.out k
      obtain ⟨p, hp⟩ : ∃ p, l[k] = p := ⟨_, rfl⟩
      rw [hp] at c0 c1 hsz HST
      clear hp
      obtain ⟨n, v⟩ := p
      simp only at c0 c1 hsz
      have HLN := Lib.hid (hdr_line n v)
      have hTs : T.size ≤ 2004000 := by
        have := congrArg List.length HT.out
        simp at this
        omega
      have HT2 := Lib.hid (show (T ++ n ++ ⟨#[58, 32]⟩ ++ v ++ ⟨#[13, 10]⟩ : ByteArray).data.toList = hdrsL (l.take (k + 1)) from by
        rw [HST.out, ← HT.out, ← HLN.out]
        simp [ByteArray.data_append])
      go_wp2_with fail
      go_quiet (fail)
      go_wp2_with fail
      go_roundw
      case rel => exact ⟨k + 1, _, by omega, by go_num, rfl, HT2, Lib.hid (Below.drewN' HLr.out _)⟩
      case measure => simp [intOf]; omega
    · obtain rfl : k = l.length := by omega
      rw [HALL.out] at HT
      have HE := Lib.hid (show T = Z from by rw [HZ.out, ← HT.out])
      go_wp2
      go_ret
      exact ⟨by rw [HE.out]; rfl, HLr.out⟩

end Go.Proofs.Ytjikahflbhgniaa
namespace Go.Proofs.Ytjikahflbhgniaa
open Go.RowKit

theorem setA_len (name value : ByteArray) (l : List Prm) : (setA name value l).2.length ≤ l.length + 1 := by
  unfold setA
  split
  · split
    · have := setN_len name (trimP whiB value) l
      show (setN name (trimP whiB value) l).length ≤ _
      omega
    · split
      · exact Nat.zero_le _
      · show (l ++ [_]).length ≤ _
        simp
  · exact Nat.zero_le _

set_option maxHeartbeats 4000000 in
set_option maxRecDepth 100000 in
theorem sets_walk (s t x y : ByteArray) (q : Nat) (A : Option Addr) (n c : Nat) (L M : List Prm) (w : World) (_hM : M.length ≤ 103)
    (HC : Hid (∀ W, Calls Try.prog 6 #[.string s, .int .i64 30] W fun e w' => e = .returned (.string x) ∧ W = w'))
    (HD : Hid (∀ W, Calls Try.prog 6 #[.string t, .int .i64 100] W fun e w' => e = .returned (.string y) ∧ W = w'))
    (HF1 : Hid (∀ W, Below w.heap.size w W → Calls Try.prog 7 #[.slice A n c, .int .i64 102] W fun e w' => ∃ b c', e = .returned (.slice (some b) L.length c') ∧ OwnHd w' W.heap.size (some b) c' L ∧ Below W.heap.size W w'))
    (HF2 : Hid (∀ A c W, HdIn W A L → Calls Try.prog 7 #[.slice A L.length c, .int .i64 102] W fun e w' => ∃ b c', e = .returned (.slice (some b) L.length c') ∧ OwnHd w' W.heap.size (some b) c' L ∧ Below W.heap.size W w'))
    (HST : Hid (∀ A c W, HdIn W A L → L.length ≤ c → Calls Try.prog 24 #[.string x, .string y, .slice A L.length c] W fun e w' => ∃ A' c', e = .returned (.tuple #[.slice A' M.length c', .int .i64 (q : Nat)]) ∧ HdIn w' A' M ∧ Below W.heap.size W w'))
    (HRS : Hid (∀ b c W, HdIn W (some b) L → L.length ≤ c → Calls Try.prog 25 #[.string x, .string y, .slice (some b) L.length c] W fun e w' => ∃ A' c', e = .returned (.tuple #[.slice A' M.length c', .int .i64 (q : Nat)]) ∧ HdIn w' A' M ∧ Below W.heap.size W w'))
    (HSM : Hid (∀ A B c d W, HdIn W A M → HdIn W B M → Calls Try.prog 16 #[.slice A M.length c, .slice B M.length d] W fun e w' => e = .returned (.bool true) ∧ Below W.heap.size W w')) :
    Calls Try.prog 4 #[.string s, .string t, .slice A n c] w fun e w' => e = .returned (.bool true) ∧ Below w.heap.size w w' := by
  have HLV := Lib.hid lives22_any
  have HB := Lib.hid (Below.refl w.heap.size w)
  go_enter Try.func4, Try.ntmps4
  go_wp2_with (first
    | (go_at_call 6; (with_reducible refine (HC.out _).mono ?_); rintro e w1 ⟨rfl, rfl⟩)
    | (go_at_call 6; (with_reducible refine (HD.out _).mono ?_); rintro e w1 ⟨rfl, rfl⟩)
    | (go_at_call 7; (with_reducible refine (HF1.out _ HB.out).mono ?_); rintro e w1 ⟨b, d, rfl, o1, b1⟩; have HL := Lib.hid o1.hd; have HLC := Lib.hid o1.cap; replace HB := Lib.hid (HB.out.trans (b1.mono HB.out.size)); clear o1 b1 HF1)
    | (go_at_call 7; (with_reducible refine (HF2.out _ _ _ HL.out).mono ?_); rintro e w1 ⟨b', d', rfl, o1, b1⟩; have HF := Lib.hid o1.hd; have HFC := Lib.hid o1.cap; replace HL := Lib.hid (HL.out.below b1); replace HB := Lib.hid (HB.out.trans (b1.mono HB.out.size)); clear o1 b1)
    | (go_at_call 24; (with_reducible refine (HST.out _ _ _ HF.out HFC.out).mono ?_); rintro e w1 ⟨A', c', rfl, hx, b1⟩; have HX := Lib.hid hx; replace HL := Lib.hid (HL.out.below b1); replace HB := Lib.hid (HB.out.trans (b1.mono HB.out.size)); clear hx b1)
    | (go_at_call 25; (with_reducible refine (HRS.out _ _ _ HL.out HLC.out).mono ?_); rintro e w1 ⟨A', c', rfl, hy, b1⟩; have HY := Lib.hid hy; replace HX := Lib.hid (HX.out.below b1); replace HB := Lib.hid (HB.out.trans (b1.mono HB.out.size)); clear hy b1)
    | (go_at_call 16; (with_reducible refine (HSM.out _ _ _ _ _ HX.out HY.out).mono ?_); rintro e w1 ⟨rfl, b1⟩; replace HB := Lib.hid (HB.out.trans (b1.mono HB.out.size)); clear b1)
    | (go_at_call 23; (with_reducible refine (HLV.out _).mono ?_); rintro e w1 ⟨rfl, b1⟩; replace HB := Lib.hid (HB.out.trans (b1.mono HB.out.size)); clear b1))
  go_ret
  exact ⟨rfl, HB.out⟩

set_option maxHeartbeats 2000000 in
theorem sets_any (s t : ByteArray) (A : Option Addr) (n c : Nat) (lp : Nat → Prm) (w : World) (h : Came w A n lp) (hn : n ≤ 9223372036854775807) (hs : s.size ≤ 9223372036854775807) (ht : t.size ≤ 9223372036854775807) :
    Calls Try.prog 4 #[.string s, .string t, .slice A n c] w fun e w' => e = .returned (.bool true) ∧ Below w.heap.size w w' := by
  have hx : (cutB s 30).size ≤ 30 := cutB_size _ _
  have hy : (cutB t 100).size ≤ 100 := cutB_size _ _
  have HC : Hid (∀ W, Calls Try.prog 6 #[.string s, .int .i64 30] W fun e w' => e = .returned (.string (cutB s 30)) ∧ W = w') := fun W => cut_any s 30 W hs
  have HD : Hid (∀ W, Calls Try.prog 6 #[.string t, .int .i64 100] W fun e w' => e = .returned (.string (cutB t 100)) ∧ W = w') := fun W => cut_any t 100 W ht
  generalize cutB s 30 = x at *
  generalize cutB t 100 = y at *
  have HF1 := Lib.hid (fun W (hW : Below w.heap.size w W) => few22_any A n c 102 lp W (h.below hW) hn (by omega))
  have hll := fewHs_len lp (min n 102)
  have hall := fewHs_all lp (min n 102)
  have hmin : min n 102 ≤ 102 := Nat.min_le_right _ _
  rw [← hll] at hmin
  generalize fewHs lp (min n 102) = L at *
  rw [← hll] at HF1
  clear hll h
  have h1 := small_all hall (m := 1048576) (by omega)
  have hM := setA_len x y L
  refine sets_walk s t x y (setA x y L).1 A n c L (setA x y L).2 w (by omega) HC HD HF1 ?_ ?_ ?_ ?_
  · exact fun A c W h => few22_own A c 102 L W h hall hmin (by omega)
  · exact fun A c W h hc => hset_any x y A c L W h h1 (by omega) (by omega) (by omega) hc
  · exact fun b c W h hc => rset_any x y b c L W h h1 (by omega) (by omega) (by omega) hc
  · exact fun A B c d W h h' => (rsameH_any A B c d _ W h h' (by omega)).mono fun e w' ⟨n, he, hw⟩ => ⟨he, by rw [hw]; exact Below.drewN' (Below.refl _ _) _⟩

set_option maxHeartbeats 4000000 in
set_option maxRecDepth 100000 in
theorem back_walk (T : ByteArray) (g : Bool) (q m : Nat) (A : Option Addr) (n c : Nat) (L P : List Prm) (w : World) (hg : g = true → P = L ∧ q = 0 ∧ m = 0)
    (HF1 : Hid (∀ W, Below w.heap.size w W → Calls Try.prog 7 #[.slice A n c, .int .i64 102] W fun e w' => ∃ b c', e = .returned (.slice (some b) L.length c') ∧ OwnHd w' W.heap.size (some b) c' L ∧ Below W.heap.size W w'))
    (HF2 : Hid (∀ A c W, HdIn W A L → Calls Try.prog 7 #[.slice A L.length c, .int .i64 102] W fun e w' => ∃ b c', e = .returned (.slice (some b) L.length c') ∧ OwnHd w' W.heap.size (some b) c' L ∧ Below W.heap.size W w'))
    (HTX : Hid (∀ A c W, HdIn W A L → Calls Try.prog 26 #[.slice A L.length c] W fun e w' => e = .returned (.string T) ∧ Below W.heap.size W w'))
    (HRT : Hid (∀ A c W, HdIn W A L → Calls Try.prog 27 #[.slice A L.length c] W fun e w' => e = .returned (.string T) ∧ Below W.heap.size W w'))
    (HPA : Hid (∀ W, Calls Try.prog 28 #[.string T] W fun e w' => ∃ A' c', e = .returned (.tuple #[.slice A' P.length c', .int .i64 (m : Nat), .int .i64 (q : Nat)]) ∧ HdIn w' A' P ∧ Below W.heap.size W w'))
    (HGR : Hid (∀ A c W, HdIn W A L → Calls Try.prog 13 #[.slice A L.length c] W fun e w' => e = .returned (.bool g) ∧ Below W.heap.size W w'))
    (HSM : Hid (∀ A B c d W, HdIn W A L → HdIn W B L → Calls Try.prog 16 #[.slice A L.length c, .slice B L.length d] W fun e w' => e = .returned (.bool true) ∧ Below W.heap.size W w')) :
    Calls Try.prog 5 #[.slice A n c] w fun e w' => e = .returned (.bool true) ∧ Below w.heap.size w w' := by
  have HLV := Lib.hid lives22_any
  have HB := Lib.hid (Below.refl w.heap.size w)
  cases g
  · clear hg
    go_enter Try.func5, Try.ntmps5
    go_wp2_with (first
      | (go_at_call 7; (with_reducible refine (HF1.out _ HB.out).mono ?_); rintro e w1 ⟨b, d, rfl, o1, b1⟩; have HL := Lib.hid o1.hd; replace HB := Lib.hid (HB.out.trans (b1.mono HB.out.size)); clear o1 b1 HF1)
      | (go_at_call 7; (with_reducible refine (HF2.out _ _ _ HL.out).mono ?_); rintro e w1 ⟨b', d', rfl, o1, b1⟩; have HF := Lib.hid o1.hd; replace HL := Lib.hid (HL.out.below b1); replace HB := Lib.hid (HB.out.trans (b1.mono HB.out.size)); clear o1 b1)
      | (go_at_call 26; (with_reducible refine (HTX.out _ _ _ HF.out).mono ?_); rintro e w1 ⟨rfl, b1⟩; replace HL := Lib.hid (HL.out.below b1); replace HB := Lib.hid (HB.out.trans (b1.mono HB.out.size)); clear b1)
      | (go_at_call 27; (with_reducible refine (HRT.out _ _ _ HL.out).mono ?_); rintro e w1 ⟨rfl, b1⟩; replace HL := Lib.hid (HL.out.below b1); replace HB := Lib.hid (HB.out.trans (b1.mono HB.out.size)); clear b1)
      | (go_at_call 28; (with_reducible refine (HPA.out _).mono ?_); rintro e w1 ⟨A', c', rfl, hx, b1⟩; have HX := Lib.hid hx; replace HL := Lib.hid (HL.out.below b1); replace HB := Lib.hid (HB.out.trans (b1.mono HB.out.size)); clear hx b1)
      | (go_at_call 13; (with_reducible refine (HGR.out _ _ _ HL.out).mono ?_); rintro e w1 ⟨rfl, b1⟩; replace HX := Lib.hid (HX.out.below b1); replace HL := Lib.hid (HL.out.below b1); replace HB := Lib.hid (HB.out.trans (b1.mono HB.out.size)); clear b1)
      | (go_at_call 16; (with_reducible refine (HSM.out _ _ _ _ _ HX.out HL.out).mono ?_); rintro e w1 ⟨rfl, b1⟩; replace HB := Lib.hid (HB.out.trans (b1.mono HB.out.size)); clear b1)
      | (go_at_call 23; (with_reducible refine (HLV.out _).mono ?_); rintro e w1 ⟨rfl, b1⟩; replace HB := Lib.hid (HB.out.trans (b1.mono HB.out.size)); clear b1))
    go_ret
    exact ⟨rfl, HB.out⟩
  · obtain ⟨rfl, rfl, rfl⟩ := hg rfl
    clear hg
    go_enter Try.func5, Try.ntmps5
    go_wp2_with (first
      | (go_at_call 7; (with_reducible refine (HF1.out _ HB.out).mono ?_); rintro e w1 ⟨b, d, rfl, o1, b1⟩; have HL := Lib.hid o1.hd; replace HB := Lib.hid (HB.out.trans (b1.mono HB.out.size)); clear o1 b1 HF1)
      | (go_at_call 7; (with_reducible refine (HF2.out _ _ _ HL.out).mono ?_); rintro e w1 ⟨b', d', rfl, o1, b1⟩; have HF := Lib.hid o1.hd; replace HL := Lib.hid (HL.out.below b1); replace HB := Lib.hid (HB.out.trans (b1.mono HB.out.size)); clear o1 b1)
      | (go_at_call 26; (with_reducible refine (HTX.out _ _ _ HF.out).mono ?_); rintro e w1 ⟨rfl, b1⟩; replace HL := Lib.hid (HL.out.below b1); replace HB := Lib.hid (HB.out.trans (b1.mono HB.out.size)); clear b1)
      | (go_at_call 27; (with_reducible refine (HRT.out _ _ _ HL.out).mono ?_); rintro e w1 ⟨rfl, b1⟩; replace HL := Lib.hid (HL.out.below b1); replace HB := Lib.hid (HB.out.trans (b1.mono HB.out.size)); clear b1)
      | (go_at_call 28; (with_reducible refine (HPA.out _).mono ?_); rintro e w1 ⟨A', c', rfl, hx, b1⟩; have HX := Lib.hid hx; replace HL := Lib.hid (HL.out.below b1); replace HB := Lib.hid (HB.out.trans (b1.mono HB.out.size)); clear hx b1)
      | (go_at_call 13; (with_reducible refine (HGR.out _ _ _ HL.out).mono ?_); rintro e w1 ⟨rfl, b1⟩; replace HX := Lib.hid (HX.out.below b1); replace HL := Lib.hid (HL.out.below b1); replace HB := Lib.hid (HB.out.trans (b1.mono HB.out.size)); clear b1)
      | (go_at_call 16; (with_reducible refine (HSM.out _ _ _ _ _ HX.out HL.out).mono ?_); rintro e w1 ⟨rfl, b1⟩; replace HB := Lib.hid (HB.out.trans (b1.mono HB.out.size)); clear b1)
      | (go_at_call 23; (with_reducible refine (HLV.out _).mono ?_); rintro e w1 ⟨rfl, b1⟩; replace HB := Lib.hid (HB.out.trans (b1.mono HB.out.size)); clear b1))
    go_ret
    exact ⟨rfl, HB.out⟩

set_option maxHeartbeats 2000000 in
theorem back_any (A : Option Addr) (n c : Nat) (lp : Nat → Prm) (w : World) (h : Came w A n lp) (hn : n ≤ 9223372036854775807) :
    Calls Try.prog 5 #[.slice A n c] w fun e w' => e = .returned (.bool true) ∧ Below w.heap.size w w' := by
  have HF1 := Lib.hid (fun W (hW : Below w.heap.size w W) => few22_any A n c 102 lp W (h.below hW) hn (by omega))
  have hll := fewHs_len lp (min n 102)
  have hall := fewHs_all lp (min n 102)
  have hmin : min n 102 ≤ 102 := Nat.min_le_right _ _
  rw [← hll] at hmin
  generalize fewHs lp (min n 102) = L at *
  rw [← hll] at HF1
  clear hll h
  have h1 := small_all hall (m := 1048576) (by omega)
  have h2 := small_all hall (m := 1000) (by omega)
  have hT : (⟨(hdrsL L).toArray⟩ : ByteArray).size ≤ 1048576 := by
    have := hdrsL_le h2
    show (hdrsL L).toArray.size ≤ _
    rw [List.size_toArray]
    omega
  obtain ⟨T, hTT⟩ : ∃ T : ByteArray, T = ⟨(hdrsL L).toArray⟩ := ⟨_, rfl⟩
  rw [← hTT] at hT
  refine back_walk T (hdrsB L) (parA T).2.2 (parA T).2.1 A n c L (parA T).1 w (fun hg => by rw [parA_back hTT hg]; exact ⟨rfl, rfl, rfl⟩) HF1 ?_ ?_ ?_ ?_ ?_ ?_
  · exact fun A c W h => few22_own A c 102 L W h hall hmin (by omega)
  · exact fun A c W h => by rw [hTT]; exact htext_any A c L W h h2 (by omega)
  · exact fun A c W h => by rw [hTT]; exact rtext_any A c L W h h2 (by omega)
  · exact fun W => hparse_any T W hT
  · exact fun A c W h => rgood22_any A c L W h h1 (by omega)
  · exact fun A B c d W h h' => (rsameH_any A B c d _ W h h' (by omega)).mono fun e w' ⟨n, he, hw⟩ => ⟨he, by rw [hw]; exact Below.drewN' (Below.refl _ _) _⟩

end Go.Proofs.Ytjikahflbhgniaa
