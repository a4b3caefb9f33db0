/-
  What Text and Write of both sides answer at layer 24. Condition: the library's table of powers of ten is laid.
  What Text of both sides of layer 26 answers, and package url's Key. Conditions: texts take at most a mebibyte; for package url's ones the library's variable and tables lie as its text lays them.
  What the document's Text of layer 26, and package url's Key, answer. Conditions: texts take at most a mebibyte; for Key the library's variable and tables lie as its text lays them.
-/
import Derived.Test.YtagbndkfbnlpoaaGreatDoorZ8
import Derived.Test.YtagbndkfbnlpoaaGreatDoorZ3
import Derived.Test.YtagbndkfbnlpoaaGreatDoorZ7
import Derived.Test.YtagbndkfbnlpoaaGreatDoorZ20
import Derived.RegionTactic
import Derived.BigRegion
import Derived.Deep.QuietTactic
import Derived.BigQuiet
import Derived.Deep.RegionHeld2
import Derived.IntWalk
import Derived.Lib.Hide
namespace Go.Proofs.YtagbndkfbnlpoaaGreatDoor
open Go.RowKit

theorem PowTab.stays {w w' : World} (h : PowTab w) (hb : Below w.heap.size w w') : PowTab w' := fun nm hn => Lib.tabBelow_of_tabIs (h nm hn) w' hb
theorem worS_pos {n : Int} (h : ¬n < 0) : worS n = digS n.toNat := if_neg h

theorem worS_le {n : Int} (h : n ≤ 9223372036854775807) : (worS n).size ≤ 20 := by
  unfold worS
  split
  · exact Nat.zero_le _
  · exact digS_le (by omega)

theorem dtext24_any (n : Int) (w : World) (h0 : 0 ≤ n) (h1 : n ≤ 9223372036854775807) (ht : PowTab w) :
    Calls Tryz.prog 39 #[.int .i64 n] w fun e w' => e = .returned (.string (worS n)) ∧ Below w.heap.size w w' := by
  have := text_any n w (by omega) h1 ht
  rw [show n = ((n.toNat : Nat) : Int) from by omega, itoa_pos] at this
  rw [worS_pos (by omega)]
  rw [show ((n.toNat : Nat) : Int) = n from by omega] at this
  exact this
end Go.Proofs.YtagbndkfbnlpoaaGreatDoor
namespace Go.Proofs.YtagbndkfbnlpoaaGreatDoor
open Go.RowKit

def texG26 (u : Plc) : ByteArray := cond (goodU u) (texU u) ⟨#[]⟩
theorem rtext05b_any (n : Int) (w : World) (h0 : 0 ≤ n) (h1 : n ≤ 9223372036854775807) : Calls Tryz.prog 31 #[.int .i64 n] w fun e w' => e = .returned (.string (worS n)) ∧ w = w' := by
  have := refText_pos n.toNat w (by omega)
  rw [show ((n.toNat : Nat) : Int) = n from by omega] at this
  rw [worS_pos (by omega)]
  exact this
theorem good_port {u : Plc} (h : goodU u = true) : 0 ≤ u.po ∧ u.po ≤ 65535 := by
  obtain ⟨a, b, n, p, q⟩ := u
  rw [good_is] at h
  unfold prtB at h
  simp only [Bool.and_eq_true, decide_eq_true_eq] at h
  exact ⟨h.1.1.2.1.1, h.1.1.2.1.2⟩
theorem tex_port {a b p q : ByteArray} {n : Int} (h : 0 < n) : texU ⟨a, b, n, p, q⟩ = (((((a ++ ⟨#[58]⟩) ++ ⟨#[47, 47]⟩) ++ b) ++ (⟨#[58]⟩ ++ worS n)) ++ p) ++ q := by
  unfold texU prtS
  rw [if_pos h]
  apply ByteArray.ext
  simp
theorem tex_none26 {a b p q : ByteArray} {n : Int} (h : ¬ 0 < n) : texU ⟨a, b, n, p, q⟩ = (((((a ++ ⟨#[58]⟩) ++ ⟨#[47, 47]⟩) ++ b) ++ ⟨#[]⟩) ++ p) ++ q := by
  unfold texU prtS
  rw [if_neg h]
  apply ByteArray.ext
  simp

set_option maxRecDepth 100000 in
set_option maxHeartbeats 4000000 in
theorem text_walk (a b : ByteArray) (n : Int) (p q x T : ByteArray) (g : Bool) (w : World) (ha : a.size ≤ 1048576) (hb : b.size ≤ 1048576) (hp : p.size ≤ 1048576) (hq : q.size ≤ 1048576) (hx : x.size ≤ 20)
    (HG : Hid (∀ W, Below w.heap.size w W → Calls Tryz.prog 12 #[urV a b n p q] W fun e w' => e = .returned (.bool g) ∧ Below W.heap.size W w'))
    (HX : Hid (g = true → ∀ W, Below w.heap.size w W → Calls Tryz.prog 39 #[.int .i64 n] W fun e w' => e = .returned (.string x) ∧ Below W.heap.size W w'))
    (H0 : Hid (g = false → T = ⟨#[]⟩)) (H1 : Hid (g = true → (n != 0) = false → T = (((((a ++ ⟨#[58]⟩) ++ ⟨#[47, 47]⟩) ++ b) ++ ⟨#[]⟩) ++ p) ++ q)) (H2 : Hid (g = true → (n != 0) = true → T = (((((a ++ ⟨#[58]⟩) ++ ⟨#[47, 47]⟩) ++ b) ++ (⟨#[58]⟩ ++ x)) ++ p) ++ q)) :
    Calls Tryz.prog 15 #[urV a b n p q] w fun e w' => e = .returned (.string T) ∧ Below w.heap.size w w' := by
  obtain ⟨w0, hw0⟩ : ∃ w0, w0 = w.alloc (urC a b n p q) := ⟨_, rfl⟩
  have HD := Lib.hid (show UrAt w (urA a b n p q) w0 from by rw [hw0]; exact UrAt.new w _)
  obtain ⟨c0, c1, c2, c3, c4⟩ := url_keep HD.out.2
  have s1 : ¬9223372036854775807 < a.size + 1 := by omega
  have s2 : ¬9223372036854775807 < a.size + 1 + 2 := by omega
  have s3 : ¬9223372036854775807 < a.size + 1 + 2 + b.size := by omega
  have s4 : ¬9223372036854775807 < 1 + x.size := by omega
  have s5 : ¬9223372036854775807 < a.size + 1 + 2 + b.size + (1 + x.size) := by omega
  have s6 : ¬9223372036854775807 < a.size + 1 + 2 + b.size + (1 + x.size) + p.size := by omega
  have s7 : ¬9223372036854775807 < a.size + 1 + 2 + b.size + (1 + x.size) + p.size + q.size := by omega
  have s8 : ¬9223372036854775807 < a.size + 1 + 2 + b.size + p.size := by omega
  have s9 : ¬9223372036854775807 < a.size + 1 + 2 + b.size + p.size + q.size := by omega
  cases g
  · have HV := Lib.hid (H0.out rfl)
    go_enter Tryz.func15, Tryz.ntmps15
    go_wp2_with fail
    rw [← hw0]
    clear hw0
    go_wp2_with fail
    refine (HG.out _ HD.out.1).mono ?_
    rintro e w1 ⟨rfl, b9⟩
    replace HD := Lib.hid (HD.out.step b9)
    clear b9
    go_wp2
    go_ret
    exact ⟨by rw [HV.out]; rfl, HD.out.1⟩
  replace HX := Lib.hid (HX.out rfl)
  cases g1 : n != 0
  · have HV := Lib.hid (H1.out rfl g1)
    clear H0 H1 H2
    go_enter Tryz.func15, Tryz.ntmps15
    go_wp2_with fail
    rw [← hw0]
    clear hw0
    go_wp2_with fail
    refine (HG.out _ HD.out.1).mono ?_
    rintro e w1 ⟨rfl, b9⟩
    replace HD := Lib.hid (HD.out.step b9)
    clear b9 c0 c1 c2 c3 c4
    obtain ⟨c0, c1, c2, c3, c4⟩ := url_keep HD.out.2
    go_wp2
    go_ret
    exact ⟨by rw [HV.out]; first | rfl | (simp; done), HD.out.1⟩
  · have HV := Lib.hid (H2.out rfl g1)
    clear H0 H1 H2
    go_enter Tryz.func15, Tryz.ntmps15
    go_wp2_with fail
    rw [← hw0]
    clear hw0
    go_wp2_with fail
    refine (HG.out _ HD.out.1).mono ?_
    rintro e w1 ⟨rfl, b9⟩
    replace HD := Lib.hid (HD.out.step b9)
    clear b9 c0 c1 c2 c3 c4
    obtain ⟨c0, c1, c2, c3, c4⟩ := url_keep HD.out.2
    go_wp2_with fail
    refine (HX.out _ HD.out.1).mono ?_
    rintro e w2 ⟨rfl, b9⟩
    replace HD := Lib.hid (HD.out.step b9)
    clear b9 c0 c1 c2 c3 c4
    obtain ⟨c0, c1, c2, c3, c4⟩ := url_keep HD.out.2
    go_wp2
    go_ret
    exact ⟨by rw [HV.out]; first | rfl | (simp; done), HD.out.1⟩
theorem text26_any (a b : ByteArray) (n : Int) (p q : ByteArray) (w : World) (ha : a.size ≤ 1048576) (hb : b.size ≤ 1048576) (hp : p.size ≤ 1048576) (hq : q.size ≤ 1048576) (hm : MaxC w) (ht : PowTab w) :
    Calls Tryz.prog 15 #[urV a b n p q] w fun e w' => e = .returned (.string (texG26 ⟨a, b, n, p, q⟩)) ∧ Below w.heap.size w w' := by
  have HG := fun W (hW : Below w.heap.size w W) => ugood_any a b n p q W hb hp hq (hm.stays hW)
  unfold texG26
  cases hg : goodU ⟨a, b, n, p, q⟩
  · rw [hg] at HG
    exact text_walk a b n p q ⟨#[]⟩ ⟨#[]⟩ false w ha hb hp hq (by decide) (Lib.hid HG) (Lib.hid fun h => by cases h) (Lib.hid fun _ => rfl) (Lib.hid fun h => by cases h) (Lib.hid fun h => by cases h)
  · rw [hg] at HG
    have hr := good_port hg
    simp only at hr
    exact text_walk a b n p q (worS n) (texU ⟨a, b, n, p, q⟩) true w ha hb hp hq (worS_le (by omega)) (Lib.hid HG) (Lib.hid fun _ W hW => dtext24_any n W (by omega) (by omega) (ht.stays hW)) (Lib.hid fun h => by cases h)
      (Lib.hid fun _ h => tex_none26 (by have : n = 0 := by simpa using h
                                         omega)) (Lib.hid fun _ h => tex_port (by have : n ≠ 0 := by simpa using h
                                                                                  omega))

end Go.Proofs.YtagbndkfbnlpoaaGreatDoor
namespace Go.Proofs.YtagbndkfbnlpoaaGreatDoor
open Go.RowKit

theorem tex_port2 {a b p q : ByteArray} {n : Int} (h : 0 < n) : texU ⟨a, b, n, p, q⟩ = (((((a ++ ⟨#[58, 47, 47]⟩) ++ b) ++ ⟨#[58]⟩) ++ worS n) ++ p) ++ q := by
  unfold texU prtS
  rw [if_pos h]
  apply ByteArray.ext
  simp
theorem tex_none2 {a b p q : ByteArray} {n : Int} (h : ¬ 0 < n) : texU ⟨a, b, n, p, q⟩ = (((a ++ ⟨#[58, 47, 47]⟩) ++ b) ++ p) ++ q := by
  unfold texU prtS
  rw [if_neg h]
  apply ByteArray.ext
  simp

set_option maxRecDepth 100000 in
set_option maxHeartbeats 4000000 in
theorem rtext_walk (a b : ByteArray) (n : Int) (p q x T : ByteArray) (g : Bool) (w : World) (ha : a.size ≤ 1048576) (hb : b.size ≤ 1048576) (hp : p.size ≤ 1048576) (hq : q.size ≤ 1048576) (hx : x.size ≤ 20)
    (HG : Hid (∀ W, Calls Tryz.prog 14 #[urV a b n p q] W fun e w' => e = .returned (.bool g) ∧ Below W.heap.size W w'))
    (HX : Hid (g = true → ∀ W, Calls Tryz.prog 31 #[.int .i64 n] W fun e w' => e = .returned (.string x) ∧ W = w'))
    (H0 : Hid (g = false → T = ⟨#[]⟩)) (H1 : Hid (g = true → decide (0 < n) = false → T = (((a ++ ⟨#[58, 47, 47]⟩) ++ b) ++ p) ++ q)) (H2 : Hid (g = true → decide (0 < n) = true → T = (((((a ++ ⟨#[58, 47, 47]⟩) ++ b) ++ ⟨#[58]⟩) ++ x) ++ p) ++ q)) :
    Calls Tryz.prog 11 #[urV a b n p q] w fun e w' => e = .returned (.string T) ∧ Below w.heap.size w w' := by
  obtain ⟨w0, hw0⟩ : ∃ w0, w0 = w.alloc (urC a b n p q) := ⟨_, rfl⟩
  have HD := Lib.hid (show UrAt w (urA a b n p q) w0 from by rw [hw0]; exact UrAt.new w _)
  obtain ⟨c0, c1, c2, c3, c4⟩ := url_keep HD.out.2
  have s1 : ¬9223372036854775807 < a.size + 3 := by omega
  have s2 : ¬9223372036854775807 < a.size + 3 + b.size := by omega
  have s3 : ¬9223372036854775807 < a.size + 3 + b.size + 1 := by omega
  have s4 : ¬9223372036854775807 < a.size + 3 + b.size + 1 + x.size := by omega
  have s5 : ¬9223372036854775807 < a.size + 3 + b.size + 1 + x.size + p.size := by omega
  have s6 : ¬9223372036854775807 < a.size + 3 + b.size + 1 + x.size + p.size + q.size := by omega
  have s8 : ¬9223372036854775807 < a.size + 3 + b.size + p.size := by omega
  have s9 : ¬9223372036854775807 < a.size + 3 + b.size + p.size + q.size := by omega
  cases g
  · have HV := Lib.hid (H0.out rfl)
    go_enter Tryz.func11, Tryz.ntmps11
    go_wp2_with fail
    rw [← hw0]
    clear hw0
    go_wp2_with fail
    refine (HG.out _).mono ?_
    rintro e w1 ⟨rfl, b9⟩
    replace HD := Lib.hid (HD.out.step b9)
    clear b9
    go_wp2
    go_ret
    exact ⟨by rw [HV.out]; rfl, HD.out.1⟩
  replace HX := Lib.hid (HX.out rfl)
  cases g1 : decide (0 < n)
  · have HV := Lib.hid (H1.out rfl g1)
    clear H0 H1 H2
    go_enter Tryz.func11, Tryz.ntmps11
    go_wp2_with fail
    rw [← hw0]
    clear hw0
    go_wp2_with fail
    refine (HG.out _).mono ?_
    rintro e w1 ⟨rfl, b9⟩
    replace HD := Lib.hid (HD.out.step b9)
    clear b9 c0 c1 c2 c3 c4
    obtain ⟨c0, c1, c2, c3, c4⟩ := url_keep HD.out.2
    go_wp2
    go_ret
    exact ⟨by rw [HV.out]; first | rfl | (simp; done), HD.out.1⟩
  · have HV := Lib.hid (H2.out rfl g1)
    clear H0 H1 H2
    go_enter Tryz.func11, Tryz.ntmps11
    go_wp2_with fail
    rw [← hw0]
    clear hw0
    go_wp2_with fail
    refine (HG.out _).mono ?_
    rintro e w1 ⟨rfl, b9⟩
    replace HD := Lib.hid (HD.out.step b9)
    clear b9 c0 c1 c2 c3 c4
    obtain ⟨c0, c1, c2, c3, c4⟩ := url_keep HD.out.2
    go_wp2_with (go_at_call 31; (with_reducible refine (HX.out _).mono ?_); rintro e w2 ⟨rfl, rfl⟩)
    go_ret
    exact ⟨by rw [HV.out]; first | rfl | (simp; done), HD.out.1⟩
theorem rtext26_any (a b : ByteArray) (n : Int) (p q : ByteArray) (w : World) (ha : a.size ≤ 1048576) (hb : b.size ≤ 1048576) (hp : p.size ≤ 1048576) (hq : q.size ≤ 1048576) :
    Calls Tryz.prog 11 #[urV a b n p q] w fun e w' => e = .returned (.string (texG26 ⟨a, b, n, p, q⟩)) ∧ Below w.heap.size w w' := by
  have HG := fun W => rgood26_any a b n p q W hb hp hq
  unfold texG26
  cases hg : goodU ⟨a, b, n, p, q⟩
  · rw [hg] at HG
    exact rtext_walk a b n p q ⟨#[]⟩ ⟨#[]⟩ false w ha hb hp hq (by decide) (Lib.hid HG) (Lib.hid fun h => by cases h) (Lib.hid fun _ => rfl) (Lib.hid fun h => by cases h) (Lib.hid fun h => by cases h)
  · rw [hg] at HG
    have hr := good_port hg
    simp only at hr
    exact rtext_walk a b n p q (worS n) (texU ⟨a, b, n, p, q⟩) true w ha hb hp hq (worS_le (by omega)) (Lib.hid HG) (Lib.hid fun _ W => rtext05b_any n W (by omega) (by omega)) (Lib.hid fun h => by cases h)
      (Lib.hid fun _ h => tex_none2 (of_decide_eq_false h)) (Lib.hid fun _ h => tex_port2 (of_decide_eq_true h))

/-- The place, or none; the code. -/
def plcU : Except Int Plc → Plc
  | .ok u => u
  | .error _ => zerU
def plcE : Except Int Plc → Int
  | .ok _ => 0
  | .error e => e
theorem plc_two (r : Except Int Plc) : plcV r = .tuple #[plV (plcU r), .int .i64 (plcE r)] := by cases r <;> rfl
def keyS (s : ByteArray) : ByteArray := texG26 (plcU (urlO s))

set_option maxRecDepth 100000 in
set_option maxHeartbeats 2000000 in
theorem key_walk (s a b : ByteArray) (n : Int) (p q T : ByteArray) (k : Int) (w : World)
    (HP : Hid (Calls Tryz.prog 7 #[.string s] w fun x w' => x = .returned (.tuple #[urV a b n p q, .int .i64 k]) ∧ Below w.heap.size w w'))
    (HT : Hid (∀ W, Below w.heap.size w W → Calls Tryz.prog 15 #[urV a b n p q] W fun e w' => e = .returned (.string T) ∧ Below W.heap.size W w')) :
    Calls Tryz.prog 9 #[.string s] w fun x w' => x = .returned (.tuple #[.string T, .int .i64 k]) ∧ Below w.heap.size w w' := by
  go_enter Tryz.func9, Tryz.ntmps9
  go_wp2_with fail
  refine HP.out.mono ?_
  rintro x w1 ⟨rfl, b1⟩
  obtain ⟨w2, hw2⟩ : ∃ w2, w2 = w1.alloc (urC a b n p q) := ⟨_, rfl⟩
  have HB := Lib.hid (show Below w.heap.size w w2 from by rw [hw2]; exact b1.alloc b1.size _)
  have HK := Lib.hid (show Blk w2 w1.heap.size 24 (urA a b n p q) from by rw [hw2]; exact Blk.new w1 _ _)
  clear b1
  go_upto_region 2 with fail
  rw [← hw2]
  clear hw2
  obtain ⟨c0, c1, c2, c3, c4⟩ := url_keep HK.out
  go_wp2_with fail
  refine (HT.out _ HB.out).mono ?_
  rintro x w3 ⟨rfl, b1⟩
  replace HB := Lib.hid (below_on HB.out b1)
  clear b1
  go_wp2
  exact bodyPost_ret (v := .tuple #[.string T, .int .i64 k]) (by simp [results, Tryz.results9, go_sem]) rfl ⟨rfl, HB.out⟩
theorem zer_bad : goodU zerU = false := by kernel_rfl
theorem key_any (s : ByteArray) (w : World) (hs : s.size ≤ 9223372036854775807) (hm : MaxC w) (hu : UtfC w) (ht : PowTab w)
    (hz : ∀ u, urlO s = .ok u → u.sc.size ≤ 1048576 ∧ u.ho.size ≤ 1048576 ∧ u.pa.size ≤ 1048576 ∧ u.qu.size ≤ 1048576) :
    Calls Tryz.prog 9 #[.string s] w fun x w' => x = .returned (.tuple #[.string (keyS s), .int .i64 (plcE (urlO s))]) ∧ Below w.heap.size w w' := by
  have HP := parse26_any s w hs hm hu
  rw [plc_two] at HP
  have hz2 : (plcU (urlO s)).sc.size ≤ 1048576 ∧ (plcU (urlO s)).ho.size ≤ 1048576 ∧ (plcU (urlO s)).pa.size ≤ 1048576 ∧ (plcU (urlO s)).qu.size ≤ 1048576 := by
    cases h : urlO s with
    | ok u => exact hz u h
    | error e => exact ⟨Nat.zero_le 1048576, Nat.zero_le 1048576, Nat.zero_le 1048576, Nat.zero_le 1048576⟩
  unfold keyS
  generalize plcU (urlO s) = u at *
  generalize plcE (urlO s) = k at *
  obtain ⟨a, b, n, p, q⟩ := u
  obtain ⟨h1, h2, h3, h4⟩ := hz2
  exact key_walk s a b n p q _ k w (Lib.hid HP) (Lib.hid fun W hW => text26_any a b n p q W h1 h2 h3 h4 (hm.stays hW) (ht.stays hW))

end Go.Proofs.YtagbndkfbnlpoaaGreatDoor
