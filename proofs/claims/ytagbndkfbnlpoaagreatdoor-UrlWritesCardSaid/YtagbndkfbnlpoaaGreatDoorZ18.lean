/-
  What a good port and a good place are, of both sides of layer 26. Conditions: texts take at most a mebibyte; for package url's one the variable MaxLen of the library holds a number.
  What package url's cut, portOf and read answer. Conditions: the text takes at most 2^18 bytes; the variable MaxLen of the library holds a number.
  What package url's bare answers: a text without bytes up to 32 at both ends. Conditions: the text is as long as a length can be; the library's two tables of UTF-8 lie as its text lays them.
-/
import Derived.Test.YtagbndkfbnlpoaaGreatDoorZ17
import Derived.Deep.Cut
import Derived.Test.YtagbndkfbnlpoaaGreatDoorZ10
import Derived.Test.YtagbndkfbnlpoaaGreatDoorZ12
import Derived.Test.YtagbndkfbnlpoaaGreatDoorZ6
import Derived.IntWalk
import Derived.Test.YtagbndkfbnlpoaaGreatDoorZ9
import Derived.Test.YtagbndkfbnlpoaaGreatDoorZ7
import Derived.Test.YtagbndkfbnlpoaaGreatDoorZ1
import Derived.Lib.TrimUEq
import Derived.Shelf.GgClosure.StringsTrimFunc
namespace Go.Proofs.YtagbndkfbnlpoaaGreatDoor
open Go.RowKit

/-- A world behind w in which a place lies in the block behind w's. -/
def UrAt (w : World) (cs : Array Value) (W : World) : Prop := Below w.heap.size w W ∧ Blk W w.heap.size 24 cs
theorem UrAt.drew {w W : World} {cs : Array Value} (h : UrAt w cs W) : UrAt w cs W.drew := ⟨h.1.drew, h.2.drew⟩
theorem UrAt.next {w : World} {cs : Array Value} {x : Wld (UrAt w cs)} {W' : World} (hb : Below x.val.heap.size x.val W') : UrAt w cs W' := ⟨x.ok.1.trans (hb.mono x.ok.1.size), x.ok.2.below hb x.ok.2.lt⟩
theorem UrAt.same {w : World} {cs : Array Value} {x : Wld (UrAt w cs)} {W' : World} (h : W' = x.val) : UrAt w cs W' := h ▸ x.ok
theorem UrAt.new (w : World) (cs : Array Value) : UrAt w cs (w.alloc (.cells cs 24)) := ⟨(Below.refl _ _).alloc (Nat.le_refl _) _, Blk.new _ _ _⟩
theorem UrAt.step {w W W' : World} {cs : Array Value} (h : UrAt w cs W) (hb : Below W.heap.size W W') : UrAt w cs W' := ⟨below_on h.1 hb, h.2.below hb h.2.lt⟩

def prtB (n k : Int) : Bool := decide (0 ≤ n) && decide (n ≤ 65535) && n != k
theorem good_is (a b : ByteArray) (n : Int) (p q : ByteArray) : goodU ⟨a, b, n, p, q⟩ = (ownP a != 0 && namB b && prtB n (ownP a) && pthB p && qryB q) := by
  unfold goodU prtB
  simp only [Bool.and_assoc]

set_option maxRecDepth 100000 in
set_option maxHeartbeats 2000000 in
theorem goodPort_any (a b : ByteArray) (n : Int) (p q : ByteArray) (w : World) : Calls Tryz.prog 34 #[urV a b n p q] w fun e w' => e = .returned (.bool (prtB n (ownP a))) ∧ Below w.heap.size w w' := by
  have HO := Lib.hid (fun W => (ownPort_any a W).mono fun _ _ h => (⟨h.1, h.2.symm⟩ : _ ∧ _))
  have HV : Hid (prtB n (ownP a) = (decide (0 ≤ n) && decide (n ≤ 65535) && n != ownP a)) := rfl
  generalize prtB n (ownP a) = v at *
  obtain ⟨w0, hw0⟩ : ∃ w0, w0 = w.alloc (urC a b n p q) := ⟨_, rfl⟩
  have HB := Lib.hid (show Below w.heap.size w w0 from by rw [hw0]; exact (Below.refl w.heap.size w).alloc (Nat.le_refl _) _)
  have HK := Lib.hid (show Blk w0 w.heap.size 24 (urA a b n p q) from by rw [hw0]; exact Blk.new w _ _)
  generalize ownP a = k at *
  obtain ⟨c0, c1, c2, c3, c4⟩ := url_keep HK.out
  cases g1 : decide (0 ≤ n) <;> cases g2 : decide (n ≤ 65535) <;> cases g3 : n != k
  all_goals
    rw [g1, g2, g3] at HV
    go_enter Tryz.func34, Tryz.ntmps34
    go_wp2_with fail
    rw [← hw0]
    clear hw0
    go_quiet (first | (go_at_call 32; exact Calls.quiet_of_same (HO.out _)))
    go_wp2
    go_ret
    exact ⟨by rw [HV.out]; rfl, Below.drewN' HB.out _⟩

set_option maxRecDepth 100000 in
set_option maxHeartbeats 8000000 in
theorem good_walk (a b : ByteArray) (n : Int) (p q : ByteArray) (k : Int) (h r g f v : Bool) (w : World)
    (HO : Hid (∀ W, Calls Tryz.prog 32 #[.string a] W fun e w' => e = .returned (.int .i64 k) ∧ W = w'))
    (HH : Hid (∀ W, Below w.heap.size w W → Calls Tryz.prog 33 #[.string b] W fun e w' => e = .returned (.bool h) ∧ Below W.heap.size W w'))
    (HR : Hid (∀ W, Calls Tryz.prog 34 #[urV a b n p q] W fun e w' => e = .returned (.bool r) ∧ Below W.heap.size W w'))
    (HG : Hid (∀ W, Below w.heap.size w W → Calls Tryz.prog 35 #[.string p] W fun e w' => e = .returned (.bool g) ∧ Below W.heap.size W w'))
    (HQ : Hid (∀ W, Calls Tryz.prog 36 #[.string q] W fun e w' => e = .returned (.bool f) ∧ Below W.heap.size W w'))
    (HV : Hid (v = (k != 0 && h && r && g && f))) :
    Calls Tryz.prog 12 #[urV a b n p q] w fun e w' => e = .returned (.bool v) ∧ Below w.heap.size w w' := by
  obtain ⟨w0, hw0⟩ : ∃ w0, w0 = w.alloc (urC a b n p q) := ⟨_, rfl⟩
  have HB := Lib.hid (show Below w.heap.size w w0 from by rw [hw0]; exact (Below.refl w.heap.size w).alloc (Nat.le_refl _) _)
  have HK := Lib.hid (show Blk w0 w.heap.size 24 (urA a b n p q) from by rw [hw0]; exact Blk.new w _ _)
  obtain ⟨c0, c1, c2, c3, c4⟩ := url_keep HK.out
  cases g0 : k != 0
  · rw [g0] at HV
    go_enter Tryz.func12, Tryz.ntmps12
    go_wp2_with fail
    rw [← hw0]
    clear hw0
    go_wp2_with (first
      | (go_at_call 32; (with_reducible refine (HO.out _).mono ?_); rintro e w9 ⟨rfl, rfl⟩)
      | (go_at_call 33; (with_reducible refine (HH.out _ HB.out).mono ?_); rintro e w9 ⟨rfl, b9⟩; replace HK := Lib.hid (HK.out.below b9 HK.out.lt); replace HB := Lib.hid (below_on HB.out b9); clear c0 c1 c2 c3 c4 b9; obtain ⟨c0, c1, c2, c3, c4⟩ := url_keep HK.out)
      | (go_at_call 34; (with_reducible refine (HR.out _).mono ?_); rintro e w9 ⟨rfl, b9⟩; replace HK := Lib.hid (HK.out.below b9 HK.out.lt); replace HB := Lib.hid (below_on HB.out b9); clear c0 c1 c2 c3 c4 b9; obtain ⟨c0, c1, c2, c3, c4⟩ := url_keep HK.out)
      | (go_at_call 35; (with_reducible refine (HG.out _ HB.out).mono ?_); rintro e w9 ⟨rfl, b9⟩; replace HK := Lib.hid (HK.out.below b9 HK.out.lt); replace HB := Lib.hid (below_on HB.out b9); clear c0 c1 c2 c3 c4 b9; obtain ⟨c0, c1, c2, c3, c4⟩ := url_keep HK.out)
      | (go_at_call 36; (with_reducible refine (HQ.out _).mono ?_); rintro e w9 ⟨rfl, b9⟩; replace HK := Lib.hid (HK.out.below b9 HK.out.lt); replace HB := Lib.hid (below_on HB.out b9); clear c0 c1 c2 c3 c4 b9; obtain ⟨c0, c1, c2, c3, c4⟩ := url_keep HK.out))
    go_ret
    exact ⟨by rw [HV.out]; rfl, HB.out⟩
  rw [g0] at HV
  cases h
  · go_enter Tryz.func12, Tryz.ntmps12
    go_wp2_with fail
    rw [← hw0]
    clear hw0
    go_wp2_with (first
      | (go_at_call 32; (with_reducible refine (HO.out _).mono ?_); rintro e w9 ⟨rfl, rfl⟩)
      | (go_at_call 33; (with_reducible refine (HH.out _ HB.out).mono ?_); rintro e w9 ⟨rfl, b9⟩; replace HK := Lib.hid (HK.out.below b9 HK.out.lt); replace HB := Lib.hid (below_on HB.out b9); clear c0 c1 c2 c3 c4 b9; obtain ⟨c0, c1, c2, c3, c4⟩ := url_keep HK.out)
      | (go_at_call 34; (with_reducible refine (HR.out _).mono ?_); rintro e w9 ⟨rfl, b9⟩; replace HK := Lib.hid (HK.out.below b9 HK.out.lt); replace HB := Lib.hid (below_on HB.out b9); clear c0 c1 c2 c3 c4 b9; obtain ⟨c0, c1, c2, c3, c4⟩ := url_keep HK.out)
      | (go_at_call 35; (with_reducible refine (HG.out _ HB.out).mono ?_); rintro e w9 ⟨rfl, b9⟩; replace HK := Lib.hid (HK.out.below b9 HK.out.lt); replace HB := Lib.hid (below_on HB.out b9); clear c0 c1 c2 c3 c4 b9; obtain ⟨c0, c1, c2, c3, c4⟩ := url_keep HK.out)
      | (go_at_call 36; (with_reducible refine (HQ.out _).mono ?_); rintro e w9 ⟨rfl, b9⟩; replace HK := Lib.hid (HK.out.below b9 HK.out.lt); replace HB := Lib.hid (below_on HB.out b9); clear c0 c1 c2 c3 c4 b9; obtain ⟨c0, c1, c2, c3, c4⟩ := url_keep HK.out))
    go_ret
    exact ⟨by rw [HV.out]; rfl, HB.out⟩
  cases r
  · go_enter Tryz.func12, Tryz.ntmps12
    go_wp2_with fail
    rw [← hw0]
    clear hw0
    go_wp2_with (first
      | (go_at_call 32; (with_reducible refine (HO.out _).mono ?_); rintro e w9 ⟨rfl, rfl⟩)
      | (go_at_call 33; (with_reducible refine (HH.out _ HB.out).mono ?_); rintro e w9 ⟨rfl, b9⟩; replace HK := Lib.hid (HK.out.below b9 HK.out.lt); replace HB := Lib.hid (below_on HB.out b9); clear c0 c1 c2 c3 c4 b9; obtain ⟨c0, c1, c2, c3, c4⟩ := url_keep HK.out)
      | (go_at_call 34; (with_reducible refine (HR.out _).mono ?_); rintro e w9 ⟨rfl, b9⟩; replace HK := Lib.hid (HK.out.below b9 HK.out.lt); replace HB := Lib.hid (below_on HB.out b9); clear c0 c1 c2 c3 c4 b9; obtain ⟨c0, c1, c2, c3, c4⟩ := url_keep HK.out)
      | (go_at_call 35; (with_reducible refine (HG.out _ HB.out).mono ?_); rintro e w9 ⟨rfl, b9⟩; replace HK := Lib.hid (HK.out.below b9 HK.out.lt); replace HB := Lib.hid (below_on HB.out b9); clear c0 c1 c2 c3 c4 b9; obtain ⟨c0, c1, c2, c3, c4⟩ := url_keep HK.out)
      | (go_at_call 36; (with_reducible refine (HQ.out _).mono ?_); rintro e w9 ⟨rfl, b9⟩; replace HK := Lib.hid (HK.out.below b9 HK.out.lt); replace HB := Lib.hid (below_on HB.out b9); clear c0 c1 c2 c3 c4 b9; obtain ⟨c0, c1, c2, c3, c4⟩ := url_keep HK.out))
    go_ret
    exact ⟨by rw [HV.out]; rfl, HB.out⟩
  cases g
  · go_enter Tryz.func12, Tryz.ntmps12
    go_wp2_with fail
    rw [← hw0]
    clear hw0
    go_wp2_with (first
      | (go_at_call 32; (with_reducible refine (HO.out _).mono ?_); rintro e w9 ⟨rfl, rfl⟩)
      | (go_at_call 33; (with_reducible refine (HH.out _ HB.out).mono ?_); rintro e w9 ⟨rfl, b9⟩; replace HK := Lib.hid (HK.out.below b9 HK.out.lt); replace HB := Lib.hid (below_on HB.out b9); clear c0 c1 c2 c3 c4 b9; obtain ⟨c0, c1, c2, c3, c4⟩ := url_keep HK.out)
      | (go_at_call 34; (with_reducible refine (HR.out _).mono ?_); rintro e w9 ⟨rfl, b9⟩; replace HK := Lib.hid (HK.out.below b9 HK.out.lt); replace HB := Lib.hid (below_on HB.out b9); clear c0 c1 c2 c3 c4 b9; obtain ⟨c0, c1, c2, c3, c4⟩ := url_keep HK.out)
      | (go_at_call 35; (with_reducible refine (HG.out _ HB.out).mono ?_); rintro e w9 ⟨rfl, b9⟩; replace HK := Lib.hid (HK.out.below b9 HK.out.lt); replace HB := Lib.hid (below_on HB.out b9); clear c0 c1 c2 c3 c4 b9; obtain ⟨c0, c1, c2, c3, c4⟩ := url_keep HK.out)
      | (go_at_call 36; (with_reducible refine (HQ.out _).mono ?_); rintro e w9 ⟨rfl, b9⟩; replace HK := Lib.hid (HK.out.below b9 HK.out.lt); replace HB := Lib.hid (below_on HB.out b9); clear c0 c1 c2 c3 c4 b9; obtain ⟨c0, c1, c2, c3, c4⟩ := url_keep HK.out))
    go_ret
    exact ⟨by rw [HV.out]; rfl, HB.out⟩
  go_enter Tryz.func12, Tryz.ntmps12
  go_wp2_with fail
  rw [← hw0]
  clear hw0
  go_wp2_with (first
    | (go_at_call 32; (with_reducible refine (HO.out _).mono ?_); rintro e w9 ⟨rfl, rfl⟩)
    | (go_at_call 33; (with_reducible refine (HH.out _ HB.out).mono ?_); rintro e w9 ⟨rfl, b9⟩; replace HK := Lib.hid (HK.out.below b9 HK.out.lt); replace HB := Lib.hid (below_on HB.out b9); clear c0 c1 c2 c3 c4 b9; obtain ⟨c0, c1, c2, c3, c4⟩ := url_keep HK.out)
    | (go_at_call 34; (with_reducible refine (HR.out _).mono ?_); rintro e w9 ⟨rfl, b9⟩; replace HK := Lib.hid (HK.out.below b9 HK.out.lt); replace HB := Lib.hid (below_on HB.out b9); clear c0 c1 c2 c3 c4 b9; obtain ⟨c0, c1, c2, c3, c4⟩ := url_keep HK.out)
    | (go_at_call 35; (with_reducible refine (HG.out _ HB.out).mono ?_); rintro e w9 ⟨rfl, b9⟩; replace HK := Lib.hid (HK.out.below b9 HK.out.lt); replace HB := Lib.hid (below_on HB.out b9); clear c0 c1 c2 c3 c4 b9; obtain ⟨c0, c1, c2, c3, c4⟩ := url_keep HK.out)
    | (go_at_call 36; (with_reducible refine (HQ.out _).mono ?_); rintro e w9 ⟨rfl, b9⟩; replace HK := Lib.hid (HK.out.below b9 HK.out.lt); replace HB := Lib.hid (below_on HB.out b9); clear c0 c1 c2 c3 c4 b9; obtain ⟨c0, c1, c2, c3, c4⟩ := url_keep HK.out))
  go_ret
  exact ⟨by rw [HV.out]; rfl, HB.out⟩
theorem ugood_any (a b : ByteArray) (n : Int) (p q : ByteArray) (w : World) (hb : b.size ≤ 1048576) (hp : p.size ≤ 1048576) (hq : q.size ≤ 1048576) (hm : MaxC w) :
    Calls Tryz.prog 12 #[urV a b n p q] w fun e w' => e = .returned (.bool (goodU ⟨a, b, n, p, q⟩)) ∧ Below w.heap.size w w' :=
  good_walk a b n p q (ownP a) (namB b) (prtB n (ownP a)) (pthB p) (qryB q) _ w (Lib.hid fun W => ownPort_any a W) (Lib.hid fun W hW => goodHost_any b W (by omega) (hm.stays hW)) (Lib.hid fun W => goodPort_any a b n p q W)
    (Lib.hid fun W hW => goodPath_any p W hp (hm.stays hW)) (Lib.hid fun W => goodQuery_any q W hq) (Lib.hid (good_is a b n p q))

end Go.Proofs.YtagbndkfbnlpoaaGreatDoor
namespace Go.Proofs.YtagbndkfbnlpoaaGreatDoor
open Go.RowKit

theorem up_size (c : UInt8) (s : ByteArray) : (upS26 c s).size ≤ s.size := by unfold upS26; simp; omega
theorem fr_size (c : UInt8) (s : ByteArray) : (frS c s).size ≤ s.size := by unfold frS; simp
theorem af_size (c : UInt8) (s : ByteArray) : (afS c s).size ≤ s.size := by unfold afS; simp
set_option maxHeartbeats 1000000 in
theorem ucut_any (c : UInt8) (s : ByteArray) (w : World) (_hs : s.size ≤ 9223372036854775806) :
    Calls Tryz.prog 43 #[.string s, .string ⟨#[c]⟩] w fun x w' => x = .returned (.tuple #[.string (upS26 c s), .string (frS c s)]) ∧ Below w.heap.size w w' := by
  have HI : Hid (∀ W, Calls Tryz.prog 64 #[.string s, .string ⟨#[c]⟩] W fun e w' => e = .returned (.int .i64 (if scan (notB c) s 0 < s.size then (scan (notB c) s 0 : Int) else -1)) ∧ W = w') := Lib.hid (fun W => by
    rw [← idx_scan]
    exact (strings_Index_one s c W).mono fun _ _ h => (⟨h.1, h.2.symm⟩ : _ ∧ _))
  have hle := scan_le (notB c) s 0 (Nat.zero_le _)
  obtain ⟨e, he⟩ : ∃ e, e = scan (notB c) s 0 := ⟨_, rfl⟩
  have hu : upS26 c s = s.extract 0 e := by rw [he]; rfl
  have hf : frS c s = s.extract e s.size := by rw [he]; rfl
  rw [← he] at HI hle
  rw [hu, hf]
  clear hu hf he
  obtain ⟨t, ht⟩ : ∃ t : ByteArray, t = ⟨#[c]⟩ := ⟨_, rfl⟩
  rw [← ht] at HI ⊢
  clear ht
  by_cases hlt : e < s.size
  · rw [if_pos hlt] at HI
    have g0 : ¬ (e : Int) < 0 := by omega
    have g1 : (0 : Int) ≤ (e : Int) := by omega
    have g2 : (e : Int) ≤ (s.size : Int) := by omega
    go_enter Tryz.func43, Tryz.ntmps43
    go_wp2_with (go_at_call 64; (with_reducible refine (HI.out _).mono ?_); rintro x w1 ⟨rfl, rfl⟩)
    go_quiet (fail)
    go_wp2
    exact bodyPost_ret (v := .tuple #[.string (s.extract 0 e), .string (s.extract e s.size)]) (by simp [results, Tryz.results43, go_sem]) rfl ⟨rfl, Below.drewN' (Below.refl _ _) _⟩
  · rw [if_neg hlt] at HI
    have h1 : s.extract 0 e = s := by rw [show e = s.size from by omega]; exact extract_all s
    have h2 : s.extract e s.size = ⟨#[]⟩ := by rw [show e = s.size from by omega]; apply ByteArray.ext; simp
    rw [h1, h2]
    go_enter Tryz.func43, Tryz.ntmps43
    go_wp2_with (go_at_call 64; (with_reducible refine (HI.out _).mono ?_); rintro x w1 ⟨rfl, rfl⟩)
    exact bodyPost_ret (v := .tuple #[.string s, .string ⟨#[]⟩]) (by simp [results, Tryz.results43, go_sem]) rfl ⟨rfl, Below.refl _ _⟩
theorem scut_any (c : UInt8) (s : ByteArray) (hs : s.size ≤ 9223372036854775806) : ∃ b : Bool, ∀ W, Calls Tryz.prog 44 #[.string s, .string ⟨#[c]⟩] W fun x w' => x = .returned (.tuple #[.string (upS26 c s), .string (afS c s), .bool b]) ∧ Below W.heap.size W w' := by
  by_cases hlt : scan (notB c) s 0 < s.size
  · exact ⟨true, fun W => (cutAt_yes c s _ W hs rfl hlt).mono fun _ _ ⟨h1, n, h2⟩ => ⟨h1, h2 ▸ Below.drewN' (Below.refl _ _) _⟩⟩
  · have hle := scan_le (notB c) s 0 (Nat.zero_le _)
    have h1 : upS26 c s = s := by unfold upS26; rw [show scan (notB c) s 0 = s.size from by omega]; exact extract_all s
    have h2 : afS c s = ⟨#[]⟩ := by unfold afS; rw [show scan (notB c) s 0 = s.size from by omega]; apply ByteArray.ext; simp
    exact ⟨false, fun W => by
      rw [h1, h2]
      exact (cutAt_no c s W hlt).mono fun _ _ ⟨h1, n, h2⟩ => ⟨h1, h2 ▸ Below.drewN' (Below.refl _ _) _⟩⟩

/-- The port of digits: the number or a code. -/
def ptoN (d : ByteArray) : Int := if d.toList == [] then 0 else if parE d != 0 then 0 else if parN d == 0 then 0 else if decide (65535 < parN d) then 0 else parN d
def ptoE (d : ByteArray) : Int := if d.toList == [] then 0 else if parE d != 0 then parE d else if parN d == 0 then 9 else if decide (65535 < parN d) then 9 else 0
set_option maxHeartbeats 2000000 in
theorem portOf_any (d : ByteArray) (w : World) (hs : d.size ≤ 9223372036854775807) :
    Calls Tryz.prog 23 #[.string d] w fun x w' => x = .returned (.tuple #[.int .i64 (ptoN d), .int .i64 (ptoE d)]) ∧ Below w.heap.size w w' := by
  have HP := Lib.hid (fun W => parse_any d W hs)
  have HN : Hid (ptoN d = if d.toList == [] then 0 else if parE d != 0 then 0 else if parN d == 0 then 0 else if decide (65535 < parN d) then 0 else parN d) := Lib.hid rfl
  have HE : Hid (ptoE d = if d.toList == [] then 0 else if parE d != 0 then parE d else if parN d == 0 then 9 else if decide (65535 < parN d) then 9 else 0) := Lib.hid rfl
  have HP2 : Hid (∀ W, Calls Tryz.prog 49 #[.string d] W fun e w' => e = .returned (.tuple #[.int .i64 (parN d), .int .i64 (parE d)]) ∧ Below W.heap.size W w') := HP
  clear HP
  generalize ptoN d = n at *
  generalize ptoE d = e at *
  generalize parN d = m at *
  generalize parE d = k at *
  cases g0 : d.toList == []
  rotate_left
  · rw [g0] at HN HE
    go_enter Tryz.func23, Tryz.ntmps23
    go_wp2
    exact bodyPost_ret (v := .tuple #[.int .i64 n, .int .i64 e]) (by rw [HN.out, HE.out]; simp [results, Tryz.results23, go_sem]) rfl ⟨rfl, Below.refl _ _⟩
  cases g1 : k != 0 <;> cases g2 : m == 0 <;> cases g3 : decide (65535 < m)
  all_goals
    rw [g0, g1, g2, g3] at HN HE
    go_enter Tryz.func23, Tryz.ntmps23
    go_wp2_with fail
    refine (HP2.out _).mono ?_
    rintro x w1 ⟨rfl, b1⟩
    have HB := Lib.hid b1
    clear b1
    go_wp2
    exact bodyPost_ret (v := .tuple #[.int .i64 n, .int .i64 e]) (by rw [HN.out, HE.out]; simp [results, Tryz.results23, go_sem]) rfl ⟨rfl, HB.out⟩

theorem url_thaw {w : World} {g : Nat} {vs : Array Value} (h : Blk w g 24 vs) : w.frozen? ⟨g, 0, none⟩ = false ∧ w.frozen? ⟨g, 1, none⟩ = false ∧ w.frozen? ⟨g, 2, none⟩ = false ∧ w.frozen? ⟨g, 3, none⟩ = false ∧ w.frozen? ⟨g, 4, none⟩ = false := ⟨h.frozen 0, h.frozen 1, h.frozen 2, h.frozen 3, h.frozen 4⟩
def put5 (W : World) (g : Nat) (a b : ByteArray) (n : Int) (p q : ByteArray) : World := ((((W.setCell ⟨g, 0, none⟩ (.string a)).setCell ⟨g, 1, none⟩ (.string b)).setCell ⟨g, 2, none⟩ (.int .i64 n)).setCell ⟨g, 3, none⟩ (.string p)).setCell ⟨g, 4, none⟩ (.string q)
theorem put5_blk {W : World} {g : Nat} {a0 b0 : ByteArray} {n0 : Int} {p0 q0 : ByteArray} (h : Blk W g 24 (urA a0 b0 n0 p0 q0)) (a b : ByteArray) (n : Int) (p q : ByteArray) : Blk (put5 W g a b n p q) g 24 (urA a b n p q) :=
  ((((h.set_ 0 (.string a)).set_ 1 (.string b)).set_ 2 (.int .i64 n)).set_ 3 (.string p)).set_ 4 (.string q)
theorem put5_below {B : Nat} {w W : World} {g : Nat} (h : Below B w W) (hg : B ≤ g) (a b : ByteArray) (n : Int) (p q : ByteArray) : Below B w (put5 W g a b n p q) :=
  ((((h.setCell (p := ⟨g, 0, none⟩) hg _).setCell (p := ⟨g, 1, none⟩) hg _).setCell (p := ⟨g, 2, none⟩) hg _).setCell (p := ⟨g, 3, none⟩) hg _).setCell (p := ⟨g, 4, none⟩) hg _

set_option maxRecDepth 100000 in
set_option maxHeartbeats 8000000 in
theorem read_walk (s a A Q0 Q S R H I P J D sc ho x pa qu Y : ByteArray) (b1 b2 is g : Bool) (w : World)
    (H1 : Hid (∀ W, Calls Tryz.prog 43 #[.string s, .string ⟨#[35]⟩] W fun x w' => x = .returned (.tuple #[.string a, .string Q0]) ∧ Below W.heap.size W w'))
    (H2 : Hid (∀ W, Calls Tryz.prog 43 #[.string a, .string ⟨#[63]⟩] W fun x w' => x = .returned (.tuple #[.string A, .string Q]) ∧ Below W.heap.size W w'))
    (H3 : Hid (∀ W, Calls Tryz.prog 44 #[.string A, .string ⟨#[58]⟩] W fun x w' => x = .returned (.tuple #[.string S, .string R, .bool b1]) ∧ Below W.heap.size W w'))
    (H4 : Hid (∀ W, Calls Tryz.prog 45 #[.string R, .string ⟨#[47, 47]⟩] W fun x w' => x = .returned (.tuple #[.string H, .bool is]) ∧ W = w'))
    (H5 : Hid (∀ W, Calls Tryz.prog 43 #[.string H, .string ⟨#[47]⟩] W fun x w' => x = .returned (.tuple #[.string I, .string P]) ∧ Below W.heap.size W w'))
    (H6 : Hid (∀ W, Calls Tryz.prog 44 #[.string I, .string ⟨#[58]⟩] W fun x w' => x = .returned (.tuple #[.string J, .string D, .bool b2]) ∧ Below W.heap.size W w'))
    (hY : Hid (Y = if P.toList == [] then ⟨#[47]⟩ else P))
    (H7 : Hid (∀ W, Calls Tryz.prog 46 #[.string S] W fun e w' => e = .returned (.string sc) ∧ Below W.heap.size W w'))
    (H8 : Hid (∀ W, Calls Tryz.prog 46 #[.string J] W fun e w' => e = .returned (.string ho) ∧ Below W.heap.size W w'))
    (H9 : Hid (∀ W, Calls Tryz.prog 48 #[.string Y] W fun e w' => e = .returned (.string x) ∧ Below W.heap.size W w'))
    (H10 : Hid (∀ W, Below w.heap.size w W → Calls Tryz.prog 47 #[.string x] W fun e w' => e = .returned (.string pa) ∧ Below W.heap.size W w'))
    (H11 : Hid (∀ W, Calls Tryz.prog 48 #[.string Q] W fun e w' => e = .returned (.string qu) ∧ Below W.heap.size W w'))
    (H12 : Hid (∀ W, Below w.heap.size w W → Calls Tryz.prog 12 #[urV sc ho 0 pa qu] W fun e w' => e = .returned (.bool g) ∧ Below W.heap.size W w')) :
    Calls Tryz.prog 22 #[.string s] w fun e w' => e = .returned (.tuple #[urV sc ho 0 pa qu, .string D, .bool (is && g)]) ∧ Below w.heap.size w w' := by
  obtain ⟨w0, hw0⟩ : ∃ w0, w0 = w.alloc (urC ⟨#[]⟩ ⟨#[]⟩ 0 ⟨#[]⟩ ⟨#[]⟩) := ⟨_, rfl⟩
  have HB := Lib.hid (show Below w.heap.size w w0 from by rw [hw0]; exact (Below.refl w.heap.size w).alloc (Nat.le_refl _) _)
  have HK := Lib.hid (show Blk w0 w.heap.size 24 (urA ⟨#[]⟩ ⟨#[]⟩ 0 ⟨#[]⟩ ⟨#[]⟩) from by rw [hw0]; exact Blk.new w _ _)
  have HG : Hid (w.heap.size ≤ w.heap.size) := Lib.hid (Nat.le_refl _)
  cases g0 : P.toList == []
  all_goals
    rw [g0] at hY
    have hY2 := hY.out
    first
    | (rw [if_pos rfl] at hY2)
    | (rw [if_neg (by decide)] at hY2)
    subst hY2
    clear hY
    go_enter Tryz.func22, Tryz.ntmps22
    go_wp2_with fail
    rw [← hw0]
    clear hw0
    go_wp2_with (first
      | (go_at_call 43; first | (with_reducible refine (H1.out _).mono ?_) | (with_reducible refine (H2.out _).mono ?_) | (with_reducible refine (H5.out _).mono ?_)
         rintro e w9 ⟨rfl, b9⟩; replace HK := Lib.hid (HK.out.below b9 HK.out.lt); replace HB := Lib.hid (below_on HB.out b9); clear b9)
      | (go_at_call 44; first | (with_reducible refine (H3.out _).mono ?_) | (with_reducible refine (H6.out _).mono ?_)
         rintro e w9 ⟨rfl, b9⟩; replace HK := Lib.hid (HK.out.below b9 HK.out.lt); replace HB := Lib.hid (below_on HB.out b9); clear b9)
      | (go_at_call 45; (with_reducible refine (H4.out _).mono ?_); rintro e w9 ⟨rfl, rfl⟩)
      | (go_at_call 46; first | (with_reducible refine (H7.out _).mono ?_) | (with_reducible refine (H8.out _).mono ?_)
         rintro e w9 ⟨rfl, b9⟩; replace HK := Lib.hid (HK.out.below b9 HK.out.lt); replace HB := Lib.hid (below_on HB.out b9); clear b9)
      | (go_at_call 47; (with_reducible refine (H10.out _ HB.out).mono ?_); rintro e w9 ⟨rfl, b9⟩; replace HK := Lib.hid (HK.out.below b9 HK.out.lt); replace HB := Lib.hid (below_on HB.out b9); clear b9)
      | (go_at_call 48; (with_reducible refine (H9.out _).mono ?_); rintro e w9 ⟨rfl, b9⟩; replace HK := Lib.hid (HK.out.below b9 HK.out.lt); replace HB := Lib.hid (below_on HB.out b9); clear b9))
    refine (H11.out _).mono ?_
    rintro e w8 ⟨rfl, b9⟩
    replace HK := Lib.hid (HK.out.below b9 HK.out.lt)
    replace HB := Lib.hid (below_on HB.out b9)
    clear b9 H1 H2 H3 H4 H5 H6 H7 H8 H9 H10 H11
    obtain ⟨c0, c1, c2, c3, c4⟩ := url_keep HK.out
    obtain ⟨z0, z1, z2, z3, z4⟩ := url_thaw HK.out
    go_wp2_with fail
    obtain ⟨W2, hW2⟩ : ∃ W2, W2 = put5 w8 w.heap.size sc ho 0 pa qu := ⟨_, rfl⟩
    have HB2 := Lib.hid (show Below w.heap.size w W2 from by rw [hW2]; exact put5_below HB.out (Nat.le_refl _) _ _ _ _ _)
    have HK2 := Lib.hid (show Blk W2 w.heap.size 24 (urA sc ho 0 pa qu) from by rw [hW2]; exact put5_blk HK.out _ _ _ _ _)
    unfold put5 at hW2
    rw [← hW2]
    clear hW2 c0 c1 c2 c3 c4 z0 z1 z2 z3 z4 HB HK
    obtain ⟨c0, c1, c2, c3, c4⟩ := url_keep HK2.out
    obtain ⟨z0, z1, z2, z3, z4⟩ := url_thaw HK2.out
    cases is
    · go_region
      obtain ⟨W3, hW3⟩ : ∃ W3, W3 = (put5 W2 w.heap.size sc ho 0 pa qu).drew := ⟨_, rfl⟩
      have HB3 := Lib.hid (show Below w.heap.size w W3 from by rw [hW3]; exact (put5_below HB2.out (Nat.le_refl _) _ _ _ _ _).drew)
      have HK3 := Lib.hid (show Blk W3 w.heap.size 24 (urA sc ho 0 pa qu) from by rw [hW3]; exact (put5_blk HK2.out _ _ _ _ _).drew)
      unfold put5 at hW3
      rw [← hW3]
      clear hW3 c0 c1 c2 c3 c4 z0 z1 z2 z3 z4
      obtain ⟨c0, c1, c2, c3, c4⟩ := url_keep HK3.out
      go_wp2
      exact bodyPost_ret (v := .tuple #[urV sc ho 0 pa qu, .string D, .bool false]) (by simp [results, Tryz.results22, go_sem, c0, c1, c2, c3, c4]) rfl ⟨rfl, HB3.out⟩
    · have HB := HB2
      have HK := HK2
      go_region_held2 (fun w' => w'.cell? ⟨w.heap.size, 0, none⟩ = some (.string sc) ∧ w'.cell? ⟨w.heap.size, 1, none⟩ = some (.string ho) ∧ w'.cell? ⟨w.heap.size, 2, none⟩ = some (.int .i64 0) ∧ w'.cell? ⟨w.heap.size, 3, none⟩ = some (.string pa) ∧ w'.cell? ⟨w.heap.size, 4, none⟩ = some (.string qu))
        (first | with_reducible exact url_keep HK.out | with_reducible exact url_keep HK.out.drew | exact url_keep (put5_blk HK.out sc ho 0 pa qu) | exact url_keep (put5_blk HK.out.drew sc ho 0 pa qu) | go_keep)
        (first
          | (go_at_call 12; (with_reducible refine (H12.out _ (by first | exact HB.out | exact HB.out.drew)).mono ?_); rintro e w7 ⟨rfl, b9⟩
             have HK := Lib.hid (show Blk w7 w.heap.size _ _ from by first | exact HK.out.below b9 HK.out.lt | exact HK.out.drew.below b9 HK.out.lt)
             have HB := Lib.hid (show Below w.heap.size w w7 from by first | exact below_on HB.out b9 | exact below_on HB.out.drew b9)
             clear b9
             obtain ⟨d0, d1, d2, d3, d4⟩ := url_keep HK.out
             obtain ⟨y0, y1, y2, y3, y4⟩ := url_thaw HK.out))
      all_goals
        have HB3 := Lib.hid (put5_below HB.out (Nat.le_refl _) sc ho 0 pa qu)
        have HK3 := Lib.hid (put5_blk HK.out sc ho 0 pa qu)
        unfold put5 at HB3 HK3
        obtain ⟨W3, hW3⟩ : ∃ W3, W3 = put5 w7 w.heap.size sc ho 0 pa qu := ⟨_, rfl⟩
        unfold put5 at hW3
        rw [← hW3] at HB3 HK3 ⊢
        clear hW3 HB HK HB2 HK2
        obtain ⟨c0, c1, c2, c3, c4⟩ := url_keep HK3.out
        go_wp2
        exact bodyPost_ret (v := .tuple #[urV sc ho 0 pa qu, .string D, .bool g]) (by simp [results, Tryz.results22, go_sem, c0, c1, c2, c3, c4]) rfl ⟨rfl, HB3.out⟩

theorem pth_test (P : ByteArray) : pthS P = if P.toList == [] then ⟨#[47]⟩ else P := by
  unfold pthS
  rw [size_bool]
  by_cases h : P.size = 0
  · rw [if_pos h, if_pos (by simpa using h)]
  · rw [if_neg h, if_neg (by simpa using h)]
theorem pthS_size (P : ByteArray) : (pthS P).size ≤ P.size + 1 := by
  unfold pthS
  split
  · show 1 ≤ _; omega
  · omega
theorem red_sizes {s : ByteArray} : (upS26 35 s).size ≤ s.size ∧ (redA (upS26 35 s)).size ≤ s.size ∧ (redQ (upS26 35 s)).size ≤ s.size ∧ (redS (upS26 35 s)).size ≤ s.size ∧ (redR (upS26 35 s)).size ≤ s.size ∧ (redH (upS26 35 s)).size ≤ s.size ∧ (redO (upS26 35 s)).size ≤ s.size ∧ (redP (upS26 35 s)).size ≤ s.size ∧ (redJ (upS26 35 s)).size ≤ s.size ∧ (redD (upS26 35 s)).size ≤ s.size := by
  have h0 := up_size 35 s
  have h1 := up_size 63 (upS26 35 s)
  have h2 := fr_size 63 (upS26 35 s)
  have h3 := up_size 58 (redA (upS26 35 s))
  have h4 := af_size 58 (redA (upS26 35 s))
  have h5 : (redH (upS26 35 s)).size ≤ (redR (upS26 35 s)).size := by
    unfold redH Lib.trimPrefix
    show (List.toArray _).size ≤ _
    split <;> simp
  have h6 := up_size 47 (redH (upS26 35 s))
  have h7 := fr_size 47 (redH (upS26 35 s))
  have h8 := up_size 58 (redO (upS26 35 s))
  have h9 := af_size 58 (redO (upS26 35 s))
  refine ⟨h0, Nat.le_trans h1 h0, Nat.le_trans h2 h0, Nat.le_trans h3 (Nat.le_trans h1 h0), Nat.le_trans h4 (Nat.le_trans h1 h0), ?_, ?_, ?_, ?_, ?_⟩
  · exact Nat.le_trans h5 (Nat.le_trans h4 (Nat.le_trans h1 h0))
  · exact Nat.le_trans h6 (Nat.le_trans h5 (Nat.le_trans h4 (Nat.le_trans h1 h0)))
  · exact Nat.le_trans h7 (Nat.le_trans h5 (Nat.le_trans h4 (Nat.le_trans h1 h0)))
  · exact Nat.le_trans h8 (Nat.le_trans h6 (Nat.le_trans h5 (Nat.le_trans h4 (Nat.le_trans h1 h0))))
  · exact Nat.le_trans h9 (Nat.le_trans h6 (Nat.le_trans h5 (Nat.le_trans h4 (Nat.le_trans h1 h0))))
abbrev plV (u : Plc) : Value := urV u.sc u.ho u.po u.pa u.qu
theorem uread_any (s : ByteArray) (w : World) (hs : s.size ≤ 262144) (hm : MaxC w) :
    Calls Tryz.prog 22 #[.string s] w fun e w' => e = .returned (.tuple #[plV (redU (upS26 35 s)), .string (redD (upS26 35 s)), .bool (redI (upS26 35 s) && goodU (redU (upS26 35 s)))]) ∧ Below w.heap.size w w' := by
  obtain ⟨k0, k1, k2, k3, k4, k5, k6, k7, k8, k9⟩ := red_sizes (s := s)
  obtain ⟨b1, hb1⟩ := scut_any 58 (redA (upS26 35 s)) (by omega)
  obtain ⟨b2, hb2⟩ := scut_any 58 (redO (upS26 35 s)) (by omega)
  have hp := pthS_size (redP (upS26 35 s))
  have hx := pqS_size (pthS (redP (upS26 35 s)))
  have hd := dotS_size (pqS (pthS (redP (upS26 35 s))))
  have hq := pqS_size (redQ (upS26 35 s))
  have hl1 := lowS_size (redS (upS26 35 s))
  have hl2 := lowS_size (redJ (upS26 35 s))
  exact read_walk s (upS26 35 s) (redA (upS26 35 s)) _ (redQ (upS26 35 s)) (redS (upS26 35 s)) (redR (upS26 35 s)) (redH (upS26 35 s)) (redO (upS26 35 s)) (redP (upS26 35 s)) (redJ (upS26 35 s)) (redD (upS26 35 s)) _ _ (pqS (pthS (redP (upS26 35 s)))) _ _ (pthS (redP (upS26 35 s))) b1 b2 (redI (upS26 35 s)) _ w
    (Lib.hid fun W => ucut_any 35 s W (by omega)) (Lib.hid fun W => ucut_any 63 _ W (by omega)) (Lib.hid hb1)
    (Lib.hid fun W => (strings_CutPrefix (redR (upS26 35 s)) ⟨#[47, 47]⟩ W).mono fun _ _ h => (⟨h.1, h.2.symm⟩ : _ ∧ _))
    (Lib.hid fun W => ucut_any 47 _ W (by omega)) (Lib.hid hb2) (Lib.hid (pth_test _))
    (Lib.hid fun W => lowerS_any _ W (by omega)) (Lib.hid fun W => lowerS_any _ W (by omega)) (Lib.hid fun W => quote_any _ W (by omega))
    (Lib.hid fun W hW => dots_any _ W (by omega) (hm.stays hW)) (Lib.hid fun W => quote_any _ W (by omega))
    (Lib.hid fun W hW => ugood_any (lowS (redS (upS26 35 s))) (lowS (redJ (upS26 35 s))) 0 (dotS (pqS (pthS (redP (upS26 35 s))))) (pqS (redQ (upS26 35 s))) W (by omega) (by omega) (by omega) (hm.stays hW))

end Go.Proofs.YtagbndkfbnlpoaaGreatDoor
namespace Go.Proofs.YtagbndkfbnlpoaaGreatDoor
open Go.RowKit

def ledR (r : Nat) : Bool := decide (r ≤ 32)
theorem rune_big (n b0 b1 b2 b3 : Nat) (h : 128 ≤ b0) : 128 ≤ (Lib.decodeN n b0 b1 b2 b3).1 := by
  unfold Lib.decodeN
  repeat' split
  all_goals first | omega | (simp only; omega)
theorem getD_at26 {s : ByteArray} {i : Nat} (h : i < s.size) : s.data.toList.getD i 0 = s[i] := by
  rw [List.getD_eq_getElem?_getD, List.getElem?_eq_getElem (by simpa using h)]
  rfl
theorem led_small {b : UInt8} (h : ledB b = true) : b.toNat < 33 := by unfold ledB at h; simpa using h
theorem dec_small {s : ByteArray} {i : Nat} (h : i < s.size) (hb : s[i].toNat < 128) : Utf8.decode s i = (s[i].toNat, 1) := by
  rw [Lib.decode_N, getD_at26 h, Lib.decodeN_ascii _ _ _ _ _ hb]
theorem dec_led {s : ByteArray} {i : Nat} (h : i < s.size) : ledR (Utf8.decode s i).1 = ledB s[i] := by
  by_cases hb : s[i].toNat < 128
  · rw [dec_small h hb]
    unfold ledR ledB
    rw [decide_eq_decide]
    show s[i].toNat ≤ 32 ↔ _
    omega
  · have h1 := rune_big (s.data.toList.length - i) (s.data.toList.getD i 0).toNat (s.data.toList.getD (i + 1) 0).toNat (s.data.toList.getD (i + 2) 0).toNat (s.data.toList.getD (i + 3) 0).toNat (by rw [getD_at26 h]; omega)
    rw [← Lib.decode_N] at h1
    unfold ledR ledB
    rw [decide_eq_false (by omega), decide_eq_false (by omega)]
theorem left_led (s : ByteArray) : ∀ f pos, s.size ≤ pos + f → Lib.idxFuncFrom ledR false s f pos = if scan ledB s pos < s.size then (scan ledB s pos : Int) else -1
  | 0, pos, h => by
    have : ¬ scan ledB s pos < s.size := by
      by_cases hp : pos = s.size
      · rw [scan_end hp]; omega
      · have := scan_ge ledB s pos
        omega
    rw [if_neg this]
    rfl
  | f + 1, pos, h => by
    by_cases hp : pos < s.size
    · have hd := dec_led hp
      rw [Lib.idxFuncFrom, if_pos hp, hd]
      cases hb : ledB s[pos]
      · rw [if_pos rfl, scan_stop hp hb, if_pos hp]
      · have hs := led_small hb
        rw [if_neg (by decide), dec_small hp (by omega)]
        show Lib.idxFuncFrom ledR false s f (pos + 1) = _
        rw [left_led s f (pos + 1) (by omega), scan_step hp hb]
    · rw [Lib.idxFuncFrom_end _ _ _ _ _ hp]
      have : ¬ scan ledB s pos < s.size := by
        have := scan_ge ledB s pos
        omega
      rw [if_neg this]
theorem trimL_led (s : ByteArray) : Lib.trimLeftF ledR s = s.extract (scan ledB s 0) s.size := by
  have h := left_led s s.size 0 (by omega)
  unfold Lib.trimLeftF Lib.idxFunc
  rw [h]
  have hle := scan_le ledB s 0 (Nat.zero_le _)
  by_cases hlt : scan ledB s 0 < s.size
  · rw [if_pos hlt, if_neg (by omega)]
    rfl
  · rw [if_neg hlt, if_pos rfl, show scan ledB s 0 = s.size from by omega]
    apply ByteArray.ext
    simp
theorem right_led (s : ByteArray) : ∀ f i, i ≤ f → i ≤ s.size → Lib.OpenAt s.data.toList i →
    (backN ledB s i = 0 ∧ Lib.lastIdxFuncFrom ledR false s f i = -1) ∨
    (∃ e, 0 < e ∧ e ≤ i ∧ backN ledB s i = e ∧ Lib.lastIdxFuncFrom ledR false s f i = ((e - (Lib.decodeLastL (s.data.toList.take e)).2 : Nat) : Int) ∧ Lib.OpenAt s.data.toList e)
  | f, 0, _, _, _ => .inl ⟨rfl, Lib.lastIdxFuncFrom_zero _ _ _ _⟩
  | 0, i + 1, h, _, _ => by omega
  | f + 1, i + 1, h, hi, ho => by
    have hlt : i < s.size := by omega
    have hlen : s.data.toList.length = s.size := by simp
    have hc := Lib.last_cases s.data.toList (i + 1) (by omega) (by omega)
    rw [show i + 1 - 1 = i from rfl, getD_at26 hlt] at hc
    rw [Lib.lastIdxFuncFrom, if_pos (by omega : 0 < i + 1)]
    cases hb : ledB s[i]
    · refine .inr ⟨i + 1, by omega, Nat.le_refl _, backN_stop hlt hb, ?_, ho⟩
      have hr : ledR (Lib.decodeLastL (s.data.toList.take (i + 1))).1 = false := by
        rcases hc with ⟨ha, hd⟩ | ⟨ha, hd⟩ | ⟨ha, st, hst, hd, hsum⟩
        · rw [hd]
          unfold ledB at hb
          unfold ledR
          simp only [decide_eq_false_iff_not] at hb ⊢
          omega
        · rw [hd]; rfl
        · rw [hd]
          have h0 : ((s.data.toList.take (i + 1)).drop st).getD 0 0 = s.data.toList.getD st 0 := by rw [Lib.getD_dropU, Lib.getD_takeU _ _ _ (by omega), Nat.add_zero]
          rw [Lib.decodeL_N, h0] at hsum ⊢
          by_cases h128 : (s.data.toList.getD st 0).toNat < 128
          · rw [Lib.decodeN_ascii _ _ _ _ _ h128] at hsum
            have : st = i := by simp at hsum; omega
            rw [this, getD_at26 hlt] at h128
            omega
          · have := rune_big (((s.data.toList.take (i + 1)).drop st).length) (s.data.toList.getD st 0).toNat (((s.data.toList.take (i + 1)).drop st).getD 1 0).toNat (((s.data.toList.take (i + 1)).drop st).getD 2 0).toNat (((s.data.toList.take (i + 1)).drop st).getD 3 0).toNat (by omega)
            unfold ledR
            simp only [decide_eq_false_iff_not]
            omega
      rw [if_pos hr]
    · have hs := led_small hb
      rcases hc with ⟨ha, hd⟩ | ⟨ha, _⟩ | ⟨ha, _⟩
      · rw [hd]
        have hr : ¬ ledR s[i].toNat = false := by unfold ledR; rw [decide_eq_true (by omega)]; decide
        rw [if_neg hr]
        show (_ ∧ Lib.lastIdxFuncFrom ledR false s f i = -1) ∨ _
        rw [backN_step hlt hb]
        rcases right_led s f i (by omega) (by omega) (.inr (by rw [getD_at26 hlt]; omega)) with h1 | ⟨e, h1, h2, h3⟩
        · exact .inl h1
        · exact .inr ⟨e, h1, by omega, h3⟩
      · omega
      · omega
theorem trimR_led (s : ByteArray) : Lib.trimRightF ledR s = cutP ledB s := by
  have hlen : s.data.toList.length = s.size := by simp
  unfold Lib.trimRightF cutP
  congr 1
  unfold Lib.rightEndF Lib.lastIdxFunc
  rcases right_led s s.size s.size (Nat.le_refl _) (Nat.le_refl _) (.inl hlen.symm) with ⟨h1, h2⟩ | ⟨e, h0, h1, h2, h3, h4⟩
  · rw [h2, h1, if_neg (by omega)]
  · have hw := Lib.decodeLastL_width (s.data.toList.take e) (by rw [List.length_take]; omega)
    rw [List.length_take, hlen, Nat.min_eq_left h1] at hw
    have hf := Lib.fw_width s.data.toList e h0 (by omega) h4
    rw [h3, h2, if_pos (by omega), Int.toNat_natCast]
    generalize (Lib.decodeLastL (s.data.toList.take e)).2 = K at *
    have hx : (Lib.decodeGoB (s.extract (e - K) s.size)).2 = K := by
      unfold Lib.decodeGoB
      rw [if_neg (by simp; omega)]
      have h5 := Lib.decodeL_drop (s.extract (e - K) s.size) 0
      rw [List.drop_zero] at h5
      rw [← h5, tail_list, hf]
    rw [hx]
    omega
theorem trim_led (s : ByteArray) : Lib.trimF ledR s = trimP ledB s := by
  unfold Lib.trimF trimP
  rw [trimL_led, trimR_led]

/-- The library's tables of UTF-8 lie as its text lays them. -/
def UtfC (w : World) : Prop := Lib.Utf8Tabs 1 2 w
theorem UtfC.stays {w W : World} (h : UtfC w) (hb : Below w.heap.size w W) : UtfC W := Utf8Tabs_below h hb
theorem bare1_any (x : Nat) (w : World) : Calls Tryz.prog 42 #[.int .i32 (x : Int)] w fun e w' => e = .returned (.bool (ledR x)) ∧ ∃ q, w' = w.drewN q := by
  have HV : Hid (ledR x = decide ((x : Int) ≤ 32)) := Lib.hid (by unfold ledR; rw [decide_eq_decide]; omega)
  generalize ledR x = v at *
  go_enter Tryz.func42, Tryz.ntmps42
  go_wp2
  go_ret
  exact ⟨by rw [HV.out]; rfl, 0, rfl⟩
set_option maxHeartbeats 1000000 in
theorem bare_any (s : ByteArray) (w : World) (hs : s.size ≤ 9223372036854775807) (hT : UtfC w) :
    Calls Tryz.prog 21 #[.string s] w fun e w' => e = .returned (.string (trimP ledB s)) ∧ Below w.heap.size w w' := by
  have HT := Lib.hid (strings_TrimFunc 42 #[] (enters_of Tryz.func42 (by kernel_rfl) rfl) ledR s w hs hT (fun W x _ => bare1_any x W))
  rw [trim_led] at HT
  generalize trimP ledB s = t at *
  go_enter Tryz.func21, Tryz.ntmps21
  go_wp2_with fail
  refine HT.out.mono ?_
  rintro e w1 ⟨rfl, b1⟩
  have HB := Lib.hid b1
  clear b1
  go_wp2
  go_ret
  exact ⟨rfl, HB.out⟩

end Go.Proofs.YtagbndkfbnlpoaaGreatDoor
