/-
  What Origin of both sides of layer 26 answers. Conditions: texts take at most a mebibyte; for package url's one the library's variable and tables lie as its text lays them.
  What package url's Same answers, and that it is what the origins' texts say. Conditions: texts take at most a mebibyte; the library's variable holds a number.
  What Cut answers: the first n bytes. Condition: the text is no longer than a length can be.
-/
import Derived.Test.YtagbndkfbnlpoaaGreatDoorZ21
import Derived.Test.YtagbndkfbnlpoaaGreatDoorRows
import Derived.WalkKit
import Derived.WalkSpells
import Derived.WalkLawsBesides
namespace Go.Proofs.YtagbndkfbnlpoaaGreatDoor
open Go.RowKit

abbrev orgV (a b : ByteArray) (k : Int) : Value := .agg #[.string a, .string b, .int .i64 k]
abbrev orgC (a b : ByteArray) (k : Int) : Array Value := #[.string a, .string b, .int .i64 k]

set_option maxRecDepth 100000 in
set_option maxHeartbeats 4000000 in
theorem originOf_any (a b : ByteArray) (n : Int) (p q : ByteArray) (w : World) :
    Calls Tryz.prog 40 #[urV a b n p q] w fun e w' => e = .returned (orgV a b (portU ⟨a, b, n, p, q⟩)) ∧ Below w.heap.size w w' := by
  have HO := Lib.hid (fun W => port_any a b n p q W)
  generalize portU ⟨a, b, n, p, q⟩ = k at *
  obtain ⟨w0, hw0⟩ : ∃ w0, w0 = (w.alloc (urC a b n p q)).alloc (.cells (orgC ⟨#[]⟩ ⟨#[]⟩ 0) 50) := ⟨_, rfl⟩
  have HB := Lib.hid (show Below w.heap.size w w0 from by rw [hw0]; exact ((Below.refl w.heap.size w).alloc (Nat.le_refl _) _).alloc (by simp) _)
  have HK := Lib.hid (show Blk w0 w.heap.size 24 (urA a b n p q) from by rw [hw0]; exact (Blk.new w _ _).alloc _)
  have HL := Lib.hid (show Blk w0 (w.heap.size + 1) 50 (orgC ⟨#[]⟩ ⟨#[]⟩ 0) from by rw [hw0]; simpa using Blk.new (w.alloc (urC a b n p q)) 50 (orgC ⟨#[]⟩ ⟨#[]⟩ 0))
  obtain ⟨c0, c1, c2, c3, c4⟩ := url_keep HK.out
  have l0 := HL.out.cell 0
  have l1 := HL.out.cell 1
  have l2 := HL.out.cell 2
  have y0 := HL.out.frozen 0
  have y1 := HL.out.frozen 1
  have y2 := HL.out.frozen 2
  go_enter Tryz.func40, Tryz.ntmps40
  go_wp2_with fail
  rw [← hw0]
  clear hw0
  go_region_held2 (fun w' => w'.cell? ⟨w.heap.size, 0, none⟩ = some (.string a) ∧ w'.cell? ⟨w.heap.size, 1, none⟩ = some (.string b) ∧ w'.cell? ⟨w.heap.size, 2, none⟩ = some (.int .i64 n) ∧ w'.cell? ⟨w.heap.size, 3, none⟩ = some (.string p) ∧ w'.cell? ⟨w.heap.size, 4, none⟩ = some (.string q))
    (first | with_reducible exact url_keep HK.out | with_reducible exact url_keep HK.out.drew | exact url_keep (((HK.out.far (by show w.heap.size ≠ w.heap.size + 1; omega) _).far (by show w.heap.size ≠ w.heap.size + 1; omega) _).far (by show w.heap.size ≠ w.heap.size + 1; omega) _) | go_keep)
    (first
      | (go_at_call 18; (with_reducible refine (HO.out _).mono ?_); rintro e w7 ⟨rfl, b9⟩
         have HK := Lib.hid (show Blk w7 w.heap.size _ _ from by first | exact HK.out.below b9 HK.out.lt | exact HK.out.drew.below b9 HK.out.lt)
         have HL := Lib.hid (show Blk w7 (w.heap.size + 1) _ _ from by first | exact HL.out.below b9 HL.out.lt | exact HL.out.drew.below b9 HL.out.lt)
         have HB := Lib.hid (show Below w.heap.size w w7 from by first | exact below_on HB.out b9 | exact below_on HB.out.drew b9)
         clear b9
         have l0 := HL.out.cell 0
         have l1 := HL.out.cell 1
         have l2 := HL.out.cell 2
         have y0 := HL.out.frozen 0
         have y1 := HL.out.frozen 1
         have y2 := HL.out.frozen 2))
  all_goals
    obtain ⟨W, hW⟩ : ∃ W, W = (((w7.setCell ⟨w.heap.size + 1, 0, none⟩ (.string a)).setCell ⟨w.heap.size + 1, 1, none⟩ (.string b)).setCell ⟨w.heap.size + 1, 2, none⟩ (.int .i64 k)) := ⟨_, rfl⟩
    have HL3 := Lib.hid (show Blk W (w.heap.size + 1) 50 (orgC a b k) from by rw [hW]; exact ((HL.out.set_ 0 _).set_ 1 _).set_ 2 _)
    have HB3 := Lib.hid (show Below w.heap.size w W from by rw [hW]; exact ((HB.out.setCell (by show w.heap.size ≤ w.heap.size + 1; omega) _).setCell (by show w.heap.size ≤ w.heap.size + 1; omega) _).setCell (by show w.heap.size ≤ w.heap.size + 1; omega) _)
    rw [← hW]
    clear hW l0 l1 l2 y0 y1 y2 c0 c1 c2 c3 c4
    have l0 := HL3.out.cell 0
    have l1 := HL3.out.cell 1
    have l2 := HL3.out.cell 2
    go_wp2
    exact bodyPost_ret (v := orgV a b k) (by simp [results, Tryz.results40, go_sem, l0, l1, l2]) rfl ⟨rfl, HB3.out⟩

def orgS (u : Plc) : ByteArray := (((u.sc ++ ⟨#[58, 47, 47]⟩) ++ u.ho) ++ ⟨#[58]⟩) ++ worS (portU u)
def orgG (u : Plc) : ByteArray := cond (goodU u) (orgS u) ⟨#[]⟩
theorem org_is (u : Plc) : orgS u = ((((u.sc ++ ⟨#[58]⟩) ++ ⟨#[47, 47]⟩) ++ u.ho) ++ ⟨#[58]⟩) ++ worS (portU u) := by
  unfold orgS
  apply ByteArray.ext
  simp
theorem port_range {u : Plc} (h : goodU u = true) : 0 ≤ portU u ∧ portU u ≤ 65535 := by
  have h1 := good_port h
  have h2 : ownP u.sc = 80 ∨ ownP u.sc = 443 ∨ ownP u.sc = 0 := by
    unfold ownP
    split
    · exact .inl rfl
    · split
      · exact .inr (.inl rfl)
      · exact .inr (.inr rfl)
  unfold portU
  split <;> omega

set_option maxRecDepth 100000 in
set_option maxHeartbeats 4000000 in
theorem origin_walk (a b : ByteArray) (n : Int) (p q x T : ByteArray) (k : Int) (g : Bool) (w : World) (ha : a.size ≤ 1048576) (hb : b.size ≤ 1048576) (hx : x.size ≤ 20)
    (HG : Hid (∀ W, Below w.heap.size w W → Calls Tryz.prog 12 #[urV a b n p q] W fun e w' => e = .returned (.bool g) ∧ Below W.heap.size W w'))
    (HO : Hid (∀ W, Calls Tryz.prog 40 #[urV a b n p q] W fun e w' => e = .returned (orgV a b k) ∧ Below W.heap.size W w'))
    (HX : Hid (g = true → ∀ W, Below w.heap.size w W → Calls Tryz.prog 39 #[.int .i64 k] W fun e w' => e = .returned (.string x) ∧ Below W.heap.size W w'))
    (HT : Hid (T = cond g (((((a ++ ⟨#[58]⟩) ++ ⟨#[47, 47]⟩) ++ b) ++ ⟨#[58]⟩) ++ x) ⟨#[]⟩)) :
    Calls Tryz.prog 16 #[urV a b n p q] w fun e w' => e = .returned (.string T) ∧ Below w.heap.size w w' := by
  obtain ⟨w0, hw0⟩ : ∃ w0, w0 = w.alloc (urC a b n p q) := ⟨_, rfl⟩
  have HD := Lib.hid (show UrAt w (urA a b n p q) w0 from by rw [hw0]; exact UrAt.new w _)
  obtain ⟨c0, c1, c2, c3, c4⟩ := url_keep HD.out.2
  have s1 : ¬9223372036854775807 < a.size + 1 := by omega
  have s2 : ¬9223372036854775807 < a.size + 1 + 2 := by omega
  have s3 : ¬9223372036854775807 < a.size + 1 + 2 + b.size := by omega
  have s4 : ¬9223372036854775807 < a.size + 1 + 2 + b.size + 1 := by omega
  have s5 : ¬9223372036854775807 < a.size + 1 + 2 + b.size + 1 + x.size := by omega
  cases g
  · go_enter Tryz.func16, Tryz.ntmps16
    go_wp2_with fail
    rw [← hw0]
    clear hw0
    go_wp2_with fail
    refine (HG.out _ HD.out.1).mono ?_
    rintro e w1 ⟨rfl, b9⟩
    replace HD := Lib.hid (HD.out.step b9)
    clear b9
    go_wp2
    go_ret
    exact ⟨by rw [HT.out]; rfl, HD.out.1⟩
  replace HX := Lib.hid (HX.out rfl)
  go_enter Tryz.func16, Tryz.ntmps16
  go_wp2_with fail
  rw [← hw0]
  clear hw0
  go_wp2_with fail
  refine (HG.out _ HD.out.1).mono ?_
  rintro e w1 ⟨rfl, b9⟩
  replace HD := Lib.hid (HD.out.step b9)
  clear b9 c0 c1 c2 c3 c4
  obtain ⟨c0, c1, c2, c3, c4⟩ := url_keep HD.out.2
  go_wp2_with fail
  refine (HO.out _).mono ?_
  rintro e w2 ⟨rfl, b9⟩
  replace HD := Lib.hid (HD.out.step b9)
  clear b9 c0 c1 c2 c3 c4
  obtain ⟨w3, hw3⟩ : ∃ w3, w3 = w2.alloc (.cells (orgC a b k) 50) := ⟨_, rfl⟩
  have HB := Lib.hid (show Below w.heap.size w w3 from by rw [hw3]; exact HD.out.1.alloc HD.out.1.size _)
  have HL := Lib.hid (show Blk w3 w2.heap.size 50 (orgC a b k) from by rw [hw3]; exact Blk.new w2 _ _)
  go_upto_region 4 with fail
  rw [← hw3]
  clear hw3
  have l0 := HL.out.cell 0
  have l1 := HL.out.cell 1
  have l2 := HL.out.cell 2
  go_region_held2 (fun w' => w'.cell? ⟨w2.heap.size, 0, none⟩ = some (.string a) ∧ w'.cell? ⟨w2.heap.size, 1, none⟩ = some (.string b) ∧ w'.cell? ⟨w2.heap.size, 2, none⟩ = some (.int .i64 k))
    (first | exact ⟨HL.out.cell 0, HL.out.cell 1, HL.out.cell 2⟩ | exact ⟨HL.out.drew.cell 0, HL.out.drew.cell 1, HL.out.drew.cell 2⟩ | go_keep)
    (first
      | (go_at_call 39; (with_reducible refine (HX.out _ (by first | exact HB.out | exact HB.out.drew)).mono ?_); rintro e w7 ⟨rfl, b9⟩
         have HL := Lib.hid (show Blk w7 w2.heap.size _ _ from by first | exact HL.out.below b9 HL.out.lt | exact HL.out.drew.below b9 HL.out.lt)
         have HB := Lib.hid (show Below w.heap.size w w7 from by first | exact below_on HB.out b9 | exact below_on HB.out.drew b9)
         clear b9))
  all_goals
    go_wp2
    go_ret
    exact ⟨by rw [HT.out]; rfl, HB.out⟩
theorem origin_any (a b : ByteArray) (n : Int) (p q : ByteArray) (w : World) (ha : a.size ≤ 1048576) (hb : b.size ≤ 1048576) (hp : p.size ≤ 1048576) (hq : q.size ≤ 1048576) (hm : MaxC w) (ht : PowTab w) :
    Calls Tryz.prog 16 #[urV a b n p q] w fun e w' => e = .returned (.string (orgG ⟨a, b, n, p, q⟩)) ∧ Below w.heap.size w w' := by
  have HG := fun W (hW : Below w.heap.size w W) => ugood_any a b n p q W hb hp hq (hm.stays hW)
  have HO := fun W => originOf_any a b n p q W
  unfold orgG
  rw [org_is]
  cases hg : goodU ⟨a, b, n, p, q⟩
  · rw [hg] at HG
    exact origin_walk a b n p q ⟨#[]⟩ ⟨#[]⟩ _ false w ha hb (by decide) (Lib.hid HG) (Lib.hid HO) (Lib.hid fun h => by cases h) (Lib.hid rfl)
  · rw [hg] at HG
    have hr := port_range hg
    exact origin_walk a b n p q (worS (portU ⟨a, b, n, p, q⟩)) _ _ true w ha hb (worS_le (by omega)) (Lib.hid HG) (Lib.hid HO) (Lib.hid fun _ W hW => dtext24_any _ W (by omega) (by omega) (ht.stays hW)) (Lib.hid rfl)

set_option maxRecDepth 100000 in
set_option maxHeartbeats 4000000 in
theorem rorigin_walk (a b : ByteArray) (n : Int) (p q x T : ByteArray) (k : Int) (g : Bool) (w : World) (ha : a.size ≤ 1048576) (hb : b.size ≤ 1048576) (hx : x.size ≤ 20)
    (HG : Hid (∀ W, Calls Tryz.prog 14 #[urV a b n p q] W fun e w' => e = .returned (.bool g) ∧ Below W.heap.size W w'))
    (HO : Hid (∀ W, Calls Tryz.prog 19 #[urV a b n p q] W fun e w' => e = .returned (.int .i64 k) ∧ Below W.heap.size W w'))
    (HX : Hid (g = true → ∀ W, Calls Tryz.prog 31 #[.int .i64 k] W fun e w' => e = .returned (.string x) ∧ Below W.heap.size W w'))
    (HT : Hid (T = cond g ((((a ++ ⟨#[58, 47, 47]⟩) ++ b) ++ ⟨#[58]⟩) ++ x) ⟨#[]⟩)) :
    Calls Tryz.prog 17 #[urV a b n p q] w fun e w' => e = .returned (.string T) ∧ Below w.heap.size w w' := by
  obtain ⟨w0, hw0⟩ : ∃ w0, w0 = w.alloc (urC a b n p q) := ⟨_, rfl⟩
  have HD := Lib.hid (show UrAt w (urA a b n p q) w0 from by rw [hw0]; exact UrAt.new w _)
  obtain ⟨c0, c1, c2, c3, c4⟩ := url_keep HD.out.2
  have s1 : ¬9223372036854775807 < a.size + 3 := by omega
  have s3 : ¬9223372036854775807 < a.size + 3 + b.size := by omega
  have s4 : ¬9223372036854775807 < a.size + 3 + b.size + 1 := by omega
  have s5 : ¬9223372036854775807 < a.size + 3 + b.size + 1 + x.size := by omega
  cases g
  · go_enter Tryz.func17, Tryz.ntmps17
    go_wp2_with fail
    rw [← hw0]
    clear hw0
    go_wp2_with fail
    refine (HG.out _).mono ?_
    rintro e w1 ⟨rfl, b9⟩
    replace HD := Lib.hid (HD.out.step b9)
    clear b9
    go_wp2
    go_ret
    exact ⟨by rw [HT.out]; rfl, HD.out.1⟩
  replace HX := Lib.hid (HX.out rfl)
  go_enter Tryz.func17, Tryz.ntmps17
  go_wp2_with fail
  rw [← hw0]
  clear hw0
  go_wp2_with fail
  refine (HG.out _).mono ?_
  rintro e w1 ⟨rfl, b9⟩
  have HK := Lib.hid (HD.out.step b9).2
  have HB := Lib.hid (HD.out.step b9).1
  clear b9 c0 c1 c2 c3 c4 HD
  obtain ⟨c0, c1, c2, c3, c4⟩ := url_keep HK.out
  go_upto_region 3 with fail
  go_region_held2 (fun w' => w'.cell? ⟨w.heap.size, 0, none⟩ = some (.string a) ∧ w'.cell? ⟨w.heap.size, 1, none⟩ = some (.string b) ∧ w'.cell? ⟨w.heap.size, 2, none⟩ = some (.int .i64 n) ∧ w'.cell? ⟨w.heap.size, 3, none⟩ = some (.string p) ∧ w'.cell? ⟨w.heap.size, 4, none⟩ = some (.string q))
    (first | with_reducible exact url_keep HK.out | with_reducible exact url_keep HK.out.drew | go_keep)
    (first
      | (go_at_call 19; (with_reducible refine (HO.out _).mono ?_); rintro e w7 ⟨rfl, b9⟩
         have HK := Lib.hid (show Blk w7 w.heap.size _ _ from by first | exact HK.out.below b9 HK.out.lt | exact HK.out.drew.below b9 HK.out.lt)
         have HB := Lib.hid (show Below w.heap.size w w7 from by first | exact below_on HB.out b9 | exact below_on HB.out.drew b9)
         clear b9)
      | (go_at_call 31; (with_reducible refine (HX.out _).mono ?_); rintro e w8 ⟨rfl, b9⟩
         have HK := Lib.hid (show Blk w8 w.heap.size _ _ from by first | exact HK.out.below b9 HK.out.lt | exact HK.out.drew.below b9 HK.out.lt)
         have HB := Lib.hid (show Below w.heap.size w w8 from by first | exact below_on HB.out b9 | exact below_on HB.out.drew b9)
         clear b9))
  all_goals
    go_wp2
    go_ret
    exact ⟨by rw [HT.out]; rfl, HB.out⟩
theorem rorigin_any (a b : ByteArray) (n : Int) (p q : ByteArray) (w : World) (ha : a.size ≤ 1048576) (hb : b.size ≤ 1048576) (hp : p.size ≤ 1048576) (hq : q.size ≤ 1048576) :
    Calls Tryz.prog 17 #[urV a b n p q] w fun e w' => e = .returned (.string (orgG ⟨a, b, n, p, q⟩)) ∧ Below w.heap.size w w' := by
  have HG := fun W => rgood26_any a b n p q W hb hp hq
  have HO := fun W => rPort_any a b n p q W
  unfold orgG
  cases hg : goodU ⟨a, b, n, p, q⟩
  · rw [hg] at HG
    exact rorigin_walk a b n p q ⟨#[]⟩ ⟨#[]⟩ _ false w ha hb (by decide) (Lib.hid HG) (Lib.hid HO) (Lib.hid fun h => by cases h) (Lib.hid rfl)
  · rw [hg] at HG
    have hr := port_range hg
    exact rorigin_walk a b n p q (worS (portU ⟨a, b, n, p, q⟩)) _ _ true w ha hb (worS_le (by omega)) (Lib.hid HG) (Lib.hid HO) (Lib.hid fun _ W => (rtext05b_any _ W (by omega) (by omega)).mono fun _ _ h => (⟨h.1, h.2 ▸ Below.refl _ _⟩ : _ ∧ _)) (Lib.hid rfl)

end Go.Proofs.YtagbndkfbnlpoaaGreatDoor
namespace Go.Proofs.YtagbndkfbnlpoaaGreatDoor
open Go.RowKit

def UrTwo (w : World) (cs ds : Array Value) (W : World) : Prop := Below w.heap.size w W ∧ Blk W w.heap.size 24 cs ∧ Blk W (w.heap.size + 1) 24 ds
theorem UrTwo.drew {w W : World} {cs ds : Array Value} (h : UrTwo w cs ds W) : UrTwo w cs ds W.drew := ⟨h.1.drew, h.2.1.drew, h.2.2.drew⟩
theorem UrTwo.next {w : World} {cs ds : Array Value} {x : Wld (UrTwo w cs ds)} {W' : World} (hb : Below x.val.heap.size x.val W') : UrTwo w cs ds W' := ⟨x.ok.1.trans (hb.mono x.ok.1.size), x.ok.2.1.below hb x.ok.2.1.lt, x.ok.2.2.below hb x.ok.2.2.lt⟩
theorem UrTwo.new (w : World) (cs ds : Array Value) : UrTwo w cs ds ((w.alloc (.cells cs 24)).alloc (.cells ds 24)) :=
  ⟨((Below.refl _ _).alloc (Nat.le_refl _) _).alloc (by simp) _, (Blk.new w _ _).alloc _, by simpa using Blk.new (w.alloc (.cells cs 24)) 24 ds⟩

theorem org_eql (a b a' b' : ByteArray) (k k' : Int) (W : World) : (binOp .eql 50 (orgV a b k) (orgV a' b' k')).run Tryz.prog W = .ok (.bool ((a.toList == a'.toList) && (b.toList == b'.toList) && (k == k'))) W := by
  simp [go_sem]
  by_cases h1 : a.toList = a'.toList
  · by_cases h2 : b.toList = b'.toList
    · by_cases h3 : k = k'
      · simp [h1, h2, h3]
      · simp [h1, h2, h3]
    · simp [h1, h2]
  · simp [h1]
set_option maxRecDepth 100000 in
set_option maxHeartbeats 4000000 in
theorem same_walk (a b p q a' b' p' q' : ByteArray) (n n' k k' : Int) (g g' : Bool) (V : Bool) (w : World)
    (HG : Hid (∀ W, Below w.heap.size w W → Calls Tryz.prog 12 #[urV a b n p q] W fun e w' => e = .returned (.bool g) ∧ Below W.heap.size W w'))
    (HG2 : Hid (∀ W, Below w.heap.size w W → Calls Tryz.prog 12 #[urV a' b' n' p' q'] W fun e w' => e = .returned (.bool g') ∧ Below W.heap.size W w'))
    (HO : Hid (∀ W, Calls Tryz.prog 40 #[urV a b n p q] W fun e w' => e = .returned (orgV a b k) ∧ Below W.heap.size W w'))
    (HO2 : Hid (∀ W, Calls Tryz.prog 40 #[urV a' b' n' p' q'] W fun e w' => e = .returned (orgV a' b' k') ∧ Below W.heap.size W w'))
    (HV : Hid (V = (g && g' && ((a.toList == a'.toList) && (b.toList == b'.toList) && (k == k'))))) :
    Calls Tryz.prog 20 #[urV a b n p q, urV a' b' n' p' q'] w fun e w' => e = .returned (.bool V) ∧ Below w.heap.size w w' := by
  obtain ⟨w0, hw0⟩ : ∃ w0, w0 = (w.alloc (urC a b n p q)).alloc (urC a' b' n' p' q') := ⟨_, rfl⟩
  have HD := Lib.hid (show UrTwo w (urA a b n p q) (urA a' b' n' p' q') w0 from by rw [hw0]; exact UrTwo.new w _ _)
  have i0 : ∀ x : Wld (UrTwo w (urA a b n p q) (urA a' b' n' p' q')), x.val.cell? ⟨w.heap.size, 0, none⟩ = some (.string a) := fun x => x.ok.2.1.cell 0
  have i1 : ∀ x : Wld (UrTwo w (urA a b n p q) (urA a' b' n' p' q')), x.val.cell? ⟨w.heap.size, 1, none⟩ = some (.string b) := fun x => x.ok.2.1.cell 1
  have i2 : ∀ x : Wld (UrTwo w (urA a b n p q) (urA a' b' n' p' q')), x.val.cell? ⟨w.heap.size, 2, none⟩ = some (.int .i64 n) := fun x => x.ok.2.1.cell 2
  have i3 : ∀ x : Wld (UrTwo w (urA a b n p q) (urA a' b' n' p' q')), x.val.cell? ⟨w.heap.size, 3, none⟩ = some (.string p) := fun x => x.ok.2.1.cell 3
  have i4 : ∀ x : Wld (UrTwo w (urA a b n p q) (urA a' b' n' p' q')), x.val.cell? ⟨w.heap.size, 4, none⟩ = some (.string q) := fun x => x.ok.2.1.cell 4
  have k0 : ∀ x : Wld (UrTwo w (urA a b n p q) (urA a' b' n' p' q')), x.val.cell? ⟨w.heap.size + 1, 0, none⟩ = some (.string a') := fun x => x.ok.2.2.cell 0
  have k1 : ∀ x : Wld (UrTwo w (urA a b n p q) (urA a' b' n' p' q')), x.val.cell? ⟨w.heap.size + 1, 1, none⟩ = some (.string b') := fun x => x.ok.2.2.cell 1
  have k2 : ∀ x : Wld (UrTwo w (urA a b n p q) (urA a' b' n' p' q')), x.val.cell? ⟨w.heap.size + 1, 2, none⟩ = some (.int .i64 n') := fun x => x.ok.2.2.cell 2
  have k3 : ∀ x : Wld (UrTwo w (urA a b n p q) (urA a' b' n' p' q')), x.val.cell? ⟨w.heap.size + 1, 3, none⟩ = some (.string p') := fun x => x.ok.2.2.cell 3
  have k4 : ∀ x : Wld (UrTwo w (urA a b n p q) (urA a' b' n' p' q')), x.val.cell? ⟨w.heap.size + 1, 4, none⟩ = some (.string q') := fun x => x.ok.2.2.cell 4
  have HGW := Lib.hid (fun (x : Wld (UrTwo w (urA a b n p q) (urA a' b' n' p' q'))) => HG.out x.val x.ok.1)
  have HGW2 := Lib.hid (fun (x : Wld (UrTwo w (urA a b n p q) (urA a' b' n' p' q'))) => HG2.out x.val x.ok.1)
  have inst : Nonempty (Wld (UrTwo w (urA a b n p q) (urA a' b' n' p' q'))) := ⟨⟨_, HD.out⟩⟩
  cases g
  · go_enter Tryz.func20, Tryz.ntmps20
    go_wp2_with fail
    rw [← hw0]
    clear hw0
    refine wp_region_class (UrTwo w (urA a b n p q) (urA a' b' n' p' q')) (by kernel_rfl) (by kernel_rfl) HD.out.drew ?_
    repeat (go_big_quiet_step (first | (go_at_call 12; exact Calls.cls (HGW.out _) fun _ h => UrTwo.next h)))
    refine wpQuiet_nil ?_
    intro w2 h2
    replace HD := Lib.hid h2
    clear h2
    go_wp2
    go_ret
    exact ⟨by rw [HV.out]; rfl, HD.out.1⟩
  cases g'
  · go_enter Tryz.func20, Tryz.ntmps20
    go_wp2_with fail
    rw [← hw0]
    clear hw0
    refine wp_region_class (UrTwo w (urA a b n p q) (urA a' b' n' p' q')) (by kernel_rfl) (by kernel_rfl) HD.out.drew ?_
    repeat (go_big_quiet_step (first | (go_at_call 12; first | with_reducible exact Calls.cls (HGW.out _) fun _ h => UrTwo.next h | with_reducible exact Calls.cls (HGW2.out _) fun _ h => UrTwo.next h)))
    refine wpQuiet_nil ?_
    intro w2 h2
    replace HD := Lib.hid h2
    clear h2
    go_wp2
    go_ret
    exact ⟨by rw [HV.out]; rfl, HD.out.1⟩
  · have HQ := fun W => org_eql a b a' b' k k' W
    generalize ((a.toList == a'.toList) && (b.toList == b'.toList) && (k == k')) = E at HQ HV
    go_enter Tryz.func20, Tryz.ntmps20
    go_wp2_with fail
    rw [← hw0]
    clear hw0
    refine wp_region_class (UrTwo w (urA a b n p q) (urA a' b' n' p' q')) (by kernel_rfl) (by kernel_rfl) HD.out.drew ?_
    repeat (go_big_quiet_step (first | (go_at_call 12; first | with_reducible exact Calls.cls (HGW.out _) fun _ h => UrTwo.next h | with_reducible exact Calls.cls (HGW2.out _) fun _ h => UrTwo.next h) | (go_at_call 40; first | with_reducible exact Calls.cls (HO.out _) fun _ h => UrTwo.next h | with_reducible exact Calls.cls (HO2.out _) fun _ h => UrTwo.next h)))
    refine wpQuiet_nil ?_
    intro w2 h2
    replace HD := Lib.hid h2
    clear h2
    go_wp2
    go_ret
    exact ⟨by rw [HV.out]; rfl, HD.out.1⟩

theorem cut_eq {c : UInt8} : ∀ {A B X Y : List UInt8}, (∀ b ∈ A, b ≠ c) → (∀ b ∈ B, b ≠ c) → A ++ c :: X = B ++ c :: Y → A = B ∧ X = Y
  | [], [], _, _, _, _, h => ⟨rfl, (List.cons.inj h).2⟩
  | [], b :: B, _, _, _, hB, h => absurd (List.cons.inj h).1.symm (hB b (List.mem_cons_self ..))
  | a :: A, [], _, _, hA, _, h => absurd (List.cons.inj h).1 (hA a (List.mem_cons_self ..))
  | a :: A, b :: B, X, Y, hA, hB, h => by
    rw [List.cons_append, List.cons_append] at h
    obtain ⟨h1, h2⟩ := List.cons.inj h
    obtain ⟨h3, h4⟩ := cut_eq (fun x hx => hA x (List.mem_cons_of_mem _ hx)) (fun x hx => hB x (List.mem_cons_of_mem _ hx)) h2
    exact ⟨by rw [h1, h3], h4⟩
theorem good_parts26 {u : Plc} (h : goodU u = true) : (∀ b ∈ u.sc.data.toList, b ≠ 58) ∧ ∀ b ∈ u.ho.data.toList, b ≠ 58 := by
  obtain ⟨a, b, n, p, q⟩ := u
  rw [good_is] at h
  simp only [Bool.and_eq_true, bne_iff_ne] at h
  obtain ⟨⟨⟨⟨h1, h2⟩, _⟩, _⟩, _⟩ := h
  refine ⟨fun c hc e => ?_, fun c hc e => ?_⟩
  · have := (own_scheme h1).2.1 c hc
    rw [e] at this
    exact absurd this (by decide)
  · have := nam_bytes h2 c hc
    rw [e] at this
    exact absurd this (by decide)
theorem org_list (u : Plc) : (orgS u).data.toList = u.sc.data.toList ++ 58 :: 47 :: 47 :: (u.ho.data.toList ++ 58 :: worL (portU u)) := by
  unfold orgS
  simp [worS_list]
theorem wor_inj {m n : Int} (hm : 0 ≤ m) (hn : 0 ≤ n) (h : worL m = worL n) : m = n := by
  unfold worL at h
  rw [if_neg (by omega), if_neg (by omega)] at h
  have h1 := digS_num m.toNat
  have h2 := digS_num n.toNat
  have e : digS m.toNat = digS n.toNat := by
    apply ByteArray.ext
    apply Array.toList_inj.1
    rw [digS_list, digS_list, h]
  rw [e, h2] at h1
  omega
theorem org_same {u v : Plc} (hu : goodU u = true) (hv : goodU v = true) : ((u.sc.toList == v.sc.toList) && (u.ho.toList == v.ho.toList) && (portU u == portU v)) = ((orgS u).toList == (orgS v).toList) := by
  rw [Bool.eq_iff_iff]
  simp only [Bool.and_eq_true, beq_iff_eq, Lib.toList_data]
  rw [org_list, org_list]
  constructor
  · rintro ⟨⟨h1, h2⟩, h3⟩
    rw [h1, h2, h3]
  · intro h
    obtain ⟨hs, hh⟩ := good_parts26 hu
    obtain ⟨hs2, hh2⟩ := good_parts26 hv
    obtain ⟨h1, h2⟩ := cut_eq hs hs2 h
    have h3 := (List.cons.inj (List.cons.inj h2).2).2
    obtain ⟨h4, h5⟩ := cut_eq hh hh2 h3
    exact ⟨⟨h1, h4⟩, wor_inj (port_range hu).1 (port_range hv).1 h5⟩

def samB (u v : Plc) : Bool := goodU u && goodU v && ((orgG u).toList == (orgG v).toList)
theorem sam_is (u v : Plc) : samB u v = (goodU u && goodU v && ((u.sc.toList == v.sc.toList) && (u.ho.toList == v.ho.toList) && (portU u == portU v))) := by
  unfold samB orgG
  cases hu : goodU u
  · rfl
  cases hv : goodU v
  · rfl
  · rw [org_same hu hv]
    rfl
theorem same_any26 (u v : Plc) (w : World) (h1 : u.ho.size ≤ 1048576) (h2 : u.pa.size ≤ 1048576) (h3 : u.qu.size ≤ 1048576) (k1 : v.ho.size ≤ 1048576) (k2 : v.pa.size ≤ 1048576) (k3 : v.qu.size ≤ 1048576) (hm : MaxC w) :
    Calls Tryz.prog 20 #[plV u, plV v] w fun e w' => e = .returned (.bool (samB u v)) ∧ Below w.heap.size w w' := by
  obtain ⟨a, b, n, p, q⟩ := u
  obtain ⟨a', b', n', p', q'⟩ := v
  exact same_walk a b p q a' b' p' q' n n' _ _ (goodU ⟨a, b, n, p, q⟩) (goodU ⟨a', b', n', p', q'⟩) _ w (Lib.hid fun W hW => ugood_any a b n p q W h1 h2 h3 (hm.stays hW)) (Lib.hid fun W hW => ugood_any a' b' n' p' q' W k1 k2 k3 (hm.stays hW))
    (Lib.hid fun W => originOf_any a b n p q W) (Lib.hid fun W => originOf_any a' b' n' p' q' W) (Lib.hid (sam_is _ _))

end Go.Proofs.YtagbndkfbnlpoaaGreatDoor
namespace Go.Proofs.YtagbndkfbnlpoaaGreatDoor
open Go.RowKit

/-- The first n bytes. -/
def cutB (s : ByteArray) (n : Nat) : ByteArray := if n < s.size then s.extract 0 n else s
theorem cutB_size (s : ByteArray) (n : Nat) : (cutB s n).size ≤ n := by
  unfold cutB
  split
  · simp; omega
  · omega

set_option maxHeartbeats 400000 in
theorem cut_any (s : ByteArray) (n : Nat) (w : World) (_hs : s.size ≤ 9223372036854775807) :
    Calls Tryz.prog 6 #[.string s, .int .i64 n] w fun e w' => e = .returned (.string (cutB s n)) ∧ w = w' := by
  by_cases h : n < s.size
  · have hx : cutB s n = s.extract 0 n := by simp [cutB, h]
    have h1 : decide ((n : Int) < (s.size : Int)) = true := by simpa using h
    have h2 : decide (n < s.size) = true := by simpa using h
    rw [hx]
    clear hx
    go_enter Tryz.func6, Tryz.ntmps6
    go_wp2
    go_ret
    exact ⟨rfl, rfl⟩
  · have hx : cutB s n = s := by simp [cutB, h]
    have h1 : decide ((n : Int) < (s.size : Int)) = false := by simp; omega
    have h2 : decide (n < s.size) = false := by simpa using h
    rw [hx]
    clear hx
    go_enter Tryz.func6, Tryz.ntmps6
    go_wp2
    go_ret
    exact ⟨rfl, rfl⟩

end Go.Proofs.YtagbndkfbnlpoaaGreatDoor
