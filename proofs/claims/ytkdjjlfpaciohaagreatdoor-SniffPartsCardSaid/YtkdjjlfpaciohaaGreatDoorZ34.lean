/-
  What the functions of package sniff, and the document's own, answer. Condition: a type's names are as long as a mebibyte; texts are not longer than memory.
-/
import Derived.Test.YtkdjjlfpaciohaaGreatDoorZ8
import Derived.Test.YtkdjjlfpaciohaaGreatDoorZ12
import Derived.Test.YtkdjjlfpaciohaaGreatDoorZ32
import Derived.Test.YtkdjjlfpaciohaaGreatDoorZ33
import Derived.Test.YtkdjjlfpaciohaaGreatDoorZ17
namespace Go.Proofs.YtkdjjlfpaciohaaGreatDoor
open Go.RowKit

def SaiAt (w : World) (cs : Array Value) (W : World) : Prop := Below w.heap.size w W ∧ Blk W w.heap.size 26 cs
theorem SaiAt.drew {w W : World} {cs : Array Value} (h : SaiAt w cs W) : SaiAt w cs W.drew := ⟨h.1.drew, h.2⟩
theorem SaiAt.step {w W W' : World} {cs : Array Value} (h : SaiAt w cs W) (hb : Below W.heap.size W W') : SaiAt w cs W' := ⟨below_on h.1 hb, h.2.below hb h.2.lt⟩
theorem SaiAt.next {w : World} {cs : Array Value} {x : Wld (SaiAt w cs)} {W' : World} (hb : Below x.val.heap.size x.val W') : SaiAt w cs W' := x.ok.step hb

set_option maxHeartbeats 1000000 in
theorem sbug_any (s : ByteArray) (w : World) :
    Calls Tryz.prog 15 #[.string s] w fun e w' => e = .returned (.bool (bugB s)) ∧ w = w' := by
  obtain ⟨v, hv⟩ : ∃ v, v = bugB s := ⟨_, rfl⟩
  rw [← hv]
  unfold bugB at hv
  have HV := Lib.hid hv
  clear hv
  cases d0 : (s.toList == bugL0) <;> cases d1 : (s.toList == bugL1) <;> cases d2 : (s.toList == bugL2) <;> cases d3 : (s.toList == bugL3)
  all_goals
    rw [d0, d1, d2, d3] at HV
  all_goals
    go_enter Tryz.func15, Tryz.ntmps15
    go_wp2
    go_ret
    exact ⟨by rw [HV.out]; rfl, rfl⟩

set_option maxHeartbeats 1000000 in
theorem rbug_any (s : ByteArray) (w : World) :
    Calls Tryz.prog 16 #[.string s] w fun e w' => e = .returned (.bool (bugB s)) ∧ w = w' := by
  obtain ⟨v, hv⟩ : ∃ v, v = bugB s := ⟨_, rfl⟩
  rw [← hv]
  unfold bugB at hv
  have HV := Lib.hid hv
  clear hv
  cases d0 : (s.toList == bugL0) <;> cases d1 : (s.toList == bugL1) <;> cases d2 : (s.toList == bugL2) <;> cases d3 : (s.toList == bugL3)
  all_goals
    rw [d0, d1, d2, d3] at HV
  all_goals
    go_enter Tryz.func16, Tryz.ntmps16
    go_wp2
    go_ret
    exact ⟨by rw [HV.out]; rfl, rfl⟩

set_option maxHeartbeats 2000000 in
set_option maxRecDepth 100000 in
theorem sunknown_any (t u : ByteArray) (A : Option Addr) (n c : Nat) (has ns bug : Bool) (w : World) (ht : t.size ≤ 1048576) (hu : u.size ≤ 1048576) :
    Calls Tryz.prog 12 #[saidV t u A n c has ns bug] w fun e w' => e = .returned (.bool (unkB t u has)) ∧ Below w.heap.size w w' := by
  obtain ⟨w0, hw0⟩ : ∃ w0, w0 = w.alloc (.cells #[.string t, .string u, .slice A n c, .bool has, .bool ns, .bool bug] 26) := ⟨_, rfl⟩
  have HX := Lib.hid (show SaiAt w #[.string t, .string u, .slice A n c, .bool has, .bool ns, .bool bug] w0 from ⟨by rw [hw0]; exact (Below.refl w.heap.size w).alloc (Nat.le_refl _) _, by rw [hw0]; exact Blk.new _ _ _⟩)
  have c0 := HX.out.2.cell 0
  have c1 := HX.out.2.cell 1
  have c2 := HX.out.2.cell 2
  have c3 := HX.out.2.cell 3
  have c4 := HX.out.2.cell 4
  have c5 := HX.out.2.cell 5
  have HE := Lib.hid (fun W => gEssence_any t u A n c W ht hu)
  obtain ⟨v, hv⟩ : ∃ v, v = unkB t u has := ⟨_, rfl⟩
  rw [← hv]
  unfold unkB at hv
  generalize gEss t u = xE at *
  have HV := Lib.hid hv
  clear hv
  cases has <;> cases d0 : (xE.toList == unkL0) <;> cases d1 : (xE.toList == unkL1) <;> cases d2 : (xE.toList == unkL2)
  all_goals
    rw [d0, d1, d2] at HV
  all_goals
    go_enter Tryz.func12, Tryz.ntmps12
    go_wp2_with fail
    rw [← hw0]
    clear hw0
    go_wp2_with (first
      | (go_at_call 28; (with_reducible refine (HE.out _).mono ?_); rintro e w1 ⟨rfl, b1⟩; have HX := Lib.hid (HX.out.step b1); clear b1 c0 c1 c2 c3 c4 c5; have c0 := HX.out.2.cell 0; have c1 := HX.out.2.cell 1; have c2 := HX.out.2.cell 2; have c3 := HX.out.2.cell 3; have c4 := HX.out.2.cell 4; have c5 := HX.out.2.cell 5))
    go_ret
    exact ⟨by rw [HV.out]; rfl, HX.out.1⟩

set_option maxHeartbeats 2000000 in
set_option maxRecDepth 100000 in
theorem runknown_any (t u : ByteArray) (A : Option Addr) (n c : Nat) (has ns bug : Bool) (w : World) (ht : t.size ≤ 1048576) (hu : u.size ≤ 1048576) :
    Calls Tryz.prog 13 #[saidV t u A n c has ns bug] w fun e w' => e = .returned (.bool (unkB t u has)) ∧ Below w.heap.size w w' := by
  obtain ⟨w0, hw0⟩ : ∃ w0, w0 = w.alloc (.cells #[.string t, .string u, .slice A n c, .bool has, .bool ns, .bool bug] 26) := ⟨_, rfl⟩
  have HX := Lib.hid (show SaiAt w #[.string t, .string u, .slice A n c, .bool has, .bool ns, .bool bug] w0 from ⟨by rw [hw0]; exact (Below.refl w.heap.size w).alloc (Nat.le_refl _) _, by rw [hw0]; exact Blk.new _ _ _⟩)
  have c0 := HX.out.2.cell 0
  have c1 := HX.out.2.cell 1
  have c2 := HX.out.2.cell 2
  have c3 := HX.out.2.cell 3
  have c4 := HX.out.2.cell 4
  have c5 := HX.out.2.cell 5
  have HE := Lib.hid (fun W => ressence_any t u A n c W ht hu)
  obtain ⟨v, hv⟩ : ∃ v, v = unkB t u has := ⟨_, rfl⟩
  rw [← hv]
  unfold unkB at hv
  generalize gEss t u = xE at *
  have HV := Lib.hid hv
  clear hv
  cases has <;> cases d0 : (xE.toList == unkL0) <;> cases d1 : (xE.toList == unkL1) <;> cases d2 : (xE.toList == unkL2)
  all_goals
    rw [d0, d1, d2] at HV
  all_goals
    go_enter Tryz.func13, Tryz.ntmps13
    go_wp2_with fail
    rw [← hw0]
    clear hw0
    go_wp2_with (first
      | (go_at_call 11; (with_reducible refine (HE.out _).mono ?_); rintro e w1 ⟨rfl, b1⟩; have HX := Lib.hid (HX.out.step b1); clear b1 c0 c1 c2 c3 c4 c5; have c0 := HX.out.2.cell 0; have c1 := HX.out.2.cell 1; have c2 := HX.out.2.cell 2; have c3 := HX.out.2.cell 3; have c4 := HX.out.2.cell 4; have c5 := HX.out.2.cell 5))
    go_ret
    exact ⟨by rw [HV.out]; rfl, HX.out.1⟩

theorem film_le {s x : ByteArray} (hx : cutB s 1445 = x) : x.size ≤ 1445 := by rw [← hx]; exact cutB_size s 1445

set_option maxHeartbeats 1000000 in
theorem simage_any (s x : ByteArray) (r : Int) (w : World) (hs : s.size ≤ 9223372036854775807) (hx : cutB s 1445 = x) (hr : IsFirst x imgP 8 r) :
    Calls Tryz.prog 17 #[.string s] w fun e w' => e = .returned (.string (typeOf imgP r)) ∧ Below w.heap.size w w' := by
  have hl := film_le hx
  have H0 := Lib.hid (fun W => cut19_any s W hs)
  rw [hx] at H0
  have H1 := Lib.hid (fun W => imgType_any x r W (by omega) hr)
  have HB := Lib.hid (Below.refl w.heap.size w)
  generalize typeOf imgP r = i at *
  clear hr hx hl hs
  go_enter Tryz.func17, Tryz.ntmps17
  go_wp2_with (first
    | (go_at_call 33; (with_reducible refine (H0.out _).mono ?_); rintro e w1 ⟨rfl, rfl⟩)
    | (go_at_call 37; (with_reducible refine (H1.out _).mono ?_); rintro e w1 ⟨rfl, b1⟩; have HB := Lib.hid (HB.out.trans (b1.mono HB.out.size)); clear b1))
  go_ret
  exact ⟨rfl, HB.out⟩

set_option maxHeartbeats 1000000 in
theorem rimage_any (s x : ByteArray) (r : Int) (w : World) (hs : s.size ≤ 9223372036854775807) (hx : cutB s 1445 = x) (hr : IsFirst x imgP 8 r) :
    Calls Tryz.prog 18 #[.string s] w fun e w' => e = .returned (.string (typeOf imgP r)) ∧ Below w.heap.size w w' := by
  have hl := film_le hx
  have H0 := Lib.hid (fun W => rcut19_any s W hs)
  rw [hx] at H0
  have H1 := Lib.hid (fun W g (h : PatsIn W g imgP 8) => rType_any g 8 8 x imgP r W h (fun i hi => img_ok hi) (by omega) (by decide) hr)
  have HB := Lib.hid (Below.refl w.heap.size w)
  generalize typeOf imgP r = i at *
  clear hr hx hl hs
  go_enter Tryz.func18, Tryz.ntmps18
  go_wp2_with (first
    | (go_at_call 26; (with_reducible refine (H0.out _).mono ?_); rintro e w1 ⟨rfl, rfl⟩)
    | (go_at_call 39; refine (refTable_any _).mono ?_; rintro e w1 ⟨g, rfl, hg, hp, b1⟩; have HB := Lib.hid (HB.out.trans (b1.mono HB.out.size)); have HP := Lib.hid hp; clear b1 hp hg)
    | (go_at_call 38; (with_reducible refine (H1.out _ _ HP.out).mono ?_); rintro e w1 ⟨rfl, b1⟩; have HB := Lib.hid (HB.out.trans (b1.mono HB.out.size)); clear b1))
  go_ret
  exact ⟨rfl, HB.out⟩

set_option maxHeartbeats 1000000 in
theorem smedia_any (s x : ByteArray) (r : Int) (w : World) (hs : s.size ≤ 9223372036854775807) (hx : cutB s 1445 = x) (hr : IsFirst x medP 6 r) :
    Calls Tryz.prog 19 #[.string s] w fun e w' => e = .returned (.string (mdA (typeOf medP r) (filmB x) (filW x) (isO x))) ∧ Below w.heap.size w w' := by
  have hl := film_le hx
  have H0 := Lib.hid (fun W => cut19_any s W hs)
  rw [hx] at H0
  have H1 := Lib.hid (fun W => umedia_any x r W (by omega) hr)
  have HB := Lib.hid (Below.refl w.heap.size w)
  generalize mdA (typeOf medP r) (filmB x) (filW x) (isO x) = i at *
  clear hr hx hl hs
  go_enter Tryz.func19, Tryz.ntmps19
  go_wp2_with (first
    | (go_at_call 33; (with_reducible refine (H0.out _).mono ?_); rintro e w1 ⟨rfl, rfl⟩)
    | (go_at_call 40; (with_reducible refine (H1.out _).mono ?_); rintro e w1 ⟨rfl, b1⟩; have HB := Lib.hid (HB.out.trans (b1.mono HB.out.size)); clear b1))
  go_ret
  exact ⟨rfl, HB.out⟩

set_option maxHeartbeats 1000000 in
theorem rmedia21_any (s x : ByteArray) (r : Int) (w : World) (hs : s.size ≤ 9223372036854775807) (hx : cutB s 1445 = x) (hr : IsFirst x medP 6 r) :
    Calls Tryz.prog 20 #[.string s] w fun e w' => e = .returned (.string (mdA (typeOf medP r) (filmB x) (filW x) (isO x))) ∧ Below w.heap.size w w' := by
  have hl := film_le hx
  have H0 := Lib.hid (fun W => rcut19_any s W hs)
  rw [hx] at H0
  have H1 := Lib.hid (fun W => rmedia_any x r W (by omega) hr)
  have HB := Lib.hid (Below.refl w.heap.size w)
  generalize mdA (typeOf medP r) (filmB x) (filW x) (isO x) = i at *
  clear hr hx hl hs
  go_enter Tryz.func20, Tryz.ntmps20
  go_wp2_with (first
    | (go_at_call 26; (with_reducible refine (H0.out _).mono ?_); rintro e w1 ⟨rfl, rfl⟩)
    | (go_at_call 41; (with_reducible refine (H1.out _).mono ?_); rintro e w1 ⟨rfl, b1⟩; have HB := Lib.hid (HB.out.trans (b1.mono HB.out.size)); clear b1))
  go_ret
  exact ⟨rfl, HB.out⟩

/-- What was found, or what is said. -/
def knoA (f e : ByteArray) : ByteArray := if emB f then e else f
theorem sknown_any (f e : ByteArray) (w : World) :
    Calls Tryz.prog 35 #[.string f, .string e] w fun r w' => r = .returned (.string (knoA f e)) ∧ w = w' := by
  unfold knoA
  cases he : emB f
  all_goals
    obtain ⟨e1, e2⟩ := em_says he
    clear he
    go_enter Tryz.func35, Tryz.ntmps35
    go_wp2
    go_ret
    exact ⟨rfl, rfl⟩

/-- A picture's type is no sound's or film's. -/
theorem image_media {t u : ByteArray} (h : imageG t = true) : mediaG t u = false := by
  unfold imageG at h
  rw [beq_iff_eq] at h
  unfold mediaG
  have e : (gEss t u).toList = gImg ++ 47 :: u.toList := by rw [Lib.toList_data]; show essL t u = _; unfold essL; rw [← Lib.toList_data, ← Lib.toList_data, h]
  rw [e, h]
  rfl
/-- What a body is, by what each of its parts answers. -/
def sniQ (k h xm ns bug ig mg : Bool) (e y l i m : ByteArray) : ByteArray :=
  if k then y else if h || (xm || ns) then e else if bug then l else if ig && !emB i then i else if mg && !emB m then m else e
theorem sniQ_is (t u : ByteArray) (has ns bug : Bool) (y l i m : ByteArray) : sniA t u has ns bug y l i m = sniQ (unkB t u has) (htmlG t u) (xmlG t u) ns bug (imageG t) (mediaG t u) (gEss t u) y l i m := rfl

set_option maxHeartbeats 4000000 in
set_option maxRecDepth 100000 in
theorem stype_ways (t u : ByteArray) (A : Option Addr) (n c : Nat) (s x e y l i m : ByteArray) (has k h xm ns bug ig mg : Bool) (w : World)
    (HE : Hid (∀ W, Calls Tryz.prog 28 #[mimV t u A n c] W fun r w' => r = .returned (.string e) ∧ Below W.heap.size W w'))
    (HU : Hid (∀ W, Calls Tryz.prog 12 #[saidV t u A n c has ns bug] W fun r w' => r = .returned (.bool k) ∧ Below W.heap.size W w'))
    (HY : Hid (∀ W, Calls Tryz.prog 29 #[.string s, .bool (!ns)] W fun r w' => r = .returned (.string y) ∧ Below W.heap.size W w'))
    (HH : Hid (∀ W, Calls Tryz.prog 30 #[mimV t u A n c] W fun r w' => r = .returned (.bool h) ∧ Below W.heap.size W w'))
    (HM1 : Hid (∀ W, Calls Tryz.prog 31 #[mimV t u A n c] W fun r w' => r = .returned (.bool xm) ∧ Below W.heap.size W w'))
    (HC : Hid (∀ W, Calls Tryz.prog 33 #[.string s] W fun r w' => r = .returned (.string x) ∧ W = w'))
    (HL : Hid (∀ W, Calls Tryz.prog 32 #[.string x] W fun r w' => r = .returned (.string l) ∧ W = w'))
    (HI : Hid (∀ W, Calls Tryz.prog 17 #[.string s] W fun r w' => r = .returned (.string i) ∧ Below W.heap.size W w'))
    (HN : Hid (∀ W, Calls Tryz.prog 19 #[.string s] W fun r w' => r = .returned (.string m) ∧ Below W.heap.size W w'))
    (HG2 : Hid (∀ W, Calls Tryz.prog 36 #[mimV t u A n c] W fun r w' => r = .returned (.bool mg) ∧ Below W.heap.size W w'))
    (HG1 : Hid (∀ W, Calls Tryz.prog 34 #[mimV t u A n c] W fun r w' => r = .returned (.bool ig) ∧ Below W.heap.size W w'))
    (hix : ig = true → mg = false) :
    Calls Tryz.prog 9 #[saidV t u A n c has ns bug, .string s] w fun r w' => r = .returned (.string (sniQ k h xm ns bug ig mg e y l i m)) ∧ Below w.heap.size w w' := by
  obtain ⟨w0, hw0⟩ : ∃ w0, w0 = w.alloc (.cells #[.string t, .string u, .slice A n c, .bool has, .bool ns, .bool bug] 26) := ⟨_, rfl⟩
  have HX := Lib.hid (show SaiAt w #[.string t, .string u, .slice A n c, .bool has, .bool ns, .bool bug] w0 from ⟨by rw [hw0]; exact (Below.refl w.heap.size w).alloc (Nat.le_refl _) _, by rw [hw0]; exact Blk.new _ _ _⟩)
  have c0 := HX.out.2.cell 0
  have c1 := HX.out.2.cell 1
  have c2 := HX.out.2.cell 2
  have c3 := HX.out.2.cell 3
  have c4 := HX.out.2.cell 4
  have c5 := HX.out.2.cell 5
  obtain ⟨v, hv⟩ : ∃ v, v = sniQ k h xm ns bug ig mg e y l i m := ⟨_, rfl⟩
  rw [← hv]
  have HV := Lib.hid hv
  clear hv
  cases k
  · cases h
    · cases xm
      · cases ns
        · cases bug
          · cases ig
            · cases mg
              · go_enter Tryz.func9, Tryz.ntmps9
                go_wp2_with fail
                rw [← hw0]
                clear hw0
                go_wp2_with (first
                  | (go_at_call 28; (with_reducible refine (HE.out _).mono ?_); rintro e w1 ⟨rfl, b1⟩; have HX := Lib.hid (HX.out.step b1); clear b1 c0 c1 c2 c3 c4 c5; have c0 := HX.out.2.cell 0; have c1 := HX.out.2.cell 1; have c2 := HX.out.2.cell 2; have c3 := HX.out.2.cell 3; have c4 := HX.out.2.cell 4; have c5 := HX.out.2.cell 5)
                  | (go_at_call 12; (with_reducible refine (HU.out _).mono ?_); rintro e w1 ⟨rfl, b1⟩; have HX := Lib.hid (HX.out.step b1); clear b1 c0 c1 c2 c3 c4 c5; have c0 := HX.out.2.cell 0; have c1 := HX.out.2.cell 1; have c2 := HX.out.2.cell 2; have c3 := HX.out.2.cell 3; have c4 := HX.out.2.cell 4; have c5 := HX.out.2.cell 5)
                  | (go_at_call 29; (with_reducible refine (HY.out _).mono ?_); rintro e w1 ⟨rfl, b1⟩; have HX := Lib.hid (HX.out.step b1); clear b1 c0 c1 c2 c3 c4 c5; have c0 := HX.out.2.cell 0; have c1 := HX.out.2.cell 1; have c2 := HX.out.2.cell 2; have c3 := HX.out.2.cell 3; have c4 := HX.out.2.cell 4; have c5 := HX.out.2.cell 5)
                  | (go_at_call 30; (with_reducible refine (HH.out _).mono ?_); rintro e w1 ⟨rfl, b1⟩; have HX := Lib.hid (HX.out.step b1); clear b1 c0 c1 c2 c3 c4 c5; have c0 := HX.out.2.cell 0; have c1 := HX.out.2.cell 1; have c2 := HX.out.2.cell 2; have c3 := HX.out.2.cell 3; have c4 := HX.out.2.cell 4; have c5 := HX.out.2.cell 5)
                  | (go_at_call 31; (with_reducible refine (HM1.out _).mono ?_); rintro e w1 ⟨rfl, b1⟩; have HX := Lib.hid (HX.out.step b1); clear b1 c0 c1 c2 c3 c4 c5; have c0 := HX.out.2.cell 0; have c1 := HX.out.2.cell 1; have c2 := HX.out.2.cell 2; have c3 := HX.out.2.cell 3; have c4 := HX.out.2.cell 4; have c5 := HX.out.2.cell 5)
                  | (go_at_call 33; (with_reducible refine (HC.out _).mono ?_); rintro e w1 ⟨rfl, rfl⟩)
                  | (go_at_call 32; (with_reducible refine (HL.out _).mono ?_); rintro e w1 ⟨rfl, rfl⟩)
                  | (go_at_call 17; (with_reducible refine (HI.out _).mono ?_); rintro e w1 ⟨rfl, b1⟩; have HX := Lib.hid (HX.out.step b1); clear b1 c0 c1 c2 c3 c4 c5; have c0 := HX.out.2.cell 0; have c1 := HX.out.2.cell 1; have c2 := HX.out.2.cell 2; have c3 := HX.out.2.cell 3; have c4 := HX.out.2.cell 4; have c5 := HX.out.2.cell 5)
                  | (go_at_call 19; (with_reducible refine (HN.out _).mono ?_); rintro e w1 ⟨rfl, b1⟩; have HX := Lib.hid (HX.out.step b1); clear b1 c0 c1 c2 c3 c4 c5; have c0 := HX.out.2.cell 0; have c1 := HX.out.2.cell 1; have c2 := HX.out.2.cell 2; have c3 := HX.out.2.cell 3; have c4 := HX.out.2.cell 4; have c5 := HX.out.2.cell 5)
                  | (go_at_call 36; (with_reducible refine (HG2.out _).mono ?_); rintro e w1 ⟨rfl, b1⟩; have HX := Lib.hid (HX.out.step b1); clear b1 c0 c1 c2 c3 c4 c5; have c0 := HX.out.2.cell 0; have c1 := HX.out.2.cell 1; have c2 := HX.out.2.cell 2; have c3 := HX.out.2.cell 3; have c4 := HX.out.2.cell 4; have c5 := HX.out.2.cell 5)
                  | (go_at_call 34; (with_reducible refine (HG1.out _).mono ?_); rintro e w1 ⟨rfl, b1⟩; have HX := Lib.hid (HX.out.step b1); clear b1 c0 c1 c2 c3 c4 c5; have c0 := HX.out.2.cell 0; have c1 := HX.out.2.cell 1; have c2 := HX.out.2.cell 2; have c3 := HX.out.2.cell 3; have c4 := HX.out.2.cell 4; have c5 := HX.out.2.cell 5)
                  | (go_at_call 35; (with_reducible refine (sknown_any _ _ _).mono ?_); rintro e w1 ⟨rfl, rfl⟩))
                go_ret
                exact ⟨by rw [HV.out]; unfold sniQ; rfl, HX.out.1⟩
              · cases he : emB m
                · have HQ := Lib.hid he
                  obtain ⟨e1, e2⟩ := em_says he
                  clear he
                  go_enter Tryz.func9, Tryz.ntmps9
                  go_wp2_with fail
                  rw [← hw0]
                  clear hw0
                  go_wp2_with (first
                    | (go_at_call 28; (with_reducible refine (HE.out _).mono ?_); rintro e w1 ⟨rfl, b1⟩; have HX := Lib.hid (HX.out.step b1); clear b1 c0 c1 c2 c3 c4 c5; have c0 := HX.out.2.cell 0; have c1 := HX.out.2.cell 1; have c2 := HX.out.2.cell 2; have c3 := HX.out.2.cell 3; have c4 := HX.out.2.cell 4; have c5 := HX.out.2.cell 5)
                    | (go_at_call 12; (with_reducible refine (HU.out _).mono ?_); rintro e w1 ⟨rfl, b1⟩; have HX := Lib.hid (HX.out.step b1); clear b1 c0 c1 c2 c3 c4 c5; have c0 := HX.out.2.cell 0; have c1 := HX.out.2.cell 1; have c2 := HX.out.2.cell 2; have c3 := HX.out.2.cell 3; have c4 := HX.out.2.cell 4; have c5 := HX.out.2.cell 5)
                    | (go_at_call 29; (with_reducible refine (HY.out _).mono ?_); rintro e w1 ⟨rfl, b1⟩; have HX := Lib.hid (HX.out.step b1); clear b1 c0 c1 c2 c3 c4 c5; have c0 := HX.out.2.cell 0; have c1 := HX.out.2.cell 1; have c2 := HX.out.2.cell 2; have c3 := HX.out.2.cell 3; have c4 := HX.out.2.cell 4; have c5 := HX.out.2.cell 5)
                    | (go_at_call 30; (with_reducible refine (HH.out _).mono ?_); rintro e w1 ⟨rfl, b1⟩; have HX := Lib.hid (HX.out.step b1); clear b1 c0 c1 c2 c3 c4 c5; have c0 := HX.out.2.cell 0; have c1 := HX.out.2.cell 1; have c2 := HX.out.2.cell 2; have c3 := HX.out.2.cell 3; have c4 := HX.out.2.cell 4; have c5 := HX.out.2.cell 5)
                    | (go_at_call 31; (with_reducible refine (HM1.out _).mono ?_); rintro e w1 ⟨rfl, b1⟩; have HX := Lib.hid (HX.out.step b1); clear b1 c0 c1 c2 c3 c4 c5; have c0 := HX.out.2.cell 0; have c1 := HX.out.2.cell 1; have c2 := HX.out.2.cell 2; have c3 := HX.out.2.cell 3; have c4 := HX.out.2.cell 4; have c5 := HX.out.2.cell 5)
                    | (go_at_call 33; (with_reducible refine (HC.out _).mono ?_); rintro e w1 ⟨rfl, rfl⟩)
                    | (go_at_call 32; (with_reducible refine (HL.out _).mono ?_); rintro e w1 ⟨rfl, rfl⟩)
                    | (go_at_call 17; (with_reducible refine (HI.out _).mono ?_); rintro e w1 ⟨rfl, b1⟩; have HX := Lib.hid (HX.out.step b1); clear b1 c0 c1 c2 c3 c4 c5; have c0 := HX.out.2.cell 0; have c1 := HX.out.2.cell 1; have c2 := HX.out.2.cell 2; have c3 := HX.out.2.cell 3; have c4 := HX.out.2.cell 4; have c5 := HX.out.2.cell 5)
                    | (go_at_call 19; (with_reducible refine (HN.out _).mono ?_); rintro e w1 ⟨rfl, b1⟩; have HX := Lib.hid (HX.out.step b1); clear b1 c0 c1 c2 c3 c4 c5; have c0 := HX.out.2.cell 0; have c1 := HX.out.2.cell 1; have c2 := HX.out.2.cell 2; have c3 := HX.out.2.cell 3; have c4 := HX.out.2.cell 4; have c5 := HX.out.2.cell 5)
                    | (go_at_call 36; (with_reducible refine (HG2.out _).mono ?_); rintro e w1 ⟨rfl, b1⟩; have HX := Lib.hid (HX.out.step b1); clear b1 c0 c1 c2 c3 c4 c5; have c0 := HX.out.2.cell 0; have c1 := HX.out.2.cell 1; have c2 := HX.out.2.cell 2; have c3 := HX.out.2.cell 3; have c4 := HX.out.2.cell 4; have c5 := HX.out.2.cell 5)
                    | (go_at_call 34; (with_reducible refine (HG1.out _).mono ?_); rintro e w1 ⟨rfl, b1⟩; have HX := Lib.hid (HX.out.step b1); clear b1 c0 c1 c2 c3 c4 c5; have c0 := HX.out.2.cell 0; have c1 := HX.out.2.cell 1; have c2 := HX.out.2.cell 2; have c3 := HX.out.2.cell 3; have c4 := HX.out.2.cell 4; have c5 := HX.out.2.cell 5)
                    | (go_at_call 35; (with_reducible refine (sknown_any _ _ _).mono ?_); rintro e w1 ⟨rfl, rfl⟩))
                  go_ret
                  exact ⟨by rw [HV.out]; unfold sniQ knoA; rw [HQ.out]; rfl, HX.out.1⟩
                · have HQ := Lib.hid he
                  obtain ⟨e1, e2⟩ := em_says he
                  clear he
                  go_enter Tryz.func9, Tryz.ntmps9
                  go_wp2_with fail
                  rw [← hw0]
                  clear hw0
                  go_wp2_with (first
                    | (go_at_call 28; (with_reducible refine (HE.out _).mono ?_); rintro e w1 ⟨rfl, b1⟩; have HX := Lib.hid (HX.out.step b1); clear b1 c0 c1 c2 c3 c4 c5; have c0 := HX.out.2.cell 0; have c1 := HX.out.2.cell 1; have c2 := HX.out.2.cell 2; have c3 := HX.out.2.cell 3; have c4 := HX.out.2.cell 4; have c5 := HX.out.2.cell 5)
                    | (go_at_call 12; (with_reducible refine (HU.out _).mono ?_); rintro e w1 ⟨rfl, b1⟩; have HX := Lib.hid (HX.out.step b1); clear b1 c0 c1 c2 c3 c4 c5; have c0 := HX.out.2.cell 0; have c1 := HX.out.2.cell 1; have c2 := HX.out.2.cell 2; have c3 := HX.out.2.cell 3; have c4 := HX.out.2.cell 4; have c5 := HX.out.2.cell 5)
                    | (go_at_call 29; (with_reducible refine (HY.out _).mono ?_); rintro e w1 ⟨rfl, b1⟩; have HX := Lib.hid (HX.out.step b1); clear b1 c0 c1 c2 c3 c4 c5; have c0 := HX.out.2.cell 0; have c1 := HX.out.2.cell 1; have c2 := HX.out.2.cell 2; have c3 := HX.out.2.cell 3; have c4 := HX.out.2.cell 4; have c5 := HX.out.2.cell 5)
                    | (go_at_call 30; (with_reducible refine (HH.out _).mono ?_); rintro e w1 ⟨rfl, b1⟩; have HX := Lib.hid (HX.out.step b1); clear b1 c0 c1 c2 c3 c4 c5; have c0 := HX.out.2.cell 0; have c1 := HX.out.2.cell 1; have c2 := HX.out.2.cell 2; have c3 := HX.out.2.cell 3; have c4 := HX.out.2.cell 4; have c5 := HX.out.2.cell 5)
                    | (go_at_call 31; (with_reducible refine (HM1.out _).mono ?_); rintro e w1 ⟨rfl, b1⟩; have HX := Lib.hid (HX.out.step b1); clear b1 c0 c1 c2 c3 c4 c5; have c0 := HX.out.2.cell 0; have c1 := HX.out.2.cell 1; have c2 := HX.out.2.cell 2; have c3 := HX.out.2.cell 3; have c4 := HX.out.2.cell 4; have c5 := HX.out.2.cell 5)
                    | (go_at_call 33; (with_reducible refine (HC.out _).mono ?_); rintro e w1 ⟨rfl, rfl⟩)
                    | (go_at_call 32; (with_reducible refine (HL.out _).mono ?_); rintro e w1 ⟨rfl, rfl⟩)
                    | (go_at_call 17; (with_reducible refine (HI.out _).mono ?_); rintro e w1 ⟨rfl, b1⟩; have HX := Lib.hid (HX.out.step b1); clear b1 c0 c1 c2 c3 c4 c5; have c0 := HX.out.2.cell 0; have c1 := HX.out.2.cell 1; have c2 := HX.out.2.cell 2; have c3 := HX.out.2.cell 3; have c4 := HX.out.2.cell 4; have c5 := HX.out.2.cell 5)
                    | (go_at_call 19; (with_reducible refine (HN.out _).mono ?_); rintro e w1 ⟨rfl, b1⟩; have HX := Lib.hid (HX.out.step b1); clear b1 c0 c1 c2 c3 c4 c5; have c0 := HX.out.2.cell 0; have c1 := HX.out.2.cell 1; have c2 := HX.out.2.cell 2; have c3 := HX.out.2.cell 3; have c4 := HX.out.2.cell 4; have c5 := HX.out.2.cell 5)
                    | (go_at_call 36; (with_reducible refine (HG2.out _).mono ?_); rintro e w1 ⟨rfl, b1⟩; have HX := Lib.hid (HX.out.step b1); clear b1 c0 c1 c2 c3 c4 c5; have c0 := HX.out.2.cell 0; have c1 := HX.out.2.cell 1; have c2 := HX.out.2.cell 2; have c3 := HX.out.2.cell 3; have c4 := HX.out.2.cell 4; have c5 := HX.out.2.cell 5)
                    | (go_at_call 34; (with_reducible refine (HG1.out _).mono ?_); rintro e w1 ⟨rfl, b1⟩; have HX := Lib.hid (HX.out.step b1); clear b1 c0 c1 c2 c3 c4 c5; have c0 := HX.out.2.cell 0; have c1 := HX.out.2.cell 1; have c2 := HX.out.2.cell 2; have c3 := HX.out.2.cell 3; have c4 := HX.out.2.cell 4; have c5 := HX.out.2.cell 5)
                    | (go_at_call 35; (with_reducible refine (sknown_any _ _ _).mono ?_); rintro e w1 ⟨rfl, rfl⟩))
                  go_ret
                  exact ⟨by rw [HV.out]; unfold sniQ knoA; rw [HQ.out]; rfl, HX.out.1⟩
            · have hmg := hix rfl
              subst hmg
              cases he : emB i
              · have HQ := Lib.hid he
                obtain ⟨e1, e2⟩ := em_says he
                clear he
                go_enter Tryz.func9, Tryz.ntmps9
                go_wp2_with fail
                rw [← hw0]
                clear hw0
                go_wp2_with (first
                  | (go_at_call 28; (with_reducible refine (HE.out _).mono ?_); rintro e w1 ⟨rfl, b1⟩; have HX := Lib.hid (HX.out.step b1); clear b1 c0 c1 c2 c3 c4 c5; have c0 := HX.out.2.cell 0; have c1 := HX.out.2.cell 1; have c2 := HX.out.2.cell 2; have c3 := HX.out.2.cell 3; have c4 := HX.out.2.cell 4; have c5 := HX.out.2.cell 5)
                  | (go_at_call 12; (with_reducible refine (HU.out _).mono ?_); rintro e w1 ⟨rfl, b1⟩; have HX := Lib.hid (HX.out.step b1); clear b1 c0 c1 c2 c3 c4 c5; have c0 := HX.out.2.cell 0; have c1 := HX.out.2.cell 1; have c2 := HX.out.2.cell 2; have c3 := HX.out.2.cell 3; have c4 := HX.out.2.cell 4; have c5 := HX.out.2.cell 5)
                  | (go_at_call 29; (with_reducible refine (HY.out _).mono ?_); rintro e w1 ⟨rfl, b1⟩; have HX := Lib.hid (HX.out.step b1); clear b1 c0 c1 c2 c3 c4 c5; have c0 := HX.out.2.cell 0; have c1 := HX.out.2.cell 1; have c2 := HX.out.2.cell 2; have c3 := HX.out.2.cell 3; have c4 := HX.out.2.cell 4; have c5 := HX.out.2.cell 5)
                  | (go_at_call 30; (with_reducible refine (HH.out _).mono ?_); rintro e w1 ⟨rfl, b1⟩; have HX := Lib.hid (HX.out.step b1); clear b1 c0 c1 c2 c3 c4 c5; have c0 := HX.out.2.cell 0; have c1 := HX.out.2.cell 1; have c2 := HX.out.2.cell 2; have c3 := HX.out.2.cell 3; have c4 := HX.out.2.cell 4; have c5 := HX.out.2.cell 5)
                  | (go_at_call 31; (with_reducible refine (HM1.out _).mono ?_); rintro e w1 ⟨rfl, b1⟩; have HX := Lib.hid (HX.out.step b1); clear b1 c0 c1 c2 c3 c4 c5; have c0 := HX.out.2.cell 0; have c1 := HX.out.2.cell 1; have c2 := HX.out.2.cell 2; have c3 := HX.out.2.cell 3; have c4 := HX.out.2.cell 4; have c5 := HX.out.2.cell 5)
                  | (go_at_call 33; (with_reducible refine (HC.out _).mono ?_); rintro e w1 ⟨rfl, rfl⟩)
                  | (go_at_call 32; (with_reducible refine (HL.out _).mono ?_); rintro e w1 ⟨rfl, rfl⟩)
                  | (go_at_call 17; (with_reducible refine (HI.out _).mono ?_); rintro e w1 ⟨rfl, b1⟩; have HX := Lib.hid (HX.out.step b1); clear b1 c0 c1 c2 c3 c4 c5; have c0 := HX.out.2.cell 0; have c1 := HX.out.2.cell 1; have c2 := HX.out.2.cell 2; have c3 := HX.out.2.cell 3; have c4 := HX.out.2.cell 4; have c5 := HX.out.2.cell 5)
                  | (go_at_call 19; (with_reducible refine (HN.out _).mono ?_); rintro e w1 ⟨rfl, b1⟩; have HX := Lib.hid (HX.out.step b1); clear b1 c0 c1 c2 c3 c4 c5; have c0 := HX.out.2.cell 0; have c1 := HX.out.2.cell 1; have c2 := HX.out.2.cell 2; have c3 := HX.out.2.cell 3; have c4 := HX.out.2.cell 4; have c5 := HX.out.2.cell 5)
                  | (go_at_call 36; (with_reducible refine (HG2.out _).mono ?_); rintro e w1 ⟨rfl, b1⟩; have HX := Lib.hid (HX.out.step b1); clear b1 c0 c1 c2 c3 c4 c5; have c0 := HX.out.2.cell 0; have c1 := HX.out.2.cell 1; have c2 := HX.out.2.cell 2; have c3 := HX.out.2.cell 3; have c4 := HX.out.2.cell 4; have c5 := HX.out.2.cell 5)
                  | (go_at_call 34; (with_reducible refine (HG1.out _).mono ?_); rintro e w1 ⟨rfl, b1⟩; have HX := Lib.hid (HX.out.step b1); clear b1 c0 c1 c2 c3 c4 c5; have c0 := HX.out.2.cell 0; have c1 := HX.out.2.cell 1; have c2 := HX.out.2.cell 2; have c3 := HX.out.2.cell 3; have c4 := HX.out.2.cell 4; have c5 := HX.out.2.cell 5)
                  | (go_at_call 35; (with_reducible refine (sknown_any _ _ _).mono ?_); rintro e w1 ⟨rfl, rfl⟩))
                go_ret
                exact ⟨by rw [HV.out]; unfold sniQ knoA; rw [HQ.out]; rfl, HX.out.1⟩
              · have HQ := Lib.hid he
                obtain ⟨e1, e2⟩ := em_says he
                clear he
                go_enter Tryz.func9, Tryz.ntmps9
                go_wp2_with fail
                rw [← hw0]
                clear hw0
                go_wp2_with (first
                  | (go_at_call 28; (with_reducible refine (HE.out _).mono ?_); rintro e w1 ⟨rfl, b1⟩; have HX := Lib.hid (HX.out.step b1); clear b1 c0 c1 c2 c3 c4 c5; have c0 := HX.out.2.cell 0; have c1 := HX.out.2.cell 1; have c2 := HX.out.2.cell 2; have c3 := HX.out.2.cell 3; have c4 := HX.out.2.cell 4; have c5 := HX.out.2.cell 5)
                  | (go_at_call 12; (with_reducible refine (HU.out _).mono ?_); rintro e w1 ⟨rfl, b1⟩; have HX := Lib.hid (HX.out.step b1); clear b1 c0 c1 c2 c3 c4 c5; have c0 := HX.out.2.cell 0; have c1 := HX.out.2.cell 1; have c2 := HX.out.2.cell 2; have c3 := HX.out.2.cell 3; have c4 := HX.out.2.cell 4; have c5 := HX.out.2.cell 5)
                  | (go_at_call 29; (with_reducible refine (HY.out _).mono ?_); rintro e w1 ⟨rfl, b1⟩; have HX := Lib.hid (HX.out.step b1); clear b1 c0 c1 c2 c3 c4 c5; have c0 := HX.out.2.cell 0; have c1 := HX.out.2.cell 1; have c2 := HX.out.2.cell 2; have c3 := HX.out.2.cell 3; have c4 := HX.out.2.cell 4; have c5 := HX.out.2.cell 5)
                  | (go_at_call 30; (with_reducible refine (HH.out _).mono ?_); rintro e w1 ⟨rfl, b1⟩; have HX := Lib.hid (HX.out.step b1); clear b1 c0 c1 c2 c3 c4 c5; have c0 := HX.out.2.cell 0; have c1 := HX.out.2.cell 1; have c2 := HX.out.2.cell 2; have c3 := HX.out.2.cell 3; have c4 := HX.out.2.cell 4; have c5 := HX.out.2.cell 5)
                  | (go_at_call 31; (with_reducible refine (HM1.out _).mono ?_); rintro e w1 ⟨rfl, b1⟩; have HX := Lib.hid (HX.out.step b1); clear b1 c0 c1 c2 c3 c4 c5; have c0 := HX.out.2.cell 0; have c1 := HX.out.2.cell 1; have c2 := HX.out.2.cell 2; have c3 := HX.out.2.cell 3; have c4 := HX.out.2.cell 4; have c5 := HX.out.2.cell 5)
                  | (go_at_call 33; (with_reducible refine (HC.out _).mono ?_); rintro e w1 ⟨rfl, rfl⟩)
                  | (go_at_call 32; (with_reducible refine (HL.out _).mono ?_); rintro e w1 ⟨rfl, rfl⟩)
                  | (go_at_call 17; (with_reducible refine (HI.out _).mono ?_); rintro e w1 ⟨rfl, b1⟩; have HX := Lib.hid (HX.out.step b1); clear b1 c0 c1 c2 c3 c4 c5; have c0 := HX.out.2.cell 0; have c1 := HX.out.2.cell 1; have c2 := HX.out.2.cell 2; have c3 := HX.out.2.cell 3; have c4 := HX.out.2.cell 4; have c5 := HX.out.2.cell 5)
                  | (go_at_call 19; (with_reducible refine (HN.out _).mono ?_); rintro e w1 ⟨rfl, b1⟩; have HX := Lib.hid (HX.out.step b1); clear b1 c0 c1 c2 c3 c4 c5; have c0 := HX.out.2.cell 0; have c1 := HX.out.2.cell 1; have c2 := HX.out.2.cell 2; have c3 := HX.out.2.cell 3; have c4 := HX.out.2.cell 4; have c5 := HX.out.2.cell 5)
                  | (go_at_call 36; (with_reducible refine (HG2.out _).mono ?_); rintro e w1 ⟨rfl, b1⟩; have HX := Lib.hid (HX.out.step b1); clear b1 c0 c1 c2 c3 c4 c5; have c0 := HX.out.2.cell 0; have c1 := HX.out.2.cell 1; have c2 := HX.out.2.cell 2; have c3 := HX.out.2.cell 3; have c4 := HX.out.2.cell 4; have c5 := HX.out.2.cell 5)
                  | (go_at_call 34; (with_reducible refine (HG1.out _).mono ?_); rintro e w1 ⟨rfl, b1⟩; have HX := Lib.hid (HX.out.step b1); clear b1 c0 c1 c2 c3 c4 c5; have c0 := HX.out.2.cell 0; have c1 := HX.out.2.cell 1; have c2 := HX.out.2.cell 2; have c3 := HX.out.2.cell 3; have c4 := HX.out.2.cell 4; have c5 := HX.out.2.cell 5)
                  | (go_at_call 35; (with_reducible refine (sknown_any _ _ _).mono ?_); rintro e w1 ⟨rfl, rfl⟩))
                go_ret
                exact ⟨by rw [HV.out]; unfold sniQ knoA; rw [HQ.out]; rfl, HX.out.1⟩
          · go_enter Tryz.func9, Tryz.ntmps9
            go_wp2_with fail
            rw [← hw0]
            clear hw0
            go_wp2_with (first
              | (go_at_call 28; (with_reducible refine (HE.out _).mono ?_); rintro e w1 ⟨rfl, b1⟩; have HX := Lib.hid (HX.out.step b1); clear b1 c0 c1 c2 c3 c4 c5; have c0 := HX.out.2.cell 0; have c1 := HX.out.2.cell 1; have c2 := HX.out.2.cell 2; have c3 := HX.out.2.cell 3; have c4 := HX.out.2.cell 4; have c5 := HX.out.2.cell 5)
              | (go_at_call 12; (with_reducible refine (HU.out _).mono ?_); rintro e w1 ⟨rfl, b1⟩; have HX := Lib.hid (HX.out.step b1); clear b1 c0 c1 c2 c3 c4 c5; have c0 := HX.out.2.cell 0; have c1 := HX.out.2.cell 1; have c2 := HX.out.2.cell 2; have c3 := HX.out.2.cell 3; have c4 := HX.out.2.cell 4; have c5 := HX.out.2.cell 5)
              | (go_at_call 29; (with_reducible refine (HY.out _).mono ?_); rintro e w1 ⟨rfl, b1⟩; have HX := Lib.hid (HX.out.step b1); clear b1 c0 c1 c2 c3 c4 c5; have c0 := HX.out.2.cell 0; have c1 := HX.out.2.cell 1; have c2 := HX.out.2.cell 2; have c3 := HX.out.2.cell 3; have c4 := HX.out.2.cell 4; have c5 := HX.out.2.cell 5)
              | (go_at_call 30; (with_reducible refine (HH.out _).mono ?_); rintro e w1 ⟨rfl, b1⟩; have HX := Lib.hid (HX.out.step b1); clear b1 c0 c1 c2 c3 c4 c5; have c0 := HX.out.2.cell 0; have c1 := HX.out.2.cell 1; have c2 := HX.out.2.cell 2; have c3 := HX.out.2.cell 3; have c4 := HX.out.2.cell 4; have c5 := HX.out.2.cell 5)
              | (go_at_call 31; (with_reducible refine (HM1.out _).mono ?_); rintro e w1 ⟨rfl, b1⟩; have HX := Lib.hid (HX.out.step b1); clear b1 c0 c1 c2 c3 c4 c5; have c0 := HX.out.2.cell 0; have c1 := HX.out.2.cell 1; have c2 := HX.out.2.cell 2; have c3 := HX.out.2.cell 3; have c4 := HX.out.2.cell 4; have c5 := HX.out.2.cell 5)
              | (go_at_call 33; (with_reducible refine (HC.out _).mono ?_); rintro e w1 ⟨rfl, rfl⟩)
              | (go_at_call 32; (with_reducible refine (HL.out _).mono ?_); rintro e w1 ⟨rfl, rfl⟩)
              | (go_at_call 17; (with_reducible refine (HI.out _).mono ?_); rintro e w1 ⟨rfl, b1⟩; have HX := Lib.hid (HX.out.step b1); clear b1 c0 c1 c2 c3 c4 c5; have c0 := HX.out.2.cell 0; have c1 := HX.out.2.cell 1; have c2 := HX.out.2.cell 2; have c3 := HX.out.2.cell 3; have c4 := HX.out.2.cell 4; have c5 := HX.out.2.cell 5)
              | (go_at_call 19; (with_reducible refine (HN.out _).mono ?_); rintro e w1 ⟨rfl, b1⟩; have HX := Lib.hid (HX.out.step b1); clear b1 c0 c1 c2 c3 c4 c5; have c0 := HX.out.2.cell 0; have c1 := HX.out.2.cell 1; have c2 := HX.out.2.cell 2; have c3 := HX.out.2.cell 3; have c4 := HX.out.2.cell 4; have c5 := HX.out.2.cell 5)
              | (go_at_call 36; (with_reducible refine (HG2.out _).mono ?_); rintro e w1 ⟨rfl, b1⟩; have HX := Lib.hid (HX.out.step b1); clear b1 c0 c1 c2 c3 c4 c5; have c0 := HX.out.2.cell 0; have c1 := HX.out.2.cell 1; have c2 := HX.out.2.cell 2; have c3 := HX.out.2.cell 3; have c4 := HX.out.2.cell 4; have c5 := HX.out.2.cell 5)
              | (go_at_call 34; (with_reducible refine (HG1.out _).mono ?_); rintro e w1 ⟨rfl, b1⟩; have HX := Lib.hid (HX.out.step b1); clear b1 c0 c1 c2 c3 c4 c5; have c0 := HX.out.2.cell 0; have c1 := HX.out.2.cell 1; have c2 := HX.out.2.cell 2; have c3 := HX.out.2.cell 3; have c4 := HX.out.2.cell 4; have c5 := HX.out.2.cell 5)
              | (go_at_call 35; (with_reducible refine (sknown_any _ _ _).mono ?_); rintro e w1 ⟨rfl, rfl⟩))
            go_ret
            exact ⟨by rw [HV.out]; unfold sniQ; rfl, HX.out.1⟩
        · go_enter Tryz.func9, Tryz.ntmps9
          go_wp2_with fail
          rw [← hw0]
          clear hw0
          go_wp2_with (first
            | (go_at_call 28; (with_reducible refine (HE.out _).mono ?_); rintro e w1 ⟨rfl, b1⟩; have HX := Lib.hid (HX.out.step b1); clear b1 c0 c1 c2 c3 c4 c5; have c0 := HX.out.2.cell 0; have c1 := HX.out.2.cell 1; have c2 := HX.out.2.cell 2; have c3 := HX.out.2.cell 3; have c4 := HX.out.2.cell 4; have c5 := HX.out.2.cell 5)
            | (go_at_call 12; (with_reducible refine (HU.out _).mono ?_); rintro e w1 ⟨rfl, b1⟩; have HX := Lib.hid (HX.out.step b1); clear b1 c0 c1 c2 c3 c4 c5; have c0 := HX.out.2.cell 0; have c1 := HX.out.2.cell 1; have c2 := HX.out.2.cell 2; have c3 := HX.out.2.cell 3; have c4 := HX.out.2.cell 4; have c5 := HX.out.2.cell 5)
            | (go_at_call 29; (with_reducible refine (HY.out _).mono ?_); rintro e w1 ⟨rfl, b1⟩; have HX := Lib.hid (HX.out.step b1); clear b1 c0 c1 c2 c3 c4 c5; have c0 := HX.out.2.cell 0; have c1 := HX.out.2.cell 1; have c2 := HX.out.2.cell 2; have c3 := HX.out.2.cell 3; have c4 := HX.out.2.cell 4; have c5 := HX.out.2.cell 5)
            | (go_at_call 30; (with_reducible refine (HH.out _).mono ?_); rintro e w1 ⟨rfl, b1⟩; have HX := Lib.hid (HX.out.step b1); clear b1 c0 c1 c2 c3 c4 c5; have c0 := HX.out.2.cell 0; have c1 := HX.out.2.cell 1; have c2 := HX.out.2.cell 2; have c3 := HX.out.2.cell 3; have c4 := HX.out.2.cell 4; have c5 := HX.out.2.cell 5)
            | (go_at_call 31; (with_reducible refine (HM1.out _).mono ?_); rintro e w1 ⟨rfl, b1⟩; have HX := Lib.hid (HX.out.step b1); clear b1 c0 c1 c2 c3 c4 c5; have c0 := HX.out.2.cell 0; have c1 := HX.out.2.cell 1; have c2 := HX.out.2.cell 2; have c3 := HX.out.2.cell 3; have c4 := HX.out.2.cell 4; have c5 := HX.out.2.cell 5)
            | (go_at_call 33; (with_reducible refine (HC.out _).mono ?_); rintro e w1 ⟨rfl, rfl⟩)
            | (go_at_call 32; (with_reducible refine (HL.out _).mono ?_); rintro e w1 ⟨rfl, rfl⟩)
            | (go_at_call 17; (with_reducible refine (HI.out _).mono ?_); rintro e w1 ⟨rfl, b1⟩; have HX := Lib.hid (HX.out.step b1); clear b1 c0 c1 c2 c3 c4 c5; have c0 := HX.out.2.cell 0; have c1 := HX.out.2.cell 1; have c2 := HX.out.2.cell 2; have c3 := HX.out.2.cell 3; have c4 := HX.out.2.cell 4; have c5 := HX.out.2.cell 5)
            | (go_at_call 19; (with_reducible refine (HN.out _).mono ?_); rintro e w1 ⟨rfl, b1⟩; have HX := Lib.hid (HX.out.step b1); clear b1 c0 c1 c2 c3 c4 c5; have c0 := HX.out.2.cell 0; have c1 := HX.out.2.cell 1; have c2 := HX.out.2.cell 2; have c3 := HX.out.2.cell 3; have c4 := HX.out.2.cell 4; have c5 := HX.out.2.cell 5)
            | (go_at_call 36; (with_reducible refine (HG2.out _).mono ?_); rintro e w1 ⟨rfl, b1⟩; have HX := Lib.hid (HX.out.step b1); clear b1 c0 c1 c2 c3 c4 c5; have c0 := HX.out.2.cell 0; have c1 := HX.out.2.cell 1; have c2 := HX.out.2.cell 2; have c3 := HX.out.2.cell 3; have c4 := HX.out.2.cell 4; have c5 := HX.out.2.cell 5)
            | (go_at_call 34; (with_reducible refine (HG1.out _).mono ?_); rintro e w1 ⟨rfl, b1⟩; have HX := Lib.hid (HX.out.step b1); clear b1 c0 c1 c2 c3 c4 c5; have c0 := HX.out.2.cell 0; have c1 := HX.out.2.cell 1; have c2 := HX.out.2.cell 2; have c3 := HX.out.2.cell 3; have c4 := HX.out.2.cell 4; have c5 := HX.out.2.cell 5)
            | (go_at_call 35; (with_reducible refine (sknown_any _ _ _).mono ?_); rintro e w1 ⟨rfl, rfl⟩))
          go_ret
          exact ⟨by rw [HV.out]; unfold sniQ; rfl, HX.out.1⟩
      · go_enter Tryz.func9, Tryz.ntmps9
        go_wp2_with fail
        rw [← hw0]
        clear hw0
        go_wp2_with (first
          | (go_at_call 28; (with_reducible refine (HE.out _).mono ?_); rintro e w1 ⟨rfl, b1⟩; have HX := Lib.hid (HX.out.step b1); clear b1 c0 c1 c2 c3 c4 c5; have c0 := HX.out.2.cell 0; have c1 := HX.out.2.cell 1; have c2 := HX.out.2.cell 2; have c3 := HX.out.2.cell 3; have c4 := HX.out.2.cell 4; have c5 := HX.out.2.cell 5)
          | (go_at_call 12; (with_reducible refine (HU.out _).mono ?_); rintro e w1 ⟨rfl, b1⟩; have HX := Lib.hid (HX.out.step b1); clear b1 c0 c1 c2 c3 c4 c5; have c0 := HX.out.2.cell 0; have c1 := HX.out.2.cell 1; have c2 := HX.out.2.cell 2; have c3 := HX.out.2.cell 3; have c4 := HX.out.2.cell 4; have c5 := HX.out.2.cell 5)
          | (go_at_call 29; (with_reducible refine (HY.out _).mono ?_); rintro e w1 ⟨rfl, b1⟩; have HX := Lib.hid (HX.out.step b1); clear b1 c0 c1 c2 c3 c4 c5; have c0 := HX.out.2.cell 0; have c1 := HX.out.2.cell 1; have c2 := HX.out.2.cell 2; have c3 := HX.out.2.cell 3; have c4 := HX.out.2.cell 4; have c5 := HX.out.2.cell 5)
          | (go_at_call 30; (with_reducible refine (HH.out _).mono ?_); rintro e w1 ⟨rfl, b1⟩; have HX := Lib.hid (HX.out.step b1); clear b1 c0 c1 c2 c3 c4 c5; have c0 := HX.out.2.cell 0; have c1 := HX.out.2.cell 1; have c2 := HX.out.2.cell 2; have c3 := HX.out.2.cell 3; have c4 := HX.out.2.cell 4; have c5 := HX.out.2.cell 5)
          | (go_at_call 31; (with_reducible refine (HM1.out _).mono ?_); rintro e w1 ⟨rfl, b1⟩; have HX := Lib.hid (HX.out.step b1); clear b1 c0 c1 c2 c3 c4 c5; have c0 := HX.out.2.cell 0; have c1 := HX.out.2.cell 1; have c2 := HX.out.2.cell 2; have c3 := HX.out.2.cell 3; have c4 := HX.out.2.cell 4; have c5 := HX.out.2.cell 5)
          | (go_at_call 33; (with_reducible refine (HC.out _).mono ?_); rintro e w1 ⟨rfl, rfl⟩)
          | (go_at_call 32; (with_reducible refine (HL.out _).mono ?_); rintro e w1 ⟨rfl, rfl⟩)
          | (go_at_call 17; (with_reducible refine (HI.out _).mono ?_); rintro e w1 ⟨rfl, b1⟩; have HX := Lib.hid (HX.out.step b1); clear b1 c0 c1 c2 c3 c4 c5; have c0 := HX.out.2.cell 0; have c1 := HX.out.2.cell 1; have c2 := HX.out.2.cell 2; have c3 := HX.out.2.cell 3; have c4 := HX.out.2.cell 4; have c5 := HX.out.2.cell 5)
          | (go_at_call 19; (with_reducible refine (HN.out _).mono ?_); rintro e w1 ⟨rfl, b1⟩; have HX := Lib.hid (HX.out.step b1); clear b1 c0 c1 c2 c3 c4 c5; have c0 := HX.out.2.cell 0; have c1 := HX.out.2.cell 1; have c2 := HX.out.2.cell 2; have c3 := HX.out.2.cell 3; have c4 := HX.out.2.cell 4; have c5 := HX.out.2.cell 5)
          | (go_at_call 36; (with_reducible refine (HG2.out _).mono ?_); rintro e w1 ⟨rfl, b1⟩; have HX := Lib.hid (HX.out.step b1); clear b1 c0 c1 c2 c3 c4 c5; have c0 := HX.out.2.cell 0; have c1 := HX.out.2.cell 1; have c2 := HX.out.2.cell 2; have c3 := HX.out.2.cell 3; have c4 := HX.out.2.cell 4; have c5 := HX.out.2.cell 5)
          | (go_at_call 34; (with_reducible refine (HG1.out _).mono ?_); rintro e w1 ⟨rfl, b1⟩; have HX := Lib.hid (HX.out.step b1); clear b1 c0 c1 c2 c3 c4 c5; have c0 := HX.out.2.cell 0; have c1 := HX.out.2.cell 1; have c2 := HX.out.2.cell 2; have c3 := HX.out.2.cell 3; have c4 := HX.out.2.cell 4; have c5 := HX.out.2.cell 5)
          | (go_at_call 35; (with_reducible refine (sknown_any _ _ _).mono ?_); rintro e w1 ⟨rfl, rfl⟩))
        go_ret
        exact ⟨by rw [HV.out]; unfold sniQ; rfl, HX.out.1⟩
    · go_enter Tryz.func9, Tryz.ntmps9
      go_wp2_with fail
      rw [← hw0]
      clear hw0
      go_wp2_with (first
        | (go_at_call 28; (with_reducible refine (HE.out _).mono ?_); rintro e w1 ⟨rfl, b1⟩; have HX := Lib.hid (HX.out.step b1); clear b1 c0 c1 c2 c3 c4 c5; have c0 := HX.out.2.cell 0; have c1 := HX.out.2.cell 1; have c2 := HX.out.2.cell 2; have c3 := HX.out.2.cell 3; have c4 := HX.out.2.cell 4; have c5 := HX.out.2.cell 5)
        | (go_at_call 12; (with_reducible refine (HU.out _).mono ?_); rintro e w1 ⟨rfl, b1⟩; have HX := Lib.hid (HX.out.step b1); clear b1 c0 c1 c2 c3 c4 c5; have c0 := HX.out.2.cell 0; have c1 := HX.out.2.cell 1; have c2 := HX.out.2.cell 2; have c3 := HX.out.2.cell 3; have c4 := HX.out.2.cell 4; have c5 := HX.out.2.cell 5)
        | (go_at_call 29; (with_reducible refine (HY.out _).mono ?_); rintro e w1 ⟨rfl, b1⟩; have HX := Lib.hid (HX.out.step b1); clear b1 c0 c1 c2 c3 c4 c5; have c0 := HX.out.2.cell 0; have c1 := HX.out.2.cell 1; have c2 := HX.out.2.cell 2; have c3 := HX.out.2.cell 3; have c4 := HX.out.2.cell 4; have c5 := HX.out.2.cell 5)
        | (go_at_call 30; (with_reducible refine (HH.out _).mono ?_); rintro e w1 ⟨rfl, b1⟩; have HX := Lib.hid (HX.out.step b1); clear b1 c0 c1 c2 c3 c4 c5; have c0 := HX.out.2.cell 0; have c1 := HX.out.2.cell 1; have c2 := HX.out.2.cell 2; have c3 := HX.out.2.cell 3; have c4 := HX.out.2.cell 4; have c5 := HX.out.2.cell 5)
        | (go_at_call 31; (with_reducible refine (HM1.out _).mono ?_); rintro e w1 ⟨rfl, b1⟩; have HX := Lib.hid (HX.out.step b1); clear b1 c0 c1 c2 c3 c4 c5; have c0 := HX.out.2.cell 0; have c1 := HX.out.2.cell 1; have c2 := HX.out.2.cell 2; have c3 := HX.out.2.cell 3; have c4 := HX.out.2.cell 4; have c5 := HX.out.2.cell 5)
        | (go_at_call 33; (with_reducible refine (HC.out _).mono ?_); rintro e w1 ⟨rfl, rfl⟩)
        | (go_at_call 32; (with_reducible refine (HL.out _).mono ?_); rintro e w1 ⟨rfl, rfl⟩)
        | (go_at_call 17; (with_reducible refine (HI.out _).mono ?_); rintro e w1 ⟨rfl, b1⟩; have HX := Lib.hid (HX.out.step b1); clear b1 c0 c1 c2 c3 c4 c5; have c0 := HX.out.2.cell 0; have c1 := HX.out.2.cell 1; have c2 := HX.out.2.cell 2; have c3 := HX.out.2.cell 3; have c4 := HX.out.2.cell 4; have c5 := HX.out.2.cell 5)
        | (go_at_call 19; (with_reducible refine (HN.out _).mono ?_); rintro e w1 ⟨rfl, b1⟩; have HX := Lib.hid (HX.out.step b1); clear b1 c0 c1 c2 c3 c4 c5; have c0 := HX.out.2.cell 0; have c1 := HX.out.2.cell 1; have c2 := HX.out.2.cell 2; have c3 := HX.out.2.cell 3; have c4 := HX.out.2.cell 4; have c5 := HX.out.2.cell 5)
        | (go_at_call 36; (with_reducible refine (HG2.out _).mono ?_); rintro e w1 ⟨rfl, b1⟩; have HX := Lib.hid (HX.out.step b1); clear b1 c0 c1 c2 c3 c4 c5; have c0 := HX.out.2.cell 0; have c1 := HX.out.2.cell 1; have c2 := HX.out.2.cell 2; have c3 := HX.out.2.cell 3; have c4 := HX.out.2.cell 4; have c5 := HX.out.2.cell 5)
        | (go_at_call 34; (with_reducible refine (HG1.out _).mono ?_); rintro e w1 ⟨rfl, b1⟩; have HX := Lib.hid (HX.out.step b1); clear b1 c0 c1 c2 c3 c4 c5; have c0 := HX.out.2.cell 0; have c1 := HX.out.2.cell 1; have c2 := HX.out.2.cell 2; have c3 := HX.out.2.cell 3; have c4 := HX.out.2.cell 4; have c5 := HX.out.2.cell 5)
        | (go_at_call 35; (with_reducible refine (sknown_any _ _ _).mono ?_); rintro e w1 ⟨rfl, rfl⟩))
      go_ret
      exact ⟨by rw [HV.out]; unfold sniQ; rfl, HX.out.1⟩
  · cases ns
    · simp only [Bool.not_false] at HY
      go_enter Tryz.func9, Tryz.ntmps9
      go_wp2_with fail
      rw [← hw0]
      clear hw0
      go_wp2_with (first
        | (go_at_call 28; (with_reducible refine (HE.out _).mono ?_); rintro e w1 ⟨rfl, b1⟩; have HX := Lib.hid (HX.out.step b1); clear b1 c0 c1 c2 c3 c4 c5; have c0 := HX.out.2.cell 0; have c1 := HX.out.2.cell 1; have c2 := HX.out.2.cell 2; have c3 := HX.out.2.cell 3; have c4 := HX.out.2.cell 4; have c5 := HX.out.2.cell 5)
        | (go_at_call 12; (with_reducible refine (HU.out _).mono ?_); rintro e w1 ⟨rfl, b1⟩; have HX := Lib.hid (HX.out.step b1); clear b1 c0 c1 c2 c3 c4 c5; have c0 := HX.out.2.cell 0; have c1 := HX.out.2.cell 1; have c2 := HX.out.2.cell 2; have c3 := HX.out.2.cell 3; have c4 := HX.out.2.cell 4; have c5 := HX.out.2.cell 5)
        | (go_at_call 29; (with_reducible refine (HY.out _).mono ?_); rintro e w1 ⟨rfl, b1⟩; have HX := Lib.hid (HX.out.step b1); clear b1 c0 c1 c2 c3 c4 c5; have c0 := HX.out.2.cell 0; have c1 := HX.out.2.cell 1; have c2 := HX.out.2.cell 2; have c3 := HX.out.2.cell 3; have c4 := HX.out.2.cell 4; have c5 := HX.out.2.cell 5)
        | (go_at_call 30; (with_reducible refine (HH.out _).mono ?_); rintro e w1 ⟨rfl, b1⟩; have HX := Lib.hid (HX.out.step b1); clear b1 c0 c1 c2 c3 c4 c5; have c0 := HX.out.2.cell 0; have c1 := HX.out.2.cell 1; have c2 := HX.out.2.cell 2; have c3 := HX.out.2.cell 3; have c4 := HX.out.2.cell 4; have c5 := HX.out.2.cell 5)
        | (go_at_call 31; (with_reducible refine (HM1.out _).mono ?_); rintro e w1 ⟨rfl, b1⟩; have HX := Lib.hid (HX.out.step b1); clear b1 c0 c1 c2 c3 c4 c5; have c0 := HX.out.2.cell 0; have c1 := HX.out.2.cell 1; have c2 := HX.out.2.cell 2; have c3 := HX.out.2.cell 3; have c4 := HX.out.2.cell 4; have c5 := HX.out.2.cell 5)
        | (go_at_call 33; (with_reducible refine (HC.out _).mono ?_); rintro e w1 ⟨rfl, rfl⟩)
        | (go_at_call 32; (with_reducible refine (HL.out _).mono ?_); rintro e w1 ⟨rfl, rfl⟩)
        | (go_at_call 17; (with_reducible refine (HI.out _).mono ?_); rintro e w1 ⟨rfl, b1⟩; have HX := Lib.hid (HX.out.step b1); clear b1 c0 c1 c2 c3 c4 c5; have c0 := HX.out.2.cell 0; have c1 := HX.out.2.cell 1; have c2 := HX.out.2.cell 2; have c3 := HX.out.2.cell 3; have c4 := HX.out.2.cell 4; have c5 := HX.out.2.cell 5)
        | (go_at_call 19; (with_reducible refine (HN.out _).mono ?_); rintro e w1 ⟨rfl, b1⟩; have HX := Lib.hid (HX.out.step b1); clear b1 c0 c1 c2 c3 c4 c5; have c0 := HX.out.2.cell 0; have c1 := HX.out.2.cell 1; have c2 := HX.out.2.cell 2; have c3 := HX.out.2.cell 3; have c4 := HX.out.2.cell 4; have c5 := HX.out.2.cell 5)
        | (go_at_call 36; (with_reducible refine (HG2.out _).mono ?_); rintro e w1 ⟨rfl, b1⟩; have HX := Lib.hid (HX.out.step b1); clear b1 c0 c1 c2 c3 c4 c5; have c0 := HX.out.2.cell 0; have c1 := HX.out.2.cell 1; have c2 := HX.out.2.cell 2; have c3 := HX.out.2.cell 3; have c4 := HX.out.2.cell 4; have c5 := HX.out.2.cell 5)
        | (go_at_call 34; (with_reducible refine (HG1.out _).mono ?_); rintro e w1 ⟨rfl, b1⟩; have HX := Lib.hid (HX.out.step b1); clear b1 c0 c1 c2 c3 c4 c5; have c0 := HX.out.2.cell 0; have c1 := HX.out.2.cell 1; have c2 := HX.out.2.cell 2; have c3 := HX.out.2.cell 3; have c4 := HX.out.2.cell 4; have c5 := HX.out.2.cell 5)
        | (go_at_call 35; (with_reducible refine (sknown_any _ _ _).mono ?_); rintro e w1 ⟨rfl, rfl⟩))
      go_ret
      exact ⟨by rw [HV.out]; unfold sniQ; rfl, HX.out.1⟩
    · simp only [Bool.not_true] at HY
      go_enter Tryz.func9, Tryz.ntmps9
      go_wp2_with fail
      rw [← hw0]
      clear hw0
      go_wp2_with (first
        | (go_at_call 28; (with_reducible refine (HE.out _).mono ?_); rintro e w1 ⟨rfl, b1⟩; have HX := Lib.hid (HX.out.step b1); clear b1 c0 c1 c2 c3 c4 c5; have c0 := HX.out.2.cell 0; have c1 := HX.out.2.cell 1; have c2 := HX.out.2.cell 2; have c3 := HX.out.2.cell 3; have c4 := HX.out.2.cell 4; have c5 := HX.out.2.cell 5)
        | (go_at_call 12; (with_reducible refine (HU.out _).mono ?_); rintro e w1 ⟨rfl, b1⟩; have HX := Lib.hid (HX.out.step b1); clear b1 c0 c1 c2 c3 c4 c5; have c0 := HX.out.2.cell 0; have c1 := HX.out.2.cell 1; have c2 := HX.out.2.cell 2; have c3 := HX.out.2.cell 3; have c4 := HX.out.2.cell 4; have c5 := HX.out.2.cell 5)
        | (go_at_call 29; (with_reducible refine (HY.out _).mono ?_); rintro e w1 ⟨rfl, b1⟩; have HX := Lib.hid (HX.out.step b1); clear b1 c0 c1 c2 c3 c4 c5; have c0 := HX.out.2.cell 0; have c1 := HX.out.2.cell 1; have c2 := HX.out.2.cell 2; have c3 := HX.out.2.cell 3; have c4 := HX.out.2.cell 4; have c5 := HX.out.2.cell 5)
        | (go_at_call 30; (with_reducible refine (HH.out _).mono ?_); rintro e w1 ⟨rfl, b1⟩; have HX := Lib.hid (HX.out.step b1); clear b1 c0 c1 c2 c3 c4 c5; have c0 := HX.out.2.cell 0; have c1 := HX.out.2.cell 1; have c2 := HX.out.2.cell 2; have c3 := HX.out.2.cell 3; have c4 := HX.out.2.cell 4; have c5 := HX.out.2.cell 5)
        | (go_at_call 31; (with_reducible refine (HM1.out _).mono ?_); rintro e w1 ⟨rfl, b1⟩; have HX := Lib.hid (HX.out.step b1); clear b1 c0 c1 c2 c3 c4 c5; have c0 := HX.out.2.cell 0; have c1 := HX.out.2.cell 1; have c2 := HX.out.2.cell 2; have c3 := HX.out.2.cell 3; have c4 := HX.out.2.cell 4; have c5 := HX.out.2.cell 5)
        | (go_at_call 33; (with_reducible refine (HC.out _).mono ?_); rintro e w1 ⟨rfl, rfl⟩)
        | (go_at_call 32; (with_reducible refine (HL.out _).mono ?_); rintro e w1 ⟨rfl, rfl⟩)
        | (go_at_call 17; (with_reducible refine (HI.out _).mono ?_); rintro e w1 ⟨rfl, b1⟩; have HX := Lib.hid (HX.out.step b1); clear b1 c0 c1 c2 c3 c4 c5; have c0 := HX.out.2.cell 0; have c1 := HX.out.2.cell 1; have c2 := HX.out.2.cell 2; have c3 := HX.out.2.cell 3; have c4 := HX.out.2.cell 4; have c5 := HX.out.2.cell 5)
        | (go_at_call 19; (with_reducible refine (HN.out _).mono ?_); rintro e w1 ⟨rfl, b1⟩; have HX := Lib.hid (HX.out.step b1); clear b1 c0 c1 c2 c3 c4 c5; have c0 := HX.out.2.cell 0; have c1 := HX.out.2.cell 1; have c2 := HX.out.2.cell 2; have c3 := HX.out.2.cell 3; have c4 := HX.out.2.cell 4; have c5 := HX.out.2.cell 5)
        | (go_at_call 36; (with_reducible refine (HG2.out _).mono ?_); rintro e w1 ⟨rfl, b1⟩; have HX := Lib.hid (HX.out.step b1); clear b1 c0 c1 c2 c3 c4 c5; have c0 := HX.out.2.cell 0; have c1 := HX.out.2.cell 1; have c2 := HX.out.2.cell 2; have c3 := HX.out.2.cell 3; have c4 := HX.out.2.cell 4; have c5 := HX.out.2.cell 5)
        | (go_at_call 34; (with_reducible refine (HG1.out _).mono ?_); rintro e w1 ⟨rfl, b1⟩; have HX := Lib.hid (HX.out.step b1); clear b1 c0 c1 c2 c3 c4 c5; have c0 := HX.out.2.cell 0; have c1 := HX.out.2.cell 1; have c2 := HX.out.2.cell 2; have c3 := HX.out.2.cell 3; have c4 := HX.out.2.cell 4; have c5 := HX.out.2.cell 5)
        | (go_at_call 35; (with_reducible refine (sknown_any _ _ _).mono ?_); rintro e w1 ⟨rfl, rfl⟩))
      go_ret
      exact ⟨by rw [HV.out]; unfold sniQ; rfl, HX.out.1⟩

set_option maxHeartbeats 4000000 in
set_option maxRecDepth 100000 in
theorem rtype_ways (t u : ByteArray) (A : Option Addr) (n c : Nat) (s x e y l i m : ByteArray) (has k h xm ns bug ig mg : Bool) (w : World)
    (HE : Hid (∀ W, Calls Tryz.prog 11 #[mimV t u A n c] W fun r w' => r = .returned (.string e) ∧ Below W.heap.size W w'))
    (HU : Hid (∀ W, Calls Tryz.prog 13 #[saidV t u A n c has ns bug] W fun r w' => r = .returned (.bool k) ∧ Below W.heap.size W w'))
    (HY : Hid (∀ W, Calls Tryz.prog 24 #[.string s, .bool (!ns)] W fun r w' => r = .returned (.string y) ∧ Below W.heap.size W w'))
    (HH : Hid (∀ W, Calls Tryz.prog 21 #[mimV t u A n c] W fun r w' => r = .returned (.bool h) ∧ Below W.heap.size W w'))
    (HM1 : Hid (∀ W, Calls Tryz.prog 22 #[mimV t u A n c] W fun r w' => r = .returned (.bool xm) ∧ Below W.heap.size W w'))
    (HC : Hid (∀ W, Calls Tryz.prog 26 #[.string s] W fun r w' => r = .returned (.string x) ∧ W = w'))
    (HL : Hid (∀ W, Calls Tryz.prog 25 #[.string x] W fun r w' => r = .returned (.string l) ∧ W = w'))
    (HI : Hid (∀ W, Calls Tryz.prog 18 #[.string s] W fun r w' => r = .returned (.string i) ∧ Below W.heap.size W w'))
    (HN : Hid (∀ W, Calls Tryz.prog 20 #[.string s] W fun r w' => r = .returned (.string m) ∧ Below W.heap.size W w'))
    (HG2 : Hid (∀ W, Calls Tryz.prog 27 #[mimV t u A n c] W fun r w' => r = .returned (.bool mg) ∧ Below W.heap.size W w'))
    (dI : (t.toList == [105, 109, 97, 103, 101]) = ig)
    (hix : ig = true → mg = false) :
    Calls Tryz.prog 8 #[saidV t u A n c has ns bug, .string s] w fun r w' => r = .returned (.string (sniQ k h xm ns bug ig mg e y l i m)) ∧ Below w.heap.size w w' := by
  obtain ⟨w0, hw0⟩ : ∃ w0, w0 = w.alloc (.cells #[.string t, .string u, .slice A n c, .bool has, .bool ns, .bool bug] 26) := ⟨_, rfl⟩
  have HX := Lib.hid (show SaiAt w #[.string t, .string u, .slice A n c, .bool has, .bool ns, .bool bug] w0 from ⟨by rw [hw0]; exact (Below.refl w.heap.size w).alloc (Nat.le_refl _) _, by rw [hw0]; exact Blk.new _ _ _⟩)
  have c0 := HX.out.2.cell 0
  have c1 := HX.out.2.cell 1
  have c2 := HX.out.2.cell 2
  have c3 := HX.out.2.cell 3
  have c4 := HX.out.2.cell 4
  have c5 := HX.out.2.cell 5
  obtain ⟨v, hv⟩ : ∃ v, v = sniQ k h xm ns bug ig mg e y l i m := ⟨_, rfl⟩
  rw [← hv]
  have HV := Lib.hid hv
  clear hv
  cases k
  · cases h
    · cases xm
      · cases ns
        · cases bug
          · cases ig
            · cases mg
              · go_enter Tryz.func8, Tryz.ntmps8
                go_wp2_with fail
                rw [← hw0]
                clear hw0
                go_wp2_with (first
                  | (go_at_call 11; (with_reducible refine (HE.out _).mono ?_); rintro e w1 ⟨rfl, b1⟩; have HX := Lib.hid (HX.out.step b1); clear b1 c0 c1 c2 c3 c4 c5; have c0 := HX.out.2.cell 0; have c1 := HX.out.2.cell 1; have c2 := HX.out.2.cell 2; have c3 := HX.out.2.cell 3; have c4 := HX.out.2.cell 4; have c5 := HX.out.2.cell 5)
                  | (go_at_call 13; (with_reducible refine (HU.out _).mono ?_); rintro e w1 ⟨rfl, b1⟩; have HX := Lib.hid (HX.out.step b1); clear b1 c0 c1 c2 c3 c4 c5; have c0 := HX.out.2.cell 0; have c1 := HX.out.2.cell 1; have c2 := HX.out.2.cell 2; have c3 := HX.out.2.cell 3; have c4 := HX.out.2.cell 4; have c5 := HX.out.2.cell 5)
                  | (go_at_call 24; (with_reducible refine (HY.out _).mono ?_); rintro e w1 ⟨rfl, b1⟩; have HX := Lib.hid (HX.out.step b1); clear b1 c0 c1 c2 c3 c4 c5; have c0 := HX.out.2.cell 0; have c1 := HX.out.2.cell 1; have c2 := HX.out.2.cell 2; have c3 := HX.out.2.cell 3; have c4 := HX.out.2.cell 4; have c5 := HX.out.2.cell 5)
                  | (go_at_call 21; (with_reducible refine (HH.out _).mono ?_); rintro e w1 ⟨rfl, b1⟩; have HX := Lib.hid (HX.out.step b1); clear b1 c0 c1 c2 c3 c4 c5; have c0 := HX.out.2.cell 0; have c1 := HX.out.2.cell 1; have c2 := HX.out.2.cell 2; have c3 := HX.out.2.cell 3; have c4 := HX.out.2.cell 4; have c5 := HX.out.2.cell 5)
                  | (go_at_call 22; (with_reducible refine (HM1.out _).mono ?_); rintro e w1 ⟨rfl, b1⟩; have HX := Lib.hid (HX.out.step b1); clear b1 c0 c1 c2 c3 c4 c5; have c0 := HX.out.2.cell 0; have c1 := HX.out.2.cell 1; have c2 := HX.out.2.cell 2; have c3 := HX.out.2.cell 3; have c4 := HX.out.2.cell 4; have c5 := HX.out.2.cell 5)
                  | (go_at_call 26; (with_reducible refine (HC.out _).mono ?_); rintro e w1 ⟨rfl, rfl⟩)
                  | (go_at_call 25; (with_reducible refine (HL.out _).mono ?_); rintro e w1 ⟨rfl, rfl⟩)
                  | (go_at_call 18; (with_reducible refine (HI.out _).mono ?_); rintro e w1 ⟨rfl, b1⟩; have HX := Lib.hid (HX.out.step b1); clear b1 c0 c1 c2 c3 c4 c5; have c0 := HX.out.2.cell 0; have c1 := HX.out.2.cell 1; have c2 := HX.out.2.cell 2; have c3 := HX.out.2.cell 3; have c4 := HX.out.2.cell 4; have c5 := HX.out.2.cell 5)
                  | (go_at_call 20; (with_reducible refine (HN.out _).mono ?_); rintro e w1 ⟨rfl, b1⟩; have HX := Lib.hid (HX.out.step b1); clear b1 c0 c1 c2 c3 c4 c5; have c0 := HX.out.2.cell 0; have c1 := HX.out.2.cell 1; have c2 := HX.out.2.cell 2; have c3 := HX.out.2.cell 3; have c4 := HX.out.2.cell 4; have c5 := HX.out.2.cell 5)
                  | (go_at_call 27; (with_reducible refine (HG2.out _).mono ?_); rintro e w1 ⟨rfl, b1⟩; have HX := Lib.hid (HX.out.step b1); clear b1 c0 c1 c2 c3 c4 c5; have c0 := HX.out.2.cell 0; have c1 := HX.out.2.cell 1; have c2 := HX.out.2.cell 2; have c3 := HX.out.2.cell 3; have c4 := HX.out.2.cell 4; have c5 := HX.out.2.cell 5))
                go_ret
                exact ⟨by rw [HV.out]; unfold sniQ; rfl, HX.out.1⟩
              · cases he : emB m
                · have HQ := Lib.hid he
                  obtain ⟨e1, e2⟩ := em_says he
                  clear he
                  go_enter Tryz.func8, Tryz.ntmps8
                  go_wp2_with fail
                  rw [← hw0]
                  clear hw0
                  go_wp2_with (first
                    | (go_at_call 11; (with_reducible refine (HE.out _).mono ?_); rintro e w1 ⟨rfl, b1⟩; have HX := Lib.hid (HX.out.step b1); clear b1 c0 c1 c2 c3 c4 c5; have c0 := HX.out.2.cell 0; have c1 := HX.out.2.cell 1; have c2 := HX.out.2.cell 2; have c3 := HX.out.2.cell 3; have c4 := HX.out.2.cell 4; have c5 := HX.out.2.cell 5)
                    | (go_at_call 13; (with_reducible refine (HU.out _).mono ?_); rintro e w1 ⟨rfl, b1⟩; have HX := Lib.hid (HX.out.step b1); clear b1 c0 c1 c2 c3 c4 c5; have c0 := HX.out.2.cell 0; have c1 := HX.out.2.cell 1; have c2 := HX.out.2.cell 2; have c3 := HX.out.2.cell 3; have c4 := HX.out.2.cell 4; have c5 := HX.out.2.cell 5)
                    | (go_at_call 24; (with_reducible refine (HY.out _).mono ?_); rintro e w1 ⟨rfl, b1⟩; have HX := Lib.hid (HX.out.step b1); clear b1 c0 c1 c2 c3 c4 c5; have c0 := HX.out.2.cell 0; have c1 := HX.out.2.cell 1; have c2 := HX.out.2.cell 2; have c3 := HX.out.2.cell 3; have c4 := HX.out.2.cell 4; have c5 := HX.out.2.cell 5)
                    | (go_at_call 21; (with_reducible refine (HH.out _).mono ?_); rintro e w1 ⟨rfl, b1⟩; have HX := Lib.hid (HX.out.step b1); clear b1 c0 c1 c2 c3 c4 c5; have c0 := HX.out.2.cell 0; have c1 := HX.out.2.cell 1; have c2 := HX.out.2.cell 2; have c3 := HX.out.2.cell 3; have c4 := HX.out.2.cell 4; have c5 := HX.out.2.cell 5)
                    | (go_at_call 22; (with_reducible refine (HM1.out _).mono ?_); rintro e w1 ⟨rfl, b1⟩; have HX := Lib.hid (HX.out.step b1); clear b1 c0 c1 c2 c3 c4 c5; have c0 := HX.out.2.cell 0; have c1 := HX.out.2.cell 1; have c2 := HX.out.2.cell 2; have c3 := HX.out.2.cell 3; have c4 := HX.out.2.cell 4; have c5 := HX.out.2.cell 5)
                    | (go_at_call 26; (with_reducible refine (HC.out _).mono ?_); rintro e w1 ⟨rfl, rfl⟩)
                    | (go_at_call 25; (with_reducible refine (HL.out _).mono ?_); rintro e w1 ⟨rfl, rfl⟩)
                    | (go_at_call 18; (with_reducible refine (HI.out _).mono ?_); rintro e w1 ⟨rfl, b1⟩; have HX := Lib.hid (HX.out.step b1); clear b1 c0 c1 c2 c3 c4 c5; have c0 := HX.out.2.cell 0; have c1 := HX.out.2.cell 1; have c2 := HX.out.2.cell 2; have c3 := HX.out.2.cell 3; have c4 := HX.out.2.cell 4; have c5 := HX.out.2.cell 5)
                    | (go_at_call 20; (with_reducible refine (HN.out _).mono ?_); rintro e w1 ⟨rfl, b1⟩; have HX := Lib.hid (HX.out.step b1); clear b1 c0 c1 c2 c3 c4 c5; have c0 := HX.out.2.cell 0; have c1 := HX.out.2.cell 1; have c2 := HX.out.2.cell 2; have c3 := HX.out.2.cell 3; have c4 := HX.out.2.cell 4; have c5 := HX.out.2.cell 5)
                    | (go_at_call 27; (with_reducible refine (HG2.out _).mono ?_); rintro e w1 ⟨rfl, b1⟩; have HX := Lib.hid (HX.out.step b1); clear b1 c0 c1 c2 c3 c4 c5; have c0 := HX.out.2.cell 0; have c1 := HX.out.2.cell 1; have c2 := HX.out.2.cell 2; have c3 := HX.out.2.cell 3; have c4 := HX.out.2.cell 4; have c5 := HX.out.2.cell 5))
                  go_ret
                  exact ⟨by rw [HV.out]; unfold sniQ; rw [HQ.out]; rfl, HX.out.1⟩
                · have HQ := Lib.hid he
                  obtain ⟨e1, e2⟩ := em_says he
                  clear he
                  go_enter Tryz.func8, Tryz.ntmps8
                  go_wp2_with fail
                  rw [← hw0]
                  clear hw0
                  go_wp2_with (first
                    | (go_at_call 11; (with_reducible refine (HE.out _).mono ?_); rintro e w1 ⟨rfl, b1⟩; have HX := Lib.hid (HX.out.step b1); clear b1 c0 c1 c2 c3 c4 c5; have c0 := HX.out.2.cell 0; have c1 := HX.out.2.cell 1; have c2 := HX.out.2.cell 2; have c3 := HX.out.2.cell 3; have c4 := HX.out.2.cell 4; have c5 := HX.out.2.cell 5)
                    | (go_at_call 13; (with_reducible refine (HU.out _).mono ?_); rintro e w1 ⟨rfl, b1⟩; have HX := Lib.hid (HX.out.step b1); clear b1 c0 c1 c2 c3 c4 c5; have c0 := HX.out.2.cell 0; have c1 := HX.out.2.cell 1; have c2 := HX.out.2.cell 2; have c3 := HX.out.2.cell 3; have c4 := HX.out.2.cell 4; have c5 := HX.out.2.cell 5)
                    | (go_at_call 24; (with_reducible refine (HY.out _).mono ?_); rintro e w1 ⟨rfl, b1⟩; have HX := Lib.hid (HX.out.step b1); clear b1 c0 c1 c2 c3 c4 c5; have c0 := HX.out.2.cell 0; have c1 := HX.out.2.cell 1; have c2 := HX.out.2.cell 2; have c3 := HX.out.2.cell 3; have c4 := HX.out.2.cell 4; have c5 := HX.out.2.cell 5)
                    | (go_at_call 21; (with_reducible refine (HH.out _).mono ?_); rintro e w1 ⟨rfl, b1⟩; have HX := Lib.hid (HX.out.step b1); clear b1 c0 c1 c2 c3 c4 c5; have c0 := HX.out.2.cell 0; have c1 := HX.out.2.cell 1; have c2 := HX.out.2.cell 2; have c3 := HX.out.2.cell 3; have c4 := HX.out.2.cell 4; have c5 := HX.out.2.cell 5)
                    | (go_at_call 22; (with_reducible refine (HM1.out _).mono ?_); rintro e w1 ⟨rfl, b1⟩; have HX := Lib.hid (HX.out.step b1); clear b1 c0 c1 c2 c3 c4 c5; have c0 := HX.out.2.cell 0; have c1 := HX.out.2.cell 1; have c2 := HX.out.2.cell 2; have c3 := HX.out.2.cell 3; have c4 := HX.out.2.cell 4; have c5 := HX.out.2.cell 5)
                    | (go_at_call 26; (with_reducible refine (HC.out _).mono ?_); rintro e w1 ⟨rfl, rfl⟩)
                    | (go_at_call 25; (with_reducible refine (HL.out _).mono ?_); rintro e w1 ⟨rfl, rfl⟩)
                    | (go_at_call 18; (with_reducible refine (HI.out _).mono ?_); rintro e w1 ⟨rfl, b1⟩; have HX := Lib.hid (HX.out.step b1); clear b1 c0 c1 c2 c3 c4 c5; have c0 := HX.out.2.cell 0; have c1 := HX.out.2.cell 1; have c2 := HX.out.2.cell 2; have c3 := HX.out.2.cell 3; have c4 := HX.out.2.cell 4; have c5 := HX.out.2.cell 5)
                    | (go_at_call 20; (with_reducible refine (HN.out _).mono ?_); rintro e w1 ⟨rfl, b1⟩; have HX := Lib.hid (HX.out.step b1); clear b1 c0 c1 c2 c3 c4 c5; have c0 := HX.out.2.cell 0; have c1 := HX.out.2.cell 1; have c2 := HX.out.2.cell 2; have c3 := HX.out.2.cell 3; have c4 := HX.out.2.cell 4; have c5 := HX.out.2.cell 5)
                    | (go_at_call 27; (with_reducible refine (HG2.out _).mono ?_); rintro e w1 ⟨rfl, b1⟩; have HX := Lib.hid (HX.out.step b1); clear b1 c0 c1 c2 c3 c4 c5; have c0 := HX.out.2.cell 0; have c1 := HX.out.2.cell 1; have c2 := HX.out.2.cell 2; have c3 := HX.out.2.cell 3; have c4 := HX.out.2.cell 4; have c5 := HX.out.2.cell 5))
                  go_ret
                  exact ⟨by rw [HV.out]; unfold sniQ; rw [HQ.out]; rfl, HX.out.1⟩
            · have hmg := hix rfl
              subst hmg
              cases he : emB i
              · have HQ := Lib.hid he
                obtain ⟨e1, e2⟩ := em_says he
                clear he
                go_enter Tryz.func8, Tryz.ntmps8
                go_wp2_with fail
                rw [← hw0]
                clear hw0
                go_wp2_with (first
                  | (go_at_call 11; (with_reducible refine (HE.out _).mono ?_); rintro e w1 ⟨rfl, b1⟩; have HX := Lib.hid (HX.out.step b1); clear b1 c0 c1 c2 c3 c4 c5; have c0 := HX.out.2.cell 0; have c1 := HX.out.2.cell 1; have c2 := HX.out.2.cell 2; have c3 := HX.out.2.cell 3; have c4 := HX.out.2.cell 4; have c5 := HX.out.2.cell 5)
                  | (go_at_call 13; (with_reducible refine (HU.out _).mono ?_); rintro e w1 ⟨rfl, b1⟩; have HX := Lib.hid (HX.out.step b1); clear b1 c0 c1 c2 c3 c4 c5; have c0 := HX.out.2.cell 0; have c1 := HX.out.2.cell 1; have c2 := HX.out.2.cell 2; have c3 := HX.out.2.cell 3; have c4 := HX.out.2.cell 4; have c5 := HX.out.2.cell 5)
                  | (go_at_call 24; (with_reducible refine (HY.out _).mono ?_); rintro e w1 ⟨rfl, b1⟩; have HX := Lib.hid (HX.out.step b1); clear b1 c0 c1 c2 c3 c4 c5; have c0 := HX.out.2.cell 0; have c1 := HX.out.2.cell 1; have c2 := HX.out.2.cell 2; have c3 := HX.out.2.cell 3; have c4 := HX.out.2.cell 4; have c5 := HX.out.2.cell 5)
                  | (go_at_call 21; (with_reducible refine (HH.out _).mono ?_); rintro e w1 ⟨rfl, b1⟩; have HX := Lib.hid (HX.out.step b1); clear b1 c0 c1 c2 c3 c4 c5; have c0 := HX.out.2.cell 0; have c1 := HX.out.2.cell 1; have c2 := HX.out.2.cell 2; have c3 := HX.out.2.cell 3; have c4 := HX.out.2.cell 4; have c5 := HX.out.2.cell 5)
                  | (go_at_call 22; (with_reducible refine (HM1.out _).mono ?_); rintro e w1 ⟨rfl, b1⟩; have HX := Lib.hid (HX.out.step b1); clear b1 c0 c1 c2 c3 c4 c5; have c0 := HX.out.2.cell 0; have c1 := HX.out.2.cell 1; have c2 := HX.out.2.cell 2; have c3 := HX.out.2.cell 3; have c4 := HX.out.2.cell 4; have c5 := HX.out.2.cell 5)
                  | (go_at_call 26; (with_reducible refine (HC.out _).mono ?_); rintro e w1 ⟨rfl, rfl⟩)
                  | (go_at_call 25; (with_reducible refine (HL.out _).mono ?_); rintro e w1 ⟨rfl, rfl⟩)
                  | (go_at_call 18; (with_reducible refine (HI.out _).mono ?_); rintro e w1 ⟨rfl, b1⟩; have HX := Lib.hid (HX.out.step b1); clear b1 c0 c1 c2 c3 c4 c5; have c0 := HX.out.2.cell 0; have c1 := HX.out.2.cell 1; have c2 := HX.out.2.cell 2; have c3 := HX.out.2.cell 3; have c4 := HX.out.2.cell 4; have c5 := HX.out.2.cell 5)
                  | (go_at_call 20; (with_reducible refine (HN.out _).mono ?_); rintro e w1 ⟨rfl, b1⟩; have HX := Lib.hid (HX.out.step b1); clear b1 c0 c1 c2 c3 c4 c5; have c0 := HX.out.2.cell 0; have c1 := HX.out.2.cell 1; have c2 := HX.out.2.cell 2; have c3 := HX.out.2.cell 3; have c4 := HX.out.2.cell 4; have c5 := HX.out.2.cell 5)
                  | (go_at_call 27; (with_reducible refine (HG2.out _).mono ?_); rintro e w1 ⟨rfl, b1⟩; have HX := Lib.hid (HX.out.step b1); clear b1 c0 c1 c2 c3 c4 c5; have c0 := HX.out.2.cell 0; have c1 := HX.out.2.cell 1; have c2 := HX.out.2.cell 2; have c3 := HX.out.2.cell 3; have c4 := HX.out.2.cell 4; have c5 := HX.out.2.cell 5))
                go_ret
                exact ⟨by rw [HV.out]; unfold sniQ; rw [HQ.out]; rfl, HX.out.1⟩
              · have HQ := Lib.hid he
                obtain ⟨e1, e2⟩ := em_says he
                clear he
                go_enter Tryz.func8, Tryz.ntmps8
                go_wp2_with fail
                rw [← hw0]
                clear hw0
                go_wp2_with (first
                  | (go_at_call 11; (with_reducible refine (HE.out _).mono ?_); rintro e w1 ⟨rfl, b1⟩; have HX := Lib.hid (HX.out.step b1); clear b1 c0 c1 c2 c3 c4 c5; have c0 := HX.out.2.cell 0; have c1 := HX.out.2.cell 1; have c2 := HX.out.2.cell 2; have c3 := HX.out.2.cell 3; have c4 := HX.out.2.cell 4; have c5 := HX.out.2.cell 5)
                  | (go_at_call 13; (with_reducible refine (HU.out _).mono ?_); rintro e w1 ⟨rfl, b1⟩; have HX := Lib.hid (HX.out.step b1); clear b1 c0 c1 c2 c3 c4 c5; have c0 := HX.out.2.cell 0; have c1 := HX.out.2.cell 1; have c2 := HX.out.2.cell 2; have c3 := HX.out.2.cell 3; have c4 := HX.out.2.cell 4; have c5 := HX.out.2.cell 5)
                  | (go_at_call 24; (with_reducible refine (HY.out _).mono ?_); rintro e w1 ⟨rfl, b1⟩; have HX := Lib.hid (HX.out.step b1); clear b1 c0 c1 c2 c3 c4 c5; have c0 := HX.out.2.cell 0; have c1 := HX.out.2.cell 1; have c2 := HX.out.2.cell 2; have c3 := HX.out.2.cell 3; have c4 := HX.out.2.cell 4; have c5 := HX.out.2.cell 5)
                  | (go_at_call 21; (with_reducible refine (HH.out _).mono ?_); rintro e w1 ⟨rfl, b1⟩; have HX := Lib.hid (HX.out.step b1); clear b1 c0 c1 c2 c3 c4 c5; have c0 := HX.out.2.cell 0; have c1 := HX.out.2.cell 1; have c2 := HX.out.2.cell 2; have c3 := HX.out.2.cell 3; have c4 := HX.out.2.cell 4; have c5 := HX.out.2.cell 5)
                  | (go_at_call 22; (with_reducible refine (HM1.out _).mono ?_); rintro e w1 ⟨rfl, b1⟩; have HX := Lib.hid (HX.out.step b1); clear b1 c0 c1 c2 c3 c4 c5; have c0 := HX.out.2.cell 0; have c1 := HX.out.2.cell 1; have c2 := HX.out.2.cell 2; have c3 := HX.out.2.cell 3; have c4 := HX.out.2.cell 4; have c5 := HX.out.2.cell 5)
                  | (go_at_call 26; (with_reducible refine (HC.out _).mono ?_); rintro e w1 ⟨rfl, rfl⟩)
                  | (go_at_call 25; (with_reducible refine (HL.out _).mono ?_); rintro e w1 ⟨rfl, rfl⟩)
                  | (go_at_call 18; (with_reducible refine (HI.out _).mono ?_); rintro e w1 ⟨rfl, b1⟩; have HX := Lib.hid (HX.out.step b1); clear b1 c0 c1 c2 c3 c4 c5; have c0 := HX.out.2.cell 0; have c1 := HX.out.2.cell 1; have c2 := HX.out.2.cell 2; have c3 := HX.out.2.cell 3; have c4 := HX.out.2.cell 4; have c5 := HX.out.2.cell 5)
                  | (go_at_call 20; (with_reducible refine (HN.out _).mono ?_); rintro e w1 ⟨rfl, b1⟩; have HX := Lib.hid (HX.out.step b1); clear b1 c0 c1 c2 c3 c4 c5; have c0 := HX.out.2.cell 0; have c1 := HX.out.2.cell 1; have c2 := HX.out.2.cell 2; have c3 := HX.out.2.cell 3; have c4 := HX.out.2.cell 4; have c5 := HX.out.2.cell 5)
                  | (go_at_call 27; (with_reducible refine (HG2.out _).mono ?_); rintro e w1 ⟨rfl, b1⟩; have HX := Lib.hid (HX.out.step b1); clear b1 c0 c1 c2 c3 c4 c5; have c0 := HX.out.2.cell 0; have c1 := HX.out.2.cell 1; have c2 := HX.out.2.cell 2; have c3 := HX.out.2.cell 3; have c4 := HX.out.2.cell 4; have c5 := HX.out.2.cell 5))
                go_ret
                exact ⟨by rw [HV.out]; unfold sniQ; rw [HQ.out]; rfl, HX.out.1⟩
          · go_enter Tryz.func8, Tryz.ntmps8
            go_wp2_with fail
            rw [← hw0]
            clear hw0
            go_wp2_with (first
              | (go_at_call 11; (with_reducible refine (HE.out _).mono ?_); rintro e w1 ⟨rfl, b1⟩; have HX := Lib.hid (HX.out.step b1); clear b1 c0 c1 c2 c3 c4 c5; have c0 := HX.out.2.cell 0; have c1 := HX.out.2.cell 1; have c2 := HX.out.2.cell 2; have c3 := HX.out.2.cell 3; have c4 := HX.out.2.cell 4; have c5 := HX.out.2.cell 5)
              | (go_at_call 13; (with_reducible refine (HU.out _).mono ?_); rintro e w1 ⟨rfl, b1⟩; have HX := Lib.hid (HX.out.step b1); clear b1 c0 c1 c2 c3 c4 c5; have c0 := HX.out.2.cell 0; have c1 := HX.out.2.cell 1; have c2 := HX.out.2.cell 2; have c3 := HX.out.2.cell 3; have c4 := HX.out.2.cell 4; have c5 := HX.out.2.cell 5)
              | (go_at_call 24; (with_reducible refine (HY.out _).mono ?_); rintro e w1 ⟨rfl, b1⟩; have HX := Lib.hid (HX.out.step b1); clear b1 c0 c1 c2 c3 c4 c5; have c0 := HX.out.2.cell 0; have c1 := HX.out.2.cell 1; have c2 := HX.out.2.cell 2; have c3 := HX.out.2.cell 3; have c4 := HX.out.2.cell 4; have c5 := HX.out.2.cell 5)
              | (go_at_call 21; (with_reducible refine (HH.out _).mono ?_); rintro e w1 ⟨rfl, b1⟩; have HX := Lib.hid (HX.out.step b1); clear b1 c0 c1 c2 c3 c4 c5; have c0 := HX.out.2.cell 0; have c1 := HX.out.2.cell 1; have c2 := HX.out.2.cell 2; have c3 := HX.out.2.cell 3; have c4 := HX.out.2.cell 4; have c5 := HX.out.2.cell 5)
              | (go_at_call 22; (with_reducible refine (HM1.out _).mono ?_); rintro e w1 ⟨rfl, b1⟩; have HX := Lib.hid (HX.out.step b1); clear b1 c0 c1 c2 c3 c4 c5; have c0 := HX.out.2.cell 0; have c1 := HX.out.2.cell 1; have c2 := HX.out.2.cell 2; have c3 := HX.out.2.cell 3; have c4 := HX.out.2.cell 4; have c5 := HX.out.2.cell 5)
              | (go_at_call 26; (with_reducible refine (HC.out _).mono ?_); rintro e w1 ⟨rfl, rfl⟩)
              | (go_at_call 25; (with_reducible refine (HL.out _).mono ?_); rintro e w1 ⟨rfl, rfl⟩)
              | (go_at_call 18; (with_reducible refine (HI.out _).mono ?_); rintro e w1 ⟨rfl, b1⟩; have HX := Lib.hid (HX.out.step b1); clear b1 c0 c1 c2 c3 c4 c5; have c0 := HX.out.2.cell 0; have c1 := HX.out.2.cell 1; have c2 := HX.out.2.cell 2; have c3 := HX.out.2.cell 3; have c4 := HX.out.2.cell 4; have c5 := HX.out.2.cell 5)
              | (go_at_call 20; (with_reducible refine (HN.out _).mono ?_); rintro e w1 ⟨rfl, b1⟩; have HX := Lib.hid (HX.out.step b1); clear b1 c0 c1 c2 c3 c4 c5; have c0 := HX.out.2.cell 0; have c1 := HX.out.2.cell 1; have c2 := HX.out.2.cell 2; have c3 := HX.out.2.cell 3; have c4 := HX.out.2.cell 4; have c5 := HX.out.2.cell 5)
              | (go_at_call 27; (with_reducible refine (HG2.out _).mono ?_); rintro e w1 ⟨rfl, b1⟩; have HX := Lib.hid (HX.out.step b1); clear b1 c0 c1 c2 c3 c4 c5; have c0 := HX.out.2.cell 0; have c1 := HX.out.2.cell 1; have c2 := HX.out.2.cell 2; have c3 := HX.out.2.cell 3; have c4 := HX.out.2.cell 4; have c5 := HX.out.2.cell 5))
            go_ret
            exact ⟨by rw [HV.out]; unfold sniQ; rfl, HX.out.1⟩
        · go_enter Tryz.func8, Tryz.ntmps8
          go_wp2_with fail
          rw [← hw0]
          clear hw0
          go_wp2_with (first
            | (go_at_call 11; (with_reducible refine (HE.out _).mono ?_); rintro e w1 ⟨rfl, b1⟩; have HX := Lib.hid (HX.out.step b1); clear b1 c0 c1 c2 c3 c4 c5; have c0 := HX.out.2.cell 0; have c1 := HX.out.2.cell 1; have c2 := HX.out.2.cell 2; have c3 := HX.out.2.cell 3; have c4 := HX.out.2.cell 4; have c5 := HX.out.2.cell 5)
            | (go_at_call 13; (with_reducible refine (HU.out _).mono ?_); rintro e w1 ⟨rfl, b1⟩; have HX := Lib.hid (HX.out.step b1); clear b1 c0 c1 c2 c3 c4 c5; have c0 := HX.out.2.cell 0; have c1 := HX.out.2.cell 1; have c2 := HX.out.2.cell 2; have c3 := HX.out.2.cell 3; have c4 := HX.out.2.cell 4; have c5 := HX.out.2.cell 5)
            | (go_at_call 24; (with_reducible refine (HY.out _).mono ?_); rintro e w1 ⟨rfl, b1⟩; have HX := Lib.hid (HX.out.step b1); clear b1 c0 c1 c2 c3 c4 c5; have c0 := HX.out.2.cell 0; have c1 := HX.out.2.cell 1; have c2 := HX.out.2.cell 2; have c3 := HX.out.2.cell 3; have c4 := HX.out.2.cell 4; have c5 := HX.out.2.cell 5)
            | (go_at_call 21; (with_reducible refine (HH.out _).mono ?_); rintro e w1 ⟨rfl, b1⟩; have HX := Lib.hid (HX.out.step b1); clear b1 c0 c1 c2 c3 c4 c5; have c0 := HX.out.2.cell 0; have c1 := HX.out.2.cell 1; have c2 := HX.out.2.cell 2; have c3 := HX.out.2.cell 3; have c4 := HX.out.2.cell 4; have c5 := HX.out.2.cell 5)
            | (go_at_call 22; (with_reducible refine (HM1.out _).mono ?_); rintro e w1 ⟨rfl, b1⟩; have HX := Lib.hid (HX.out.step b1); clear b1 c0 c1 c2 c3 c4 c5; have c0 := HX.out.2.cell 0; have c1 := HX.out.2.cell 1; have c2 := HX.out.2.cell 2; have c3 := HX.out.2.cell 3; have c4 := HX.out.2.cell 4; have c5 := HX.out.2.cell 5)
            | (go_at_call 26; (with_reducible refine (HC.out _).mono ?_); rintro e w1 ⟨rfl, rfl⟩)
            | (go_at_call 25; (with_reducible refine (HL.out _).mono ?_); rintro e w1 ⟨rfl, rfl⟩)
            | (go_at_call 18; (with_reducible refine (HI.out _).mono ?_); rintro e w1 ⟨rfl, b1⟩; have HX := Lib.hid (HX.out.step b1); clear b1 c0 c1 c2 c3 c4 c5; have c0 := HX.out.2.cell 0; have c1 := HX.out.2.cell 1; have c2 := HX.out.2.cell 2; have c3 := HX.out.2.cell 3; have c4 := HX.out.2.cell 4; have c5 := HX.out.2.cell 5)
            | (go_at_call 20; (with_reducible refine (HN.out _).mono ?_); rintro e w1 ⟨rfl, b1⟩; have HX := Lib.hid (HX.out.step b1); clear b1 c0 c1 c2 c3 c4 c5; have c0 := HX.out.2.cell 0; have c1 := HX.out.2.cell 1; have c2 := HX.out.2.cell 2; have c3 := HX.out.2.cell 3; have c4 := HX.out.2.cell 4; have c5 := HX.out.2.cell 5)
            | (go_at_call 27; (with_reducible refine (HG2.out _).mono ?_); rintro e w1 ⟨rfl, b1⟩; have HX := Lib.hid (HX.out.step b1); clear b1 c0 c1 c2 c3 c4 c5; have c0 := HX.out.2.cell 0; have c1 := HX.out.2.cell 1; have c2 := HX.out.2.cell 2; have c3 := HX.out.2.cell 3; have c4 := HX.out.2.cell 4; have c5 := HX.out.2.cell 5))
          go_ret
          exact ⟨by rw [HV.out]; unfold sniQ; rfl, HX.out.1⟩
      · go_enter Tryz.func8, Tryz.ntmps8
        go_wp2_with fail
        rw [← hw0]
        clear hw0
        go_wp2_with (first
          | (go_at_call 11; (with_reducible refine (HE.out _).mono ?_); rintro e w1 ⟨rfl, b1⟩; have HX := Lib.hid (HX.out.step b1); clear b1 c0 c1 c2 c3 c4 c5; have c0 := HX.out.2.cell 0; have c1 := HX.out.2.cell 1; have c2 := HX.out.2.cell 2; have c3 := HX.out.2.cell 3; have c4 := HX.out.2.cell 4; have c5 := HX.out.2.cell 5)
          | (go_at_call 13; (with_reducible refine (HU.out _).mono ?_); rintro e w1 ⟨rfl, b1⟩; have HX := Lib.hid (HX.out.step b1); clear b1 c0 c1 c2 c3 c4 c5; have c0 := HX.out.2.cell 0; have c1 := HX.out.2.cell 1; have c2 := HX.out.2.cell 2; have c3 := HX.out.2.cell 3; have c4 := HX.out.2.cell 4; have c5 := HX.out.2.cell 5)
          | (go_at_call 24; (with_reducible refine (HY.out _).mono ?_); rintro e w1 ⟨rfl, b1⟩; have HX := Lib.hid (HX.out.step b1); clear b1 c0 c1 c2 c3 c4 c5; have c0 := HX.out.2.cell 0; have c1 := HX.out.2.cell 1; have c2 := HX.out.2.cell 2; have c3 := HX.out.2.cell 3; have c4 := HX.out.2.cell 4; have c5 := HX.out.2.cell 5)
          | (go_at_call 21; (with_reducible refine (HH.out _).mono ?_); rintro e w1 ⟨rfl, b1⟩; have HX := Lib.hid (HX.out.step b1); clear b1 c0 c1 c2 c3 c4 c5; have c0 := HX.out.2.cell 0; have c1 := HX.out.2.cell 1; have c2 := HX.out.2.cell 2; have c3 := HX.out.2.cell 3; have c4 := HX.out.2.cell 4; have c5 := HX.out.2.cell 5)
          | (go_at_call 22; (with_reducible refine (HM1.out _).mono ?_); rintro e w1 ⟨rfl, b1⟩; have HX := Lib.hid (HX.out.step b1); clear b1 c0 c1 c2 c3 c4 c5; have c0 := HX.out.2.cell 0; have c1 := HX.out.2.cell 1; have c2 := HX.out.2.cell 2; have c3 := HX.out.2.cell 3; have c4 := HX.out.2.cell 4; have c5 := HX.out.2.cell 5)
          | (go_at_call 26; (with_reducible refine (HC.out _).mono ?_); rintro e w1 ⟨rfl, rfl⟩)
          | (go_at_call 25; (with_reducible refine (HL.out _).mono ?_); rintro e w1 ⟨rfl, rfl⟩)
          | (go_at_call 18; (with_reducible refine (HI.out _).mono ?_); rintro e w1 ⟨rfl, b1⟩; have HX := Lib.hid (HX.out.step b1); clear b1 c0 c1 c2 c3 c4 c5; have c0 := HX.out.2.cell 0; have c1 := HX.out.2.cell 1; have c2 := HX.out.2.cell 2; have c3 := HX.out.2.cell 3; have c4 := HX.out.2.cell 4; have c5 := HX.out.2.cell 5)
          | (go_at_call 20; (with_reducible refine (HN.out _).mono ?_); rintro e w1 ⟨rfl, b1⟩; have HX := Lib.hid (HX.out.step b1); clear b1 c0 c1 c2 c3 c4 c5; have c0 := HX.out.2.cell 0; have c1 := HX.out.2.cell 1; have c2 := HX.out.2.cell 2; have c3 := HX.out.2.cell 3; have c4 := HX.out.2.cell 4; have c5 := HX.out.2.cell 5)
          | (go_at_call 27; (with_reducible refine (HG2.out _).mono ?_); rintro e w1 ⟨rfl, b1⟩; have HX := Lib.hid (HX.out.step b1); clear b1 c0 c1 c2 c3 c4 c5; have c0 := HX.out.2.cell 0; have c1 := HX.out.2.cell 1; have c2 := HX.out.2.cell 2; have c3 := HX.out.2.cell 3; have c4 := HX.out.2.cell 4; have c5 := HX.out.2.cell 5))
        go_ret
        exact ⟨by rw [HV.out]; unfold sniQ; rfl, HX.out.1⟩
    · go_enter Tryz.func8, Tryz.ntmps8
      go_wp2_with fail
      rw [← hw0]
      clear hw0
      go_wp2_with (first
        | (go_at_call 11; (with_reducible refine (HE.out _).mono ?_); rintro e w1 ⟨rfl, b1⟩; have HX := Lib.hid (HX.out.step b1); clear b1 c0 c1 c2 c3 c4 c5; have c0 := HX.out.2.cell 0; have c1 := HX.out.2.cell 1; have c2 := HX.out.2.cell 2; have c3 := HX.out.2.cell 3; have c4 := HX.out.2.cell 4; have c5 := HX.out.2.cell 5)
        | (go_at_call 13; (with_reducible refine (HU.out _).mono ?_); rintro e w1 ⟨rfl, b1⟩; have HX := Lib.hid (HX.out.step b1); clear b1 c0 c1 c2 c3 c4 c5; have c0 := HX.out.2.cell 0; have c1 := HX.out.2.cell 1; have c2 := HX.out.2.cell 2; have c3 := HX.out.2.cell 3; have c4 := HX.out.2.cell 4; have c5 := HX.out.2.cell 5)
        | (go_at_call 24; (with_reducible refine (HY.out _).mono ?_); rintro e w1 ⟨rfl, b1⟩; have HX := Lib.hid (HX.out.step b1); clear b1 c0 c1 c2 c3 c4 c5; have c0 := HX.out.2.cell 0; have c1 := HX.out.2.cell 1; have c2 := HX.out.2.cell 2; have c3 := HX.out.2.cell 3; have c4 := HX.out.2.cell 4; have c5 := HX.out.2.cell 5)
        | (go_at_call 21; (with_reducible refine (HH.out _).mono ?_); rintro e w1 ⟨rfl, b1⟩; have HX := Lib.hid (HX.out.step b1); clear b1 c0 c1 c2 c3 c4 c5; have c0 := HX.out.2.cell 0; have c1 := HX.out.2.cell 1; have c2 := HX.out.2.cell 2; have c3 := HX.out.2.cell 3; have c4 := HX.out.2.cell 4; have c5 := HX.out.2.cell 5)
        | (go_at_call 22; (with_reducible refine (HM1.out _).mono ?_); rintro e w1 ⟨rfl, b1⟩; have HX := Lib.hid (HX.out.step b1); clear b1 c0 c1 c2 c3 c4 c5; have c0 := HX.out.2.cell 0; have c1 := HX.out.2.cell 1; have c2 := HX.out.2.cell 2; have c3 := HX.out.2.cell 3; have c4 := HX.out.2.cell 4; have c5 := HX.out.2.cell 5)
        | (go_at_call 26; (with_reducible refine (HC.out _).mono ?_); rintro e w1 ⟨rfl, rfl⟩)
        | (go_at_call 25; (with_reducible refine (HL.out _).mono ?_); rintro e w1 ⟨rfl, rfl⟩)
        | (go_at_call 18; (with_reducible refine (HI.out _).mono ?_); rintro e w1 ⟨rfl, b1⟩; have HX := Lib.hid (HX.out.step b1); clear b1 c0 c1 c2 c3 c4 c5; have c0 := HX.out.2.cell 0; have c1 := HX.out.2.cell 1; have c2 := HX.out.2.cell 2; have c3 := HX.out.2.cell 3; have c4 := HX.out.2.cell 4; have c5 := HX.out.2.cell 5)
        | (go_at_call 20; (with_reducible refine (HN.out _).mono ?_); rintro e w1 ⟨rfl, b1⟩; have HX := Lib.hid (HX.out.step b1); clear b1 c0 c1 c2 c3 c4 c5; have c0 := HX.out.2.cell 0; have c1 := HX.out.2.cell 1; have c2 := HX.out.2.cell 2; have c3 := HX.out.2.cell 3; have c4 := HX.out.2.cell 4; have c5 := HX.out.2.cell 5)
        | (go_at_call 27; (with_reducible refine (HG2.out _).mono ?_); rintro e w1 ⟨rfl, b1⟩; have HX := Lib.hid (HX.out.step b1); clear b1 c0 c1 c2 c3 c4 c5; have c0 := HX.out.2.cell 0; have c1 := HX.out.2.cell 1; have c2 := HX.out.2.cell 2; have c3 := HX.out.2.cell 3; have c4 := HX.out.2.cell 4; have c5 := HX.out.2.cell 5))
      go_ret
      exact ⟨by rw [HV.out]; unfold sniQ; rfl, HX.out.1⟩
  · cases ns
    · simp only [Bool.not_false] at HY
      go_enter Tryz.func8, Tryz.ntmps8
      go_wp2_with fail
      rw [← hw0]
      clear hw0
      go_wp2_with (first
        | (go_at_call 11; (with_reducible refine (HE.out _).mono ?_); rintro e w1 ⟨rfl, b1⟩; have HX := Lib.hid (HX.out.step b1); clear b1 c0 c1 c2 c3 c4 c5; have c0 := HX.out.2.cell 0; have c1 := HX.out.2.cell 1; have c2 := HX.out.2.cell 2; have c3 := HX.out.2.cell 3; have c4 := HX.out.2.cell 4; have c5 := HX.out.2.cell 5)
        | (go_at_call 13; (with_reducible refine (HU.out _).mono ?_); rintro e w1 ⟨rfl, b1⟩; have HX := Lib.hid (HX.out.step b1); clear b1 c0 c1 c2 c3 c4 c5; have c0 := HX.out.2.cell 0; have c1 := HX.out.2.cell 1; have c2 := HX.out.2.cell 2; have c3 := HX.out.2.cell 3; have c4 := HX.out.2.cell 4; have c5 := HX.out.2.cell 5)
        | (go_at_call 24; (with_reducible refine (HY.out _).mono ?_); rintro e w1 ⟨rfl, b1⟩; have HX := Lib.hid (HX.out.step b1); clear b1 c0 c1 c2 c3 c4 c5; have c0 := HX.out.2.cell 0; have c1 := HX.out.2.cell 1; have c2 := HX.out.2.cell 2; have c3 := HX.out.2.cell 3; have c4 := HX.out.2.cell 4; have c5 := HX.out.2.cell 5)
        | (go_at_call 21; (with_reducible refine (HH.out _).mono ?_); rintro e w1 ⟨rfl, b1⟩; have HX := Lib.hid (HX.out.step b1); clear b1 c0 c1 c2 c3 c4 c5; have c0 := HX.out.2.cell 0; have c1 := HX.out.2.cell 1; have c2 := HX.out.2.cell 2; have c3 := HX.out.2.cell 3; have c4 := HX.out.2.cell 4; have c5 := HX.out.2.cell 5)
        | (go_at_call 22; (with_reducible refine (HM1.out _).mono ?_); rintro e w1 ⟨rfl, b1⟩; have HX := Lib.hid (HX.out.step b1); clear b1 c0 c1 c2 c3 c4 c5; have c0 := HX.out.2.cell 0; have c1 := HX.out.2.cell 1; have c2 := HX.out.2.cell 2; have c3 := HX.out.2.cell 3; have c4 := HX.out.2.cell 4; have c5 := HX.out.2.cell 5)
        | (go_at_call 26; (with_reducible refine (HC.out _).mono ?_); rintro e w1 ⟨rfl, rfl⟩)
        | (go_at_call 25; (with_reducible refine (HL.out _).mono ?_); rintro e w1 ⟨rfl, rfl⟩)
        | (go_at_call 18; (with_reducible refine (HI.out _).mono ?_); rintro e w1 ⟨rfl, b1⟩; have HX := Lib.hid (HX.out.step b1); clear b1 c0 c1 c2 c3 c4 c5; have c0 := HX.out.2.cell 0; have c1 := HX.out.2.cell 1; have c2 := HX.out.2.cell 2; have c3 := HX.out.2.cell 3; have c4 := HX.out.2.cell 4; have c5 := HX.out.2.cell 5)
        | (go_at_call 20; (with_reducible refine (HN.out _).mono ?_); rintro e w1 ⟨rfl, b1⟩; have HX := Lib.hid (HX.out.step b1); clear b1 c0 c1 c2 c3 c4 c5; have c0 := HX.out.2.cell 0; have c1 := HX.out.2.cell 1; have c2 := HX.out.2.cell 2; have c3 := HX.out.2.cell 3; have c4 := HX.out.2.cell 4; have c5 := HX.out.2.cell 5)
        | (go_at_call 27; (with_reducible refine (HG2.out _).mono ?_); rintro e w1 ⟨rfl, b1⟩; have HX := Lib.hid (HX.out.step b1); clear b1 c0 c1 c2 c3 c4 c5; have c0 := HX.out.2.cell 0; have c1 := HX.out.2.cell 1; have c2 := HX.out.2.cell 2; have c3 := HX.out.2.cell 3; have c4 := HX.out.2.cell 4; have c5 := HX.out.2.cell 5))
      go_ret
      exact ⟨by rw [HV.out]; unfold sniQ; rfl, HX.out.1⟩
    · simp only [Bool.not_true] at HY
      go_enter Tryz.func8, Tryz.ntmps8
      go_wp2_with fail
      rw [← hw0]
      clear hw0
      go_wp2_with (first
        | (go_at_call 11; (with_reducible refine (HE.out _).mono ?_); rintro e w1 ⟨rfl, b1⟩; have HX := Lib.hid (HX.out.step b1); clear b1 c0 c1 c2 c3 c4 c5; have c0 := HX.out.2.cell 0; have c1 := HX.out.2.cell 1; have c2 := HX.out.2.cell 2; have c3 := HX.out.2.cell 3; have c4 := HX.out.2.cell 4; have c5 := HX.out.2.cell 5)
        | (go_at_call 13; (with_reducible refine (HU.out _).mono ?_); rintro e w1 ⟨rfl, b1⟩; have HX := Lib.hid (HX.out.step b1); clear b1 c0 c1 c2 c3 c4 c5; have c0 := HX.out.2.cell 0; have c1 := HX.out.2.cell 1; have c2 := HX.out.2.cell 2; have c3 := HX.out.2.cell 3; have c4 := HX.out.2.cell 4; have c5 := HX.out.2.cell 5)
        | (go_at_call 24; (with_reducible refine (HY.out _).mono ?_); rintro e w1 ⟨rfl, b1⟩; have HX := Lib.hid (HX.out.step b1); clear b1 c0 c1 c2 c3 c4 c5; have c0 := HX.out.2.cell 0; have c1 := HX.out.2.cell 1; have c2 := HX.out.2.cell 2; have c3 := HX.out.2.cell 3; have c4 := HX.out.2.cell 4; have c5 := HX.out.2.cell 5)
        | (go_at_call 21; (with_reducible refine (HH.out _).mono ?_); rintro e w1 ⟨rfl, b1⟩; have HX := Lib.hid (HX.out.step b1); clear b1 c0 c1 c2 c3 c4 c5; have c0 := HX.out.2.cell 0; have c1 := HX.out.2.cell 1; have c2 := HX.out.2.cell 2; have c3 := HX.out.2.cell 3; have c4 := HX.out.2.cell 4; have c5 := HX.out.2.cell 5)
        | (go_at_call 22; (with_reducible refine (HM1.out _).mono ?_); rintro e w1 ⟨rfl, b1⟩; have HX := Lib.hid (HX.out.step b1); clear b1 c0 c1 c2 c3 c4 c5; have c0 := HX.out.2.cell 0; have c1 := HX.out.2.cell 1; have c2 := HX.out.2.cell 2; have c3 := HX.out.2.cell 3; have c4 := HX.out.2.cell 4; have c5 := HX.out.2.cell 5)
        | (go_at_call 26; (with_reducible refine (HC.out _).mono ?_); rintro e w1 ⟨rfl, rfl⟩)
        | (go_at_call 25; (with_reducible refine (HL.out _).mono ?_); rintro e w1 ⟨rfl, rfl⟩)
        | (go_at_call 18; (with_reducible refine (HI.out _).mono ?_); rintro e w1 ⟨rfl, b1⟩; have HX := Lib.hid (HX.out.step b1); clear b1 c0 c1 c2 c3 c4 c5; have c0 := HX.out.2.cell 0; have c1 := HX.out.2.cell 1; have c2 := HX.out.2.cell 2; have c3 := HX.out.2.cell 3; have c4 := HX.out.2.cell 4; have c5 := HX.out.2.cell 5)
        | (go_at_call 20; (with_reducible refine (HN.out _).mono ?_); rintro e w1 ⟨rfl, b1⟩; have HX := Lib.hid (HX.out.step b1); clear b1 c0 c1 c2 c3 c4 c5; have c0 := HX.out.2.cell 0; have c1 := HX.out.2.cell 1; have c2 := HX.out.2.cell 2; have c3 := HX.out.2.cell 3; have c4 := HX.out.2.cell 4; have c5 := HX.out.2.cell 5)
        | (go_at_call 27; (with_reducible refine (HG2.out _).mono ?_); rintro e w1 ⟨rfl, b1⟩; have HX := Lib.hid (HX.out.step b1); clear b1 c0 c1 c2 c3 c4 c5; have c0 := HX.out.2.cell 0; have c1 := HX.out.2.cell 1; have c2 := HX.out.2.cell 2; have c3 := HX.out.2.cell 3; have c4 := HX.out.2.cell 4; have c5 := HX.out.2.cell 5))
      go_ret
      exact ⟨by rw [HV.out]; unfold sniQ; rfl, HX.out.1⟩

/-- What a body is, by its first bytes and what is said of it. -/
def sniS (t u : ByteArray) (has ns bug : Bool) (x : ByteArray) (r1 r2 r3 r4 : Int) : ByteArray := sniA t u has ns bug (typS x (!ns) r1 r2 r3 r4) (rulS x) (typeOf imgP r2) (mdA (typeOf medP r3) (filmB x) (filW x) (isO x))
theorem stype21_any (t u : ByteArray) (A : Option Addr) (n c : Nat) (has ns bug : Bool) (s x : ByteArray) (r1 r2 r3 r4 : Int) (w : World) (ht : t.size ≤ 1048576) (hu : u.size ≤ 1048576) (hs : s.size ≤ 9223372036854775807) (hx : cutB s 1445 = x) (hr : Sgs x r1 r2 r3 r4) :
    Calls Tryz.prog 9 #[saidV t u A n c has ns bug, .string s] w fun e w' => e = .returned (.string (sniS t u has ns bug x r1 r2 r3 r4)) ∧ Below w.heap.size w w' :=
  stype_ways t u A n c s x (gEss t u) (typS x (!ns) r1 r2 r3 r4) (rulS x) (typeOf imgP r2) (mdA (typeOf medP r3) (filmB x) (filW x) (isO x)) has (unkB t u has) (htmlG t u) (xmlG t u) ns bug (imageG t) (mediaG t u) w
    (Lib.hid fun W => gEssence_any t u A n c W ht hu) (Lib.hid fun W => sunknown_any t u A n c has ns bug W ht hu) (Lib.hid fun W => utype_any s x (!ns) r1 r2 r3 r4 W hs hx hr) (Lib.hid fun W => gHtml_any t u A n c W ht hu) (Lib.hid fun W => gXml_any t u A n c W ht hu)
    (Lib.hid fun W => hx ▸ cut19_any s W hs) (Lib.hid fun W => brule_any x W (by have := film_le hx; omega)) (Lib.hid fun W => simage_any s x r2 W hs hx hr.h2) (Lib.hid fun W => smedia_any s x r3 W hs hx hr.h3) (Lib.hid fun W => gMedia_any t u A n c W ht hu)
    (Lib.hid fun W => gImage_any t u A n c W ht hu) image_media

theorem rtype21_any (t u : ByteArray) (A : Option Addr) (n c : Nat) (has ns bug : Bool) (s x : ByteArray) (r1 r2 r3 r4 : Int) (w : World) (ht : t.size ≤ 1048576) (hu : u.size ≤ 1048576) (hs : s.size ≤ 9223372036854775807) (hx : cutB s 1445 = x) (hr : Sgs x r1 r2 r3 r4) :
    Calls Tryz.prog 8 #[saidV t u A n c has ns bug, .string s] w fun e w' => e = .returned (.string (sniS t u has ns bug x r1 r2 r3 r4)) ∧ Below w.heap.size w w' :=
  rtype_ways t u A n c s x (gEss t u) (typS x (!ns) r1 r2 r3 r4) (rulS x) (typeOf imgP r2) (mdA (typeOf medP r3) (filmB x) (filW x) (isO x)) has (unkB t u has) (htmlG t u) (xmlG t u) ns bug (imageG t) (mediaG t u) w
    (Lib.hid fun W => ressence_any t u A n c W ht hu) (Lib.hid fun W => runknown_any t u A n c has ns bug W ht hu) (Lib.hid fun W => rtype20_any s x (!ns) r1 r2 r3 r4 W hs hx hr) (Lib.hid fun W => rgHtml_any t u A n c W ht hu) (Lib.hid fun W => rgXml_any t u A n c W ht hu)
    (Lib.hid fun W => hx ▸ rcut19_any s W hs) (Lib.hid fun W => rrule_any x W (by have := film_le hx; omega)) (Lib.hid fun W => rimage_any s x r2 W hs hx hr.h2) (Lib.hid fun W => rmedia21_any s x r3 W hs hx hr.h3) (Lib.hid fun W => rgMedia_any t u A n c W ht hu)
    rfl image_media

set_option maxHeartbeats 2000000 in
set_option maxRecDepth 100000 in
theorem sagrees_any (t u : ByteArray) (A : Option Addr) (n c : Nat) (has ns bug : Bool) (s x : ByteArray) (r1 r2 r3 r4 : Int) (w : World) (ht : t.size ≤ 1048576) (hu : u.size ≤ 1048576) (hs : s.size ≤ 9223372036854775807) (hx : cutB s 1445 = x) (hr : Sgs x r1 r2 r3 r4) :
    Calls Tryz.prog 10 #[saidV t u A n c has ns bug, .string s] w fun e w' => e = .returned (.bool ((sniS t u has ns bug x r1 r2 r3 r4).toList == (gEss t u).toList)) ∧ Below w.heap.size w w' := by
  obtain ⟨w0, hw0⟩ : ∃ w0, w0 = w.alloc (.cells #[.string t, .string u, .slice A n c, .bool has, .bool ns, .bool bug] 26) := ⟨_, rfl⟩
  have HX := Lib.hid (show SaiAt w #[.string t, .string u, .slice A n c, .bool has, .bool ns, .bool bug] w0 from ⟨by rw [hw0]; exact (Below.refl w.heap.size w).alloc (Nat.le_refl _) _, by rw [hw0]; exact Blk.new _ _ _⟩)
  have c0 := HX.out.2.cell 0
  have c1 := HX.out.2.cell 1
  have c2 := HX.out.2.cell 2
  have c3 := HX.out.2.cell 3
  have c4 := HX.out.2.cell 4
  have c5 := HX.out.2.cell 5
  have HE := Lib.hid (fun W => gEssence_any t u A n c W ht hu)
  have HT := Lib.hid (fun W => stype21_any t u A n c has ns bug s x r1 r2 r3 r4 W ht hu hs hx hr)
  generalize sniS t u has ns bug x r1 r2 r3 r4 = T at *
  generalize gEss t u = E at *
  clear ht hu hs hx hr
  go_enter Tryz.func10, Tryz.ntmps10
  go_upto_region 1 with fail
  rw [← hw0]
  clear hw0 c0 c1 c2 c3 c4 c5
  have f0 : ∀ x : Wld (SaiAt w #[.string t, .string u, .slice A n c, .bool has, .bool ns, .bool bug]), x.val.cell? ⟨w.heap.size, 0, none⟩ = some (.string t) := fun x => x.ok.2.cell 0
  have f1 : ∀ x : Wld (SaiAt w #[.string t, .string u, .slice A n c, .bool has, .bool ns, .bool bug]), x.val.cell? ⟨w.heap.size, 1, none⟩ = some (.string u) := fun x => x.ok.2.cell 1
  have f2 : ∀ x : Wld (SaiAt w #[.string t, .string u, .slice A n c, .bool has, .bool ns, .bool bug]), x.val.cell? ⟨w.heap.size, 2, none⟩ = some (.slice A n c) := fun x => x.ok.2.cell 2
  have f3 : ∀ x : Wld (SaiAt w #[.string t, .string u, .slice A n c, .bool has, .bool ns, .bool bug]), x.val.cell? ⟨w.heap.size, 3, none⟩ = some (.bool has) := fun x => x.ok.2.cell 3
  have f4 : ∀ x : Wld (SaiAt w #[.string t, .string u, .slice A n c, .bool has, .bool ns, .bool bug]), x.val.cell? ⟨w.heap.size, 4, none⟩ = some (.bool ns) := fun x => x.ok.2.cell 4
  have f5 : ∀ x : Wld (SaiAt w #[.string t, .string u, .slice A n c, .bool has, .bool ns, .bool bug]), x.val.cell? ⟨w.heap.size, 5, none⟩ = some (.bool bug) := fun x => x.ok.2.cell 5
  have inst : Nonempty (Wld (SaiAt w #[.string t, .string u, .slice A n c, .bool has, .bool ns, .bool bug])) := ⟨⟨_, HX.out⟩⟩
  refine wp_region_class (SaiAt w #[.string t, .string u, .slice A n c, .bool has, .bool ns, .bool bug]) (by kernel_rfl) (by kernel_rfl) HX.out.drew ?_
  repeat (go_big_quiet_step (first
    | (go_at_call 9; exact Calls.cls (HT.out _) fun _ h => SaiAt.next h)
    | (go_at_call 28; exact Calls.cls (HE.out _) fun _ h => SaiAt.next h)))
  refine wpQuiet_nil ?_
  intro w3 hX3
  have HX3 := Lib.hid hX3
  go_wp2
  go_ret
  exact ⟨rfl, HX3.out.1⟩

end Go.Proofs.YtkdjjlfpaciohaaGreatDoor
