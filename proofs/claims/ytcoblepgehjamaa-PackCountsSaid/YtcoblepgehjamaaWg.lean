/-
  What Fonts, Archives, Font, Archive, Either and Members of package pack answer. Condition: the text is not longer than memory.
-/
import Derived.Test.YtcoblepgehjamaaWc
import Derived.Test.YtcoblepgehjamaaWd
import Derived.Test.YtcoblepgehjamaaWf
import Derived.Test.YtcoblepgehjamaaSh15
import Derived.Test.YtcoblepgehjamaaMk7
namespace Go.Proofs.Ytcoblepgehjamaa
open Go.RowKit

/-- The mask of the longest pattern of which all bytes count. -/
abbrev ff7 : ByteArray := ⟨#[255, 255, 255, 255, 255, 255, 255]⟩
theorem repeat34 (w : World) :
    Calls Try.prog 30 #[.string ⟨#[0]⟩, .int .i64 34] w fun e w' => e = .returned (.string (zerB 34)) ∧ Below w.heap.size w w' := by
  have := strings_Repeat_main ⟨#[0]⟩ 34 w (by decide) (by decide) (by decide) (by decide)
  rwa [show (⟨(Lib.repeatL (⟨#[0]⟩ : ByteArray).data.toList 34).toArray⟩ : ByteArray) = zerB 34 from by kernel_rfl] at this
set_option maxHeartbeats 400000 in
theorem pexact_any (t k : ByteArray) (w : World) (ht : t.size ≤ 7) :
    Calls Try.prog 25 #[.string t, .string k] w fun e w' => e = .returned (patV t (ff7.extract 0 t.size) ⟨#[]⟩ k) ∧ Below w.heap.size w w' := by
  have hsz : ff7.size = 7 := rfl
  have g1 : (t.size : Int) ≤ 7 := by omega
  go_enter Try.func25, Try.ntmps25
  go_wp2
  exact bodyPost_ret (v := patV t (ff7.extract 0 t.size) ⟨#[]⟩ k) (by simp [results, Try.results25, go_sem]) rfl ⟨rfl, (Below.refl w.heap.size w).alloc (Nat.le_refl _) _⟩

set_option maxHeartbeats 2000000 in
theorem embedded_letter (z : ByteArray) (w : World) (hz : z.size = 34) (HR : Hid (∀ W, Calls Try.prog 30 #[.string ⟨#[0]⟩, .int .i64 34] W fun e w' => e = .returned (.string z) ∧ Below W.heap.size W w')) :
    Calls Try.prog 24 #[] w fun e w' => e = .returned (patV (z ++ ⟨#[76, 80]⟩) (z ++ ff7.extract 0 2) ⟨#[]⟩ ⟨#[97, 112, 112, 108, 105, 99, 97, 116, 105, 111, 110, 47, 118, 110, 100, 46, 109, 115, 45, 102, 111, 110, 116, 111, 98, 106, 101, 99, 116]⟩) ∧ Below w.heap.size w w' := by
  obtain ⟨w0, hw0⟩ : ∃ w0, w0 = w.alloc (.cells #[.string ⟨#[]⟩, .string ⟨#[]⟩, .string ⟨#[]⟩, .string ⟨#[]⟩] 40) := ⟨_, rfl⟩
  have HB0 := Lib.hid (show Below w.heap.size w w0 from by rw [hw0]; exact (Below.refl w.heap.size w).alloc (Nat.le_refl _) _)
  have HP := Lib.hid (show Blk w0 w.heap.size 40 #[.string ⟨#[]⟩, .string ⟨#[]⟩, .string ⟨#[]⟩, .string ⟨#[]⟩] from by rw [hw0]; exact Blk.new _ _ _)
  have hs7 : ff7.size = 7 := rfl
  go_enter Try.func24, Try.ntmps24
  go_wp2_with fail
  rw [← hw0]
  clear hw0
  go_at_call 30
  refine (HR.out _).mono ?_
  rintro e w1 ⟨rfl, b1⟩
  have HQ := Lib.hid (HP.out.below b1 HP.out.lt)
  have p0 := HQ.out.cell 0
  have p1 := HQ.out.cell 1
  have p2 := HQ.out.cell 2
  have p3 := HQ.out.cell 3
  have q0 := HQ.out.frozen 0
  have q1 := HQ.out.frozen 1
  have q2 := HQ.out.frozen 2
  have q3 := HQ.out.frozen 3
  have HY := Lib.hid (HB0.out.trans (b1.mono HB0.out.size))
  clear b1
  go_wp2
  exact bodyPost_ret (v := patV (z ++ ⟨#[76, 80]⟩) (z ++ ff7.extract 0 2) ⟨#[]⟩ ⟨#[97, 112, 112, 108, 105, 99, 97, 116, 105, 111, 110, 47, 118, 110, 100, 46, 109, 115, 45, 102, 111, 110, 116, 111, 98, 106, 101, 99, 116]⟩) (by simp [results, Try.results24, go_sem, p0, p1, p2, p3]) rfl ⟨rfl, (((HY.out.setCell (by simp) _).setCell (by simp) _).setCell (by simp) _).setCell (by simp) _⟩
theorem fntE0 (W : World) : Calls Try.prog 24 #[] W fun e w' => e = .returned (patV ⟨#[0, 0, 0, 0, 0, 0, 0, 0, 0, 0, 0, 0, 0, 0, 0, 0, 0, 0, 0, 0, 0, 0, 0, 0, 0, 0, 0, 0, 0, 0, 0, 0, 0, 0, 76, 80]⟩ ⟨#[0, 0, 0, 0, 0, 0, 0, 0, 0, 0, 0, 0, 0, 0, 0, 0, 0, 0, 0, 0, 0, 0, 0, 0, 0, 0, 0, 0, 0, 0, 0, 0, 0, 0, 255, 255]⟩ ⟨#[]⟩ ⟨#[97, 112, 112, 108, 105, 99, 97, 116, 105, 111, 110, 47, 118, 110, 100, 46, 109, 115, 45, 102, 111, 110, 116, 111, 98, 106, 101, 99, 116]⟩) ∧ Below W.heap.size W w' := by
  have := embedded_letter (zerB 34) W (zerB_size 34) (Lib.hid repeat34)
  rwa [show zerB 34 ++ ⟨#[76, 80]⟩ = ⟨#[0, 0, 0, 0, 0, 0, 0, 0, 0, 0, 0, 0, 0, 0, 0, 0, 0, 0, 0, 0, 0, 0, 0, 0, 0, 0, 0, 0, 0, 0, 0, 0, 0, 0, 76, 80]⟩ from by kernel_rfl, show zerB 34 ++ ff7.extract 0 2 = ⟨#[0, 0, 0, 0, 0, 0, 0, 0, 0, 0, 0, 0, 0, 0, 0, 0, 0, 0, 0, 0, 0, 0, 0, 0, 0, 0, 0, 0, 0, 0, 0, 0, 0, 0, 255, 255]⟩ from by kernel_rfl] at this
theorem fntE1 (W : World) : Calls Try.prog 25 #[.string ⟨#[0, 1, 0, 0]⟩, .string ⟨#[102, 111, 110, 116, 47, 116, 116, 102]⟩] W fun e w' => e = .returned (patV ⟨#[0, 1, 0, 0]⟩ ⟨#[255, 255, 255, 255]⟩ ⟨#[]⟩ ⟨#[102, 111, 110, 116, 47, 116, 116, 102]⟩) ∧ Below W.heap.size W w' := by
  have := pexact_any ⟨#[0, 1, 0, 0]⟩ ⟨#[102, 111, 110, 116, 47, 116, 116, 102]⟩ W (by decide)
  rwa [show ff7.extract 0 (⟨#[0, 1, 0, 0]⟩ : ByteArray).size = ⟨#[255, 255, 255, 255]⟩ from by kernel_rfl] at this
theorem fntE2 (W : World) : Calls Try.prog 25 #[.string ⟨#[79, 84, 84, 79]⟩, .string ⟨#[102, 111, 110, 116, 47, 111, 116, 102]⟩] W fun e w' => e = .returned (patV ⟨#[79, 84, 84, 79]⟩ ⟨#[255, 255, 255, 255]⟩ ⟨#[]⟩ ⟨#[102, 111, 110, 116, 47, 111, 116, 102]⟩) ∧ Below W.heap.size W w' := by
  have := pexact_any ⟨#[79, 84, 84, 79]⟩ ⟨#[102, 111, 110, 116, 47, 111, 116, 102]⟩ W (by decide)
  rwa [show ff7.extract 0 (⟨#[79, 84, 84, 79]⟩ : ByteArray).size = ⟨#[255, 255, 255, 255]⟩ from by kernel_rfl] at this
theorem fntE3 (W : World) : Calls Try.prog 25 #[.string ⟨#[116, 116, 99, 102]⟩, .string ⟨#[102, 111, 110, 116, 47, 99, 111, 108, 108, 101, 99, 116, 105, 111, 110]⟩] W fun e w' => e = .returned (patV ⟨#[116, 116, 99, 102]⟩ ⟨#[255, 255, 255, 255]⟩ ⟨#[]⟩ ⟨#[102, 111, 110, 116, 47, 99, 111, 108, 108, 101, 99, 116, 105, 111, 110]⟩) ∧ Below W.heap.size W w' := by
  have := pexact_any ⟨#[116, 116, 99, 102]⟩ ⟨#[102, 111, 110, 116, 47, 99, 111, 108, 108, 101, 99, 116, 105, 111, 110]⟩ W (by decide)
  rwa [show ff7.extract 0 (⟨#[116, 116, 99, 102]⟩ : ByteArray).size = ⟨#[255, 255, 255, 255]⟩ from by kernel_rfl] at this
theorem fntE4 (W : World) : Calls Try.prog 25 #[.string ⟨#[119, 79, 70, 70]⟩, .string ⟨#[102, 111, 110, 116, 47, 119, 111, 102, 102]⟩] W fun e w' => e = .returned (patV ⟨#[119, 79, 70, 70]⟩ ⟨#[255, 255, 255, 255]⟩ ⟨#[]⟩ ⟨#[102, 111, 110, 116, 47, 119, 111, 102, 102]⟩) ∧ Below W.heap.size W w' := by
  have := pexact_any ⟨#[119, 79, 70, 70]⟩ ⟨#[102, 111, 110, 116, 47, 119, 111, 102, 102]⟩ W (by decide)
  rwa [show ff7.extract 0 (⟨#[119, 79, 70, 70]⟩ : ByteArray).size = ⟨#[255, 255, 255, 255]⟩ from by kernel_rfl] at this
theorem fntE5 (W : World) : Calls Try.prog 25 #[.string ⟨#[119, 79, 70, 50]⟩, .string ⟨#[102, 111, 110, 116, 47, 119, 111, 102, 102, 50]⟩] W fun e w' => e = .returned (patV ⟨#[119, 79, 70, 50]⟩ ⟨#[255, 255, 255, 255]⟩ ⟨#[]⟩ ⟨#[102, 111, 110, 116, 47, 119, 111, 102, 102, 50]⟩) ∧ Below W.heap.size W w' := by
  have := pexact_any ⟨#[119, 79, 70, 50]⟩ ⟨#[102, 111, 110, 116, 47, 119, 111, 102, 102, 50]⟩ W (by decide)
  rwa [show ff7.extract 0 (⟨#[119, 79, 70, 50]⟩ : ByteArray).size = ⟨#[255, 255, 255, 255]⟩ from by kernel_rfl] at this
theorem arcE0 (W : World) : Calls Try.prog 25 #[.string ⟨#[31, 139, 8]⟩, .string ⟨#[97, 112, 112, 108, 105, 99, 97, 116, 105, 111, 110, 47, 120, 45, 103, 122, 105, 112]⟩] W fun e w' => e = .returned (patV ⟨#[31, 139, 8]⟩ ⟨#[255, 255, 255]⟩ ⟨#[]⟩ ⟨#[97, 112, 112, 108, 105, 99, 97, 116, 105, 111, 110, 47, 120, 45, 103, 122, 105, 112]⟩) ∧ Below W.heap.size W w' := by
  have := pexact_any ⟨#[31, 139, 8]⟩ ⟨#[97, 112, 112, 108, 105, 99, 97, 116, 105, 111, 110, 47, 120, 45, 103, 122, 105, 112]⟩ W (by decide)
  rwa [show ff7.extract 0 (⟨#[31, 139, 8]⟩ : ByteArray).size = ⟨#[255, 255, 255]⟩ from by kernel_rfl] at this
theorem arcE1 (W : World) : Calls Try.prog 25 #[.string ⟨#[80, 75, 3, 4]⟩, .string ⟨#[97, 112, 112, 108, 105, 99, 97, 116, 105, 111, 110, 47, 122, 105, 112]⟩] W fun e w' => e = .returned (patV ⟨#[80, 75, 3, 4]⟩ ⟨#[255, 255, 255, 255]⟩ ⟨#[]⟩ ⟨#[97, 112, 112, 108, 105, 99, 97, 116, 105, 111, 110, 47, 122, 105, 112]⟩) ∧ Below W.heap.size W w' := by
  have := pexact_any ⟨#[80, 75, 3, 4]⟩ ⟨#[97, 112, 112, 108, 105, 99, 97, 116, 105, 111, 110, 47, 122, 105, 112]⟩ W (by decide)
  rwa [show ff7.extract 0 (⟨#[80, 75, 3, 4]⟩ : ByteArray).size = ⟨#[255, 255, 255, 255]⟩ from by kernel_rfl] at this
theorem arcE2 (W : World) : Calls Try.prog 25 #[.string ⟨#[82, 97, 114, 32, 26, 7, 0]⟩, .string ⟨#[97, 112, 112, 108, 105, 99, 97, 116, 105, 111, 110, 47, 120, 45, 114, 97, 114, 45, 99, 111, 109, 112, 114, 101, 115, 115, 101, 100]⟩] W fun e w' => e = .returned (patV ⟨#[82, 97, 114, 32, 26, 7, 0]⟩ ⟨#[255, 255, 255, 255, 255, 255, 255]⟩ ⟨#[]⟩ ⟨#[97, 112, 112, 108, 105, 99, 97, 116, 105, 111, 110, 47, 120, 45, 114, 97, 114, 45, 99, 111, 109, 112, 114, 101, 115, 115, 101, 100]⟩) ∧ Below W.heap.size W w' := by
  have := pexact_any ⟨#[82, 97, 114, 32, 26, 7, 0]⟩ ⟨#[97, 112, 112, 108, 105, 99, 97, 116, 105, 111, 110, 47, 120, 45, 114, 97, 114, 45, 99, 111, 109, 112, 114, 101, 115, 115, 101, 100]⟩ W (by decide)
  rwa [show ff7.extract 0 (⟨#[82, 97, 114, 32, 26, 7, 0]⟩ : ByteArray).size = ⟨#[255, 255, 255, 255, 255, 255, 255]⟩ from by kernel_rfl] at this

set_option maxHeartbeats 2000000 in
set_option maxRecDepth 100000 in
theorem packFonts_any (w : World) :
    Calls Try.prog 16 #[] w fun e w' => ∃ g, e = .returned (.slice (some ⟨g, 0, none⟩) 6 6) ∧ w.heap.size ≤ g ∧ PatsIn w' g fntP 6 ∧ Below w.heap.size w w' := by
  have HB := Lib.hid (Below.refl w.heap.size w)
  go_enter Try.func16, Try.ntmps16
  go_wp2_with (first
    | (go_at_call 25; (first | with_reducible refine (fntE1 _).mono ?_ | with_reducible refine (fntE2 _).mono ?_ | with_reducible refine (fntE3 _).mono ?_ | with_reducible refine (fntE4 _).mono ?_ | with_reducible refine (fntE5 _).mono ?_); rintro e w1 ⟨rfl, b1⟩; have HB := Lib.hid (HB.out.trans (b1.mono HB.out.size)); clear b1)
    | (go_at_call 24; (with_reducible refine (fntE0 _).mono ?_); rintro e w1 ⟨rfl, b1⟩; have HB := Lib.hid (HB.out.trans (b1.mono HB.out.size)); clear b1))
  go_ret
  exact ⟨w1.heap.size, rfl, HB.out.size, pats6 (Blk.new w1 _ (cells6 fntP)), HB.out.alloc HB.out.size _⟩
set_option maxHeartbeats 2000000 in
set_option maxRecDepth 100000 in
theorem packArchives_any (w : World) :
    Calls Try.prog 17 #[] w fun e w' => ∃ g, e = .returned (.slice (some ⟨g, 0, none⟩) 3 3) ∧ w.heap.size ≤ g ∧ PatsIn w' g arcP 3 ∧ Below w.heap.size w w' := by
  have HB := Lib.hid (Below.refl w.heap.size w)
  go_enter Try.func17, Try.ntmps17
  go_wp2_with (go_at_call 25; (first | with_reducible refine (arcE0 _).mono ?_ | with_reducible refine (arcE1 _).mono ?_ | with_reducible refine (arcE2 _).mono ?_); rintro e w1 ⟨rfl, b1⟩; have HB := Lib.hid (HB.out.trans (b1.mono HB.out.size)); clear b1)
  go_ret
  exact ⟨w1.heap.size, rfl, HB.out.size, pats3 (Blk.new w1 _ (cells3 arcP)), HB.out.alloc HB.out.size _⟩

set_option maxHeartbeats 400000 in
theorem packFont_any (s : ByteArray) (r : Int) (w : World) (hs : s.size ≤ 140737488351232) (hr : IsFirst s fntP 6 r) :
    Calls Try.prog 12 #[.string s] w fun e w' => e = .returned (.string (typeOf fntP r)) ∧ Below w.heap.size w w' := by
  have HT := Lib.hid (fun W g (h : PatsIn W g fntP 6) => type_any g 6 6 s fntP r W h (fun i hi => fnt_ok hi) (by omega) (by decide) hr)
  have HB := Lib.hid (Below.refl w.heap.size w)
  clear hr
  go_enter Try.func12, Try.ntmps12
  go_wp2_with (first
    | (go_at_call 16; refine (packFonts_any _).mono ?_; rintro e w1 ⟨g, rfl, hg, hp, b1⟩; have HB := Lib.hid (HB.out.trans (b1.mono HB.out.size)); have HP := Lib.hid hp; clear b1 hp)
    | (go_at_call 23; refine (HT.out _ _ HP.out).mono ?_; rintro e w2 ⟨rfl, b2⟩; have HB := Lib.hid (HB.out.trans (b2.mono HB.out.size)); clear b2))
  go_ret
  exact ⟨rfl, HB.out⟩
set_option maxHeartbeats 400000 in
theorem packArchive_any (s : ByteArray) (q : Int) (w : World) (hs : s.size ≤ 140737488351232) (hq : IsFirst s arcP 3 q) :
    Calls Try.prog 13 #[.string s] w fun e w' => e = .returned (.string (typeOf arcP q)) ∧ Below w.heap.size w w' := by
  have HT := Lib.hid (fun W g (h : PatsIn W g arcP 3) => type_any g 3 3 s arcP q W h (fun i hi => arc_ok hi) (by omega) (by decide) hq)
  have HB := Lib.hid (Below.refl w.heap.size w)
  clear hq
  go_enter Try.func13, Try.ntmps13
  go_wp2_with (first
    | (go_at_call 17; refine (packArchives_any _).mono ?_; rintro e w1 ⟨g, rfl, hg, hp, b1⟩; have HB := Lib.hid (HB.out.trans (b1.mono HB.out.size)); have HP := Lib.hid hp; clear b1 hp)
    | (go_at_call 23; refine (HT.out _ _ HP.out).mono ?_; rintro e w2 ⟨rfl, b2⟩; have HB := Lib.hid (HB.out.trans (b2.mono HB.out.size)); clear b2))
  go_ret
  exact ⟨rfl, HB.out⟩

/-- The kind of font, and the kind of archive where it is none. -/
def eithS (r q : Int) : ByteArray := if r < 0 then typeOf arcP q else typeOf fntP r
set_option maxHeartbeats 1000000 in
theorem packEither_any (s : ByteArray) (r q : Int) (w : World) (hs : s.size ≤ 140737488351232) (hr : IsFirst s fntP 6 r) (hq : IsFirst s arcP 3 q) :
    Calls Try.prog 11 #[.string s] w fun e w' => e = .returned (.tuple #[.string (eithS r q), .bool (decide (0 ≤ r))]) ∧ Below w.heap.size w w' := by
  have HF := Lib.hid (fun W => packFont_any s r W hs hr)
  have HA := Lib.hid (fun W => packArchive_any s q W hs hq)
  have hE : ((typeOf fntP r).toList == ([] : List UInt8)) = decide (r < 0) := by
    rw [← fnt_said hr]
    cases (typeOf fntP r).toList <;> rfl
  have HB := Lib.hid (Below.refl w.heap.size w)
  clear hr hq
  by_cases h0 : r < 0
  · have HV := Lib.hid (show eithS r q = typeOf arcP q from if_pos h0)
    rw [show decide (r < 0) = true from by simpa using h0] at hE
    have HD := Lib.hid (show decide (0 ≤ r) = false from by simp; omega)
    generalize typeOf fntP r = t at *
    generalize typeOf arcP q = a at *
    clear h0
    go_enter Try.func11, Try.ntmps11
    go_wp2_with (first
      | (go_at_call 12; (with_reducible refine (HF.out _).mono ?_); rintro e w1 ⟨rfl, b1⟩; have HB := Lib.hid (HB.out.trans (b1.mono HB.out.size)); clear b1)
      | (go_at_call 13; (with_reducible refine (HA.out _).mono ?_); rintro e w1 ⟨rfl, b1⟩; have HB := Lib.hid (HB.out.trans (b1.mono HB.out.size)); clear b1))
    exact bodyPost_ret (v := .tuple #[.string a, .bool false]) (by simp [results, Try.results11, go_sem]) rfl ⟨by rw [HV.out, HD.out], HB.out⟩
  · have HV := Lib.hid (show eithS r q = typeOf fntP r from if_neg h0)
    rw [show decide (r < 0) = false from by simpa using h0] at hE
    have HD := Lib.hid (show decide (0 ≤ r) = true from by simp; omega)
    generalize typeOf fntP r = t at *
    clear h0
    go_enter Try.func11, Try.ntmps11
    go_wp2_with (go_at_call 12; (with_reducible refine (HF.out _).mono ?_); rintro e w1 ⟨rfl, b1⟩; have HB := Lib.hid (HB.out.trans (b1.mono HB.out.size)); clear b1)
    exact bodyPost_ret (v := .tuple #[.string t, .bool true]) (by simp [results, Try.results11, go_sem]) rfl ⟨by rw [HV.out, HD.out], HB.out⟩

theorem Drn.below {w W : World} (h : Drn w W) : Below w.heap.size w W := by
  obtain ⟨d, rfl⟩ := h
  exact Below.drewN' (Below.refl _ _) d
theorem Drn.trans {w W V : World} (h : Drn w W) (h2 : Drn W V) : Drn w V := by
  obtain ⟨d, rfl⟩ := h
  obtain ⟨d2, rfl⟩ := h2
  exact ⟨d + d2, (World.drewN_drewN _ _ _)⟩
theorem cut_cut (s : ByteArray) (k i : Nat) (h : k ≤ s.size) : (s.extract k s.size).extract i (s.extract k s.size).size = s.extract (k + i) s.size := by
  have e : (s.extract k s.size).size = s.size - k := by simp
  rw [e, ByteArray.extract_extract]
  congr 1
  omega
set_option maxHeartbeats 2000000 in
set_option maxRecDepth 100000 in
theorem packMembers_any (s : ByteArray) (w : World) (hs : s.size ≤ 140737488351232) :
    Calls Try.prog 18 #[.string s] w fun e w' => e = .returned (.tuple #[.int .i64 ((memG s).1 : Nat), .bool (decide (0 < (memG s).1) && (memG s).2)]) ∧ Below w.heap.size w w' := by
  have key : Calls Try.prog 18 #[.string s] w fun e w' => e = .returned (.tuple #[.int .i64 ((memG s).1 : Nat), .bool (decide (0 < (memG s).1) && (memG s).2)]) ∧ Drn w w' := by
    go_enter Try.func18, Try.ntmps18
    go_wp2
    go_loopw [4, 5] (fun n u wr => ∃ (k c : Nat), u = .int .i64 k ∧ n = .int .i64 c ∧ k ≤ s.size ∧ c ≤ k ∧ ((memG (s.extract k s.size)).1 + c = (memG s).1 ∧ (memG (s.extract k s.size)).2 = (memG s).2) ∧ Drn w wr) (fun _ u _ => s.size - (intOf u).toNat)
    case atStart => exact ⟨0, 0, rfl, rfl, by omega, by omega, by rw [show s.extract 0 s.size = s from by simp]; exact ⟨rfl, rfl⟩, 0, rfl⟩
    case round =>
      obtain ⟨k, c, rfl, rfl, hk, hck, hm, hw⟩ := hrel
      have hsz : (s.extract k s.size).size = s.size - k := by simp
      have HM := Lib.hid hm
      have HW := Lib.hid hw
      have HC := Lib.hid (cut_cut s k (memK (s.extract k s.size)) hk)
      clear hm hw
      by_cases hg : memH (s.extract k s.size) = true ∧ memK (s.extract k s.size) ≤ (s.extract k s.size).size
      · have HS := Lib.hid (memG_step hg.1 hg.2)
        have HY := Lib.hid (fun W => member_yes (s.extract k s.size) W (by omega) hg.1 hg.2)
        have h1 := hg.2
        have h30 := memK_ge (s.extract k s.size)
        rw [HC.out] at HS
        clear HC
        rw [hsz] at h1
        have h2 : k + memK (s.extract k s.size) ≤ s.size := by omega
        generalize memK (s.extract k s.size) = K at *
        clear hg h1 hsz
        as_aux_lemma =>
        go_wp2_with (go_at_call 26; (with_reducible refine (HY.out _).mono ?_); rintro e w1 ⟨rfl, d1⟩; have HW := Lib.hid (HW.out.trans d1); clear d1)
        go_roundw
        case rel => exact ⟨k + K, c + 1, by go_num, by go_num, by omega, by omega, ⟨by have h1 := HM.out.1; rw [HS.out] at h1; simp only at h1; omega, by have h2 := HM.out.2; rw [HS.out] at h2; exact h2⟩, HW.out⟩
        case measure => simp [intOf]; omega
      · have HN := Lib.hid (fun W => member_no (s.extract k s.size) W (by omega) hg)
        have HE := Lib.hid (show (memG s).1 = c ∧ (memG s).2 = (s.size - k == 0) from by
          have e := memG_stop hg
          have h1 := HM.out.1
          have h2 := HM.out.2
          rw [e] at h1 h2
          rw [hsz] at h2
          exact ⟨by rw [← h1]; exact Nat.zero_add c, h2.symm⟩)
        clear HC hg hsz
        by_cases hc : 0 < c
        · have dc : decide (0 < c) = true := by simpa using hc
          by_cases hz : k = s.size
          · have HV := Lib.hid (show (s.size - k == 0) = true from by simp; omega)
            have z1 : ((k : Int) == (s.size : Int)) = true := by rw [hz]; exact beq_self_eq_true _
            have z2 : (k == s.size) = true := by simpa using hz
            have HZ := Lib.hid hz
            clear hz
            as_aux_lemma =>
            go_wp2_with (go_at_call 26; (with_reducible refine (HN.out _).mono ?_); rintro e w1 ⟨rfl, d1⟩; have HW := Lib.hid (HW.out.trans d1); clear d1)
            exact bodyPost_ret (v := .tuple #[.int .i64 (c : Nat), .bool true]) (by simp [results, Try.results18, go_sem]) rfl ⟨by rw [HE.out.2, HE.out.1, HV.out, dc]; rfl, HW.out⟩
          · have HV := Lib.hid (show (s.size - k == 0) = false from by simp; omega)
            have z1 : ((k : Int) == (s.size : Int)) = false := by rw [beq_eq_false_iff_ne]; omega
            have z2 : (k == s.size) = false := by simpa using hz
            clear hz
            as_aux_lemma =>
            go_wp2_with (go_at_call 26; (with_reducible refine (HN.out _).mono ?_); rintro e w1 ⟨rfl, d1⟩; have HW := Lib.hid (HW.out.trans d1); clear d1)
            exact bodyPost_ret (v := .tuple #[.int .i64 (c : Nat), .bool false]) (by simp [results, Try.results18, go_sem]) rfl ⟨by rw [HE.out.2, HE.out.1, HV.out, dc]; rfl, HW.out⟩
        · obtain rfl : c = 0 := by omega
          as_aux_lemma =>
          go_wp2_with (go_at_call 26; (with_reducible refine (HN.out _).mono ?_); rintro e w1 ⟨rfl, d1⟩; have HW := Lib.hid (HW.out.trans d1); clear d1)
          exact bodyPost_ret (v := .tuple #[.int .i64 0, .bool false]) (by simp [results, Try.results18, go_sem]) rfl ⟨by rw [HE.out.2, HE.out.1]; rfl, HW.out⟩
  exact key.mono fun e w' ⟨h, hd⟩ => ⟨h, hd.below⟩

end Go.Proofs.Ytcoblepgehjamaa
