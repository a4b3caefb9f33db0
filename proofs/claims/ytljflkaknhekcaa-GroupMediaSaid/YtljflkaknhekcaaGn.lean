/-
  What Names of package group answers, and the document's Names. Condition: the texts are as long as a mebibyte.
-/
import Derived.Test.YtljflkaknhekcaaGp
import Derived.Test.YtljflkaknhekcaaGr
import Derived.Deep.RegionHeld3
import Derived.Deep.RegionWith
import Derived.Deep.DeepCutAuto
namespace Go.Proofs.Ytljflkaknhekcaa
open Go.RowKit

abbrev GPair := ByteArray × Bool
def gPairs (L : List GPair) : List Value := L.flatMap fun p => [.string p.1, .bool p.2]
theorem gPairs_at : ∀ (ps : List GPair) (i : Nat) (h : i < ps.length), (gPairs ps)[i * 2]? = some (.string ps[i].1) ∧ (gPairs ps)[i * 2 + 1]? = some (.bool ps[i].2)
  | [], i, h => absurd h (by simp)
  | p :: r, 0, _ => ⟨rfl, rfl⟩
  | p :: r, i + 1, h => by
    have ih := gPairs_at r i (by simpa using h)
    have e : gPairs (p :: r) = .string p.1 :: .bool p.2 :: gPairs r := by simp [gPairs]
    rw [e]
    have e1 : (i + 1) * 2 = i * 2 + 1 + 1 := by omega
    have e2 : (i + 1) * 2 + 1 = i * 2 + 1 + 1 + 1 := by omega
    rw [e1, List.getElem?_cons_succ, List.getElem?_cons_succ]
    refine ⟨ih.1, ?_⟩
    rw [List.getElem?_cons_succ, List.getElem?_cons_succ]
    exact ih.2
/-- The words of which it is so. -/
def gPick (L : List GPair) : List ByteArray := (L.filter fun p => p.2).map fun p => p.1
theorem gPick_yes {L : List GPair} {k : Nat} {x : ByteArray} {b : Bool} (h : k < L.length) (e : L[k] = (x, b)) (hb : b = true) : gPick (L.take (k + 1)) = gPick (L.take k) ++ [x] := by
  unfold gPick
  rw [List.take_succ_eq_append_getElem h, List.filter_append, List.map_append, e, hb]
  rfl
theorem gPick_no {L : List GPair} {k : Nat} {x : ByteArray} {b : Bool} (h : k < L.length) (e : L[k] = (x, b)) (hb : b = false) : gPick (L.take (k + 1)) = gPick (L.take k) := by
  unfold gPick
  rw [List.take_succ_eq_append_getElem h, List.filter_append, List.map_append, e, hb]
  simp
theorem gPick_all (L : List GPair) : gPick (L.take L.length) = gPick L := by rw [List.take_length]
theorem gPick_len (L : List GPair) : (gPick L).length ≤ L.length := by
  unfold gPick
  rw [List.length_map]
  exact List.length_filter_le _ _
def gNamed (t u : ByteArray) : List GPair := (gTxt gWordsL).zip (wordsG t u)
theorem gNamed_is (t u : ByteArray) : gNamed t u = [(⟨#[106, 115, 111, 110]⟩, jsonG t u), (⟨#[120, 109, 108]⟩, xmlG t u), (⟨#[104, 116, 109, 108]⟩, htmlG t u), (⟨#[115, 99, 114, 105, 112, 116]⟩, scriptG t u), (⟨#[105, 109, 97, 103, 101]⟩, imageG t), (⟨#[109, 101, 100, 105, 97]⟩, mediaG t u), (⟨#[102, 111, 110, 116]⟩, fontG t u), (⟨#[122, 105, 112]⟩, zipG t u), (⟨#[97, 114, 99, 104, 105, 118, 101]⟩, archG t u), (⟨#[115, 99, 114, 105, 112, 116, 97, 98, 108, 101]⟩, scrbG t u), (⟨#[115, 97, 102, 101]⟩, safeG t u), (⟨#[110, 101, 118, 101, 114]⟩, neverG t u), (⟨#[108, 105, 115, 116, 101, 100]⟩, listG t u)] := rfl
theorem keep_one {w W : World} {b : Nat} {T : TypeId} {a0 a1 a2 : Value} (h : Blk w b T #[a0, a1, a2]) (hb : Below w.heap.size w W) : W.cell? ⟨b, 0, none⟩ = some a0 ∧ W.cell? ⟨b, 1, none⟩ = some a1 ∧ W.cell? ⟨b, 2, none⟩ = some a2 :=
  ⟨(h.below hb h.lt).cell 0, (h.below hb h.lt).cell 1, (h.below hb h.lt).cell 2⟩

set_option maxHeartbeats 4000000 in
set_option maxRecDepth 100000 in
theorem gNames_any (t u : ByteArray) (A : Option Addr) (n c : Nat) (w : World) (ht : t.size ≤ 1048576) (hu : u.size ≤ 1048576) :
    Calls Try.prog 34 #[mimV t u A n c] w (NewStrs (gPick (gNamed t u)) w) := by
  obtain ⟨i0, hi, hz0, hz1, hz2⟩ := info_parts Try.info9
  obtain ⟨w0, hw0⟩ : ∃ w0, w0 = w.alloc (.cells #[.string t, .string u, .slice A n c] 24) := ⟨_, rfl⟩
  have HB0 := Lib.hid (show Below w.heap.size w w0 from by rw [hw0]; exact (Below.refl w.heap.size w).alloc (Nat.le_refl _) _)
  have HP0 := Lib.hid (show Blk w0 w.heap.size 24 #[.string t, .string u, .slice A n c] from by rw [hw0]; exact Blk.new _ _ _)
  have c0 := HP0.out.cell 0
  have c1 := HP0.out.cell 1
  have c2 := HP0.out.cell 2
  have H0 := Lib.hid (fun W => gJson_any t u A n c W ht hu)
  have H1 := Lib.hid (fun W => gXml_any t u A n c W ht hu)
  have H2 := Lib.hid (fun W => gHtml_any t u A n c W ht hu)
  have H3 := Lib.hid (fun W => gScript_any t u A n c W ht hu)
  have H4 := Lib.hid (fun W => gImage_any t u A n c W ht hu)
  have H5 := Lib.hid (fun W => gMedia_any t u A n c W ht hu)
  have H6 := Lib.hid (fun W => gFont_any t u A n c W ht hu)
  have H7 := Lib.hid (fun W => gZip_any t u A n c W ht hu)
  have H8 := Lib.hid (fun W => gArchive_any t u A n c W ht hu)
  have H9 := Lib.hid (fun W => gScriptable_any t u A n c W ht hu)
  have H10 := Lib.hid (fun W => gSafe_any t u A n c W ht hu)
  have H11 := Lib.hid (fun W => gNever_any t u A n c W ht hu)
  have H12 := Lib.hid (fun W => gListed_any t u A n c W ht hu)
  rw [gNamed_is]
  generalize jsonG t u = b0 at *
  generalize xmlG t u = b1 at *
  generalize htmlG t u = b2 at *
  generalize scriptG t u = b3 at *
  generalize imageG t = b4 at *
  generalize mediaG t u = b5 at *
  generalize fontG t u = b6 at *
  generalize zipG t u = b7 at *
  generalize archG t u = b8 at *
  generalize scrbG t u = b9 at *
  generalize safeG t u = b10 at *
  generalize neverG t u = b11 at *
  generalize listG t u = b12 at *
  obtain ⟨L, hL⟩ : ∃ L : List GPair, L = [(⟨#[106, 115, 111, 110]⟩, b0), (⟨#[120, 109, 108]⟩, b1), (⟨#[104, 116, 109, 108]⟩, b2), (⟨#[115, 99, 114, 105, 112, 116]⟩, b3), (⟨#[105, 109, 97, 103, 101]⟩, b4), (⟨#[109, 101, 100, 105, 97]⟩, b5), (⟨#[102, 111, 110, 116]⟩, b6), (⟨#[122, 105, 112]⟩, b7), (⟨#[97, 114, 99, 104, 105, 118, 101]⟩, b8), (⟨#[115, 99, 114, 105, 112, 116, 97, 98, 108, 101]⟩, b9), (⟨#[115, 97, 102, 101]⟩, b10), (⟨#[110, 101, 118, 101, 114]⟩, b11), (⟨#[108, 105, 115, 116, 101, 100]⟩, b12)] := ⟨_, rfl⟩
  rw [← hL]
  have HB := Lib.hid (Below.refl w0.heap.size w0)
  go_enter Try.func34, Try.ntmps34
  go_wp2_with fail
  rw [← hw0]
  clear hw0
  go_wp2_with fail
  go_region_held3 (fun w' => w'.cell? ⟨w.heap.size, 0, none⟩ = some (.string t) ∧ w'.cell? ⟨w.heap.size, 1, none⟩ = some (.string u) ∧ w'.cell? ⟨w.heap.size, 2, none⟩ = some (.slice A n c))
    (first | go_keep | exact keep_one HP0.out HB.out)
    (first
      | (go_at_call 7; (with_reducible refine (H0.out _).mono ?_); rintro e w3 ⟨rfl, b3⟩; have HB := Lib.hid (below_on (w := _) (by first | exact HB.out | exact HB.out.drew) b3); clear b3)
      | (go_at_call 9; (with_reducible refine (H1.out _).mono ?_); rintro e w3 ⟨rfl, b3⟩; have HB := Lib.hid (below_on (w := _) (by first | exact HB.out | exact HB.out.drew) b3); clear b3)
      | (go_at_call 11; (with_reducible refine (H2.out _).mono ?_); rintro e w3 ⟨rfl, b3⟩; have HB := Lib.hid (below_on (w := _) (by first | exact HB.out | exact HB.out.drew) b3); clear b3)
      | (go_at_call 13; (with_reducible refine (H3.out _).mono ?_); rintro e w3 ⟨rfl, b3⟩; have HB := Lib.hid (below_on (w := _) (by first | exact HB.out | exact HB.out.drew) b3); clear b3)
      | (go_at_call 18; (with_reducible refine (H4.out _).mono ?_); rintro e w3 ⟨rfl, b3⟩; have HB := Lib.hid (below_on (w := _) (by first | exact HB.out | exact HB.out.drew) b3); clear b3)
      | (go_at_call 19; (with_reducible refine (H5.out _).mono ?_); rintro e w3 ⟨rfl, b3⟩; have HB := Lib.hid (below_on (w := _) (by first | exact HB.out | exact HB.out.drew) b3); clear b3)
      | (go_at_call 21; (with_reducible refine (H6.out _).mono ?_); rintro e w3 ⟨rfl, b3⟩; have HB := Lib.hid (below_on (w := _) (by first | exact HB.out | exact HB.out.drew) b3); clear b3)
      | (go_at_call 23; (with_reducible refine (H7.out _).mono ?_); rintro e w3 ⟨rfl, b3⟩; have HB := Lib.hid (below_on (w := _) (by first | exact HB.out | exact HB.out.drew) b3); clear b3)
      | (go_at_call 25; (with_reducible refine (H8.out _).mono ?_); rintro e w3 ⟨rfl, b3⟩; have HB := Lib.hid (below_on (w := _) (by first | exact HB.out | exact HB.out.drew) b3); clear b3)
      | (go_at_call 15; (with_reducible refine (H9.out _).mono ?_); rintro e w3 ⟨rfl, b3⟩; have HB := Lib.hid (below_on (w := _) (by first | exact HB.out | exact HB.out.drew) b3); clear b3)
      | (go_at_call 27; (with_reducible refine (H10.out _).mono ?_); rintro e w3 ⟨rfl, b3⟩; have HB := Lib.hid (below_on (w := _) (by first | exact HB.out | exact HB.out.drew) b3); clear b3)
      | (go_at_call 30; (with_reducible refine (H11.out _).mono ?_); rintro e w3 ⟨rfl, b3⟩; have HB := Lib.hid (below_on (w := _) (by first | exact HB.out | exact HB.out.drew) b3); clear b3)
      | (go_at_call 28; (with_reducible refine (H12.out _).mono ?_); rintro e w3 ⟨rfl, b3⟩; have HB := Lib.hid (below_on (w := _) (by first | exact HB.out | exact HB.out.drew) b3); clear b3))
  have HB5 := Lib.hid (show Below w.heap.size w (w3.alloc (.cells #[.string ⟨#[106, 115, 111, 110]⟩, .bool b0, .string ⟨#[120, 109, 108]⟩, .bool b1, .string ⟨#[104, 116, 109, 108]⟩, .bool b2, .string ⟨#[115, 99, 114, 105, 112, 116]⟩, .bool b3, .string ⟨#[105, 109, 97, 103, 101]⟩, .bool b4, .string ⟨#[109, 101, 100, 105, 97]⟩, .bool b5, .string ⟨#[102, 111, 110, 116]⟩, .bool b6, .string ⟨#[122, 105, 112]⟩, .bool b7, .string ⟨#[97, 114, 99, 104, 105, 118, 101]⟩, .bool b8, .string ⟨#[115, 99, 114, 105, 112, 116, 97, 98, 108, 101]⟩, .bool b9, .string ⟨#[115, 97, 102, 101]⟩, .bool b10, .string ⟨#[110, 101, 118, 101, 114]⟩, .bool b11, .string ⟨#[108, 105, 115, 116, 101, 100]⟩, .bool b12] 37)) from (below_on HB0.out HB.out).alloc (below_on HB0.out HB.out).size _)
  have HG5 := Lib.hid (show Blk (w3.alloc (.cells #[.string ⟨#[106, 115, 111, 110]⟩, .bool b0, .string ⟨#[120, 109, 108]⟩, .bool b1, .string ⟨#[104, 116, 109, 108]⟩, .bool b2, .string ⟨#[115, 99, 114, 105, 112, 116]⟩, .bool b3, .string ⟨#[105, 109, 97, 103, 101]⟩, .bool b4, .string ⟨#[109, 101, 100, 105, 97]⟩, .bool b5, .string ⟨#[102, 111, 110, 116]⟩, .bool b6, .string ⟨#[122, 105, 112]⟩, .bool b7, .string ⟨#[97, 114, 99, 104, 105, 118, 101]⟩, .bool b8, .string ⟨#[115, 99, 114, 105, 112, 116, 97, 98, 108, 101]⟩, .bool b9, .string ⟨#[115, 97, 102, 101]⟩, .bool b10, .string ⟨#[110, 101, 118, 101, 114]⟩, .bool b11, .string ⟨#[108, 105, 115, 116, 101, 100]⟩, .bool b12] 37)) w3.heap.size 37 #[.string ⟨#[106, 115, 111, 110]⟩, .bool b0, .string ⟨#[120, 109, 108]⟩, .bool b1, .string ⟨#[104, 116, 109, 108]⟩, .bool b2, .string ⟨#[115, 99, 114, 105, 112, 116]⟩, .bool b3, .string ⟨#[105, 109, 97, 103, 101]⟩, .bool b4, .string ⟨#[109, 101, 100, 105, 97]⟩, .bool b5, .string ⟨#[102, 111, 110, 116]⟩, .bool b6, .string ⟨#[122, 105, 112]⟩, .bool b7, .string ⟨#[97, 114, 99, 104, 105, 118, 101]⟩, .bool b8, .string ⟨#[115, 99, 114, 105, 112, 116, 97, 98, 108, 101]⟩, .bool b9, .string ⟨#[115, 97, 102, 101]⟩, .bool b10, .string ⟨#[110, 101, 118, 101, 114]⟩, .bool b11, .string ⟨#[108, 105, 115, 116, 101, 100]⟩, .bool b12] from Blk.new _ _ _)
  generalize w3.alloc (.cells #[.string ⟨#[106, 115, 111, 110]⟩, .bool b0, .string ⟨#[120, 109, 108]⟩, .bool b1, .string ⟨#[104, 116, 109, 108]⟩, .bool b2, .string ⟨#[115, 99, 114, 105, 112, 116]⟩, .bool b3, .string ⟨#[105, 109, 97, 103, 101]⟩, .bool b4, .string ⟨#[109, 101, 100, 105, 97]⟩, .bool b5, .string ⟨#[102, 111, 110, 116]⟩, .bool b6, .string ⟨#[122, 105, 112]⟩, .bool b7, .string ⟨#[97, 114, 99, 104, 105, 118, 101]⟩, .bool b8, .string ⟨#[115, 99, 114, 105, 112, 116, 97, 98, 108, 101]⟩, .bool b9, .string ⟨#[115, 97, 102, 101]⟩, .bool b10, .string ⟨#[110, 101, 118, 101, 114]⟩, .bool b11, .string ⟨#[108, 105, 115, 116, 101, 100]⟩, .bool b12] 37) = wc at *
  generalize w3.heap.size = g at *
  have hgl : g < wc.heap.size := HG5.out.lt
  have hln : L.length = 13 := by rw [hL]; rfl
  have HGL := Lib.hid (fun k (hk : k < L.length) => show wc.cell? ⟨g, k * 2, none⟩ = some (.string L[k].1) ∧ wc.cell? ⟨g, k * 2 + 1, none⟩ = some (.bool L[k].2) from by
    have h := HG5.out
    rw [show (#[.string ⟨#[106, 115, 111, 110]⟩, .bool b0, .string ⟨#[120, 109, 108]⟩, .bool b1, .string ⟨#[104, 116, 109, 108]⟩, .bool b2, .string ⟨#[115, 99, 114, 105, 112, 116]⟩, .bool b3, .string ⟨#[105, 109, 97, 103, 101]⟩, .bool b4, .string ⟨#[109, 101, 100, 105, 97]⟩, .bool b5, .string ⟨#[102, 111, 110, 116]⟩, .bool b6, .string ⟨#[122, 105, 112]⟩, .bool b7, .string ⟨#[97, 114, 99, 104, 105, 118, 101]⟩, .bool b8, .string ⟨#[115, 99, 114, 105, 112, 116, 97, 98, 108, 101]⟩, .bool b9, .string ⟨#[115, 97, 102, 101]⟩, .bool b10, .string ⟨#[110, 101, 118, 101, 114]⟩, .bool b11, .string ⟨#[108, 105, 115, 116, 101, 100]⟩, .bool b12] : Array Value) = (gPairs L).toArray from by rw [hL]; rfl] at h
    refine ⟨(h.cell _).trans ?_, (h.cell _).trans ?_⟩
    · rw [List.getElem?_toArray]; exact (gPairs_at L k hk).1
    · rw [List.getElem?_toArray]; exact (gPairs_at L k hk).2)
  have HLL := Lib.hid hln
  clear hln hL HG5 c0 c1 c2
  go_wp2
  go_loopw [4, 49] (fun v i wr => ∃ k : Nat, k ≤ 13 ∧ i = .int .i64 k ∧ wr.ownsRow wc.heap.size 9 1 v (gPick (L.take k)).length (strs (gPick (L.take k))) ∧ Below wc.heap.size wc wr) (fun _ i _ => 13 - (intOf i).toNat)
  case atStart => exact ⟨0, Nat.zero_le _, rfl, World.ownsRow_nil _ _ _ _, Below.refl _ _⟩
  case round =>
    obtain ⟨k, hk, rfl, hown, hw⟩ := hrel
    have HO := Lib.hid hown
    have HW := Lib.hid hw
    clear hown hw
    obtain ⟨ao, n', cap, rfl⟩ := own_slice HO.out
    by_cases hlt : k < 13
    · have hkl : k < L.length := by rw [HLL.out]; exact hlt
      obtain ⟨e0, e1⟩ := HGL.out k hkl
      have c0 := (HW.out.cell (p := ⟨g, k * 2, none⟩) hgl).trans e0
      have c1 := (HW.out.cell (p := ⟨g, k * 2 + 1, none⟩) hgl).trans e1
      obtain ⟨x, b, hxb⟩ : ∃ x b, L[k] = (x, b) := ⟨_, _, rfl⟩
      have HY := Lib.hid (fun hb : b = true => gPick_yes hkl hxb hb)
      have HN := Lib.hid (fun hb : b = false => gPick_no hkl hxb hb)
      have hpl : (gPick (L.take k)).length ≤ k := Nat.le_trans (gPick_len _) (by rw [List.length_take]; omega)
      rw [hxb] at c0 c1
      simp only at c0 c1
      clear e0 e1 hxb hkl
      generalize gPick (L.take k) = R at *
      cases b
      · have HK := HN.out rfl
        have HKK := Lib.hid HK
        have HO4 := Lib.hid (own_mv HO.out (Mv.of_below ((Below.refl wr.heap.size wr).alloc (Nat.le_refl _) (.cells #[.string x, .bool false] 37)) []) (by simp))
        have HW4 := Lib.hid (HW.out.alloc HW.out.size (.cells #[.string x, .bool false] 37))
        clear HK HY HN HO HW
        go_wp2
        go_roundw
        case rel => exact ⟨k + 1, by omega, by go_num, by rw [HKK.out]; exact HO4.out, HW4.out⟩
        case measure => simp [intOf]; omega
      · have HK := HY.out rfl
        have HKK := Lib.hid HK
        obtain ⟨w4, hw4⟩ : ∃ w4, w4 = wr.alloc (.cells #[.string x, .bool true] 37) := ⟨_, rfl⟩
        have HO4 := Lib.hid (show w4.ownsRow wc.heap.size 9 1 (.slice ao n' cap) R.length (strs R) from by rw [hw4]; exact own_mv HO.out (Mv.of_below ((Below.refl wr.heap.size wr).alloc (Nat.le_refl _) _) []) (by simp))
        have HW4 := Lib.hid (show Below wc.heap.size wc w4 from by rw [hw4]; exact HW.out.alloc HW.out.size _)
        have HC4 := Lib.hid (show Blk w4 wr.heap.size 37 #[.string x, .bool true] from by rw [hw4]; exact Blk.new _ _ _)
        have d0 := HC4.out.cell 0
        have d1 := HC4.out.cell 1
        rw [hw4] at d0 d1
        clear HK HY HN HO HW
        go_upto_region 7 with fail
        rw [← hw4] at d0 d1 ⊢
        clear hw4
        go_wp2_with (at_builtin; refine wpList_append_own _ rfl _ _ 29 rfl wc.heap.size 9 i0 (.string ⟨#[]⟩) 1 16 Try.underlying29 hi hz0 hz1 hz2 rfl (by decide) _ _ _ rfl (HO4.out.alloc _) ⟨w4.heap.size, 0, none⟩ 1 1 [.string x] rfl rfl ?c1 ?c2 ?c3 ?c4 ?c5 ?_)
        case c1 =>
          intro j u hj
          match j, hj with
          | 0, hj => simp at hj; subst hj; simp [Addr.add]
        case c2 => intro u hu; simp at hu; subst hu; rfl
        case c3 => unfold maxLen; omega
        case c4 => omega
        case c5 => have := HW4.out.size; simp; omega
        intro v' w5 hown' hgrow _
        have HO5 := Lib.hid (show w5.ownsRow wc.heap.size 9 1 v' (R ++ [x]).length (strs (R ++ [x])) from by simpa [strs] using hown')
        have HW5 := Lib.hid (Below.grown (HW4.out.alloc HW4.out.size _) hgrow (by have := HW4.out.size; simp; omega) (fun g hg => (HO4.out.lt g hg).1))
        clear hown' hgrow HO4 HW4 HC4 d0 d1
        go_wp2
        go_roundw
        case rel => exact ⟨k + 1, by omega, by go_num, by rw [HKK.out]; exact HO5.out, HW5.out⟩
        case measure => simp [intOf]; omega
    · obtain rfl : k = 13 := by omega
      have HZ := Lib.hid (show gPick (L.take 13) = gPick L from by have := gPick_all L; rwa [HLL.out] at this)
      go_wp2
      go_ret
      have ho := HO.out
      rw [HZ.out] at ho
      exact ⟨_, rfl, own_base ho HB5.out.size, below_on HB5.out HW.out⟩


set_option maxHeartbeats 4000000 in
set_option maxRecDepth 100000 in
theorem rgNames_any (t u : ByteArray) (A : Option Addr) (n c : Nat) (w : World) (ht : t.size ≤ 1048576) (hu : u.size ≤ 1048576) :
    Calls Try.prog 35 #[mimV t u A n c] w (NewStrs (gPick (gNamed t u)) w) := by
  obtain ⟨i0, hi, hz0, hz1, hz2⟩ := info_parts Try.info9
  obtain ⟨w0, hw0⟩ : ∃ w0, w0 = w.alloc (.cells #[.string t, .string u, .slice A n c] 24) := ⟨_, rfl⟩
  have HB0 := Lib.hid (show Below w.heap.size w w0 from by rw [hw0]; exact (Below.refl w.heap.size w).alloc (Nat.le_refl _) _)
  have HP0 := Lib.hid (show Blk w0 w.heap.size 24 #[.string t, .string u, .slice A n c] from by rw [hw0]; exact Blk.new _ _ _)
  have c0 := HP0.out.cell 0
  have c1 := HP0.out.cell 1
  have c2 := HP0.out.cell 2
  have H0 := Lib.hid (fun W => rgJson_any t u A n c W ht hu)
  have H1 := Lib.hid (fun W => rgXml_any t u A n c W ht hu)
  have H2 := Lib.hid (fun W => rgHtml_any t u A n c W ht hu)
  have H3 := Lib.hid (fun W => rgScript_any t u A n c W ht hu)
  have H5 := Lib.hid (fun W => rgMedia_any t u A n c W ht hu)
  have H6 := Lib.hid (fun W => rgFont_any t u A n c W ht hu)
  have H7 := Lib.hid (fun W => rgZip_any t u A n c W ht hu)
  have H8 := Lib.hid (fun W => rgArchive_any t u A n c W ht hu)
  have H9 := Lib.hid (fun W => rgScriptable_any t u A n c W ht hu)
  have H10 := Lib.hid (fun W => rgSafe_any t u A n c W ht hu)
  have H11 := Lib.hid (fun W => rgNever_any t u A n c W ht hu)
  have H12 := Lib.hid (fun W => rgListed_any t u A n c W ht hu)
  rw [gNamed_is]
  generalize jsonG t u = b0 at *
  generalize xmlG t u = b1 at *
  generalize htmlG t u = b2 at *
  generalize scriptG t u = b3 at *
  obtain ⟨b4, hb4⟩ : ∃ b, b = imageG t := ⟨_, rfl⟩
  rw [← hb4]
  generalize mediaG t u = b5 at *
  generalize fontG t u = b6 at *
  generalize zipG t u = b7 at *
  generalize archG t u = b8 at *
  generalize scrbG t u = b9 at *
  generalize safeG t u = b10 at *
  generalize neverG t u = b11 at *
  generalize listG t u = b12 at *
  obtain ⟨L, hL⟩ : ∃ L : List GPair, L = [(⟨#[106, 115, 111, 110]⟩, b0), (⟨#[120, 109, 108]⟩, b1), (⟨#[104, 116, 109, 108]⟩, b2), (⟨#[115, 99, 114, 105, 112, 116]⟩, b3), (⟨#[105, 109, 97, 103, 101]⟩, b4), (⟨#[109, 101, 100, 105, 97]⟩, b5), (⟨#[102, 111, 110, 116]⟩, b6), (⟨#[122, 105, 112]⟩, b7), (⟨#[97, 114, 99, 104, 105, 118, 101]⟩, b8), (⟨#[115, 99, 114, 105, 112, 116, 97, 98, 108, 101]⟩, b9), (⟨#[115, 97, 102, 101]⟩, b10), (⟨#[110, 101, 118, 101, 114]⟩, b11), (⟨#[108, 105, 115, 116, 101, 100]⟩, b12)] := ⟨_, rfl⟩
  rw [← hL]
  have d4 : (t.toList == [105, 109, 97, 103, 101]) = b4 := hb4.symm
  clear hb4
  have HB := Lib.hid (Below.refl w0.heap.size w0)
  go_enter Try.func35, Try.ntmps35
  go_wp2_with fail
  rw [← hw0]
  clear hw0
  go_wp2_with fail
  go_region_held3 (fun w' => w'.cell? ⟨w.heap.size, 0, none⟩ = some (.string t) ∧ w'.cell? ⟨w.heap.size, 1, none⟩ = some (.string u) ∧ w'.cell? ⟨w.heap.size, 2, none⟩ = some (.slice A n c))
    (first | go_keep | exact keep_one HP0.out HB.out)
    (first
      | (go_at_call 8; (with_reducible refine (H0.out _).mono ?_); rintro e w3 ⟨rfl, b3⟩; have HB := Lib.hid (below_on (w := _) (by first | exact HB.out | exact HB.out.drew) b3); clear b3)
      | (go_at_call 10; (with_reducible refine (H1.out _).mono ?_); rintro e w3 ⟨rfl, b3⟩; have HB := Lib.hid (below_on (w := _) (by first | exact HB.out | exact HB.out.drew) b3); clear b3)
      | (go_at_call 12; (with_reducible refine (H2.out _).mono ?_); rintro e w3 ⟨rfl, b3⟩; have HB := Lib.hid (below_on (w := _) (by first | exact HB.out | exact HB.out.drew) b3); clear b3)
      | (go_at_call 14; (with_reducible refine (H3.out _).mono ?_); rintro e w3 ⟨rfl, b3⟩; have HB := Lib.hid (below_on (w := _) (by first | exact HB.out | exact HB.out.drew) b3); clear b3)
      | (go_at_call 20; (with_reducible refine (H5.out _).mono ?_); rintro e w3 ⟨rfl, b3⟩; have HB := Lib.hid (below_on (w := _) (by first | exact HB.out | exact HB.out.drew) b3); clear b3)
      | (go_at_call 22; (with_reducible refine (H6.out _).mono ?_); rintro e w3 ⟨rfl, b3⟩; have HB := Lib.hid (below_on (w := _) (by first | exact HB.out | exact HB.out.drew) b3); clear b3)
      | (go_at_call 24; (with_reducible refine (H7.out _).mono ?_); rintro e w3 ⟨rfl, b3⟩; have HB := Lib.hid (below_on (w := _) (by first | exact HB.out | exact HB.out.drew) b3); clear b3)
      | (go_at_call 26; (with_reducible refine (H8.out _).mono ?_); rintro e w3 ⟨rfl, b3⟩; have HB := Lib.hid (below_on (w := _) (by first | exact HB.out | exact HB.out.drew) b3); clear b3)
      | (go_at_call 16; (with_reducible refine (H9.out _).mono ?_); rintro e w3 ⟨rfl, b3⟩; have HB := Lib.hid (below_on (w := _) (by first | exact HB.out | exact HB.out.drew) b3); clear b3)
      | (go_at_call 29; (with_reducible refine (H10.out _).mono ?_); rintro e w3 ⟨rfl, b3⟩; have HB := Lib.hid (below_on (w := _) (by first | exact HB.out | exact HB.out.drew) b3); clear b3)
      | (go_at_call 31; (with_reducible refine (H11.out _).mono ?_); rintro e w3 ⟨rfl, b3⟩; have HB := Lib.hid (below_on (w := _) (by first | exact HB.out | exact HB.out.drew) b3); clear b3)
      | (go_at_call 32; (with_reducible refine (H12.out _).mono ?_); rintro e w3 ⟨rfl, b3⟩; have HB := Lib.hid (below_on (w := _) (by first | exact HB.out | exact HB.out.drew) b3); clear b3))
  have HB4 := Lib.hid (show Below w.heap.size w (w3.alloc (.cells #[.bool b0, .bool b1, .bool b2, .bool b3, .bool b4, .bool b5, .bool b6, .bool b7, .bool b8, .bool b9, .bool b10, .bool b11, .bool b12] 4)) from (below_on HB0.out HB.out).alloc (below_on HB0.out HB.out).size _)
  have HG4 := Lib.hid (show Blk (w3.alloc (.cells #[.bool b0, .bool b1, .bool b2, .bool b3, .bool b4, .bool b5, .bool b6, .bool b7, .bool b8, .bool b9, .bool b10, .bool b11, .bool b12] 4)) w3.heap.size 4 #[.bool b0, .bool b1, .bool b2, .bool b3, .bool b4, .bool b5, .bool b6, .bool b7, .bool b8, .bool b9, .bool b10, .bool b11, .bool b12] from Blk.new _ _ _)
  generalize w3.alloc (.cells #[.bool b0, .bool b1, .bool b2, .bool b3, .bool b4, .bool b5, .bool b6, .bool b7, .bool b8, .bool b9, .bool b10, .bool b11, .bool b12] 4) = w4 at *
  generalize w3.heap.size = g at *
  obtain ⟨wc, hwc⟩ : ∃ wc, wc = w4.alloc (.cells #[.string ⟨#[106, 115, 111, 110]⟩, .string ⟨#[120, 109, 108]⟩, .string ⟨#[104, 116, 109, 108]⟩, .string ⟨#[115, 99, 114, 105, 112, 116]⟩, .string ⟨#[105, 109, 97, 103, 101]⟩, .string ⟨#[109, 101, 100, 105, 97]⟩, .string ⟨#[102, 111, 110, 116]⟩, .string ⟨#[122, 105, 112]⟩, .string ⟨#[97, 114, 99, 104, 105, 118, 101]⟩, .string ⟨#[115, 99, 114, 105, 112, 116, 97, 98, 108, 101]⟩, .string ⟨#[115, 97, 102, 101]⟩, .string ⟨#[110, 101, 118, 101, 114]⟩, .string ⟨#[108, 105, 115, 116, 101, 100]⟩] 9) := ⟨_, rfl⟩
  have HB5 := Lib.hid (show Below w.heap.size w wc from by rw [hwc]; exact HB4.out.alloc HB4.out.size _)
  have HG5 := Lib.hid (show Blk wc g 4 #[.bool b0, .bool b1, .bool b2, .bool b3, .bool b4, .bool b5, .bool b6, .bool b7, .bool b8, .bool b9, .bool b10, .bool b11, .bool b12] from by rw [hwc]; exact HG4.out.alloc _)
  have HT5 := Lib.hid (show Blk wc w4.heap.size 9 #[.string ⟨#[106, 115, 111, 110]⟩, .string ⟨#[120, 109, 108]⟩, .string ⟨#[104, 116, 109, 108]⟩, .string ⟨#[115, 99, 114, 105, 112, 116]⟩, .string ⟨#[105, 109, 97, 103, 101]⟩, .string ⟨#[109, 101, 100, 105, 97]⟩, .string ⟨#[102, 111, 110, 116]⟩, .string ⟨#[122, 105, 112]⟩, .string ⟨#[97, 114, 99, 104, 105, 118, 101]⟩, .string ⟨#[115, 99, 114, 105, 112, 116, 97, 98, 108, 101]⟩, .string ⟨#[115, 97, 102, 101]⟩, .string ⟨#[110, 101, 118, 101, 114]⟩, .string ⟨#[108, 105, 115, 116, 101, 100]⟩] from by rw [hwc]; exact Blk.new _ _ _)
  have hgl : g < wc.heap.size := HG5.out.lt
  have htl : w4.heap.size < wc.heap.size := HT5.out.lt
  have HWZ := Lib.hid (show wc.heap.size = w4.heap.size + 1 from by rw [hwc]; simp)
  have hln : L.length = 13 := by rw [hL]; rfl
  have HGL := Lib.hid (fun k (hk : k < L.length) => show wc.cell? ⟨g, k, none⟩ = some (.bool L[k].2) ∧ wc.cell? ⟨w4.heap.size, k, none⟩ = some (.string L[k].1) from by
    have h := HG5.out
    have h2 := HT5.out
    rw [show (#[.bool b0, .bool b1, .bool b2, .bool b3, .bool b4, .bool b5, .bool b6, .bool b7, .bool b8, .bool b9, .bool b10, .bool b11, .bool b12] : Array Value) = (L.map fun p => Value.bool p.2).toArray from by rw [hL]; rfl] at h
    rw [show (#[.string ⟨#[106, 115, 111, 110]⟩, .string ⟨#[120, 109, 108]⟩, .string ⟨#[104, 116, 109, 108]⟩, .string ⟨#[115, 99, 114, 105, 112, 116]⟩, .string ⟨#[105, 109, 97, 103, 101]⟩, .string ⟨#[109, 101, 100, 105, 97]⟩, .string ⟨#[102, 111, 110, 116]⟩, .string ⟨#[122, 105, 112]⟩, .string ⟨#[97, 114, 99, 104, 105, 118, 101]⟩, .string ⟨#[115, 99, 114, 105, 112, 116, 97, 98, 108, 101]⟩, .string ⟨#[115, 97, 102, 101]⟩, .string ⟨#[110, 101, 118, 101, 114]⟩, .string ⟨#[108, 105, 115, 116, 101, 100]⟩] : Array Value) = (L.map fun p => Value.string p.1).toArray from by rw [hL]; rfl] at h2
    refine ⟨(h.cell _).trans ?_, (h2.cell _).trans ?_⟩
    · rw [List.getElem?_toArray, List.getElem?_map, List.getElem?_eq_getElem hk]; rfl
    · rw [List.getElem?_toArray, List.getElem?_map, List.getElem?_eq_getElem hk]; rfl)
  have HLL := Lib.hid hln
  clear hln hL HG4 HG5 HT5 HB4 c0 c1 c2
  go_wp2
  rw [← hwc]
  clear hwc
  generalize w4.heap.size = h at *
  go_loopw [5, 6] (fun v i wr => ∃ k : Nat, k ≤ 13 ∧ i = .int .i64 k ∧ wr.ownsRow wc.heap.size 9 1 v (gPick (L.take k)).length (strs (gPick (L.take k))) ∧ Below wc.heap.size wc wr) (fun _ i _ => 13 - (intOf i).toNat)
  case atStart => exact ⟨0, Nat.zero_le _, rfl, by rw [← HWZ.out]; exact World.ownsRow_made wc #[] 0 (Nat.le_refl _) (Nat.zero_le _) rfl, (Below.refl _ _).alloc (Nat.le_refl _) _⟩
  case round =>
    obtain ⟨k, hk, rfl, hown, hw⟩ := hrel
    have HO := Lib.hid hown
    have HW := Lib.hid hw
    clear hown hw
    obtain ⟨ao, n', cap, rfl⟩ := own_slice HO.out
    by_cases hlt : k < 13
    · have hkl : k < L.length := by rw [HLL.out]; exact hlt
      obtain ⟨e0, e1⟩ := HGL.out k hkl
      have c0 := (HW.out.cell (p := ⟨g, k, none⟩) hgl).trans e0
      have c1 := (HW.out.cell (p := ⟨h, k, none⟩) htl).trans e1
      obtain ⟨x, b, hxb⟩ : ∃ x b, L[k] = (x, b) := ⟨_, _, rfl⟩
      have HY := Lib.hid (fun hb : b = true => gPick_yes hkl hxb hb)
      have HN := Lib.hid (fun hb : b = false => gPick_no hkl hxb hb)
      have hpl : (gPick (L.take k)).length ≤ k := Nat.le_trans (gPick_len _) (by rw [List.length_take]; omega)
      rw [hxb] at c0 c1
      simp only at c0 c1
      clear e0 e1 hxb hkl
      generalize gPick (L.take k) = R at *
      cases b
      · have HK := HN.out rfl
        have HKK := Lib.hid HK
        clear HK HY HN
        go_wp2
        go_roundw
        case rel => exact ⟨k + 1, by omega, by go_num, by rw [HKK.out]; exact HO.out, HW.out⟩
        case measure => simp [intOf]; omega
      · have HK := HY.out rfl
        have HKK := Lib.hid HK
        clear HK HY HN
        go_wp2_with (at_builtin; refine wpList_append_own _ rfl _ _ 29 rfl wc.heap.size 9 i0 (.string ⟨#[]⟩) 1 16 Try.underlying29 hi hz0 hz1 hz2 rfl (by decide) _ _ _ rfl (HO.out.alloc _) ⟨wr.heap.size, 0, none⟩ 1 1 [.string x] rfl rfl ?c1 ?c2 ?c3 ?c4 ?c5 ?_)
        case c1 =>
          intro j u hj
          match j, hj with
          | 0, hj => simp at hj; subst hj; simp [Addr.add]
        case c2 => intro u hu; simp at hu; subst hu; rfl
        case c3 => unfold maxLen; omega
        case c4 => omega
        case c5 => have := HW.out.size; simp; omega
        intro v' w5 hown' hgrow _
        have HO5 := Lib.hid (show w5.ownsRow wc.heap.size 9 1 v' (R ++ [x]).length (strs (R ++ [x])) from by simpa [strs] using hown')
        have HW5 := Lib.hid (Below.grown (HW.out.alloc HW.out.size _) hgrow (by have := HW.out.size; simp; omega) (fun g hg => (HO.out.lt g hg).1))
        clear hown' hgrow HO HW c0 c1
        go_wp2
        go_roundw
        case rel => exact ⟨k + 1, by omega, by go_num, by rw [HKK.out]; exact HO5.out, HW5.out⟩
        case measure => simp [intOf]; omega
    · obtain rfl : k = 13 := by omega
      have HZ := Lib.hid (show gPick (L.take 13) = gPick L from by have := gPick_all L; rwa [HLL.out] at this)
      go_wp2
      go_ret
      have ho := HO.out
      rw [HZ.out] at ho
      exact ⟨_, rfl, own_base ho HB5.out.size, below_on HB5.out HW.out⟩

end Go.Proofs.Ytljflkaknhekcaa
