/-
  What HasSuffix of the library answers, and of the document's functions ends, one and Essence. Condition: texts are as long as a length can be.
-/
import Derived.Test.YtljflkaknhekcaaGf
import Derived.Test.YtljflkaknhekcaaKj
namespace Go.Proofs.Ytljflkaknhekcaa
open Go.RowKit

theorem gEnd_big {s e : ByteArray} (h : s.size < e.size) : gEnd s e = false := by unfold gEnd; rw [decide_eq_false (by omega)]; rfl
theorem gEnd_fits {s e : ByteArray} (h : e.size ≤ s.size) : gEnd s e = ((s.extract (s.size - e.size) s.size).toList == e.toList) := by unfold gEnd; rw [decide_eq_true h]; rfl

theorem slSuffix_any (s e : ByteArray) (w : World) (hs : s.size ≤ 9223372036854775807) (he : e.size ≤ 9223372036854775807) :
    Calls Try.prog 42 #[.string s, .string e] w fun x w' => x = .returned (.bool (gEnd s e)) ∧ w = w' := by
  by_cases h : e.size ≤ s.size
  · have d0 : decide ((e.size : Int) ≤ (s.size : Int)) = true := by simpa using h
    rw [gEnd_fits h]
    go_enter Try.func42, Try.ntmps42
    go_wp2
    go_ret
    exact ⟨rfl, rfl⟩
  · have d0 : decide ((e.size : Int) ≤ (s.size : Int)) = false := by simp; omega
    rw [gEnd_big (by omega)]
    go_enter Try.func42, Try.ntmps42
    go_wp2
    go_ret
    exact ⟨rfl, rfl⟩
theorem hasSuffix_any (s e : ByteArray) (w : World) (hs : s.size ≤ 9223372036854775807) (he : e.size ≤ 9223372036854775807) :
    Calls Try.prog 38 #[.string s, .string e] w fun x w' => x = .returned (.bool (gEnd s e)) ∧ w = w' := by
  have HS := Lib.hid (fun W => slSuffix_any s e W hs he)
  generalize gEnd s e = b at *
  go_enter Try.func38, Try.ntmps38
  go_wp2_with fail
  refine (HS.out _).mono ?_
  rintro x w1 ⟨rfl, rfl⟩
  go_wp2
  go_ret
  exact ⟨rfl, rfl⟩
theorem rends_any (s e : ByteArray) (w : World) (hs : s.size ≤ 9223372036854775807) (he : e.size ≤ 9223372036854775807) :
    Calls Try.prog 39 #[.string s, .string e] w fun x w' => x = .returned (.bool (gEnd s e)) ∧ w = w' := by
  by_cases h : e.size ≤ s.size
  · have d0 : decide ((e.size : Int) ≤ (s.size : Int)) = true := by simpa using h
    rw [gEnd_fits h]
    go_enter Try.func39, Try.ntmps39
    go_wp2
    go_ret
    exact ⟨rfl, rfl⟩
  · have d0 : decide ((e.size : Int) ≤ (s.size : Int)) = false := by simp; omega
    rw [gEnd_big (by omega)]
    go_enter Try.func39, Try.ntmps39
    go_wp2
    go_ret
    exact ⟨rfl, rfl⟩

set_option maxHeartbeats 1000000 in
theorem ressence_any (t u : ByteArray) (A : Option Addr) (n c : Nat) (w : World) (ht : t.size ≤ 1048576) (hu : u.size ≤ 1048576) :
    Calls Try.prog 41 #[mimV t u A n c] w fun e w' => e = .returned (.string (gEss t u)) ∧ Below w.heap.size w w' := by
  obtain ⟨w0, hw0⟩ : ∃ w0, w0 = w.alloc (.cells #[.string t, .string u, .slice A n c] 24) := ⟨_, rfl⟩
  have HB0 := Lib.hid (show Below w.heap.size w w0 from by rw [hw0]; exact (Below.refl w.heap.size w).alloc (Nat.le_refl _) _)
  have HP0 := Lib.hid (show Blk w0 w.heap.size 24 #[.string t, .string u, .slice A n c] from by rw [hw0]; exact Blk.new _ _ _)
  have c0 := HP0.out.cell 0
  have c1 := HP0.out.cell 1
  have hx : (t ++ ⟨#[47]⟩) ++ u = gEss t u := essL_eq t u
  rw [← hx]
  clear hx
  go_enter Try.func41, Try.ntmps41
  go_wp2_with fail
  rw [← hw0]
  clear hw0
  go_wp2
  go_ret
  exact ⟨rfl, HB0.out⟩

/-- The texts of a list as it lies in a row. -/
abbrev gTxt (L : List (List UInt8)) : List ByteArray := L.map fun l => ⟨l.toArray⟩
theorem gIn_at {x : ByteArray} {L : List (List UInt8)} {k : Nat} (h : k < (gTxt L).length) : gIn x (L.drop k) = ((gTxt L)[k].toList == x.toList || gIn x (L.drop (k + 1))) := by
  have hl : k < L.length := by simpa using h
  rw [List.drop_eq_getElem_cons hl, gIn_cons]
  congr 1
  have e : (gTxt L)[k].toList = L[k] := by simp [gTxt, Lib.toList_data]
  rw [e]
  exact Bool.beq_comm
set_option maxHeartbeats 2000000 in
theorem rone_any (x : ByteArray) (L : List (List UInt8)) (A : Option Addr) (c : Nat) (w : World) (h : TxIn w A (gTxt L)) (hn : L.length ≤ 1000) :
    Calls Try.prog 40 #[.string x, .slice A (gTxt L).length c] w fun e w' => e = .returned (.bool (gIn x L)) ∧ Below w.heap.size w w' := by
  have HA := Lib.hid h
  obtain ⟨r, hr⟩ : ∃ r, r = gIn x L := ⟨_, rfl⟩
  rw [← hr]
  have HR := Lib.hid (show gIn x (L.drop 0) = r from by rw [hr]; rfl)
  have HS := Lib.hid (fun k (hk : k < (gTxt L).length) => gIn_at (x := x) hk)
  have HZ := Lib.hid (show gIn x (L.drop (gTxt L).length) = false from by simp [gIn])
  have hnn : (gTxt L).length ≤ 1000 := by simpa using hn
  generalize gTxt L = xs at *
  clear h hr hn
  go_enter Try.func40, Try.ntmps40
  go_wp2
  go_loopw [5] (fun i wr => ∃ k : Nat, k ≤ xs.length ∧ i = .int .i64 k ∧ gIn x (L.drop k) = r ∧ Below w.heap.size w wr) (fun i _ => xs.length - (intOf i).toNat)
  case atStart => exact ⟨0, Nat.zero_le _, rfl, HR.out, Below.refl _ _⟩
  case round =>
    obtain ⟨k, hk, rfl, hg, hw⟩ := hrel
    have HW := Lib.hid hw
    have HG := Lib.hid hg
    clear hw hg HR
    by_cases hlt : k < xs.length
    · obtain ⟨g, rfl, hg, hc⟩ := HA.out k hlt
      have c0 := (HW.out.cell (p := ⟨g, k, none⟩) hg).trans hc
      have HK := Lib.hid (HS.out k hlt)
      clear hc
      generalize xs[k] = y at *
      cases he : (y.toList == x.toList)
      · rw [he] at HK
        have HG2 := Lib.hid (show gIn x (L.drop (k + 1)) = r from by rw [← HG.out, HK.out]; rfl)
        clear HK HG
        go_wp2
        go_roundw
        case rel => exact ⟨k + 1, by omega, by go_num, HG2.out, HW.out⟩
        case measure => simp [intOf]; omega
      · rw [he] at HK
        have HG2 := Lib.hid (show r = true from by rw [← HG.out, HK.out]; rfl)
        clear HK HG
        go_wp2
        go_ret
        exact ⟨by rw [HG2.out]; rfl, HW.out⟩
    · obtain rfl : k = xs.length := by omega
      have HG2 := Lib.hid (show r = false from by rw [← HG.out, HZ.out])
      clear HG
      go_wp2
      go_ret
      exact ⟨by rw [HG2.out]; rfl, HW.out⟩

/-- A row of texts that has just been laid. -/
theorem gRow_new (w : World) (L : List (List UInt8)) : TxIn (w.alloc (.cells (strs (gTxt L)).toArray 9)) (some ⟨w.heap.size, 0, none⟩) (gTxt L) := fun i hi => by
  have hb := Blk.new w 9 (strs (gTxt L)).toArray
  refine ⟨w.heap.size, rfl, hb.lt, ?_⟩
  rw [hb.cell i]
  simp [strs]

end Go.Proofs.Ytljflkaknhekcaa
