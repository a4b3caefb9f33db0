/-
  Plain facts on the four signs, and on what a body is by what its parts are. No condition.
  Plain facts on what is said of a body, and on what it then is. No condition.
  What Lower, Same and Begins answer, and the document's own Lower. Condition: the text is as long as a length can be.
-/
import Derived.Test.YtkdjjlfpaciohaaGreatDoorZ4
import Derived.Test.YtkdjjlfpaciohaaGreatDoorZ7
import Derived.Test.YtkdjjlfpaciohaaGreatDoorZ3
import Derived.Test.YtkdjjlfpaciohaaGreatDoorZ1
import Derived.Test.YtkdjjlfpaciohaaGreatDoorZ2
import Derived.LoopTactic
import Derived.BigQuiet
import Derived.OneCell
import Derived.OwnWalk
import Derived.Laws.IdiomStrings
import Derived.Laws.OwnMore
import Derived.Laws.BytesArg
namespace Go.Proofs.YtkdjjlfpaciohaaGreatDoor

/-- The signs. -/
def sgnP : Nat → Pat
  | 0 => ⟨⟨#[37, 33, 80, 83, 45, 65, 100, 111, 98, 101, 45]⟩, ⟨#[255, 255, 255, 255, 255, 255, 255, 255, 255, 255, 255]⟩, ⟨#[]⟩, ⟨#[97, 112, 112, 108, 105, 99, 97, 116, 105, 111, 110, 47, 112, 111, 115, 116, 115, 99, 114, 105, 112, 116]⟩⟩
  | 1 => ⟨⟨#[254, 255, 0, 0]⟩, ⟨#[255, 255, 0, 0]⟩, ⟨#[]⟩, ⟨#[116, 101, 120, 116, 47, 112, 108, 97, 105, 110]⟩⟩
  | 2 => ⟨⟨#[255, 254, 0, 0]⟩, ⟨#[255, 255, 0, 0]⟩, ⟨#[]⟩, ⟨#[116, 101, 120, 116, 47, 112, 108, 97, 105, 110]⟩⟩
  | 3 => ⟨⟨#[239, 187, 191, 0]⟩, ⟨#[255, 255, 255, 0]⟩, ⟨#[]⟩, ⟨#[116, 101, 120, 116, 47, 112, 108, 97, 105, 110]⟩⟩
  | _ => ⟨⟨#[]⟩, ⟨#[]⟩, ⟨#[]⟩, ⟨#[]⟩⟩
theorem below4sgn {p : Nat → Bool} (h : (List.range 4).all p = true) {i : Nat} (hi : i < 4) : p i = true := List.all_eq_true.1 h i (List.mem_range.2 hi)
theorem sgn_small {i : Nat} (h : i < 4) : (sgnP i).b.size ≤ 11 ∧ (sgnP i).m.size ≤ 11 := by
  have := below4sgn (p := fun i => decide ((sgnP i).b.size ≤ 11) && decide ((sgnP i).m.size ≤ 11)) (by kernel_rfl) h
  simpa using this
theorem sgn_skip {i : Nat} (h : i < 4) : (sgnP i).k = ⟨#[]⟩ := emp_list (below4sgn (p := fun i => (sgnP i).k.toList.isEmpty) (by kernel_rfl) h)
theorem sgn_ok {i : Nat} (h : i < 4) : (sgnP i).ok := by
  have h1 := sgn_small h
  have h2 := sgn_skip h
  refine ⟨by omega, by omega, ?_⟩
  rw [h2]
  decide

abbrev htmY : ByteArray := ⟨#[116, 101, 120, 116, 47, 104, 116, 109, 108]⟩
abbrev xmlY : ByteArray := ⟨#[116, 101, 120, 116, 47, 120, 109, 108]⟩
abbrev pdfY : ByteArray := ⟨#[97, 112, 112, 108, 105, 99, 97, 116, 105, 111, 110, 47, 112, 100, 102]⟩
abbrev vmpY : ByteArray := ⟨#[118, 105, 100, 101, 111, 47, 109, 112, 52]⟩
abbrev vweY : ByteArray := ⟨#[118, 105, 100, 101, 111, 47, 119, 101, 98, 109]⟩
abbrev ampY : ByteArray := ⟨#[97, 117, 100, 105, 111, 47, 109, 112, 101, 103]⟩
abbrev octY : ByteArray := ⟨#[97, 112, 112, 108, 105, 99, 97, 116, 105, 111, 110, 47, 111, 99, 116, 101, 116, 45, 115, 116, 114, 101, 97, 109]⟩
abbrev plaY : ByteArray := ⟨#[116, 101, 120, 116, 47, 112, 108, 97, 105, 110]⟩
/-- Whether a text is empty. -/
def emB (t : ByteArray) : Bool := t.toList == []
/-- What a sound or film is: by the tables (t), a film of boxes (a), of elements (b), a sound of frames (c). -/
def mdA (t : ByteArray) (a b c : Bool) : ByteArray := if emB t = false then t else if a then vmpY else if b then vweY else if c then ampY else ⟨#[]⟩
/-- The first of four that is not empty. -/
def sgA (t1 t2 t3 t4 : ByteArray) : ByteArray := if emB t1 = false then t1 else if emB t2 = false then t2 else if emB t3 = false then t3 else t4
/-- What may have scripts within: HTML (h), xmlY (x), pdfY (p). -/
def scA (h x p : Bool) : ByteArray := if h then htmY else if x then xmlY else if p then pdfY else ⟨#[]⟩
/-- What has no sign. -/
def lsA (d : Bool) : ByteArray := if d then octY else plaY
/-- What a body is. -/
def tyA (c g l : ByteArray) : ByteArray := if emB c = false then c else if emB g = false then g else l

theorem lsA_em (d : Bool) : emB (lsA d) = false := by cases d <;> kernel_rfl
theorem em_none : emB ⟨#[]⟩ = true := by kernel_rfl
theorem tyA_em (c g : ByteArray) (d : Bool) : emB (tyA c g (lsA d)) = false := by
  unfold tyA
  split
  · assumption
  · split
    · assumption
    · exact lsA_em d

theorem at_sure (u : ByteArray) (j : Nat) (h : j < u.size) : u[j]! = u[j] := getElem!_pos u j h
theorem begN_rest (s sk : ByteArray) : begN sk (restS s sk) = 0 := by
  have hz := rest_size s sk
  have hb := begN_le sk s
  by_cases h : begN sk s < s.size
  · refine begN_at (k := 0) (fun j _ hj => absurd hj (by omega)) (by omega) ?_
    have h1 : 0 < (restS s sk).size := by omega
    have e1 := at_sure (restS s sk) 0 h1
    have e2 := at_sure s (begN sk s) h
    have e3 := rest_at s sk h1
    rw [Nat.add_zero, e2] at e3
    rw [← e1, e3]
    exact begN_stop h
  · have h0 : (restS s sk).size = 0 := by omega
    have := begN_le sk (restS s sk)
    omega
/-- Behind blanks no more stand. -/
theorem rest_rest (s sk : ByteArray) : restS (restS s sk) sk = restS s sk := by
  have e : restS (restS s sk) sk = (restS s sk).extract (begN sk (restS s sk)) (restS s sk).size := rfl
  rw [e, begN_rest]
  exact ByteArray.extract_zero_size
/-- What a tag is, of a text without blanks ahead, by its pattern and its end. -/
theorem tag_end_by (s t : ByteArray) (ht : t.size ≤ 13) : tagU (restS s blk5) t = (matB (restS s blk5) (upS (ltS t)) (mskS (ltS t)) blk5 && endB (restS s blk5) (((ltS t).size : Nat) : Int)) := by
  have h := tag_by (restS s blk5) t ht
  rw [rest_rest, begN_rest, Nat.zero_add] at h
  exact h
end Go.Proofs.YtkdjjlfpaciohaaGreatDoor
namespace Go.Proofs.YtkdjjlfpaciohaaGreatDoor

abbrev bugL0 : List UInt8 := [116, 101, 120, 116, 47, 112, 108, 97, 105, 110]
abbrev bugL1 : List UInt8 := [116, 101, 120, 116, 47, 112, 108, 97, 105, 110, 59, 32, 99, 104, 97, 114, 115, 101, 116, 61, 73, 83, 79, 45, 56, 56, 53, 57, 45, 49]
abbrev bugL2 : List UInt8 := [116, 101, 120, 116, 47, 112, 108, 97, 105, 110, 59, 32, 99, 104, 97, 114, 115, 101, 116, 61, 105, 115, 111, 45, 56, 56, 53, 57, 45, 49]
abbrev bugL3 : List UInt8 := [116, 101, 120, 116, 47, 112, 108, 97, 105, 110, 59, 32, 99, 104, 97, 114, 115, 101, 116, 61, 85, 84, 70, 45, 56]
abbrev unkL0 : List UInt8 := [117, 110, 107, 110, 111, 119, 110, 47, 117, 110, 107, 110, 111, 119, 110]
abbrev unkL1 : List UInt8 := [97, 112, 112, 108, 105, 99, 97, 116, 105, 111, 110, 47, 117, 110, 107, 110, 111, 119, 110]
abbrev unkL2 : List UInt8 := [42, 47, 42]

/-- Whether a server may err of a type's text. -/
def bugB (s : ByteArray) : Bool := (s.toList == bugL0) || ((s.toList == bugL1) || ((s.toList == bugL2) || (s.toList == bugL3)))
/-- Whether nobody says what a body is. -/
def unkB (t u : ByteArray) (has : Bool) : Bool := !has || (((gEss t u).toList == unkL0) || (((gEss t u).toList == unkL1) || ((gEss t u).toList == unkL2)))
/-- What a body is. y: by its bytes alone; l: by whether it is text; i: a picture's type; m: a sound's or film's. -/
def sniA (t u : ByteArray) (has ns bug : Bool) (y l i m : ByteArray) : ByteArray :=
  if unkB t u has then y else if htmlG t u || (xmlG t u || ns) then gEss t u else if bug then l else if imageG t && !emB i then i else if mediaG t u && !emB m then m else gEss t u
/-- What is HTML or XML stays it, and nothing that may not be sniffed is another one, if a type is said. -/
theorem sniA_stays {t u : ByteArray} {has ns bug : Bool} {y l i m : ByteArray} (h : unkB t u has = false) (h2 : (htmlG t u || (xmlG t u || ns)) = true) : sniA t u has ns bug y l i m = gEss t u := by
  unfold sniA
  rw [h, h2, if_neg (by simp), if_pos rfl]

end Go.Proofs.YtkdjjlfpaciohaaGreatDoor
namespace Go.Proofs.YtkdjjlfpaciohaaGreatDoor
open Go.RowKit

/-- Block g is known whole, its frozen range too. -/
def Blm (w : World) (g : Nat) (t : TypeId) (cs : Array Value) (fr : Nat × Nat) : Prop := w.heap[g]? = some (.cells cs t fr)
section
variable {w w' : World} {g : Nat} {t : TypeId} {cs : Array Value} {fr : Nat × Nat}
theorem Blm.lt (h : Blm w g t cs fr) : g < w.heap.size := by
  rcases Nat.lt_or_ge g w.heap.size with hlt | hge
  · exact hlt
  · unfold Blm at h; rw [Array.getElem?_eq_none hge] at h; cases h
theorem Blm.cell (h : Blm w g t cs fr) (i : Nat) : w.cell? ⟨g, i, none⟩ = cs[i]? := by
  unfold Blm at h; simp [World.cell?, h]
theorem Blm.frozen (h : Blm w g t cs fr) (i : Nat) (hi : i < fr.1) : w.frozen? ⟨g, i, none⟩ = false := by
  unfold Blm at h
  simp [World.frozen?, h]
  omega
theorem Blm.new (w : World) (t : TypeId) (cs : Array Value) (fr : Nat × Nat) : Blm (w.alloc (.cells cs t fr)) w.heap.size t cs fr := by
  unfold Blm
  show (w.heap.push _)[w.heap.size]? = _
  simp
theorem Blm.set_ (h : Blm w g t cs fr) (i : Nat) (u : Value) : Blm (w.setCell ⟨g, i, none⟩ u) g t (cs.setIfInBounds i u) fr := by
  unfold Blm at h ⊢
  simp [World.setCell, Array.getElem?_modify, h]
end

/-- The cells of a text of which the first k bytes are made small. -/
def Small (s : ByteArray) (k : Nat) (C : Array Value) : Prop := ∀ j (h : j < s.size), C[j]? = some (.int .u8 ((if j < k then lowB s[j] else s[j]).toNat : Int))
theorem Small.zero (s : ByteArray) (cap : Nat) : Small s 0 (bytesRow s cap) := fun j h => by
  rw [bytesRow_at s cap j h, if_neg (by omega)]
  rfl
theorem Small.lt {s : ByteArray} {k j : Nat} {C : Array Value} (h : Small s k C) (hj : j < s.size) : j < C.size := (Array.getElem?_eq_some_iff.1 (h j hj)).1
theorem Small.succ {s : ByteArray} {k : Nat} {C : Array Value} (h : Small s k C) (hk : k < s.size) : Small s (k + 1) (C.setIfInBounds k (.int .u8 ((lowB s[k]).toNat : Int))) := fun j hj => by
  have hlt := h.lt hj
  by_cases e : k = j
  · subst e
    rw [Array.getElem?_setIfInBounds_self_of_lt hlt, if_pos (by omega)]
  · rw [Array.getElem?_setIfInBounds_ne e, h j hj]
    by_cases h1 : j < k
    · rw [if_pos h1, if_pos (by omega)]
    · rw [if_neg h1, if_neg (by omega)]
theorem Small.back {s : ByteArray} {C : Array Value} (h : Small s s.size C) {W : World} {g : Nat} {fr : Nat × Nat} (hg : Blm W g 5 C fr) (cap : Nat) :
    (convert 62 9 (.slice (some ⟨g, 0, none⟩) s.size cap)).run Tryz.prog W = .ok (.string (lowS s)) W := by
  have := run_convert_bytes_back (P := Tryz.prog) W 62 9 5 ⟨g, 0, none⟩ cap (lowS s).data.toList Tryz.underlying62 Tryz.underlying5 Tryz.underlying9 (fun j hj => by
    have hj' : j < s.size := by
      have h2 : (lowS s).data.toList.length = (lowS s).size := by simp
      rw [lowS_size] at h2
      omega
    have e : (⟨g, 0, none⟩ : Addr).add j = ⟨g, j, none⟩ := by cases j <;> simp [Addr.add]
    rw [e, hg.cell, h j hj', if_pos hj']
    congr 3
    exact congrArg UInt8.toNat (lowS_at s j hj').symm)
  have h2 : (lowS s).data.toList.length = s.size := by
    have h3 : (lowS s).data.toList.length = (lowS s).size := by simp
    rw [h3, lowS_size]
  rw [h2] at this
  simpa using this

/-- The cells of the first k bytes, made small. -/
def smallL (s : ByteArray) (k : Nat) : List Value := (s.data.toList.take k).map fun b => .int .u8 ((lowB b).toNat : Int)
theorem smallL_succ {s : ByteArray} {k : Nat} (h : k < s.size) {x : Int} (hx : x = ((lowB s[k]).toNat : Int)) : smallL s (k + 1) = smallL s k ++ [.int .u8 x] := by
  unfold smallL
  rw [hx, List.take_add_one]
  have : s.data.toList[k]? = some s[k] := by
    rw [List.getElem?_eq_getElem (by simpa using h)]
    rfl
  rw [this]
  simp
theorem smallL_at {s : ByteArray} {j : Nat} (h : j < s.size) : (smallL s s.size)[j]? = some (.int .u8 ((lowB s[j]).toNat : Int)) := by
  unfold smallL
  rw [List.take_of_length_le (by simp), List.getElem?_map]
  have : s.data.toList[j]? = some s[j] := by
    rw [List.getElem?_eq_getElem (by simpa using h)]
    rfl
  rw [this]
  rfl
theorem small_back {s : ByteArray} {v : Value} {W : World} {base : Nat} (h : W.ownsRow base 5 1 v s.size (smallL s s.size)) :
    (convert 62 9 v).run Tryz.prog W = .ok (.string (lowS s)) W := by
  have hl : (lowS s).data.toList.length = s.size := by
    have h3 : (lowS s).data.toList.length = (lowS s).size := by simp
    rw [h3, lowS_size]
  have h' := h
  rcases h.2 with ⟨rfl, h0⟩ | ⟨g, cap, cur, rfl, _⟩
  · have e : lowS s = ByteArray.empty := by
      generalize lowS s = x at *
      cases x with | mk d => have : d = #[] := Array.eq_empty_of_size_eq_zero (by simpa using hl.trans h0); rw [this]; rfl
    rw [e]
    exact run_convert_bytes_nil (P := Tryz.prog) W 62 5 Tryz.underlying62 Tryz.underlying5 0 0 9 Tryz.underlying9
  · have := run_convert_bytes_back (P := Tryz.prog) W 62 9 5 ⟨g, 0, none⟩ cap (lowS s).data.toList Tryz.underlying62 Tryz.underlying5 Tryz.underlying9 (fun j hj => by
      have hj' : j < s.size := by omega
      have e : (⟨g, 0, none⟩ : Addr).add j = ⟨g, j, none⟩ := by cases j <;> simp [Addr.add]
      rw [e, h'.cellAt j (by omega), smallL_at hj']
      congr 3
      exact congrArg UInt8.toNat (lowS_at s j hj').symm)
    rw [hl] at this
    simpa using this

theorem Tryz.info5 : (Tryz.prog.info? 5).map (fun i => (i.zero, i.size, i.bytes)) = some (some (.int .u8 0), 1, 1) := by kernel_rfl

set_option maxHeartbeats 1600000 in
theorem refLowerS_any (s : ByteArray) (w : World) (hs : s.size ≤ 140737488351232) :
    Calls Tryz.prog 71 #[.string s] w fun e w' => e = .returned (.string (lowS s)) ∧ Below w.heap.size w w' := by
  obtain ⟨i0, hi, hz0, hz1, hz2⟩ := info_parts Tryz.info5
  go_enter Tryz.func71, Tryz.ntmps71
  go_wp2
  go_loopw [3, 4] (fun v i wr => ∃ k : Nat, k ≤ s.size ∧ i = .int .i64 k ∧ wr.ownsRow w.heap.size 5 1 v k (smallL s k) ∧ Below w.heap.size w wr) (fun _ i _ => s.size - (intOf i).toNat)
  case atStart => exact ⟨0, Nat.zero_le _, rfl, World.ownsRow_made w #[] 0 (Nat.le_refl _) (Nat.zero_le _) rfl, (Below.refl _ _).alloc (Nat.le_refl _) _⟩
  case round =>
    obtain ⟨k, hk, rfl, hown, hW⟩ := hrel
    have HO := Lib.hid hown
    have HW := Lib.hid hW
    clear hown hW
    by_cases hlt : k < s.size
    · have hb := s[k].toNat_lt
      by_cases hg : 65 ≤ s[k].toNat ∧ s[k].toNat ≤ 90
      · have g1 : (65 : Int) ≤ (s[k].toNat : Int) := by omega
        have g2 : (s[k].toNat : Int) ≤ 90 := by omega
        have HX := Lib.hid (smallL_succ (x := (s[k].toNat : Int) + 32) hlt (by
          unfold lowB
          rw [if_pos (by simpa using hg), UInt8.toNat_ofNat']
          omega))
        clear hg
        go_wp2_with (at_builtin; refine wpList_append_own _ rfl _ _ 62 rfl w.heap.size 5 i0 (.int .u8 0) 1 1 Tryz.underlying62 hi hz0 hz1 hz2 rfl (by decide) _ _ _ rfl (HO.out.alloc _) ⟨wr.heap.size, 0, none⟩ 1 1 [.int .u8 ((s[k].toNat : Int) + 32)] rfl rfl ?_ ?_ ?_ ?_ ?_ ?_)
        · intro j u hj
          match j, hj with
          | 0, hj => simp at hj; subst hj; simp [Addr.add]
        · intro u hu; simp at hu; subst hu; rfl
        · unfold maxLen; omega
        · omega
        · have := HW.out.size; simp; omega
        · intro v' w1 hown' hgrow _
          have hown2 : w1.ownsRow w.heap.size 5 1 v' (k + 1) (smallL s (k + 1)) := by rw [HX.out]; exact hown'
          have HO2 := Lib.hid hown2
          have HG := Lib.hid (Below.grown (HW.out.alloc (by have := HW.out.size; omega) _) hgrow (by have := HW.out.size; simp; omega) (fun g hg => (HO.out.lt g hg).1))
          clear hown2 hown' hgrow
          go_wp2
          go_roundw
          case rel => exact ⟨k + 1, by omega, by go_num, HO2.out, HG.out⟩
          case measure => simp [intOf]; omega
      · have HX := Lib.hid (smallL_succ (x := (s[k].toNat : Int)) hlt (by
          unfold lowB
          rw [if_neg (by simpa using hg)]))
        have hg2 : decide ((65 : Int) ≤ (s[k].toNat : Int)) = false ∨ decide ((65 : Int) ≤ (s[k].toNat : Int)) = true ∧ decide ((s[k].toNat : Int) ≤ 90) = false := by
          simp
          omega
        clear hg
        rcases hg2 with g1 | ⟨g1, g2⟩
        · go_wp2_with (at_builtin; refine wpList_append_own _ rfl _ _ 62 rfl w.heap.size 5 i0 (.int .u8 0) 1 1 Tryz.underlying62 hi hz0 hz1 hz2 rfl (by decide) _ _ _ rfl (HO.out.alloc _) ⟨wr.heap.size, 0, none⟩ 1 1 [.int .u8 ((s[k].toNat : Int))] rfl rfl ?_ ?_ ?_ ?_ ?_ ?_)
          · intro j u hj
            match j, hj with
            | 0, hj => simp at hj; subst hj; simp [Addr.add]
          · intro u hu; simp at hu; subst hu; rfl
          · unfold maxLen; omega
          · omega
          · have := HW.out.size; simp; omega
          · intro v' w1 hown' hgrow _
            have hown2 : w1.ownsRow w.heap.size 5 1 v' (k + 1) (smallL s (k + 1)) := by rw [HX.out]; exact hown'
            have HO2 := Lib.hid hown2
            have HG := Lib.hid (Below.grown (HW.out.alloc (by have := HW.out.size; omega) _) hgrow (by have := HW.out.size; simp; omega) (fun g hg => (HO.out.lt g hg).1))
            clear hown2 hown' hgrow
            go_wp2
            go_roundw
            case rel => exact ⟨k + 1, by omega, by go_num, HO2.out, HG.out⟩
            case measure => simp [intOf]; omega
        · go_wp2_with (at_builtin; refine wpList_append_own _ rfl _ _ 62 rfl w.heap.size 5 i0 (.int .u8 0) 1 1 Tryz.underlying62 hi hz0 hz1 hz2 rfl (by decide) _ _ _ rfl (HO.out.alloc _) ⟨wr.heap.size, 0, none⟩ 1 1 [.int .u8 ((s[k].toNat : Int))] rfl rfl ?_ ?_ ?_ ?_ ?_ ?_)
          · intro j u hj
            match j, hj with
            | 0, hj => simp at hj; subst hj; simp [Addr.add]
          · intro u hu; simp at hu; subst hu; rfl
          · unfold maxLen; omega
          · omega
          · have := HW.out.size; simp; omega
          · intro v' w1 hown' hgrow _
            have hown2 : w1.ownsRow w.heap.size 5 1 v' (k + 1) (smallL s (k + 1)) := by rw [HX.out]; exact hown'
            have HO2 := Lib.hid hown2
            have HG := Lib.hid (Below.grown (HW.out.alloc (by have := HW.out.size; omega) _) hgrow (by have := HW.out.size; simp; omega) (fun g hg => (HO.out.lt g hg).1))
            clear hown2 hown' hgrow
            go_wp2
            go_roundw
            case rel => exact ⟨k + 1, by omega, by go_num, HO2.out, HG.out⟩
            case measure => simp [intOf]; omega
    · obtain rfl : k = s.size := by omega
      have hback := small_back HO.out
      go_wp2
      go_ret
      exact ⟨rfl, HW.out⟩

end Go.Proofs.YtkdjjlfpaciohaaGreatDoor
