/-
  Plain facts on the four signs, and on what a body is by what its parts are. No condition.
  What Lower, Same and Begins answer, and the document's own Lower. Condition: the text is as long as a length can be.
  What Tag of package mask answers: the pattern of a text whose letters may be small or great. Condition: the text is as long as a length can be.
-/
import Derived.Test.YtjaockmbnjflaaaGreatDoorZ2
import Derived.Test.YtjaockmbnjflaaaGreatDoorZ6
import Derived.Test.YtjaockmbnjflaaaGreatDoorZ3
import Derived.Test.YtjaockmbnjflaaaGreatDoorZ1
import Derived.LoopTactic
import Derived.BigQuiet
import Derived.OneCell
import Derived.OwnWalk
import Derived.Laws.IdiomStrings
import Derived.Laws.OwnMore
import Derived.Laws.BytesArg
import Derived.Test.YtjaockmbnjflaaaGreatDoorZ5
import Derived.Laws.MakeOwn
import Derived.RegionTactic
namespace Go.Proofs.YtjaockmbnjflaaaGreatDoor

/-- The signs. -/
def sgnP : Nat → Pat
  | 0 => ⟨⟨#[37, 33, 80, 83, 45, 65, 100, 111, 98, 101, 45]⟩, ⟨#[255, 255, 255, 255, 255, 255, 255, 255, 255, 255, 255]⟩, ⟨#[]⟩, ⟨#[97, 112, 112, 108, 105, 99, 97, 116, 105, 111, 110, 47, 112, 111, 115, 116, 115, 99, 114, 105, 112, 116]⟩⟩
  | 1 => ⟨⟨#[254, 255, 0, 0]⟩, ⟨#[255, 255, 0, 0]⟩, ⟨#[]⟩, ⟨#[116, 101, 120, 116, 47, 112, 108, 97, 105, 110]⟩⟩
  | 2 => ⟨⟨#[255, 254, 0, 0]⟩, ⟨#[255, 255, 0, 0]⟩, ⟨#[]⟩, ⟨#[116, 101, 120, 116, 47, 112, 108, 97, 105, 110]⟩⟩
  | 3 => ⟨⟨#[239, 187, 191, 0]⟩, ⟨#[255, 255, 255, 0]⟩, ⟨#[]⟩, ⟨#[116, 101, 120, 116, 47, 112, 108, 97, 105, 110]⟩⟩
  | _ => ⟨⟨#[]⟩, ⟨#[]⟩, ⟨#[]⟩, ⟨#[]⟩⟩
theorem below4sgn {p : Nat → Bool} (h : (List.range 4).all p = true) {i : Nat} (hi : i < 4) : p i = true := List.all_eq_true.1 h i (List.mem_range.2 hi)
theorem sgn_small {i : Nat} (h : i < 4) : (sgnP i).b.size ≤ 11 ∧ (sgnP i).m.size ≤ 11 := by
  have := below4sgn (p := fun i => decide ((sgnP i).b.size ≤ 11) && decide ((sgnP i).m.size ≤ 11)) (by kernel_rfl) h
  simpa using this
theorem sgn_skip {i : Nat} (h : i < 4) : (sgnP i).k = ⟨#[]⟩ := emp_list (below4sgn (p := fun i => (sgnP i).k.toList.isEmpty) (by kernel_rfl) h)
theorem sgn_ok {i : Nat} (h : i < 4) : (sgnP i).ok := by
  have h1 := sgn_small h
  have h2 := sgn_skip h
  refine ⟨by omega, by omega, ?_⟩
  rw [h2]
  decide

abbrev htmY : ByteArray := ⟨#[116, 101, 120, 116, 47, 104, 116, 109, 108]⟩
abbrev xmlY : ByteArray := ⟨#[116, 101, 120, 116, 47, 120, 109, 108]⟩
abbrev pdfY : ByteArray := ⟨#[97, 112, 112, 108, 105, 99, 97, 116, 105, 111, 110, 47, 112, 100, 102]⟩
abbrev vmpY : ByteArray := ⟨#[118, 105, 100, 101, 111, 47, 109, 112, 52]⟩
abbrev vweY : ByteArray := ⟨#[118, 105, 100, 101, 111, 47, 119, 101, 98, 109]⟩
abbrev ampY : ByteArray := ⟨#[97, 117, 100, 105, 111, 47, 109, 112, 101, 103]⟩
abbrev octY : ByteArray := ⟨#[97, 112, 112, 108, 105, 99, 97, 116, 105, 111, 110, 47, 111, 99, 116, 101, 116, 45, 115, 116, 114, 101, 97, 109]⟩
abbrev plaY : ByteArray := ⟨#[116, 101, 120, 116, 47, 112, 108, 97, 105, 110]⟩
/-- Whether a text is empty. -/
def emB (t : ByteArray) : Bool := t.toList == []
/-- Whether a type is one that may have scripts within. -/
def scrB (t : ByteArray) : Bool := (t.toList == htmY.toList) || ((t.toList == xmlY.toList) || (t.toList == pdfY.toList))
theorem said_free {n : Nat} {ps : Nat → Pat} (hall : (List.range n).all (fun i => !(ps i).t.toList.isEmpty && !scrB (ps i).t) = true) {s : ByteArray} {r : Int} (h : IsFirst s ps n r) : scrB (typeOf ps r) = false := by
  unfold typeOf
  rcases h with ⟨rfl, _⟩ | ⟨k, hk, rfl, _⟩
  · rw [if_pos (by omega)]; kernel_rfl
  · rw [if_neg (by omega)]
    have := List.all_eq_true.1 hall k (List.mem_range.2 hk)
    simp at this
    exact this.2
theorem sgn_free {s : ByteArray} {r : Int} (h : IsFirst s sgnP 4 r) : scrB (typeOf sgnP r) = false := said_free (by kernel_rfl) h
theorem img_free {s : ByteArray} {r : Int} (h : IsFirst s imgP 8 r) : scrB (typeOf imgP r) = false := said_free (by kernel_rfl) h
theorem med_free {s : ByteArray} {r : Int} (h : IsFirst s medP 6 r) : scrB (typeOf medP r) = false := said_free (by kernel_rfl) h
theorem arc_free {s : ByteArray} {r : Int} (h : IsFirst s arcP 3 r) : scrB (typeOf arcP r) = false := said_free (by kernel_rfl) h

/-- What a sound or film is: by the tables (t), a film of boxes (a), of elements (b), a sound of frames (c). -/
def mdA (t : ByteArray) (a b c : Bool) : ByteArray := if emB t = false then t else if a then vmpY else if b then vweY else if c then ampY else ⟨#[]⟩
/-- The first of four that is not empty. -/
def sgA (t1 t2 t3 t4 : ByteArray) : ByteArray := if emB t1 = false then t1 else if emB t2 = false then t2 else if emB t3 = false then t3 else t4
/-- What may have scripts within: HTML (h), xmlY (x), pdfY (p). -/
def scA (h x p : Bool) : ByteArray := if h then htmY else if x then xmlY else if p then pdfY else ⟨#[]⟩
/-- What has no sign. -/
def lsA (d : Bool) : ByteArray := if d then octY else plaY
/-- What a body is. -/
def tyA (c g l : ByteArray) : ByteArray := if emB c = false then c else if emB g = false then g else l

theorem mdA_free {t : ByteArray} (h : scrB t = false) (a b c : Bool) : scrB (mdA t a b c) = false := by
  unfold mdA
  split
  · exact h
  · cases a <;> cases b <;> cases c <;> kernel_rfl
theorem sgA_free {t1 t2 t3 t4 : ByteArray} (h1 : scrB t1 = false) (h2 : scrB t2 = false) (h3 : scrB t3 = false) (h4 : scrB t4 = false) : scrB (sgA t1 t2 t3 t4) = false := by
  unfold sgA
  split
  · exact h1
  · split
    · exact h2
    · split
      · exact h3
      · exact h4
theorem scA_em (h x p : Bool) : emB (scA h x p) = (!h && (!x && !p)) := by cases h <;> cases x <;> cases p <;> kernel_rfl
theorem lsA_em (d : Bool) : emB (lsA d) = false := by cases d <;> kernel_rfl
theorem lsA_free (d : Bool) : scrB (lsA d) = false := by cases d <;> kernel_rfl
theorem em_none : emB ⟨#[]⟩ = true := by kernel_rfl
/-- Without scripts no type is one that may have scripts within, and none is empty. -/
theorem tyA_free {g : ByteArray} (h : scrB g = false) (d : Bool) : scrB (tyA ⟨#[]⟩ g (lsA d)) = false ∧ emB (tyA ⟨#[]⟩ g (lsA d)) = false := by
  unfold tyA
  rw [if_neg (by rw [em_none]; simp)]
  split
  · exact ⟨h, by assumption⟩
  · exact ⟨lsA_free d, lsA_em d⟩
theorem tyA_em (c g : ByteArray) (d : Bool) : emB (tyA c g (lsA d)) = false := by
  unfold tyA
  split
  · assumption
  · split
    · assumption
    · exact lsA_em d

theorem at_sure (u : ByteArray) (j : Nat) (h : j < u.size) : u[j]! = u[j] := getElem!_pos u j h
theorem begN_rest (s sk : ByteArray) : begN sk (restS s sk) = 0 := by
  have hz := rest_size s sk
  have hb := begN_le sk s
  by_cases h : begN sk s < s.size
  · refine begN_at (k := 0) (fun j _ hj => absurd hj (by omega)) (by omega) ?_
    have h1 : 0 < (restS s sk).size := by omega
    have e1 := at_sure (restS s sk) 0 h1
    have e2 := at_sure s (begN sk s) h
    have e3 := rest_at s sk h1
    rw [Nat.add_zero, e2] at e3
    rw [← e1, e3]
    exact begN_stop h
  · have h0 : (restS s sk).size = 0 := by omega
    have := begN_le sk (restS s sk)
    omega
/-- Behind blanks no more stand. -/
theorem rest_rest (s sk : ByteArray) : restS (restS s sk) sk = restS s sk := by
  have e : restS (restS s sk) sk = (restS s sk).extract (begN sk (restS s sk)) (restS s sk).size := rfl
  rw [e, begN_rest]
  exact ByteArray.extract_zero_size
/-- What a tag is, of a text without blanks ahead, by its pattern and its end. -/
theorem tag_end_by (s t : ByteArray) (ht : t.size ≤ 13) : tagU (restS s blk5) t = (matB (restS s blk5) (upS (ltS t)) (mskS (ltS t)) blk5 && endB (restS s blk5) (((ltS t).size : Nat) : Int)) := by
  have h := tag_by (restS s blk5) t ht
  rw [rest_rest, begN_rest, Nat.zero_add] at h
  exact h
end Go.Proofs.YtjaockmbnjflaaaGreatDoor
namespace Go.Proofs.YtjaockmbnjflaaaGreatDoor
open Go.RowKit

/-- Block g is known whole, its frozen range too. -/
def Blm (w : World) (g : Nat) (t : TypeId) (cs : Array Value) (fr : Nat × Nat) : Prop := w.heap[g]? = some (.cells cs t fr)
section
variable {w w' : World} {g : Nat} {t : TypeId} {cs : Array Value} {fr : Nat × Nat}
theorem Blm.lt (h : Blm w g t cs fr) : g < w.heap.size := by
  rcases Nat.lt_or_ge g w.heap.size with hlt | hge
  · exact hlt
  · unfold Blm at h; rw [Array.getElem?_eq_none hge] at h; cases h
theorem Blm.cell (h : Blm w g t cs fr) (i : Nat) : w.cell? ⟨g, i, none⟩ = cs[i]? := by
  unfold Blm at h; simp [World.cell?, h]
theorem Blm.frozen (h : Blm w g t cs fr) (i : Nat) (hi : i < fr.1) : w.frozen? ⟨g, i, none⟩ = false := by
  unfold Blm at h
  simp [World.frozen?, h]
  omega
theorem Blm.new (w : World) (t : TypeId) (cs : Array Value) (fr : Nat × Nat) : Blm (w.alloc (.cells cs t fr)) w.heap.size t cs fr := by
  unfold Blm
  show (w.heap.push _)[w.heap.size]? = _
  simp
theorem Blm.set_ (h : Blm w g t cs fr) (i : Nat) (u : Value) : Blm (w.setCell ⟨g, i, none⟩ u) g t (cs.setIfInBounds i u) fr := by
  unfold Blm at h ⊢
  simp [World.setCell, Array.getElem?_modify, h]
end

/-- The cells of a text of which the first k bytes are made small. -/
def Small (s : ByteArray) (k : Nat) (C : Array Value) : Prop := ∀ j (h : j < s.size), C[j]? = some (.int .u8 ((if j < k then lowB s[j] else s[j]).toNat : Int))
theorem Small.zero (s : ByteArray) (cap : Nat) : Small s 0 (bytesRow s cap) := fun j h => by
  rw [bytesRow_at s cap j h, if_neg (by omega)]
  rfl
theorem Small.lt {s : ByteArray} {k j : Nat} {C : Array Value} (h : Small s k C) (hj : j < s.size) : j < C.size := (Array.getElem?_eq_some_iff.1 (h j hj)).1
theorem Small.succ {s : ByteArray} {k : Nat} {C : Array Value} (h : Small s k C) (hk : k < s.size) : Small s (k + 1) (C.setIfInBounds k (.int .u8 ((lowB s[k]).toNat : Int))) := fun j hj => by
  have hlt := h.lt hj
  by_cases e : k = j
  · subst e
    rw [Array.getElem?_setIfInBounds_self_of_lt hlt, if_pos (by omega)]
  · rw [Array.getElem?_setIfInBounds_ne e, h j hj]
    by_cases h1 : j < k
    · rw [if_pos h1, if_pos (by omega)]
    · rw [if_neg h1, if_neg (by omega)]
theorem Small.back {s : ByteArray} {C : Array Value} (h : Small s s.size C) {W : World} {g : Nat} {fr : Nat × Nat} (hg : Blm W g 5 C fr) (cap : Nat) :
    (convert 50 9 (.slice (some ⟨g, 0, none⟩) s.size cap)).run Tryz.prog W = .ok (.string (lowS s)) W := by
  have := run_convert_bytes_back (P := Tryz.prog) W 50 9 5 ⟨g, 0, none⟩ cap (lowS s).data.toList Tryz.underlying50 Tryz.underlying5 Tryz.underlying9 (fun j hj => by
    have hj' : j < s.size := by
      have h2 : (lowS s).data.toList.length = (lowS s).size := by simp
      rw [lowS_size] at h2
      omega
    have e : (⟨g, 0, none⟩ : Addr).add j = ⟨g, j, none⟩ := by cases j <;> simp [Addr.add]
    rw [e, hg.cell, h j hj', if_pos hj']
    congr 3
    exact congrArg UInt8.toNat (lowS_at s j hj').symm)
  have h2 : (lowS s).data.toList.length = s.size := by
    have h3 : (lowS s).data.toList.length = (lowS s).size := by simp
    rw [h3, lowS_size]
  rw [h2] at this
  simpa using this

/-- The cells of the first k bytes, made small. -/
def smallL (s : ByteArray) (k : Nat) : List Value := (s.data.toList.take k).map fun b => .int .u8 ((lowB b).toNat : Int)
theorem smallL_succ {s : ByteArray} {k : Nat} (h : k < s.size) {x : Int} (hx : x = ((lowB s[k]).toNat : Int)) : smallL s (k + 1) = smallL s k ++ [.int .u8 x] := by
  unfold smallL
  rw [hx, List.take_add_one]
  have : s.data.toList[k]? = some s[k] := by
    rw [List.getElem?_eq_getElem (by simpa using h)]
    rfl
  rw [this]
  simp
theorem smallL_at {s : ByteArray} {j : Nat} (h : j < s.size) : (smallL s s.size)[j]? = some (.int .u8 ((lowB s[j]).toNat : Int)) := by
  unfold smallL
  rw [List.take_of_length_le (by simp), List.getElem?_map]
  have : s.data.toList[j]? = some s[j] := by
    rw [List.getElem?_eq_getElem (by simpa using h)]
    rfl
  rw [this]
  rfl
theorem small_back {s : ByteArray} {v : Value} {W : World} {base : Nat} (h : W.ownsRow base 5 1 v s.size (smallL s s.size)) :
    (convert 50 9 v).run Tryz.prog W = .ok (.string (lowS s)) W := by
  have hl : (lowS s).data.toList.length = s.size := by
    have h3 : (lowS s).data.toList.length = (lowS s).size := by simp
    rw [h3, lowS_size]
  have h' := h
  rcases h.2 with ⟨rfl, h0⟩ | ⟨g, cap, cur, rfl, _⟩
  · have e : lowS s = ByteArray.empty := by
      generalize lowS s = x at *
      cases x with | mk d => have : d = #[] := Array.eq_empty_of_size_eq_zero (by simpa using hl.trans h0); rw [this]; rfl
    rw [e]
    exact run_convert_bytes_nil (P := Tryz.prog) W 50 5 Tryz.underlying50 Tryz.underlying5 0 0 9 Tryz.underlying9
  · have := run_convert_bytes_back (P := Tryz.prog) W 50 9 5 ⟨g, 0, none⟩ cap (lowS s).data.toList Tryz.underlying50 Tryz.underlying5 Tryz.underlying9 (fun j hj => by
      have hj' : j < s.size := by omega
      have e : (⟨g, 0, none⟩ : Addr).add j = ⟨g, j, none⟩ := by cases j <;> simp [Addr.add]
      rw [e, h'.cellAt j (by omega), smallL_at hj']
      congr 3
      exact congrArg UInt8.toNat (lowS_at s j hj').symm)
    rw [hl] at this
    simpa using this

theorem Tryz.info5 : (Tryz.prog.info? 5).map (fun i => (i.zero, i.size, i.bytes)) = some (some (.int .u8 0), 1, 1) := by kernel_rfl

set_option maxHeartbeats 1600000 in
theorem refLowerS_any (s : ByteArray) (w : World) (hs : s.size ≤ 140737488351232) :
    Calls Tryz.prog 40 #[.string s] w fun e w' => e = .returned (.string (lowS s)) ∧ Below w.heap.size w w' := by
  obtain ⟨i0, hi, hz0, hz1, hz2⟩ := info_parts Tryz.info5
  go_enter Tryz.func40, Tryz.ntmps40
  go_wp2
  go_loopw [3, 4] (fun v i wr => ∃ k : Nat, k ≤ s.size ∧ i = .int .i64 k ∧ wr.ownsRow w.heap.size 5 1 v k (smallL s k) ∧ Below w.heap.size w wr) (fun _ i _ => s.size - (intOf i).toNat)
  case atStart => exact ⟨0, Nat.zero_le _, rfl, World.ownsRow_made w #[] 0 (Nat.le_refl _) (Nat.zero_le _) rfl, (Below.refl _ _).alloc (Nat.le_refl _) _⟩
  case round =>
    obtain ⟨k, hk, rfl, hown, hW⟩ := hrel
    have HO := Lib.hid hown
    have HW := Lib.hid hW
    clear hown hW
    by_cases hlt : k < s.size
    · have hb := s[k].toNat_lt
      by_cases hg : 65 ≤ s[k].toNat ∧ s[k].toNat ≤ 90
      · have g1 : (65 : Int) ≤ (s[k].toNat : Int) := by omega
        have g2 : (s[k].toNat : Int) ≤ 90 := by omega
        have HX := Lib.hid (smallL_succ (x := (s[k].toNat : Int) + 32) hlt (by
          unfold lowB
          rw [if_pos (by simpa using hg), UInt8.toNat_ofNat']
          omega))
        clear hg
        go_wp2_with (at_builtin; refine wpList_append_own _ rfl _ _ 50 rfl w.heap.size 5 i0 (.int .u8 0) 1 1 Tryz.underlying50 hi hz0 hz1 hz2 rfl (by decide) _ _ _ rfl (HO.out.alloc _) ⟨wr.heap.size, 0, none⟩ 1 1 [.int .u8 ((s[k].toNat : Int) + 32)] rfl rfl ?_ ?_ ?_ ?_ ?_ ?_)
        · intro j u hj
          match j, hj with
          | 0, hj => simp at hj; subst hj; simp [Addr.add]
        · intro u hu; simp at hu; subst hu; rfl
        · unfold maxLen; omega
        · omega
        · have := HW.out.size; simp; omega
        · intro v' w1 hown' hgrow _
          have hown2 : w1.ownsRow w.heap.size 5 1 v' (k + 1) (smallL s (k + 1)) := by rw [HX.out]; exact hown'
          have HO2 := Lib.hid hown2
          have HG := Lib.hid (Below.grown (HW.out.alloc (by have := HW.out.size; omega) _) hgrow (by have := HW.out.size; simp; omega) (fun g hg => (HO.out.lt g hg).1))
          clear hown2 hown' hgrow
          go_wp2
          go_roundw
          case rel => exact ⟨k + 1, by omega, by go_num, HO2.out, HG.out⟩
          case measure => simp [intOf]; omega
      · have HX := Lib.hid (smallL_succ (x := (s[k].toNat : Int)) hlt (by
          unfold lowB
          rw [if_neg (by simpa using hg)]))
        have hg2 : decide ((65 : Int) ≤ (s[k].toNat : Int)) = false ∨ decide ((65 : Int) ≤ (s[k].toNat : Int)) = true ∧ decide ((s[k].toNat : Int) ≤ 90) = false := by
          simp
          omega
        clear hg
        rcases hg2 with g1 | ⟨g1, g2⟩
        · go_wp2_with (at_builtin; refine wpList_append_own _ rfl _ _ 50 rfl w.heap.size 5 i0 (.int .u8 0) 1 1 Tryz.underlying50 hi hz0 hz1 hz2 rfl (by decide) _ _ _ rfl (HO.out.alloc _) ⟨wr.heap.size, 0, none⟩ 1 1 [.int .u8 ((s[k].toNat : Int))] rfl rfl ?_ ?_ ?_ ?_ ?_ ?_)
          · intro j u hj
            match j, hj with
            | 0, hj => simp at hj; subst hj; simp [Addr.add]
          · intro u hu; simp at hu; subst hu; rfl
          · unfold maxLen; omega
          · omega
          · have := HW.out.size; simp; omega
          · intro v' w1 hown' hgrow _
            have hown2 : w1.ownsRow w.heap.size 5 1 v' (k + 1) (smallL s (k + 1)) := by rw [HX.out]; exact hown'
            have HO2 := Lib.hid hown2
            have HG := Lib.hid (Below.grown (HW.out.alloc (by have := HW.out.size; omega) _) hgrow (by have := HW.out.size; simp; omega) (fun g hg => (HO.out.lt g hg).1))
            clear hown2 hown' hgrow
            go_wp2
            go_roundw
            case rel => exact ⟨k + 1, by omega, by go_num, HO2.out, HG.out⟩
            case measure => simp [intOf]; omega
        · go_wp2_with (at_builtin; refine wpList_append_own _ rfl _ _ 50 rfl w.heap.size 5 i0 (.int .u8 0) 1 1 Tryz.underlying50 hi hz0 hz1 hz2 rfl (by decide) _ _ _ rfl (HO.out.alloc _) ⟨wr.heap.size, 0, none⟩ 1 1 [.int .u8 ((s[k].toNat : Int))] rfl rfl ?_ ?_ ?_ ?_ ?_ ?_)
          · intro j u hj
            match j, hj with
            | 0, hj => simp at hj; subst hj; simp [Addr.add]
          · intro u hu; simp at hu; subst hu; rfl
          · unfold maxLen; omega
          · omega
          · have := HW.out.size; simp; omega
          · intro v' w1 hown' hgrow _
            have hown2 : w1.ownsRow w.heap.size 5 1 v' (k + 1) (smallL s (k + 1)) := by rw [HX.out]; exact hown'
            have HO2 := Lib.hid hown2
            have HG := Lib.hid (Below.grown (HW.out.alloc (by have := HW.out.size; omega) _) hgrow (by have := HW.out.size; simp; omega) (fun g hg => (HO.out.lt g hg).1))
            clear hown2 hown' hgrow
            go_wp2
            go_roundw
            case rel => exact ⟨k + 1, by omega, by go_num, HO2.out, HG.out⟩
            case measure => simp [intOf]; omega
    · obtain rfl : k = s.size := by omega
      have hback := small_back HO.out
      go_wp2
      go_ret
      exact ⟨rfl, HW.out⟩

end Go.Proofs.YtjaockmbnjflaaaGreatDoor
namespace Go.Proofs.YtjaockmbnjflaaaGreatDoor
open Go.RowKit

theorem make_bytes (n : Nat) (hn : n ≤ 281474976710656) (w : World) : (Instr.makeSlice 50 (.int .i64 (n : Int)) (.int .i64 (n : Int))).run Tryz.prog w = .ok (.slice (some ⟨w.heap.size, 0, none⟩) n n) (w.alloc (.cells (madeCells #[.int .u8 0] n) 5)) := by
  obtain ⟨i0, hi, hz0, hz1, hz2⟩ := info_parts Tryz.info5
  have hr := run_make (P := Tryz.prog) w 50 5 i0 _ Tryz.underlying50 hi hz0 .i64 .i64 n n (by omega) (by omega) (by rw [hz2]; omega) (by omega)
  rw [hz1] at hr
  simpa [Value.cells] using hr

/-- The cells of a text of which the first k bytes are turned by f, and the others by g. -/
def Turn (f g : UInt8 → UInt8) (s : ByteArray) (k : Nat) (C : Array Value) : Prop := ∀ j (h : j < s.size), C[j]? = some (.int .u8 (((if j < k then f s[j] else g s[j]).toNat : Nat) : Int))
section
variable {f g : UInt8 → UInt8} {s : ByteArray} {k j : Nat} {C : Array Value}
theorem Turn.lt (h : Turn f g s k C) (hj : j < s.size) : j < C.size := (Array.getElem?_eq_some_iff.1 (h j hj)).1
theorem Turn.at_ (h : Turn f g s k C) (hk : k < s.size) : C[k]? = some (.int .u8 ((g s[k]).toNat : Int)) := by
  rw [h k hk, if_neg (by omega)]
theorem Turn.succ (h : Turn f g s k C) (hk : k < s.size) {x : Int} (hx : x = ((f s[k]).toNat : Int)) : Turn f g s (k + 1) (C.setIfInBounds k (.int .u8 x)) := fun j hj => by
  have hlt := h.lt hj
  by_cases e : k = j
  · subst e
    rw [Array.getElem?_setIfInBounds_self_of_lt hlt, if_pos (by omega), hx]
  · rw [Array.getElem?_setIfInBounds_ne e, h j hj]
    by_cases h1 : j < k
    · rw [if_pos h1, if_pos (by omega)]
    · rw [if_neg h1, if_neg (by omega)]
theorem Turn.idle (h : Turn f g s k C) (hk : k < s.size) (e : f s[k] = g s[k]) : Turn f g s (k + 1) C := fun j hj => by
  rw [h j hj]
  by_cases h1 : j < k
  · rw [if_pos h1, if_pos (by omega)]
  · by_cases h2 : j = k
    · subst h2; rw [if_neg h1, if_pos (by omega), e]
    · rw [if_neg h1, if_neg (by omega)]
theorem Turn.row (f : UInt8 → UInt8) (s : ByteArray) (cap : Nat) : Turn f id s 0 (bytesRow s cap) := fun j h => by
  rw [bytesRow_at s cap j h, if_neg (by omega)]
  rfl
theorem Turn.made (f : UInt8 → UInt8) (s : ByteArray) : Turn f (fun _ => 0) s 0 (madeCells #[.int .u8 0] s.size) := fun j h => by
  rw [if_neg (by omega)]
  simp [madeCells, h, Nat.mod_one]
/-- A text of which each byte is turned. -/
def mapS (f : UInt8 → UInt8) (s : ByteArray) : ByteArray := ⟨s.data.map f⟩
theorem mapS_size (f : UInt8 → UInt8) (s : ByteArray) : (mapS f s).size = s.size := by
  show (s.data.map f).size = s.data.size
  simp
theorem mapS_at (f : UInt8 → UInt8) (s : ByteArray) (i : Nat) (h : i < s.size) : (mapS f s)[i]'(by rw [mapS_size]; exact h) = f s[i] :=
  Array.getElem_map (f := f) (xs := s.data) (i := i) (hi := by simpa using h)
theorem Turn.back (h : Turn f g s s.size C) {W : World} {b : Nat} (hg : ∀ j, W.cell? ⟨b, j, none⟩ = C[j]?) (cap : Nat) :
    (convert 50 9 (.slice (some ⟨b, 0, none⟩) s.size cap)).run Tryz.prog W = .ok (.string (mapS f s)) W := by
  have h2 : (mapS f s).data.toList.length = s.size := by
    have h3 : (mapS f s).data.toList.length = (mapS f s).size := by simp
    rw [h3, mapS_size]
  have := run_convert_bytes_back (P := Tryz.prog) W 50 9 5 ⟨b, 0, none⟩ cap (mapS f s).data.toList Tryz.underlying50 Tryz.underlying5 Tryz.underlying9 (fun j hj => by
    have hj' : j < s.size := by omega
    have e : (⟨b, 0, none⟩ : Addr).add j = ⟨b, j, none⟩ := by cases j <;> simp [Addr.add]
    rw [e, hg, h j hj', if_pos hj']
    congr 3
    exact congrArg UInt8.toNat (mapS_at f s j hj').symm)
  rw [h2] at this
  simpa using this
end

theorem upB_let {b : UInt8} (h : letB b = true) : upB b = andB b 223 ∧ mskB b = 223 := by
  unfold upB mskB
  rw [if_pos h, if_pos h]
  exact ⟨rfl, rfl⟩
theorem upB_not {b : UInt8} (h : letB b = false) : upB b = b ∧ mskB b = 255 := by
  unfold upB mskB
  rw [h]
  exact ⟨rfl, rfl⟩
theorem bits_223 (b : UInt8) : bits .and .u8 (b.toNat : Int) 223 = ((andB b 223).toNat : Int) := bits_andB b 223
theorem blm_keep {w : World} {g : Nat} {t : TypeId} {cs : Array Value} {fr : Nat × Nat} (h : Blm w g t cs fr) (o : Obj) : Blm (w.alloc o) g t cs fr := (Below.heap_alloc w o g h.lt).trans h
theorem blm_far {w : World} {g : Nat} {t : TypeId} {cs : Array Value} {fr : Nat × Nat} (h : Blm w g t cs fr) {p : Addr} (hp : g ≠ p.block) (u : Value) : Blm (w.setCell p u) g t cs fr := (Below.heap_setCell w p u g hp).trans h

set_option maxHeartbeats 2000000 in
set_option maxRecDepth 100000 in
theorem tag_any (s t : ByteArray) (w : World) (hs : s.size ≤ 140737488351232) (_ht : t.size ≤ 9223372036854775807) :
    Calls Tryz.prog 36 #[.string s, .string t] w fun e w' => e = .returned (patV (upS s) (mskS s) blk5 t) ∧ Below w.heap.size w w' := by
  have hcv := fun W => run_bytes_of_string (P := Tryz.prog) W 9 50 5 s Tryz.underlying9 Tryz.underlying50 Tryz.underlying5
  have hmk := make_bytes s.size (by omega)
  obtain ⟨w0, hw0⟩ : ∃ w0, w0 = w.alloc (.cells #[.string ⟨#[]⟩, .string ⟨#[]⟩, .string ⟨#[]⟩, .string ⟨#[]⟩] 38) := ⟨_, rfl⟩
  have HB0 := Lib.hid (show Below w.heap.size w w0 from by rw [hw0]; exact (Below.refl w.heap.size w).alloc (Nat.le_refl _) _)
  have HP0 := Lib.hid (show Blk w0 w.heap.size 38 #[.string ⟨#[]⟩, .string ⟨#[]⟩, .string ⟨#[]⟩, .string ⟨#[]⟩] from by rw [hw0]; exact Blk.new _ _ _)
  have hz : w0.heap.size = w.heap.size + 1 := by rw [hw0]; simp
  go_enter Tryz.func36, Tryz.ntmps36
  go_wp2
  rw [← hw0]
  clear hw0
  go_region
  · go_wp2_with fail
    clear hcv hmk
    generalize grownCap w0.drew s.size 0 5 = cap
    have hT0 := Turn.row upB s cap
    generalize bytesRow s cap = C0 at *
    have HT0 := Lib.hid hT0
    clear hT0
    go_loopw [7, 8, 16] (fun _ _ i wr => ∃ (k : Nat) (C D : Array Value), k ≤ s.size ∧ i = .int .i64 k ∧ Turn upB id s k C ∧ C.size = C0.size ∧ Turn mskB (fun _ => 0) s k D ∧ Blm wr (w.heap.size + 1) 5 C (C0.size, C0.size + 1) ∧ Blk wr (w.heap.size + 1 + 1) 5 D ∧ Blk wr w.heap.size 38 #[.string ⟨#[]⟩, .string ⟨#[]⟩, .string ⟨#[]⟩, .string ⟨#[]⟩] ∧ Below w.heap.size w wr) (fun _ _ i _ => s.size - (intOf i).toNat)
    case atStart => exact ⟨0, C0, _, Nat.zero_le _, rfl, HT0.out, rfl, Turn.made mskB s, by have := blm_keep (Blm.new w0.drew 5 C0 (C0.size, C0.size + 1)) (.cells (madeCells #[.int .u8 0] s.size) 5); rw [show w0.drew.heap.size = w.heap.size + 1 from hz] at this; exact this, by have := Blk.new (w0.alloc (.cells C0 5 (C0.size, C0.size + 1))) 5 (madeCells #[.int .u8 0] s.size); rw [show (w0.alloc (.cells C0 5 (C0.size, C0.size + 1))).heap.size = w.heap.size + 1 + 1 from by simp [hz]] at this; exact this, (HP0.out.alloc _).alloc _, ((HB0.out.alloc HB0.out.size _).alloc (Nat.le_trans HB0.out.size (by simp)) _).drew.drew⟩
    case round =>
      obtain ⟨k, C, D, hk, rfl, hT, hN, hD, hBg, hBm, hBp, hW⟩ := hrel
      have HT := Lib.hid hT
      have HN := Lib.hid hN
      have HD := Lib.hid hD
      have HG := Lib.hid hBg
      have HM := Lib.hid hBm
      have HP := Lib.hid hBp
      have HW := Lib.hid hW
      clear HT0 HB0 HP0 hT hN hD hBg hBm hBp hW hz
      by_cases hlt : k < s.size
      · have c0 : wr.cell? ⟨w.heap.size + 1, k, none⟩ = some (.int .u8 (s[k].toNat : Int)) := by rw [HG.out.cell, HT.out.at_ hlt]; rfl
        have z0 : wr.frozen? ⟨w.heap.size + 1, k, none⟩ = false := HG.out.frozen k (by have := HT.out.lt hlt; have := HN.out; omega)
        have c1 : wr.cell? ⟨w.heap.size + 1 + 1, k, none⟩ = some (.int .u8 0) := by rw [HM.out.cell, HD.out.at_ hlt]; rfl
        have z1 : wr.frozen? ⟨w.heap.size + 1 + 1, k, none⟩ = false := HM.out.frozen k
        cases hl : letB s[k]
        · have HU := Lib.hid (upB_not hl)
          go_wp2_with (go_at_call 59; refine (letter_any s[k] _).mono ?_; rintro e w' ⟨rfl, rfl⟩; rw [hl])
          go_roundw
          case rel => exact ⟨k + 1, C, D.setIfInBounds k (.int .u8 255), by omega, by go_num, HT.out.idle hlt HU.out.1, HN.out, HD.out.succ hlt (by rw [HU.out.2]; rfl), blm_far HG.out (by simp) _, HM.out.set_ k _, HP.out.far (by simp; try omega) _, HW.out.setCell (by simp; try omega) _⟩
          case measure => simp [intOf]; omega
        · have HU := Lib.hid (upB_let hl)
          have hbit := bits_223 s[k]
          go_wp2_with (go_at_call 59; refine (letter_any s[k] _).mono ?_; rintro e w' ⟨rfl, rfl⟩; rw [hl])
          go_roundw
          case rel => exact ⟨k + 1, C.setIfInBounds k (.int .u8 ((andB s[k] 223).toNat : Int)), (D.setIfInBounds k (.int .u8 255)).setIfInBounds k (.int .u8 223), by omega, by go_num, HT.out.succ hlt (by rw [HU.out.1]), by simpa using HN.out, by rw [Array.setIfInBounds_setIfInBounds]; exact HD.out.succ hlt (by rw [HU.out.2]; rfl), (blm_far (blm_far HG.out (by simp) _) (by simp) _).set_ k _, ((HM.out.set_ k _).set_ k _).far (by simp) _, ((HP.out.far (by simp; try omega) _).far (by simp; try omega) _).far (by simp; try omega) _, ((HW.out.setCell (by simp; try omega) _).setCell (by simp; try omega) _).setCell (by simp; try omega) _⟩
          case measure => simp [intOf]; omega
      · obtain rfl : k = s.size := by omega
        have hb1 := HT.out.back HG.out.cell
        have hb2 := HD.out.back HM.out.cell
        have p0 := HP.out.cell 0
        have p1 := HP.out.cell 1
        have p2 := HP.out.cell 2
        have p3 := HP.out.cell 3
        have q0 := HP.out.frozen 0
        have q1 := HP.out.frozen 1
        have q2 := HP.out.frozen 2
        have q3 := HP.out.frozen 3
        go_wp2
        refine bodyPost_ret (v := patV (mapS upB s) (mapS mskB s) blk5 t) (by simp [results, Tryz.results36, go_sem, p0, p1, p2, p3]; rfl) rfl ⟨rfl, ?_⟩
        exact (((HW.out.setCell (by simp) _).setCell (by simp) _).setCell (by simp) _).setCell (by simp) _
  · go_wp2_with fail
    clear hcv hmk
    generalize grownCap (w0.alloc (.cells (madeCells #[.int .u8 0] s.size) 5)).drew s.size 0 5 = cap
    have hT0 := Turn.row upB s cap
    generalize bytesRow s cap = C0 at *
    have HT0 := Lib.hid hT0
    clear hT0
    go_loopw [7, 8, 16] (fun _ _ i wr => ∃ (k : Nat) (C D : Array Value), k ≤ s.size ∧ i = .int .i64 k ∧ Turn upB id s k C ∧ C.size = C0.size ∧ Turn mskB (fun _ => 0) s k D ∧ Blm wr (w.heap.size + 1 + 1) 5 C (C0.size, C0.size + 1) ∧ Blk wr (w.heap.size + 1) 5 D ∧ Blk wr w.heap.size 38 #[.string ⟨#[]⟩, .string ⟨#[]⟩, .string ⟨#[]⟩, .string ⟨#[]⟩] ∧ Below w.heap.size w wr) (fun _ _ i _ => s.size - (intOf i).toNat)
    case atStart => exact ⟨0, C0, _, Nat.zero_le _, rfl, HT0.out, rfl, Turn.made mskB s, by have := Blm.new (w0.alloc (.cells (madeCells #[.int .u8 0] s.size) 5)) 5 C0 (C0.size, C0.size + 1); rw [show (w0.alloc (.cells (madeCells #[.int .u8 0] s.size) 5)).heap.size = w.heap.size + 1 + 1 from by simp [hz]] at this; exact this, by have := (Blk.new w0 5 (madeCells #[.int .u8 0] s.size)).alloc (.cells C0 5 (C0.size, C0.size + 1)); rw [hz] at this; exact this, (HP0.out.alloc _).alloc _, ((HB0.out.alloc HB0.out.size _).alloc (Nat.le_trans HB0.out.size (by simp)) _).drew.drew⟩
    case round =>
      obtain ⟨k, C, D, hk, rfl, hT, hN, hD, hBg, hBm, hBp, hW⟩ := hrel
      have HT := Lib.hid hT
      have HN := Lib.hid hN
      have HD := Lib.hid hD
      have HG := Lib.hid hBg
      have HM := Lib.hid hBm
      have HP := Lib.hid hBp
      have HW := Lib.hid hW
      clear HT0 HB0 HP0 hT hN hD hBg hBm hBp hW hz
      by_cases hlt : k < s.size
      · have c0 : wr.cell? ⟨w.heap.size + 1 + 1, k, none⟩ = some (.int .u8 (s[k].toNat : Int)) := by rw [HG.out.cell, HT.out.at_ hlt]; rfl
        have z0 : wr.frozen? ⟨w.heap.size + 1 + 1, k, none⟩ = false := HG.out.frozen k (by have := HT.out.lt hlt; have := HN.out; omega)
        have c1 : wr.cell? ⟨w.heap.size + 1, k, none⟩ = some (.int .u8 0) := by rw [HM.out.cell, HD.out.at_ hlt]; rfl
        have z1 : wr.frozen? ⟨w.heap.size + 1, k, none⟩ = false := HM.out.frozen k
        cases hl : letB s[k]
        · have HU := Lib.hid (upB_not hl)
          go_wp2_with (go_at_call 59; refine (letter_any s[k] _).mono ?_; rintro e w' ⟨rfl, rfl⟩; rw [hl])
          go_roundw
          case rel => exact ⟨k + 1, C, D.setIfInBounds k (.int .u8 255), by omega, by go_num, HT.out.idle hlt HU.out.1, HN.out, HD.out.succ hlt (by rw [HU.out.2]; rfl), blm_far HG.out (by simp) _, HM.out.set_ k _, HP.out.far (by simp; try omega) _, HW.out.setCell (by simp; try omega) _⟩
          case measure => simp [intOf]; omega
        · have HU := Lib.hid (upB_let hl)
          have hbit := bits_223 s[k]
          go_wp2_with (go_at_call 59; refine (letter_any s[k] _).mono ?_; rintro e w' ⟨rfl, rfl⟩; rw [hl])
          go_roundw
          case rel => exact ⟨k + 1, C.setIfInBounds k (.int .u8 ((andB s[k] 223).toNat : Int)), (D.setIfInBounds k (.int .u8 255)).setIfInBounds k (.int .u8 223), by omega, by go_num, HT.out.succ hlt (by rw [HU.out.1]), by simpa using HN.out, by rw [Array.setIfInBounds_setIfInBounds]; exact HD.out.succ hlt (by rw [HU.out.2]; rfl), (blm_far (blm_far HG.out (by simp) _) (by simp) _).set_ k _, ((HM.out.set_ k _).set_ k _).far (by simp) _, ((HP.out.far (by simp; try omega) _).far (by simp; try omega) _).far (by simp; try omega) _, ((HW.out.setCell (by simp; try omega) _).setCell (by simp; try omega) _).setCell (by simp; try omega) _⟩
          case measure => simp [intOf]; omega
      · obtain rfl : k = s.size := by omega
        have hb1 := HT.out.back HG.out.cell
        have hb2 := HD.out.back HM.out.cell
        have p0 := HP.out.cell 0
        have p1 := HP.out.cell 1
        have p2 := HP.out.cell 2
        have p3 := HP.out.cell 3
        have q0 := HP.out.frozen 0
        have q1 := HP.out.frozen 1
        have q2 := HP.out.frozen 2
        have q3 := HP.out.frozen 3
        go_wp2
        refine bodyPost_ret (v := patV (mapS upB s) (mapS mskB s) blk5 t) (by simp [results, Tryz.results36, go_sem, p0, p1, p2, p3]; rfl) rfl ⟨rfl, ?_⟩
        exact (((HW.out.setCell (by simp) _).setCell (by simp) _).setCell (by simp) _).setCell (by simp) _

end Go.Proofs.YtjaockmbnjflaaaGreatDoor
