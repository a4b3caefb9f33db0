/-
  A slice of texts; what Join of the library answers, with a comma and a blank between each two; the same of package combine. Condition: a thousand texts of a thousand bytes.
  A region that draws its order, all of whose operations read, or call what only makes memory: one walk of the text's order serves, over a class of worlds. Conditions: those of the theorem.
  What behindBlanks, Xml, Pdf, Tags and Html of package unknown answer. Condition: the text is not longer than memory.
-/
import Derived.Test.YtjaockmbnjflaaaGreatDoorZ9
import Derived.Test.YtjaockmbnjflaaaGreatDoorZ3
import Derived.Test.YtjaockmbnjflaaaGreatDoorZ8
import Derived.Test.YtjaockmbnjflaaaGreatDoorZ7
import Derived.Test.YtjaockmbnjflaaaGreatDoorZ1
import Derived.BigQuiet
import Derived.Test.YtjaockmbnjflaaaGreatDoorRows
import Derived.WalkKit
import Derived.WalkSpells
import Derived.WalkLawsBesides
import Derived.Laws.Externs
import Derived.Lib.Hide
import Derived.Lib.FrozenHead2
import Derived.OneCell
import Derived.LoopTactic
import Derived.Maps.OwnSet
import Derived.Maps.AppendAt
import Derived.Laws.OwnMore
import Derived.Laws.AppendOwn
import Derived.Below
import Derived.Deep.QuietTactic
import Derived.Test.YtjaockmbnjflaaaGreatDoorZ5
namespace Go.Proofs.YtjaockmbnjflaaaGreatDoor
open Go.RowKit

/-- These texts lie behind A. -/
def TxIn (w : World) (A : Option Addr) (xs : List ByteArray) : Prop := ∀ i (h : i < xs.length), ∃ g, A = some ⟨g, 0, none⟩ ∧ g < w.heap.size ∧ w.cell? ⟨g, i, none⟩ = some (.string xs[i])
theorem TxIn.below {w w' : World} {A : Option Addr} {xs : List ByteArray} (h : TxIn w A xs) (hb : Below w.heap.size w w') : TxIn w' A xs := fun i hi => by
  obtain ⟨g, e, hl, hc⟩ := h i hi
  exact ⟨g, e, Nat.lt_of_lt_of_le hl hb.size, (hb.cell (p := ⟨g, i, none⟩) hl).trans hc⟩
theorem TxIn.nil (w : World) (A : Option Addr) : TxIn w A [] := fun i h => absurd h (by simp)
theorem TxIn.of_own {w : World} {base : Nat} {v : Value} {xs : List ByteArray} (h : w.ownsRow base 9 1 v xs.length (strs xs)) : ∃ A c, v = .slice A xs.length c ∧ TxIn w A xs ∧ xs.length ≤ c := by
  rcases h.2 with ⟨hv, hn⟩ | ⟨g, cap, cur, hv, hb, hg, hc, _⟩
  · refine ⟨none, 0, by rw [hv, hn], fun i hi => absurd hi (by omega), by omega⟩
  · refine ⟨_, cap, hv, fun i hi => ?_, hc⟩
    subst hv
    have h1 := h.cellAt i (by omega)
    refine ⟨g, rfl, (Array.getElem?_eq_some_iff.1 hg).1, h1.trans ?_⟩
    simp [strs, hi]

end Go.Proofs.YtjaockmbnjflaaaGreatDoor
namespace Go.Proofs.YtjaockmbnjflaaaGreatDoor
open Go.RowKit

/-- A world of which p holds. -/
structure Wld (p : World → Prop) where
  val : World
  ok : p val

theorem wp_region_class {P : Program} {id : Nat} {Q : Exit → Act → World → Prop} {a : Act} {w : World} {l : List Oper} (p : World → Prop) (hm : P.follows .mixedOrders = true) (hB : Region.lexB .any l.toArray = true) (hp : p w.drew)
    (h : wpQuiet P l.toArray (fun w' => ∃ x : Wld p, w' = x.val) (fun a' => ∀ w', p w' → Q .normal a' w') l a) : (Code.region id l.toArray true).wp P Q a w := by
  refine wp_region_quiet (C := fun w' => ∃ x : Wld p, w' = x.val) hm hB ⟨⟨_, hp⟩, rfl⟩ ?_
  have e : (fun a' => ∀ w', (∃ x : Wld p, w' = x.val) → Q .normal a' w') = fun a' => ∀ w', p w' → Q .normal a' w' := by
    funext a'
    exact propext ⟨fun h w' hw => h _ ⟨⟨w', hw⟩, rfl⟩, fun h w' ⟨x, hx⟩ => hx ▸ h _ x.ok⟩
  rw [e]
  simpa using h

/-- A callee's contract, met in a world of the class. -/
theorem Calls.cls {P : Program} {f : FuncId} {args : Array Value} {p : World → Prop} {x : Wld p} {v : Value} {R : World → Prop}
    (h : Calls P f args x.val fun e w' => e = .returned v ∧ R w') (hR : ∀ w', R w' → p w') : Calls P f args x.val fun e w'' => e = .returned v ∧ ∃ y : Wld p, w'' = y.val :=
  h.mono fun _ w' ⟨he, hw⟩ => ⟨he, ⟨w', hR w' hw⟩, rfl⟩

end Go.Proofs.YtjaockmbnjflaaaGreatDoor
namespace Go.Proofs.YtjaockmbnjflaaaGreatDoor
open Go.RowKit

set_option maxHeartbeats 400000 in
theorem ubehind_any (s : ByteArray) (w : World) (hs : s.size ≤ 140737488351232) :
    Calls Tryz.prog 34 #[.string s] w fun e w' => e = .returned (.string (restS s blk5)) ∧ Below w.heap.size w w' := by
  have HT := Lib.hid (fun W => tag_any ⟨#[60]⟩ ⟨#[]⟩ W (by decide) (by decide))
  have HG := Lib.hid (fun W => mbegins_any s (upS ⟨#[60]⟩) (mskS ⟨#[60]⟩) blk5 ⟨#[]⟩ W (by omega) (by decide))
  have hn := begN_le blk5 s
  have HV : Hid (restS s blk5 = s.extract (begN blk5 s) s.size) := Lib.hid rfl
  generalize restS s blk5 = v at *
  generalize begN blk5 s = n at *
  generalize upS ⟨#[60]⟩ = b at *
  generalize mskS ⟨#[60]⟩ = m at *
  generalize blk5 = k at *
  have HB := Lib.hid (Below.refl w.heap.size w)
  go_enter Tryz.func34, Tryz.ntmps34
  go_wp2_with (first
    | (go_at_call 36; (with_reducible refine (HT.out _).mono ?_); rintro e w1 ⟨rfl, b1⟩; have HB := Lib.hid (HB.out.trans (b1.mono HB.out.size)); clear b1)
    | (go_at_call 57; (with_reducible refine (HG.out _).mono ?_); rintro e w1 ⟨rfl, b1⟩; have HB := Lib.hid (HB.out.trans (b1.mono HB.out.size)); clear b1))
  go_ret
  exact ⟨by rw [HV.out]; first | done | rfl, HB.out⟩

set_option maxHeartbeats 400000 in
theorem uxml_any (s : ByteArray) (w : World) (hs : s.size ≤ 140737488351232) :
    Calls Tryz.prog 13 #[.string s] w fun e w' => e = .returned (.bool (xmlB s)) ∧ Below w.heap.size w w' := by
  have hz := rest_size s blk5
  have HR := Lib.hid (fun W => ubehind_any s W hs)
  have HP := Lib.hid (fun W => hasPrefix_any (restS s blk5) xmlS W (by omega) (by decide))
  have HV : Hid (xmlB s = prefB (restS s blk5) xmlS) := Lib.hid rfl
  generalize xmlB s = v at *
  generalize restS s blk5 = u at *
  generalize prefB u xmlS = o at *
  have HB := Lib.hid (Below.refl w.heap.size w)
  go_enter Tryz.func13, Tryz.ntmps13
  go_wp2_with (first
    | (go_at_call 34; (with_reducible refine (HR.out _).mono ?_); rintro e w1 ⟨rfl, b1⟩; have HB := Lib.hid (HB.out.trans (b1.mono HB.out.size)); clear b1)
    | (go_at_call 35; (with_reducible refine (HP.out _).mono ?_); rintro e w1 ⟨rfl, rfl⟩))
  go_ret
  exact ⟨by rw [HV.out]; first | done | rfl, HB.out⟩

set_option maxHeartbeats 400000 in
theorem updf_any (s : ByteArray) (w : World) (hs : s.size ≤ 140737488351232) :
    Calls Tryz.prog 15 #[.string s] w fun e w' => e = .returned (.bool (prefB s pdfS)) ∧ w = w' := by
  have HP := Lib.hid (fun W => hasPrefix_any s pdfS W (by omega) (by decide))
  generalize prefB s pdfS = o at *
  go_enter Tryz.func15, Tryz.ntmps15
  go_wp2_with (go_at_call 35; (with_reducible refine (HP.out _).mono ?_); rintro e w1 ⟨rfl, rfl⟩)
  go_ret
  exact ⟨rfl, rfl⟩

/-- The tags lie in block g. -/
def TagsIn (w : World) (g : Nat) : Prop := g < w.heap.size ∧ ∀ k (h : k < tagsL.length), w.cell? ⟨g, k, none⟩ = some (.string tagsL[k])
theorem TagsIn.of {w : World} {g : Nat} {t : TypeId} (h : Blk w g t (tagsL.map Value.string).toArray) : TagsIn w g :=
  ⟨h.lt, fun k hk => by
    rw [h.cell k, List.getElem?_toArray, List.getElem?_map, List.getElem?_eq_getElem hk]
    rfl⟩
theorem TagsIn.below {w w' : World} {g : Nat} (h : TagsIn w g) (hb : Below w.heap.size w w') : TagsIn w' g :=
  ⟨by have := hb.size; have := h.1; omega, fun k hk => (hb.cell (p := ⟨g, k, none⟩) h.1).trans (h.2 k hk)⟩
theorem TagsIn.txts {w : World} {g : Nat} (h : TagsIn w g) : TxIn w (some ⟨g, 0, none⟩) tagsL := fun i hi => ⟨g, rfl, h.1, h.2 i hi⟩

set_option maxHeartbeats 400000 in
theorem utags_any (w : World) :
    Calls Tryz.prog 18 #[] w fun e w' => ∃ g, e = .returned (.slice (some ⟨g, 0, none⟩) 16 16) ∧ w.heap.size ≤ g ∧ TagsIn w' g ∧ Below w.heap.size w w' := by
  go_enter Tryz.func18, Tryz.ntmps18
  go_wp2
  go_ret
  exact ⟨w.heap.size, rfl, Nat.le_refl _, TagsIn.of (Blk.new w 9 (tagsL.map Value.string).toArray), (Below.refl _ _).alloc (Nat.le_refl _) _⟩
set_option maxHeartbeats 400000 in
theorem rtags_any (w : World) :
    Calls Tryz.prog 20 #[] w fun e w' => ∃ g, e = .returned (.slice (some ⟨g, 0, none⟩) 16 16) ∧ w.heap.size ≤ g ∧ TagsIn w' g ∧ Below w.heap.size w w' := by
  go_enter Tryz.func20, Tryz.ntmps20
  go_wp2
  go_ret
  exact ⟨w.heap.size, rfl, Nat.le_refl _, TagsIn.of (Blk.new w 9 (tagsL.map Value.string).toArray), (Below.refl _ _).alloc (Nat.le_refl _) _⟩

/-- The worlds in which the tags lie in block g, a tag's pattern in block h, and nothing that was there has turned. -/
def HtmAt (w : World) (g h : Nat) (b m k t : ByteArray) (W : World) : Prop := Below w.heap.size w W ∧ TagsIn W g ∧ Blk W h 38 #[.string b, .string m, .string k, .string t]
section
variable {w W W' : World} {g h : Nat} {b m k t : ByteArray}
theorem HtmAt.drew (x : HtmAt w g h b m k t W) : HtmAt w g h b m k t W.drew := ⟨x.1.drew, x.2.1, x.2.2⟩
theorem HtmAt.step (x : HtmAt w g h b m k t W) (hb : Below W.heap.size W W') : HtmAt w g h b m k t W' := ⟨x.1.trans (hb.mono x.1.size), x.2.1.below hb, x.2.2.below hb x.2.2.lt⟩
theorem HtmAt.next {x : Wld (HtmAt w g h b m k t)} (hb : Below x.val.heap.size x.val W') : HtmAt w g h b m k t W' := x.ok.step hb
theorem HtmAt.same {x : Wld (HtmAt w g h b m k t)} (hb : x.val = W') : HtmAt w g h b m k t W' := hb ▸ x.ok
end

theorem tags_len : tagsL.length = 16 := rfl
theorem any_none (u : ByteArray) {k : Nat} (h : k < tagsL.length) (h1 : (tagsL.take k).any (tagU u) = false) (h2 : tagU u tagsL[k] = false) : (tagsL.take (k + 1)).any (tagU u) = false := by
  rw [List.take_succ_eq_append_getElem h, List.any_append, h1, List.any_cons, h2]
  rfl
theorem any_one (u : ByteArray) {k : Nat} (h : k < tagsL.length) (h2 : tagU u tagsL[k] = true) : tagsL.any (tagU u) = true := List.any_eq_true.2 ⟨_, List.getElem_mem h, h2⟩
theorem any_all (u : ByteArray) {k : Nat} (hk : k = 16) (h1 : (tagsL.take k).any (tagU u) = false) : tagsL.any (tagU u) = false := by
  rwa [List.take_of_length_le (by rw [hk]; exact Nat.le_refl _)] at h1

set_option maxHeartbeats 4000000 in
set_option maxRecDepth 100000 in
theorem uhtml_any (s : ByteArray) (w : World) (hs : s.size ≤ 140737488351232) :
    Calls Tryz.prog 11 #[.string s] w fun e w' => e = .returned (.bool (htmB s)) ∧ Below w.heap.size w w' := by
  have hz := rest_size s blk5
  have HR := Lib.hid (fun W => ubehind_any s W hs)
  have HV : Hid (htmB s = (prefB (restS s blk5) comS || tagsL.any (tagU (restS s blk5)))) := Lib.hid rfl
  have HP := Lib.hid (fun W => hasPrefix_any (restS s blk5) comS W (by omega) (by decide))
  have HTU := Lib.hid (fun t (ht : t.size ≤ 13) => tag_end_by s t ht)
  generalize htmB s = v at *
  generalize restS s blk5 = u at *
  have hu : u.size ≤ 140737488351232 := by omega
  clear hz hs
  have HB := Lib.hid (Below.refl w.heap.size w)
  cases hp : prefB u comS
  · rw [hp, Bool.false_or] at HV
    rw [hp] at HP
    clear hp
    go_enter Tryz.func11, Tryz.ntmps11
    go_wp2_with (first
      | (go_at_call 34; (with_reducible refine (HR.out _).mono ?_); rintro e w1 ⟨rfl, b1⟩; have HB := Lib.hid (HB.out.trans (b1.mono HB.out.size)); clear b1)
      | (go_at_call 35; (with_reducible refine (HP.out _).mono ?_); rintro e w1 ⟨rfl, rfl⟩)
      | (go_at_call 18; refine (utags_any _).mono ?_; rintro e w1 ⟨g, rfl, hg, ht, b1⟩; have HB := Lib.hid (HB.out.trans (b1.mono HB.out.size)); have HG := Lib.hid ht; clear b1 ht hg))
    go_loopw [12] (fun i wr => ∃ k : Nat, k ≤ 16 ∧ i = .int .i64 k ∧ (tagsL.take k).any (tagU u) = false ∧ TagsIn wr g ∧ Below w.heap.size w wr) (fun i _ => 16 - (intOf i).toNat)
    case atStart => exact ⟨0, by omega, rfl, rfl, HG.out, HB.out⟩
    case round =>
      obtain ⟨k, hk, rfl, hno, hg, hw⟩ := hrel
      have HN := Lib.hid hno
      have HG := Lib.hid hg
      have HW := Lib.hid hw
      clear hno hw hg
      by_cases hlt : k < 16
      · have c0 := HG.out.2 k hlt
        obtain ⟨t, ht⟩ : ∃ t, t = tagsL[k]'hlt := ⟨_, rfl⟩
        have h13 : t.size ≤ 13 := by rw [ht]; exact tags_few _ (List.getElem_mem _)
        have HTG := Lib.hid (fun W => tag_any (⟨#[60]⟩ ++ t) htmY W (by rw [ByteArray.size_append]; show 1 + t.size ≤ _; omega) (by decide))
        have HM := Lib.hid (fun W => match_any u (upS (⟨#[60]⟩ ++ t)) (mskS (⟨#[60]⟩ ++ t)) blk5 htmY W (by omega) (by rw [upS_size, ByteArray.size_append]; show 1 + t.size ≤ _; omega) (by rw [mskS_size, ByteArray.size_append]; show 1 + t.size ≤ _; omega) (by decide))
        have HE := Lib.hid (fun W => mends_any u (((upS (⟨#[60]⟩ ++ t)).size : Nat) : Int) W (by omega))
        have HQ : Hid (tagU u t = (matB u (upS (⟨#[60]⟩ ++ t)) (mskS (⟨#[60]⟩ ++ t)) blk5 && endB u (((upS (⟨#[60]⟩ ++ t)).size : Nat) : Int))) := Lib.hid (by rw [upS_size]; exact HTU.out t h13)
        have HNY : Hid (tagU u t = false → (tagsL.take (k + 1)).any (tagU u) = false) := Lib.hid (fun h => any_none u hlt HN.out (by rw [← ht]; exact h))
        have HYY : Hid (tagU u t = true → tagsL.any (tagU u) = true) := Lib.hid (fun h => any_one u hlt (by rw [← ht]; exact h))
        rw [← ht] at c0
        have hx : (⟨#[60]⟩ ++ t : ByteArray).size ≤ 14 := by rw [ByteArray.size_append]; show 1 + t.size ≤ _; omega
        have hxb : (upS (⟨#[60]⟩ ++ t)).size ≤ 14 := by rw [upS_size]; exact hx
        generalize upS (⟨#[60]⟩ ++ t) = b at *
        generalize mskS (⟨#[60]⟩ ++ t) = m at *
        generalize blk5 = bl at *
        generalize tagU u t = q at *
        clear ht HTU
        cases hm : matB u b m bl
        · rw [hm] at HM HQ
          have HZ := Lib.hid (HNY.out (by rw [HQ.out]; rfl))
          clear hm HE HNY HYY HQ
          go_wp2_with (first
            | (go_at_call 36; (with_reducible refine (HTG.out _).mono ?_); rintro e w1 ⟨rfl, b1⟩; have HG := Lib.hid (HG.out.below b1); have HW := Lib.hid (HW.out.trans (b1.mono HW.out.size)); clear b1)
            | (go_at_call 37; (with_reducible refine (HM.out _).mono ?_); rintro e w3 ⟨rfl, b3⟩; have HX := Lib.hid ((show HtmAt w g w1.heap.size b m bl htmY (w1.alloc (.cells #[.string b, .string m, .string bl, .string htmY] 38)) from ⟨HW.out.alloc HW.out.size _, HG.out.below ((Below.refl _ _).alloc (Nat.le_refl _) _), Blk.new _ _ _⟩).step b3); have c3 := HX.out.2.2.cell 0; clear b3))
          go_roundw
          case rel => exact ⟨k + 1, by omega, by go_num, HZ.out, HX.out.2.1, HX.out.1⟩
          case measure => simp [intOf]; omega
        · rw [hm] at HM HQ
          clear hm
          cases he : endB u ((b.size : Nat) : Int)
          · rw [he] at HE HQ
            have HZ := Lib.hid (HNY.out (by rw [HQ.out]; rfl))
            clear he HNY HYY HQ
            go_wp2_with (first
            | (go_at_call 36; (with_reducible refine (HTG.out _).mono ?_); rintro e w1 ⟨rfl, b1⟩; have HG := Lib.hid (HG.out.below b1); have HW := Lib.hid (HW.out.trans (b1.mono HW.out.size)); clear b1)
            | (go_at_call 37; (with_reducible refine (HM.out _).mono ?_); rintro e w3 ⟨rfl, b3⟩; have HX := Lib.hid ((show HtmAt w g w1.heap.size b m bl htmY (w1.alloc (.cells #[.string b, .string m, .string bl, .string htmY] 38)) from ⟨HW.out.alloc HW.out.size _, HG.out.below ((Below.refl _ _).alloc (Nat.le_refl _) _), Blk.new _ _ _⟩).step b3); have c3 := HX.out.2.2.cell 0; clear b3)
            | (go_at_call 38; (with_reducible refine (HE.out _).mono ?_); rintro e w4 ⟨rfl, rfl⟩))
            go_roundw
            case rel => exact ⟨k + 1, by omega, by go_num, HZ.out, HX.out.2.1, HX.out.1⟩
            case measure => simp [intOf]; omega
          · rw [he] at HE HQ
            have HZ := Lib.hid (HYY.out (by rw [HQ.out]; rfl))
            clear he HNY HYY HQ
            go_wp2_with (first
            | (go_at_call 36; (with_reducible refine (HTG.out _).mono ?_); rintro e w1 ⟨rfl, b1⟩; have HG := Lib.hid (HG.out.below b1); have HW := Lib.hid (HW.out.trans (b1.mono HW.out.size)); clear b1)
            | (go_at_call 37; (with_reducible refine (HM.out _).mono ?_); rintro e w3 ⟨rfl, b3⟩; have HX := Lib.hid ((show HtmAt w g w1.heap.size b m bl htmY (w1.alloc (.cells #[.string b, .string m, .string bl, .string htmY] 38)) from ⟨HW.out.alloc HW.out.size _, HG.out.below ((Below.refl _ _).alloc (Nat.le_refl _) _), Blk.new _ _ _⟩).step b3); have c3 := HX.out.2.2.cell 0; clear b3)
            | (go_at_call 38; (with_reducible refine (HE.out _).mono ?_); rintro e w4 ⟨rfl, rfl⟩))
            go_ret
            exact ⟨by rw [HV.out, HZ.out]; first | done | rfl, HX.out.1⟩
      · obtain rfl : k = 16 := by omega
        have HX := Lib.hid (any_all u rfl HN.out)
        go_wp2
        go_ret
        exact ⟨by rw [HV.out, HX.out]; first | done | rfl, HW.out⟩
  · rw [hp, Bool.true_or] at HV
    rw [hp] at HP
    clear hp
    go_enter Tryz.func11, Tryz.ntmps11
    go_wp2_with (first
      | (go_at_call 34; (with_reducible refine (HR.out _).mono ?_); rintro e w1 ⟨rfl, b1⟩; have HB := Lib.hid (HB.out.trans (b1.mono HB.out.size)); clear b1)
      | (go_at_call 35; (with_reducible refine (HP.out _).mono ?_); rintro e w1 ⟨rfl, rfl⟩))
    go_ret
    exact ⟨by rw [HV.out]; first | done | rfl, HB.out⟩

end Go.Proofs.YtjaockmbnjflaaaGreatDoor
