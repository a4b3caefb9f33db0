/-
  A region that draws its order, all of whose operations read, or call what only makes memory: one walk of the text's order serves, over a class of worlds. Conditions: those of the theorem.
  What behindBlanks, Xml, Pdf, Tags and Html of package unknown answer. Condition: the text is not longer than memory.
  What the document's skip, Html and Xml of layer 20 answer. Condition: the text is not longer than memory.
-/
import Derived.Below
import Derived.Deep.QuietTactic
import Derived.BigQuiet
import Derived.Test.YtkdjjlfpaciohaaGreatDoorZ8
import Derived.Test.YtkdjjlfpaciohaaGreatDoorZ6
import Derived.Test.YtkdjjlfpaciohaaGreatDoorZ13
import Derived.Test.YtkdjjlfpaciohaaGreatDoorZ9
import Derived.Test.YtkdjjlfpaciohaaGreatDoorZ2
import Derived.LoopTactic
namespace Go.Proofs.YtkdjjlfpaciohaaGreatDoor
open Go.RowKit

/-- A world of which p holds. -/
structure Wld (p : World → Prop) where
  val : World
  ok : p val

theorem wp_region_class {P : Program} {id : Nat} {Q : Exit → Act → World → Prop} {a : Act} {w : World} {l : List Oper} (p : World → Prop) (hm : P.follows .mixedOrders = true) (hB : Region.lexB .any l.toArray = true) (hp : p w.drew)
    (h : wpQuiet P l.toArray (fun w' => ∃ x : Wld p, w' = x.val) (fun a' => ∀ w', p w' → Q .normal a' w') l a) : (Code.region id l.toArray true).wp P Q a w := by
  refine wp_region_quiet (C := fun w' => ∃ x : Wld p, w' = x.val) hm hB ⟨⟨_, hp⟩, rfl⟩ ?_
  have e : (fun a' => ∀ w', (∃ x : Wld p, w' = x.val) → Q .normal a' w') = fun a' => ∀ w', p w' → Q .normal a' w' := by
    funext a'
    exact propext ⟨fun h w' hw => h _ ⟨⟨w', hw⟩, rfl⟩, fun h w' ⟨x, hx⟩ => hx ▸ h _ x.ok⟩
  rw [e]
  simpa using h

/-- A callee's contract, met in a world of the class. -/
theorem Calls.cls {P : Program} {f : FuncId} {args : Array Value} {p : World → Prop} {x : Wld p} {v : Value} {R : World → Prop}
    (h : Calls P f args x.val fun e w' => e = .returned v ∧ R w') (hR : ∀ w', R w' → p w') : Calls P f args x.val fun e w'' => e = .returned v ∧ ∃ y : Wld p, w'' = y.val :=
  h.mono fun _ w' ⟨he, hw⟩ => ⟨he, ⟨w', hR w' hw⟩, rfl⟩

end Go.Proofs.YtkdjjlfpaciohaaGreatDoor
namespace Go.Proofs.YtkdjjlfpaciohaaGreatDoor
open Go.RowKit

set_option maxHeartbeats 400000 in
theorem ubehind_any (s : ByteArray) (w : World) (hs : s.size ≤ 140737488351232) :
    Calls Tryz.prog 100 #[.string s] w fun e w' => e = .returned (.string (restS s blk5)) ∧ Below w.heap.size w w' := by
  have HT := Lib.hid (fun W => tag_any ⟨#[60]⟩ ⟨#[]⟩ W (by decide) (by decide))
  have HG := Lib.hid (fun W => mbegins_any s (upS ⟨#[60]⟩) (mskS ⟨#[60]⟩) blk5 ⟨#[]⟩ W (by omega) (by decide))
  have hn := begN_le blk5 s
  have HV : Hid (restS s blk5 = s.extract (begN blk5 s) s.size) := Lib.hid rfl
  generalize restS s blk5 = v at *
  generalize begN blk5 s = n at *
  generalize upS ⟨#[60]⟩ = b at *
  generalize mskS ⟨#[60]⟩ = m at *
  generalize blk5 = k at *
  have HB := Lib.hid (Below.refl w.heap.size w)
  go_enter Tryz.func100, Tryz.ntmps100
  go_wp2_with (first
    | (go_at_call 102; (with_reducible refine (HT.out _).mono ?_); rintro e w1 ⟨rfl, b1⟩; have HB := Lib.hid (HB.out.trans (b1.mono HB.out.size)); clear b1)
    | (go_at_call 127; (with_reducible refine (HG.out _).mono ?_); rintro e w1 ⟨rfl, b1⟩; have HB := Lib.hid (HB.out.trans (b1.mono HB.out.size)); clear b1))
  go_ret
  exact ⟨by rw [HV.out]; first | done | rfl, HB.out⟩

set_option maxHeartbeats 400000 in
theorem uxml_any (s : ByteArray) (w : World) (hs : s.size ≤ 140737488351232) :
    Calls Tryz.prog 74 #[.string s] w fun e w' => e = .returned (.bool (xmlB s)) ∧ Below w.heap.size w w' := by
  have hz := rest_size s blk5
  have HR := Lib.hid (fun W => ubehind_any s W hs)
  have HP := Lib.hid (fun W => hasPrefix_any (restS s blk5) xmlS W (by omega) (by decide))
  have HV : Hid (xmlB s = prefB (restS s blk5) xmlS) := Lib.hid rfl
  generalize xmlB s = v at *
  generalize restS s blk5 = u at *
  generalize prefB u xmlS = o at *
  have HB := Lib.hid (Below.refl w.heap.size w)
  go_enter Tryz.func74, Tryz.ntmps74
  go_wp2_with (first
    | (go_at_call 100; (with_reducible refine (HR.out _).mono ?_); rintro e w1 ⟨rfl, b1⟩; have HB := Lib.hid (HB.out.trans (b1.mono HB.out.size)); clear b1)
    | (go_at_call 80; (with_reducible refine (HP.out _).mono ?_); rintro e w1 ⟨rfl, rfl⟩))
  go_ret
  exact ⟨by rw [HV.out]; first | done | rfl, HB.out⟩

set_option maxHeartbeats 400000 in
theorem updf_any (s : ByteArray) (w : World) (hs : s.size ≤ 140737488351232) :
    Calls Tryz.prog 75 #[.string s] w fun e w' => e = .returned (.bool (prefB s pdfS)) ∧ w = w' := by
  have HP := Lib.hid (fun W => hasPrefix_any s pdfS W (by omega) (by decide))
  generalize prefB s pdfS = o at *
  go_enter Tryz.func75, Tryz.ntmps75
  go_wp2_with (go_at_call 80; (with_reducible refine (HP.out _).mono ?_); rintro e w1 ⟨rfl, rfl⟩)
  go_ret
  exact ⟨rfl, rfl⟩

/-- The tags lie in block g. -/
def TagsIn (w : World) (g : Nat) : Prop := g < w.heap.size ∧ ∀ k (h : k < tagsL.length), w.cell? ⟨g, k, none⟩ = some (.string tagsL[k])
theorem TagsIn.of {w : World} {g : Nat} {t : TypeId} (h : Blk w g t (tagsL.map Value.string).toArray) : TagsIn w g :=
  ⟨h.lt, fun k hk => by
    rw [h.cell k, List.getElem?_toArray, List.getElem?_map, List.getElem?_eq_getElem hk]
    rfl⟩
theorem TagsIn.below {w w' : World} {g : Nat} (h : TagsIn w g) (hb : Below w.heap.size w w') : TagsIn w' g :=
  ⟨by have := hb.size; have := h.1; omega, fun k hk => (hb.cell (p := ⟨g, k, none⟩) h.1).trans (h.2 k hk)⟩
set_option maxHeartbeats 400000 in
theorem utags_any (w : World) :
    Calls Tryz.prog 101 #[] w fun e w' => ∃ g, e = .returned (.slice (some ⟨g, 0, none⟩) 16 16) ∧ w.heap.size ≤ g ∧ TagsIn w' g ∧ Below w.heap.size w w' := by
  go_enter Tryz.func101, Tryz.ntmps101
  go_wp2
  go_ret
  exact ⟨w.heap.size, rfl, Nat.le_refl _, TagsIn.of (Blk.new w 9 (tagsL.map Value.string).toArray), (Below.refl _ _).alloc (Nat.le_refl _) _⟩
set_option maxHeartbeats 400000 in
theorem rtags_any (w : World) :
    Calls Tryz.prog 70 #[] w fun e w' => ∃ g, e = .returned (.slice (some ⟨g, 0, none⟩) 16 16) ∧ w.heap.size ≤ g ∧ TagsIn w' g ∧ Below w.heap.size w w' := by
  go_enter Tryz.func70, Tryz.ntmps70
  go_wp2
  go_ret
  exact ⟨w.heap.size, rfl, Nat.le_refl _, TagsIn.of (Blk.new w 9 (tagsL.map Value.string).toArray), (Below.refl _ _).alloc (Nat.le_refl _) _⟩

/-- The worlds in which the tags lie in block g, a tag's pattern in block h, and nothing that was there has turned. -/
def HtmAt (w : World) (g h : Nat) (b m k t : ByteArray) (W : World) : Prop := Below w.heap.size w W ∧ TagsIn W g ∧ Blk W h 54 #[.string b, .string m, .string k, .string t]
section
variable {w W W' : World} {g h : Nat} {b m k t : ByteArray}
theorem HtmAt.drew (x : HtmAt w g h b m k t W) : HtmAt w g h b m k t W.drew := ⟨x.1.drew, x.2.1, x.2.2⟩
theorem HtmAt.step (x : HtmAt w g h b m k t W) (hb : Below W.heap.size W W') : HtmAt w g h b m k t W' := ⟨x.1.trans (hb.mono x.1.size), x.2.1.below hb, x.2.2.below hb x.2.2.lt⟩
theorem HtmAt.next {x : Wld (HtmAt w g h b m k t)} (hb : Below x.val.heap.size x.val W') : HtmAt w g h b m k t W' := x.ok.step hb
theorem HtmAt.same {x : Wld (HtmAt w g h b m k t)} (hb : x.val = W') : HtmAt w g h b m k t W' := hb ▸ x.ok
end

theorem any_none (u : ByteArray) {k : Nat} (h : k < tagsL.length) (h1 : (tagsL.take k).any (tagU u) = false) (h2 : tagU u tagsL[k] = false) : (tagsL.take (k + 1)).any (tagU u) = false := by
  rw [List.take_succ_eq_append_getElem h, List.any_append, h1, List.any_cons, h2]
  rfl
theorem any_one (u : ByteArray) {k : Nat} (h : k < tagsL.length) (h2 : tagU u tagsL[k] = true) : tagsL.any (tagU u) = true := List.any_eq_true.2 ⟨_, List.getElem_mem h, h2⟩
theorem any_all (u : ByteArray) {k : Nat} (hk : k = 16) (h1 : (tagsL.take k).any (tagU u) = false) : tagsL.any (tagU u) = false := by
  rwa [List.take_of_length_le (by rw [hk]; exact Nat.le_refl _)] at h1

set_option maxHeartbeats 4000000 in
set_option maxRecDepth 100000 in
theorem uhtml_any (s : ByteArray) (w : World) (hs : s.size ≤ 140737488351232) :
    Calls Tryz.prog 73 #[.string s] w fun e w' => e = .returned (.bool (htmB s)) ∧ Below w.heap.size w w' := by
  have hz := rest_size s blk5
  have HR := Lib.hid (fun W => ubehind_any s W hs)
  have HV : Hid (htmB s = (prefB (restS s blk5) comS || tagsL.any (tagU (restS s blk5)))) := Lib.hid rfl
  have HP := Lib.hid (fun W => hasPrefix_any (restS s blk5) comS W (by omega) (by decide))
  have HTU := Lib.hid (fun t (ht : t.size ≤ 13) => tag_end_by s t ht)
  generalize htmB s = v at *
  generalize restS s blk5 = u at *
  have hu : u.size ≤ 140737488351232 := by omega
  clear hz hs
  have HB := Lib.hid (Below.refl w.heap.size w)
  cases hp : prefB u comS
  · rw [hp, Bool.false_or] at HV
    rw [hp] at HP
    clear hp
    go_enter Tryz.func73, Tryz.ntmps73
    go_wp2_with (first
      | (go_at_call 100; (with_reducible refine (HR.out _).mono ?_); rintro e w1 ⟨rfl, b1⟩; have HB := Lib.hid (HB.out.trans (b1.mono HB.out.size)); clear b1)
      | (go_at_call 80; (with_reducible refine (HP.out _).mono ?_); rintro e w1 ⟨rfl, rfl⟩)
      | (go_at_call 101; refine (utags_any _).mono ?_; rintro e w1 ⟨g, rfl, hg, ht, b1⟩; have HB := Lib.hid (HB.out.trans (b1.mono HB.out.size)); have HG := Lib.hid ht; clear b1 ht hg))
    go_loopw [12] (fun i wr => ∃ k : Nat, k ≤ 16 ∧ i = .int .i64 k ∧ (tagsL.take k).any (tagU u) = false ∧ TagsIn wr g ∧ Below w.heap.size w wr) (fun i _ => 16 - (intOf i).toNat)
    case atStart => exact ⟨0, by omega, rfl, rfl, HG.out, HB.out⟩
    case round =>
      obtain ⟨k, hk, rfl, hno, hg, hw⟩ := hrel
      have HN := Lib.hid hno
      have HG := Lib.hid hg
      have HW := Lib.hid hw
      clear hno hw hg
      by_cases hlt : k < 16
      · have c0 := HG.out.2 k hlt
        obtain ⟨t, ht⟩ : ∃ t, t = tagsL[k]'hlt := ⟨_, rfl⟩
        have h13 : t.size ≤ 13 := by rw [ht]; exact tags_few _ (List.getElem_mem _)
        have HTG := Lib.hid (fun W => tag_any (⟨#[60]⟩ ++ t) htmY W (by rw [ByteArray.size_append]; show 1 + t.size ≤ _; omega) (by decide))
        have HM := Lib.hid (fun W => match_any u (upS (⟨#[60]⟩ ++ t)) (mskS (⟨#[60]⟩ ++ t)) blk5 htmY W (by omega) (by rw [upS_size, ByteArray.size_append]; show 1 + t.size ≤ _; omega) (by rw [mskS_size, ByteArray.size_append]; show 1 + t.size ≤ _; omega) (by decide))
        have HE := Lib.hid (fun W => mends_any u (((upS (⟨#[60]⟩ ++ t)).size : Nat) : Int) W (by omega))
        have HQ : Hid (tagU u t = (matB u (upS (⟨#[60]⟩ ++ t)) (mskS (⟨#[60]⟩ ++ t)) blk5 && endB u (((upS (⟨#[60]⟩ ++ t)).size : Nat) : Int))) := Lib.hid (by rw [upS_size]; exact HTU.out t h13)
        have HNY : Hid (tagU u t = false → (tagsL.take (k + 1)).any (tagU u) = false) := Lib.hid (fun h => any_none u hlt HN.out (by rw [← ht]; exact h))
        have HYY : Hid (tagU u t = true → tagsL.any (tagU u) = true) := Lib.hid (fun h => any_one u hlt (by rw [← ht]; exact h))
        rw [← ht] at c0
        have hx : (⟨#[60]⟩ ++ t : ByteArray).size ≤ 14 := by rw [ByteArray.size_append]; show 1 + t.size ≤ _; omega
        have hxb : (upS (⟨#[60]⟩ ++ t)).size ≤ 14 := by rw [upS_size]; exact hx
        generalize upS (⟨#[60]⟩ ++ t) = b at *
        generalize mskS (⟨#[60]⟩ ++ t) = m at *
        generalize blk5 = bl at *
        generalize tagU u t = q at *
        clear ht HTU
        cases hm : matB u b m bl
        · rw [hm] at HM HQ
          have HZ := Lib.hid (HNY.out (by rw [HQ.out]; rfl))
          clear hm HE HNY HYY HQ
          go_wp2_with (first
            | (go_at_call 102; (with_reducible refine (HTG.out _).mono ?_); rintro e w1 ⟨rfl, b1⟩; have HG := Lib.hid (HG.out.below b1); have HW := Lib.hid (HW.out.trans (b1.mono HW.out.size)); clear b1)
            | (go_at_call 103; (with_reducible refine (HM.out _).mono ?_); rintro e w3 ⟨rfl, b3⟩; have HX := Lib.hid ((show HtmAt w g w1.heap.size b m bl htmY (w1.alloc (.cells #[.string b, .string m, .string bl, .string htmY] 54)) from ⟨HW.out.alloc HW.out.size _, HG.out.below ((Below.refl _ _).alloc (Nat.le_refl _) _), Blk.new _ _ _⟩).step b3); have c3 := HX.out.2.2.cell 0; clear b3))
          go_roundw
          case rel => exact ⟨k + 1, by omega, by go_num, HZ.out, HX.out.2.1, HX.out.1⟩
          case measure => simp [intOf]; omega
        · rw [hm] at HM HQ
          clear hm
          cases he : endB u ((b.size : Nat) : Int)
          · rw [he] at HE HQ
            have HZ := Lib.hid (HNY.out (by rw [HQ.out]; rfl))
            clear he HNY HYY HQ
            go_wp2_with (first
            | (go_at_call 102; (with_reducible refine (HTG.out _).mono ?_); rintro e w1 ⟨rfl, b1⟩; have HG := Lib.hid (HG.out.below b1); have HW := Lib.hid (HW.out.trans (b1.mono HW.out.size)); clear b1)
            | (go_at_call 103; (with_reducible refine (HM.out _).mono ?_); rintro e w3 ⟨rfl, b3⟩; have HX := Lib.hid ((show HtmAt w g w1.heap.size b m bl htmY (w1.alloc (.cells #[.string b, .string m, .string bl, .string htmY] 54)) from ⟨HW.out.alloc HW.out.size _, HG.out.below ((Below.refl _ _).alloc (Nat.le_refl _) _), Blk.new _ _ _⟩).step b3); have c3 := HX.out.2.2.cell 0; clear b3)
            | (go_at_call 104; (with_reducible refine (HE.out _).mono ?_); rintro e w4 ⟨rfl, rfl⟩))
            go_roundw
            case rel => exact ⟨k + 1, by omega, by go_num, HZ.out, HX.out.2.1, HX.out.1⟩
            case measure => simp [intOf]; omega
          · rw [he] at HE HQ
            have HZ := Lib.hid (HYY.out (by rw [HQ.out]; rfl))
            clear he HNY HYY HQ
            go_wp2_with (first
            | (go_at_call 102; (with_reducible refine (HTG.out _).mono ?_); rintro e w1 ⟨rfl, b1⟩; have HG := Lib.hid (HG.out.below b1); have HW := Lib.hid (HW.out.trans (b1.mono HW.out.size)); clear b1)
            | (go_at_call 103; (with_reducible refine (HM.out _).mono ?_); rintro e w3 ⟨rfl, b3⟩; have HX := Lib.hid ((show HtmAt w g w1.heap.size b m bl htmY (w1.alloc (.cells #[.string b, .string m, .string bl, .string htmY] 54)) from ⟨HW.out.alloc HW.out.size _, HG.out.below ((Below.refl _ _).alloc (Nat.le_refl _) _), Blk.new _ _ _⟩).step b3); have c3 := HX.out.2.2.cell 0; clear b3)
            | (go_at_call 104; (with_reducible refine (HE.out _).mono ?_); rintro e w4 ⟨rfl, rfl⟩))
            go_ret
            exact ⟨by rw [HV.out, HZ.out]; first | done | rfl, HX.out.1⟩
      · obtain rfl : k = 16 := by omega
        have HX := Lib.hid (any_all u rfl HN.out)
        go_wp2
        go_ret
        exact ⟨by rw [HV.out, HX.out]; first | done | rfl, HW.out⟩
  · rw [hp, Bool.true_or] at HV
    rw [hp] at HP
    clear hp
    go_enter Tryz.func73, Tryz.ntmps73
    go_wp2_with (first
      | (go_at_call 100; (with_reducible refine (HR.out _).mono ?_); rintro e w1 ⟨rfl, b1⟩; have HB := Lib.hid (HB.out.trans (b1.mono HB.out.size)); clear b1)
      | (go_at_call 80; (with_reducible refine (HP.out _).mono ?_); rintro e w1 ⟨rfl, rfl⟩))
    go_ret
    exact ⟨by rw [HV.out]; first | done | rfl, HB.out⟩

end Go.Proofs.YtkdjjlfpaciohaaGreatDoor
namespace Go.Proofs.YtkdjjlfpaciohaaGreatDoor
open Go.RowKit

theorem tail_next (s : ByteArray) {k : Nat} (h : k < s.size) : (s.extract k s.size).extract 1 (s.extract k s.size).size = s.extract (k + 1) s.size := by
  have hz : (s.extract k s.size).size = s.size - k := by simp
  rw [hz, ByteArray.extract_extract]
  congr 1
  omega
theorem tail_first (s : ByteArray) {k : Nat} (h : k < s.size) (h2 : 0 < (s.extract k s.size).size) : (s.extract k s.size)[0]'h2 = s[k] := by
  simp [ByteArray.getElem_extract]

set_option maxHeartbeats 1000000 in
theorem rskip_any (s : ByteArray) (w : World) (hs : s.size ≤ 140737488351232) :
    Calls Tryz.prog 69 #[.string s] w fun e w' => e = .returned (.string (restS s blk5)) ∧ w = w' := by
  obtain ⟨v, hv⟩ : ∃ v, v = restS s blk5 := ⟨_, rfl⟩
  rw [← hv]
  have HV := Lib.hid hv
  clear hv
  go_enter Tryz.func69, Tryz.ntmps69
  go_wp2
  go_loop [0] (fun i => ∃ (k : Nat) (x : ByteArray), k ≤ s.size ∧ i = .string x ∧ x = s.extract k s.size ∧ ∀ j (hj : j < s.size), j < k → hasB blk5 s[j] = true) (fun i => (match i with | .string x => x.size | _ => 0))
  case atStart => exact ⟨0, s, by omega, rfl, ByteArray.extract_zero_size.symm, fun j _ h => absurd h (by omega)⟩
  case round =>
    obtain ⟨k, x, hk, rfl, hx, hno⟩ := hrel
    have HN := Lib.hid hno
    have HX := Lib.hid hx
    have hz : x.size = s.size - k := by rw [hx]; simp
    clear hno
    by_cases hlt : k < s.size
    · have h0 : 0 < x.size := by omega
      have HF : Hid (x[0]'h0 = s[k]) := Lib.hid (by subst hx; exact tail_first s hlt h0)
      have HT : Hid (x.extract 1 x.size = s.extract (k + 1) s.size) := Lib.hid (by subst hx; exact tail_next s hlt)
      have HC := Lib.hid (fun W => has_any ⟨#[9, 10, 12, 13, 32]⟩ (x[0]'h0) W (by decide))
      clear hx hz
      cases hh : hasB ⟨#[9, 10, 12, 13, 32]⟩ (x[0]'h0)
      · have HR : Hid (v = x) := Lib.hid (by
          rw [HV.out]
          have e : begN blk5 s = k := begN_at HN.out hlt (by rw [← HF.out]; exact hh)
          unfold restS
          rw [e, HX.out])
        rw [hh] at HC
        clear hh
        go_wp2_with (go_at_call 99; (with_reducible refine (HC.out _).mono ?_); rintro e w1 ⟨rfl, rfl⟩)
        go_ret
        exact ⟨by rw [HR.out]; first | done | rfl, rfl⟩
      · have HH := Lib.hid hh
        rw [hh] at HC
        clear hh
        go_wp2_with (go_at_call 99; (with_reducible refine (HC.out _).mono ?_); rintro e w1 ⟨rfl, rfl⟩)
        go_round
        case rel => exact ⟨k + 1, _, by omega, rfl, HT.out, fun j hj h => if e : j = k then by subst e; rw [← HF.out]; exact HH.out else HN.out j hj (by omega)⟩
        case measure => simp; omega
    · have h0 : x.size = 0 := by omega
      have HR : Hid (v = x) := Lib.hid (by
        rw [HV.out]
        have e : begN blk5 s = s.size := begN_all fun j hj => HN.out j hj (by omega)
        have e2 : k = s.size := by omega
        unfold restS
        rw [e, HX.out, e2])
      have d0 : decide (0 < x.size) = false := by rw [h0]; rfl
      clear hx hz
      go_wp2
      go_ret
      exact ⟨by rw [HR.out]; first | done | rfl, rfl⟩

set_option maxHeartbeats 400000 in
theorem rxml_any (s : ByteArray) (w : World) (hs : s.size ≤ 140737488351232) :
    Calls Tryz.prog 45 #[.string s] w fun e w' => e = .returned (.bool (xmlB s)) ∧ w = w' := by
  have hz := rest_size s blk5
  have HR := Lib.hid (fun W => rskip_any s W hs)
  have HP := Lib.hid (fun W => prefix_any (restS s blk5) xmlS W (by omega) (by decide))
  have HV : Hid (xmlB s = prefB (restS s blk5) xmlS) := Lib.hid rfl
  generalize xmlB s = v at *
  generalize restS s blk5 = u at *
  generalize prefB u xmlS = o at *
  go_enter Tryz.func45, Tryz.ntmps45
  go_wp2_with (first
    | (go_at_call 69; (with_reducible refine (HR.out _).mono ?_); rintro e w1 ⟨rfl, rfl⟩)
    | (go_at_call 46; (with_reducible refine (HP.out _).mono ?_); rintro e w1 ⟨rfl, rfl⟩))
  go_ret
  exact ⟨by rw [HV.out]; first | done | rfl, rfl⟩

/-- The worlds in which the tags lie in block g, and nothing that was there has turned. -/
def TgsAt (w : World) (g : Nat) (W : World) : Prop := Below w.heap.size w W ∧ TagsIn W g
section
variable {w W W' : World} {g : Nat}
theorem TgsAt.drew (x : TgsAt w g W) : TgsAt w g W.drew := ⟨x.1.drew, x.2⟩
theorem TgsAt.step (x : TgsAt w g W) (hb : Below W.heap.size W W') : TgsAt w g W' := ⟨x.1.trans (hb.mono x.1.size), x.2.below hb⟩
theorem TgsAt.next {x : Wld (TgsAt w g)} (hb : Below x.val.heap.size x.val W') : TgsAt w g W' := x.ok.step hb
end

theorem low_lt (t : ByteArray) : lowS (ltS t) = ⟨#[60]⟩ ++ lowS t := by
  apply ByteArray.ext
  show ((ltS t).data.map lowB) = (⟨#[60]⟩ ++ lowS t : ByteArray).data
  unfold ltS
  rw [ByteArray.data_append, ByteArray.data_append, Array.map_append]
  exact congrArg (fun z => z ++ t.data.map lowB) (show (⟨#[60]⟩ : ByteArray).data.map lowB = (⟨#[60]⟩ : ByteArray).data from by kernel_rfl)

set_option maxHeartbeats 4000000 in
set_option maxRecDepth 100000 in
theorem rhtml_any (s : ByteArray) (w : World) (hs : s.size ≤ 140737488351232) :
    Calls Tryz.prog 44 #[.string s] w fun e w' => e = .returned (.bool (htmB s)) ∧ Below w.heap.size w w' := by
  have hz := rest_size s blk5
  have HR := Lib.hid (fun W => rskip_any s W hs)
  have HV : Hid (htmB s = (prefB (restS s blk5) comS || tagsL.any (tagU (restS s blk5)))) := Lib.hid rfl
  have HP := Lib.hid (fun W => prefix_any (restS s blk5) comS W (by omega) (by decide))
  generalize htmB s = v at *
  generalize restS s blk5 = u at *
  have hu : u.size ≤ 140737488351232 := by omega
  clear hz hs
  have HB := Lib.hid (Below.refl w.heap.size w)
  cases hp : prefB u comS
  · rw [hp, Bool.false_or] at HV
    rw [hp] at HP
    clear hp
    go_enter Tryz.func44, Tryz.ntmps44
    go_wp2_with (first
      | (go_at_call 69; (with_reducible refine (HR.out _).mono ?_); rintro e w1 ⟨rfl, rfl⟩)
      | (go_at_call 46; (with_reducible refine (HP.out _).mono ?_); rintro e w1 ⟨rfl, rfl⟩)
      | (go_at_call 70; refine (rtags_any _).mono ?_; rintro e w1 ⟨g, rfl, hg, ht, b1⟩; have HB := Lib.hid (HB.out.trans (b1.mono HB.out.size)); have HG := Lib.hid ht; clear b1 ht hg))
    go_loopw [4] (fun i wr => ∃ k : Nat, k ≤ 16 ∧ i = .int .i64 k ∧ (tagsL.take k).any (tagU u) = false ∧ TgsAt w g wr) (fun i _ => 16 - (intOf i).toNat)
    case atStart => exact ⟨0, by omega, rfl, rfl, HB.out, HG.out⟩
    case round =>
      obtain ⟨k, hk, rfl, hno, hg⟩ := hrel
      have HN := Lib.hid hno
      have HX := Lib.hid hg
      clear hno hg
      by_cases hlt : k < 16
      · have c0 := HX.out.2.2 k hlt
        have inst : Nonempty (Wld (TgsAt w g)) := ⟨⟨_, HX.out⟩⟩
        have f0 : ∀ x : Wld (TgsAt w g), x.val.cell? ⟨g, k, none⟩ = some (.string (tagsL[k]'hlt)) := fun x => x.ok.2.2 k hlt
        obtain ⟨t, ht⟩ : ∃ t, t = tagsL[k]'hlt := ⟨_, rfl⟩
        have h13 : t.size ≤ 13 := by rw [ht]; exact tags_few _ (List.getElem_mem _)
        have HNY : Hid (tagU u t = false → (tagsL.take (k + 1)).any (tagU u) = false) := Lib.hid (fun h => any_none u hlt HN.out (by rw [← ht]; exact h))
        have HYY : Hid (tagU u t = true → tagsL.any (tagU u) = true) := Lib.hid (fun h => any_one u hlt (by rw [← ht]; exact h))
        obtain ⟨n, hn⟩ : ∃ n, n = t.size + 1 := ⟨_, rfl⟩
        have hni : (t.size : Int) + 1 = (n : Int) := by omega
        have HL1 := Lib.hid (fun W => refLowerS_any (u.extract 0 n) W (by simp; omega))
        have HL2 := Lib.hid (fun W => refLowerS_any t W (by omega))
        have HQ : Hid (tagU u t = (decide (n < u.size) && (((lowS (u.extract 0 n)).toList == (⟨#[60]⟩ ++ lowS t : ByteArray).toList) && (u[n]!.toNat == 32 || u[n]!.toNat == 62)))) := Lib.hid (by unfold tagU; rw [low_lt, hn])
        rw [← ht] at c0 f0
        have ha : (lowS (u.extract 0 n)).size ≤ n := by rw [lowS_size]; simp; omega
        have hc : (lowS t).size ≤ 13 := by rw [lowS_size]; exact h13
        generalize lowS (u.extract 0 n) = a at *
        generalize lowS t = c at *
        generalize tagU u t = q at *
        clear ht hn
        by_cases h1 : n < u.size
        · have d1 : decide ((n : Int) < (u.size : Int)) = true := by rw [decide_eq_true_eq]; omega
          have hbn : u[n]! = u[n] := getElem!_pos u n h1
          rw [decide_eq_true h1, Bool.true_and, hbn] at HQ
          clear hbn
          cases d2 : (a.toList == (⟨#[60]⟩ ++ c : ByteArray).toList)
          · rw [d2] at HQ
            have HZ := Lib.hid (HNY.out (by rw [HQ.out]; rfl))
            clear HNY HYY HQ
            go_wp2_with fail
            refine wp_region_class (TgsAt w g) (by kernel_rfl) (by kernel_rfl) HX.out.drew ?_
            repeat (go_big_quiet_step (first
              | (go_at_call 71; with_reducible exact Calls.cls (HL1.out _) fun _ h => TgsAt.next h)
              | (go_at_call 71; with_reducible exact Calls.cls (HL2.out _) fun _ h => TgsAt.next h)))
            refine wpQuiet_nil ?_
            intro w3 h3
            have HX := Lib.hid h3
            clear h3
            go_wp2
            go_roundw
            case rel => exact ⟨k + 1, by omega, by go_num, HZ.out, HX.out⟩
            case measure => simp [intOf]; omega
          · rw [d2, Bool.true_and] at HQ
            by_cases e3 : u[n].toNat = 32
            · have d3 : ((u[n].toNat : Int) == 32) = true := by rw [beq_iff_eq]; omega
              have HZ := Lib.hid (HYY.out (by rw [HQ.out, e3]; rfl))
              clear HNY HYY HQ e3
              go_wp2_with fail
              refine wp_region_class (TgsAt w g) (by kernel_rfl) (by kernel_rfl) HX.out.drew ?_
              repeat (go_big_quiet_step (first
                | (go_at_call 71; with_reducible exact Calls.cls (HL1.out _) fun _ h => TgsAt.next h)
                | (go_at_call 71; with_reducible exact Calls.cls (HL2.out _) fun _ h => TgsAt.next h)))
              refine wpQuiet_nil ?_
              intro w3 h3
              have HX := Lib.hid h3
              clear h3
              go_wp2
              go_ret
              exact ⟨by rw [HV.out, HZ.out]; first | done | rfl, HX.out.1⟩
            · have d3 : ((u[n].toNat : Int) == 32) = false := by rw [beq_eq_false_iff_ne]; omega
              by_cases e4 : u[n].toNat = 62
              · have d4 : ((u[n].toNat : Int) == 62) = true := by rw [beq_iff_eq]; omega
                have HZ := Lib.hid (HYY.out (by rw [HQ.out, e4]; rfl))
                clear HNY HYY HQ e3 e4
                go_wp2_with fail
                refine wp_region_class (TgsAt w g) (by kernel_rfl) (by kernel_rfl) HX.out.drew ?_
                repeat (go_big_quiet_step (first
                  | (go_at_call 71; with_reducible exact Calls.cls (HL1.out _) fun _ h => TgsAt.next h)
                  | (go_at_call 71; with_reducible exact Calls.cls (HL2.out _) fun _ h => TgsAt.next h)))
                refine wpQuiet_nil ?_
                intro w3 h3
                have HX := Lib.hid h3
                clear h3
                go_wp2
                go_ret
                exact ⟨by rw [HV.out, HZ.out]; first | done | rfl, HX.out.1⟩
              · have d4 : ((u[n].toNat : Int) == 62) = false := by rw [beq_eq_false_iff_ne]; omega
                have HZ := Lib.hid (HNY.out (by rw [HQ.out, Bool.or_eq_false_iff, beq_eq_false_iff_ne, beq_eq_false_iff_ne]; exact ⟨e3, e4⟩))
                clear HNY HYY HQ e3 e4
                go_wp2_with fail
                refine wp_region_class (TgsAt w g) (by kernel_rfl) (by kernel_rfl) HX.out.drew ?_
                repeat (go_big_quiet_step (first
                  | (go_at_call 71; with_reducible exact Calls.cls (HL1.out _) fun _ h => TgsAt.next h)
                  | (go_at_call 71; with_reducible exact Calls.cls (HL2.out _) fun _ h => TgsAt.next h)))
                refine wpQuiet_nil ?_
                intro w3 h3
                have HX := Lib.hid h3
                clear h3
                go_wp2
                go_roundw
                case rel => exact ⟨k + 1, by omega, by go_num, HZ.out, HX.out⟩
                case measure => simp [intOf]; omega
        · have d1 : decide ((n : Int) < (u.size : Int)) = false := by rw [decide_eq_false_iff_not]; omega
          rw [decide_eq_false h1] at HQ
          have HZ := Lib.hid (HNY.out (by rw [HQ.out]; rfl))
          clear HNY HYY HQ
          go_wp2_with fail
          refine wp_region_class (TgsAt w g) (by kernel_rfl) (by kernel_rfl) HX.out.drew ?_
          repeat (go_big_quiet_step (first
            | (go_at_call 71; with_reducible exact Calls.cls (HL1.out _) fun _ h => TgsAt.next h)
            | (go_at_call 71; with_reducible exact Calls.cls (HL2.out _) fun _ h => TgsAt.next h)))
          refine wpQuiet_nil ?_
          intro w3 h3
          have HX := Lib.hid h3
          clear h3
          go_wp2
          go_roundw
          case rel => exact ⟨k + 1, by omega, by go_num, HZ.out, HX.out⟩
          case measure => simp [intOf]; omega
      · obtain rfl : k = 16 := by omega
        have HX2 := Lib.hid (any_all u rfl HN.out)
        go_wp2
        go_ret
        exact ⟨by rw [HV.out, HX2.out]; first | done | rfl, HX.out.1⟩
  · rw [hp, Bool.true_or] at HV
    rw [hp] at HP
    clear hp
    go_enter Tryz.func44, Tryz.ntmps44
    go_wp2_with (first
      | (go_at_call 69; (with_reducible refine (HR.out _).mono ?_); rintro e w1 ⟨rfl, rfl⟩)
      | (go_at_call 46; (with_reducible refine (HP.out _).mono ?_); rintro e w1 ⟨rfl, rfl⟩)
      | (go_at_call 70; refine (rtags_any _).mono ?_; rintro e w1 ⟨g, rfl, hg, ht, b1⟩; have HB := Lib.hid (HB.out.trans (b1.mono HB.out.size)); clear b1 ht hg))
    go_ret
    exact ⟨by rw [HV.out]; first | done | rfl, HB.out⟩

end Go.Proofs.YtkdjjlfpaciohaaGreatDoor
