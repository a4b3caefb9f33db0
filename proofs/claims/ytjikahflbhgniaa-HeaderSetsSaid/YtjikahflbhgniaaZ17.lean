/-
  What the document's Sort of headers answers. Condition: texts are shorter than a mebibyte, headers no more than that.
  What the law's Few of headers leaves, and that package header is read (lives). No condition.
  Plain facts on the values of one header, as layer 11 has them: the values as one text, the types among the pieces, what becomes of a type by the next one. No condition.
-/
import Derived.Test.YtjikahflbhgniaaZ15
import Derived.Test.YtjikahflbhgniaaZ16
import Derived.Deep.RegionHeld3
import Derived.Deep.RegionWith
import Derived.Deep.DeepCutAuto
import Derived.Test.YtjikahflbhgniaaZ11
import Derived.Test.YtjikahflbhgniaaZ9
import Derived.Test.YtjikahflbhgniaaZ14
import Derived.Test.YtjikahflbhgniaaZ6
import Derived.Test.YtjikahflbhgniaaZ7
import Derived.BigQuiet
namespace Go.Proofs.Ytjikahflbhgniaa
open Go.RowKit

/-- append to a row of headers of the call's own, as a step of a region that draws. -/
theorem stepH_append {ops : Array Oper} {o : Oper} {a : Act} {w : World} {K : Act → World → Prop} {Q : Exit → Act → World → Prop} {E : Prop} (hgd : o.guard = none) (s x : Operand)
    (ho : o.op = .call { callee := .builtin .append, args := #[s, x], argTypes := #[22, 22] })
    (base : Nat) (v : Value) (n : Nat) (xs : List Value) (hs : a.eval s = v) (hown : w.ownsRow base 53 2 v n xs)
    (ad : Addr) (m c : Nat) (news : List Value) (hx : a.eval x = .slice (some ad) m c) (hl : news.length = m * 2) (hnews : ∀ j u, news[j]? = some u → w.cell? (ad.add j) = some u) (h1 : ∀ u ∈ news, u.oneCell' = true)
    (hb : n + m ≤ 4194304) (hbase : base ≤ w.heap.size)
    (h : ∀ v' w', w'.ownsRow base 53 2 v' (n + m) (xs ++ news) → w.grownBy w' v.ownBlock → K (a.put o.dst v') w') : if Region.wanted o (yielded ops a.tmps) = true then Oper.wp Try.prog o a w K Q else E := by
  rw [if_pos (by simp [Region.wanted, hgd])]
  obtain ⟨i0, hi, hz0, hz1, hz2⟩ := info_parts Try.infoHdr
  exact wp_append_own w s x 22 ho base 53 i0 _ 2 32 Try.underlying22 hi hz0 hz1 hz2 rfl (by decide) v n xs hs hown ad m c news hx hl hnews h1 (by unfold maxLen; omega) (by omega) hbase (fun v' w' h2 h3 _ => h v' w' h2 h3)
theorem two_blk {w : World} {g : Nat} {n v : ByteArray} (h : Blk w g 53 #[.string n, .string v]) : ∀ j u, ([.string n, .string v] : List Value)[j]? = some u → w.cell? ((⟨g, 0, none⟩ : Addr).add j) = some u := fun j u hj => by
  have e : (⟨g, 0, none⟩ : Addr).add j = ⟨g, j, none⟩ := by cases j <;> simp [Addr.add]
  rw [e, h.cell]
  simpa using hj
theorem ob_ge {B g x n c : Nat} (h : (Value.slice (some ⟨g, 0, none⟩) n c).ownBlock = some x) (hB : B ≤ g) : B ≤ x := by
  have e : some g = some x := h
  cases e
  exact hB
theorem ob_ne {g x n c : Nat} (h : x ≠ g) : some x ≠ (Value.slice (some ⟨g, 0, none⟩) n c).ownBlock := fun e => by
  have e2 : some x = some g := e
  cases e2
  exact h rfl
theorem HdIn.cellsB {w : World} {a : Addr} {l : List Prm} (h : HdIn w (some a) l) : ∀ W, Below w.heap.size w W → ∀ j u, (prmL l)[j]? = some u → W.cell? (a.add j) = some u := fun _ hW => (h.below hW).cells

set_option maxHeartbeats 4000000 in
set_option maxRecDepth 100000 in
theorem rsort_any (A : Option Addr) (c : Nat) (l : List Prm) (w : World) (h : HdIn w A l) (ha : AllIn 1048576 l) (hn : l.length ≤ 1048576) :
    Calls Try.prog 20 #[.slice A l.length c] w fun e w' => ∃ A' c' D, e = .returned (.slice A' D.length c') ∧ D.length = l.length ∧ Sorted l D ∧ OwnHd w' w.heap.size A' c' D ∧ Below w.heap.size w w' := by
  have HH := Lib.hid h
  have HA := Lib.hid ha
  have HALL := Lib.hid (show l.take l.length = l from List.take_length)
  have HO0 := Lib.hid (World.ownsRow_made (base := w.heap.size) (e := 53) (size := 2) w #[] 0 (Nat.le_refl _) (Nat.zero_le _) rfl)
  have HB0 := Lib.hid ((Below.refl w.heap.size w).alloc (Nat.le_refl _) (.cells #[] 53))
  clear h ha
  go_enter Try.func20, Try.ntmps20
  go_wp2
  go_loopw [3, 4] (fun v i wr => ∃ k : Nat, k ≤ l.length ∧ i = .int .i64 k ∧ ∃ b cp, v = .slice (some b) k cp ∧ ∃ D, Hid (D.length = k) ∧ Hid (Sorted (l.take k) D) ∧ Hid (OwnHd wr w.heap.size (some b) cp D) ∧ Hid (Below w.heap.size w wr)) (fun _ i _ => l.length - (intOf i).toNat)
  case atStart => exact ⟨0, by omega, rfl, _, _, rfl, [], Lib.hid rfl, Lib.hid Sorted.nil, HO0, HB0⟩
  case round =>
    obtain ⟨k, hk, rfl, b, cp, rfl, D, HDL, HSD, HO, HW⟩ := hrel
    have hwr := HW.out.size
    by_cases hlt : k < l.length
    · obtain ⟨a, rfl, hal, c0, c1⟩ := (HH.out.below HW.out) k hlt
      have hsz := HA.out.at_ hlt
      have HST := Lib.hid (fun out i => Sorted.step (out := out) (i := i) hlt)
      have HHB := Lib.hid (fun W (hW : Below wr.heap.size wr W) => (((HH.out.below HW.out).below hW) k hlt))
      obtain ⟨p, hp⟩ : ∃ p, l[k] = p := ⟨_, rfl⟩
      rw [hp] at c0 c1 hsz HST HHB
      clear hp
      obtain ⟨n0, v⟩ := p
      simp only at c0 c1 hsz
      have HL := Lib.hid (fun W => refLowerS_any n0 W (by omega))
      have HK := Lib.hid (fun W (hW : Below wr.heap.size wr W) => show W.cell? (a.add (k * 2)) = some (.string n0) ∧ W.cell? ⟨(a.add (k * 2)).block, (a.add (k * 2)).off + 1, none⟩ = some (.string v) from by
        obtain ⟨a', e, _, d0, d1⟩ := HHB.out W hW
        cases e
        exact ⟨d0, d1⟩)
      have HST := Lib.hid (show ∀ out i, Sorted (l.take k) out → (∀ x ∈ out.take i, lssN ⟨lowS n0, v⟩ x = false) → (∀ x ∈ out.drop i, lssN ⟨lowS n0, v⟩ x = true) → Sorted (l.take (k + 1)) (out.take i ++ ⟨lowS n0, v⟩ :: out.drop i) from HST.out)
      generalize lowS n0 = n at *
      clear HHB
      go_wp2_with fail
      go_cut [5] from 14 to 25 (fun s wx => ∃ hb, s = .pointer (some ⟨hb, 0, none⟩) ∧ wr.heap.size ≤ hb ∧ Blk wx hb 53 #[.string n, .string v] ∧ Below wr.heap.size wr wx)
      case first =>
        go_region_held3 (fun w' => w'.cell? (a.add (k * 2)) = some (.string n0) ∧ w'.cell? ⟨(a.add (k * 2)).block, (a.add (k * 2)).off + 1, none⟩ = some (.string v))
          (first | go_keep | exact HK.out _ HB3.out | exact HK.out _ (HB3.out.alloc HB3.out.size _) | exact HK.out _ ((HB3.out.setCell (p := ⟨wr.heap.size, 0, none⟩) (Nat.le_refl _) _).setCell (p := ⟨wr.heap.size, 1, none⟩) (Nat.le_refl _) _))
          (first | (go_at_call 42; (with_reducible refine (HL.out _).mono ?_); rintro x w3 ⟨rfl, b3⟩
                    have HB3 := Lib.hid (below_on (w := _) (by first | exact (Below.refl wr.heap.size wr).drew | exact ((Below.refl wr.heap.size wr).alloc (Nat.le_refl _) _).drew) b3)
                    first
                      | (have HX := Lib.hid (box_drew b3)
                         have x0 := HX.out.cell 0
                         have x1 := HX.out.cell 1
                         have y0 := HX.out.frozen 0
                         have y1 := HX.out.frozen 1)
                      | skip
                    clear b3))
        · go_wp2_with fail
          go_meet
          exact ⟨w3.heap.size, rfl, HB3.out.size, Blk.new w3 _ _, HB3.out.alloc HB3.out.size _⟩
        · go_wp2_with fail
          go_meet
          exact ⟨wr.heap.size, rfl, Nat.le_refl _, (HX.out.set_ 0 _).set_ 1 _, (HB3.out.setCell (p := ⟨wr.heap.size, 0, none⟩) (Nat.le_refl _) _).setCell (p := ⟨wr.heap.size, 1, none⟩) (Nat.le_refl _) _⟩
      case rest =>
        obtain ⟨hb, rfl, hge, hbox, hB⟩ := hcut
        have HX := Lib.hid hbox
        have HBx := Lib.hid (HW.out.trans (hB.mono hwr))
        have HOx := Lib.hid (HO.out.below hB (Nat.le_refl _))
        have hcp := HO.out.cap
        rw [HDL.out] at hcp
        clear hbox hB hge HO HW HK HL c0 c1 hal HO0 HB0
        have hwx := HBx.out.size
        go_wp2_with fail
        go_loopw [6] (fun s wy => ∃ m : Nat, m ≤ k ∧ s = .int .i64 m ∧ Hid (∀ x ∈ D.drop m, lssN ⟨n, v⟩ x = true) ∧ Hid (∃ q, wy = wc.drewN q)) (fun s _ => (intOf s).toNat)
        case atStart => exact ⟨k, Nat.le_refl _, rfl, Lib.hid (by rw [← HDL.out]; exact drop_none), Lib.hid ⟨0, rfl⟩⟩
        case round =>
          obtain ⟨m, hm, rfl, HGT, HDR⟩ := hrel
          have HBy := Lib.hid (show Below wc.heap.size wc wr from by obtain ⟨q, rfl⟩ := HDR.out; exact Below.drewN' (Below.refl _ _) _)
          have HXy := Lib.hid (HX.out.below HBy.out HX.out.lt)
          have HOy := Lib.hid (HOx.out.below HBy.out (Nat.le_refl _))
          have d0 := HXy.out.cell 0
          have d1 := HXy.out.cell 1
          have hmk : m ≤ cp := by omega
          rcases Nat.eq_zero_or_pos m with h0 | h0
          · have hgd : decide ((0 : Int) < (m : Int)) = false := by simp [h0]
            have hgn : decide (0 < m) = false := by simp [h0]
            have HS2 := Lib.hid (HST.out D m HSD.out (fun x hx => by rw [h0] at hx; simp at hx) HGT.out)
            clear h0
            go_wp2_with fail
            go_quiet (fail)
            go_wp2_with fail
            generalize hWq : wr.drewN nq = wq
            have HBq := Lib.hid (show Below wc.heap.size wc wq from by rw [← hWq]; exact Below.drewN' HBy.out _)
            have hwb2 : wc.heap.size ≤ wq.heap.size := HBq.out.size
            have hwb : w.heap.size ≤ wq.heap.size := Nat.le_trans hwx hwb2
            have HXq := Lib.hid (HX.out.below HBq.out HX.out.lt)
            have HOq := Lib.hid (HOx.out.below HBq.out (Nat.le_refl _))
            clear hWq d0 d1
            have HK := Lib.hid (fun W (hW : Below wq.heap.size wq W) => show W.cell? ⟨hb, 0, none⟩ = some (.string n) ∧ W.cell? ⟨hb, 1, none⟩ = some (.string v) from ⟨(HXq.out.below hW HXq.out.lt).cell 0, (HXq.out.below hW HXq.out.lt).cell 1⟩)
            have HS1C := Lib.hid (HOq.out.take (by rw [HDL.out]; exact hm)).hd.cellsB
            have HS1L := Lib.hid (show (prmL (D.take m)).length = m * 2 from by rw [prmL_len, List.length_take, HDL.out, Nat.min_eq_left hm])
            have HS3L := Lib.hid (show (prmL (D.drop m)).length = (k - m) * 2 from by rw [prmL_len, List.length_drop, HDL.out])
            obtain ⟨A3, hA3, hT⟩ : ∃ A3, (if cp = m then some b else some (b.add (m * 2))) = some A3 ∧ HdIn wq (some A3) (D.drop m) := by
              by_cases hc : cp = m
              · exact ⟨b, if_pos hc, by rw [List.drop_of_length_le (by rw [HDL.out]; omega)]; exact HdIn.nil _ _⟩
              · exact ⟨_, if_neg hc, HOq.out.hd.tail m⟩
            have HS3C := Lib.hid hT.cellsB
            clear hT
            refine wp_region_held_drew (S := fun w' => w'.cell? ⟨hb, 0, none⟩ = some (.string n) ∧ w'.cell? ⟨hb, 1, none⟩ = some (.string v)) (by kernel_rfl) (HK.out _ (Below.refl wq.heap.size wq).drew) (fun hHeld => ?_)
            refine wpAnyH_take (i := 1) (oi := ⟨some 44, _, _, _, _, _⟩) (v := ?_) rfl (by kernel_rfl) (by kernel_rfl) (by kernel_rfl) (fun _ _ _ h => h) (Or.inl ⟨by rfl, ?_⟩) hHeld ?_
            rotate_left
            focus (intro wq hSw; (try dsimp only at hSw); go_simp; try with_reducible rfl; done)
            simp only [Act.put, List.setIfInBounds_toArray, List.set_cons_zero, List.set_cons_succ]
            refine wpAnyH_take (i := 2) (oi := ⟨some 45, _, _, _, _, _⟩) (v := ?_) rfl (by kernel_rfl) (by kernel_rfl) (by kernel_rfl) (fun _ _ _ h => h) (Or.inl ⟨by rfl, ?_⟩) hHeld ?_
            rotate_left
            focus (intro wq hSw; (try dsimp only at hSw); go_simp; try with_reducible rfl; done)
            simp only [Act.put, List.setIfInBounds_toArray, List.set_cons_zero, List.set_cons_succ]
            refine wpAnyH_take (i := 3) (oi := ⟨some 46, _, _, _, _, _⟩) (v := ?_) rfl (by kernel_rfl) (by kernel_rfl) (by kernel_rfl) (fun _ _ _ h => h) (Or.inl ⟨by rfl, ?_⟩) hHeld ?_
            rotate_left
            focus (intro wq hSw; (try dsimp only at hSw); go_simp; try with_reducible rfl; done)
            simp only [Act.put, List.setIfInBounds_toArray, List.set_cons_zero, List.set_cons_succ]
            refine wpAnyH_take (i := 5) (oi := ⟨some 48, _, _, _, _, _⟩) (v := ?_) rfl (by kernel_rfl) (by kernel_rfl) (by kernel_rfl) (fun _ _ _ h => h) (Or.inl ⟨by rfl, ?_⟩) hHeld ?_
            rotate_left
            focus (intro wq hSw; (try dsimp only at hSw); go_simp; try with_reducible rfl; done)
            simp only [Act.put, List.setIfInBounds_toArray, List.set_cons_zero, List.set_cons_succ]
            refine wpAnyH_take (i := 8) (oi := ⟨some 51, _, _, _, _, _⟩) (v := ?_) rfl (by kernel_rfl) (by kernel_rfl) (by kernel_rfl) (fun _ _ _ h => h) (Or.inl ⟨by rfl, ?_⟩) hHeld ?_
            rotate_left
            focus (intro wq hSw; (try dsimp only at hSw); go_simp; try with_reducible rfl; done)
            simp only [Act.put, List.setIfInBounds_toArray, List.set_cons_zero, List.set_cons_succ]
            refine wpAnyH_take (i := 9) (oi := ⟨some 52, _, _, _, _, _⟩) (v := ?_) rfl (by kernel_rfl) (by kernel_rfl) (by kernel_rfl) (fun _ _ _ h => h) (Or.inl ⟨by rfl, ?_⟩) hHeld ?_
            rotate_left
            focus (intro wq hSw; (try dsimp only at hSw); go_simp; try with_reducible rfl; done)
            simp only [Act.put, List.setIfInBounds_toArray, List.set_cons_zero, List.set_cons_succ]
            refine wpAnyH_take (i := 10) (oi := ⟨some 53, _, _, _, _, _⟩) (v := ?_) rfl (by kernel_rfl) (by kernel_rfl) (by kernel_rfl) (fun _ _ _ h => h) (Or.inl ⟨by rfl, ?_⟩) hHeld ?_
            rotate_left
            focus (intro wq hSw; (try dsimp only at hSw); go_simp; try with_reducible rfl; done)
            simp only [Act.put, List.setIfInBounds_toArray, List.set_cons_zero, List.set_cons_succ]
            refine wpAnyH_ready (rs := [0, 6]) (by kernel_rfl) (by simp) ?_
            refine AllReadyH.cons (o := ⟨some 43, _, _, _, _, _⟩) rfl (fun K hK => ?_) (AllReadyH.cons (o := ⟨some 49, _, _, _, _, _⟩) rfl (fun K hK => ?_) AllReadyH.nil)
            · go_simp
              refine hK.out _ _ (HK.out _ (((Below.refl wq.heap.size wq).alloc (Nat.le_refl _) (.cells #[] 53)).drew)) (fun hHeld => ?_)
              clear hK K
              try simp only [Act.put, List.setIfInBounds_toArray, List.set_cons_zero, List.set_cons_succ]
              refine wpAnyH_ready (rs := [4, 6]) (by kernel_rfl) (by simp) ?_
              refine AllReadyH.cons (o := ⟨some 47, _, _, _, _, _⟩) rfl (fun K hK => ?_) (AllReadyH.cons (o := ⟨some 49, _, _, _, _, _⟩) rfl (fun K hK => ?_) AllReadyH.nil)
              · have hmade := World.ownsRow_made (base := wq.heap.size) (e := 53) (size := 2) wq #[] 0 (Nat.le_refl _) (Nat.zero_le _) rfl
                refine stepH_append rfl _ _ rfl wq.heap.size (.slice (some ⟨wq.heap.size, 0, none⟩) 0 0) 0 [] rfl (by exact hmade) b m cp _ rfl HS1L.out (HS1C.out _ (((Below.refl wq.heap.size wq).alloc (Nat.le_refl _) (.cells #[] 53)).drew)) (hdL_one _) (by omega) (by first | (simp only [World.size_alloc]; omega) | (simp only [World.size_drew, World.size_alloc]; omega)) ?_
                intro v1 W1 ho1 hg1
                have HB1 := Lib.hid (show Below wq.heap.size wq W1 from (((Below.refl wq.heap.size wq).alloc (Nat.le_refl _) (.cells #[] 53)).drew).grown hg1 (by first | (simp only [World.size_alloc]; omega) | (simp only [World.size_drew, World.size_alloc]; omega)) (fun _ e => ob_ge e (by omega)))
                have HO1 := Lib.hid ho1
                have hs1 := HB1.out.size
                clear ho1 hg1 hmade
                refine hK.out _ _ (HK.out _ (HB1.out)) (fun hHeld => ?_)
                clear hK K
                try simp only [Act.put, List.setIfInBounds_toArray, List.set_cons_zero, List.set_cons_succ]
                refine wpAnyH_ready (rs := [6]) (by kernel_rfl) (by simp) ?_
                refine AllReadyH.cons (o := ⟨some 49, _, _, _, _, _⟩) rfl (fun K hK => ?_) AllReadyH.nil
                go_simp
                refine hK.out _ _ (HK.out _ (HB1.out.alloc HB1.out.size (.cells #[.string n, .string v] 53))) (fun hHeld => ?_)
                clear hK K
                try simp only [Act.put, List.setIfInBounds_toArray, List.set_cons_zero, List.set_cons_succ]
                refine wpAnyH_ready (rs := [7]) (by kernel_rfl) (by simp) ?_
                refine AllReadyH.cons (o := ⟨some 50, _, _, _, _, _⟩) rfl (fun K hK => ?_) AllReadyH.nil
                refine stepH_append rfl _ _ rfl wq.heap.size v1 _ _ rfl (HO1.out.alloc _) ⟨W1.heap.size, 0, none⟩ 1 1 [.string n, .string v] rfl rfl (two_new W1 n v) two_one22 (by omega) (by (try simp only [World.size_alloc]); omega) ?_
                intro v2 W2 ho2 hg2
                have HB2 := Lib.hid (show Below wq.heap.size wq W2 from (HB1.out.alloc HB1.out.size (.cells #[.string n, .string v] 53)).grown hg2 (by (try simp only [World.size_alloc]); omega) (fun g hg => (HO1.out.lt g hg).1))
                have HO2 := Lib.hid ho2
                have hs2 := HB2.out.size
                clear ho2 hg2 HO1 HB1
                refine hK.out _ _ (HK.out _ (HB2.out)) (fun hHeld => ?_)
                clear hK K
                try simp only [Act.put, List.setIfInBounds_toArray, List.set_cons_zero, List.set_cons_succ]
                refine wpAnyH_ready (rs := [11]) (by kernel_rfl) (by simp) ?_
                refine AllReadyH.cons (o := ⟨some 54, _, _, _, _, _⟩) rfl (fun K hK => ?_) AllReadyH.nil
                refine stepH_append rfl _ _ rfl wq.heap.size v2 _ _ rfl HO2.out A3 (k - m) (cp - m) _ rfl HS3L.out (HS3C.out _ HB2.out) (hdL_one _) (by omega) (by omega) ?_
                intro v3 W3 ho3 hg3
                have HB3 := Lib.hid (show Below wq.heap.size wq W3 from HB2.out.grown hg3 (by omega) (fun g hg => (HO2.out.lt g hg).1))
                have HO3 := Lib.hid ho3
                clear ho3 hg3 HO2 HB2
                refine hK.out _ _ (HK.out _ (HB3.out)) (fun hHeld => ?_)
                clear hK K
                try simp only [Act.put, List.setIfInBounds_toArray, List.set_cons_zero, List.set_cons_succ]
                refine wpAnyH_take (i := 12) (oi := ⟨some 3, _, _, _, _, _⟩) (v := ?_) rfl (by kernel_rfl) (by kernel_rfl) (by kernel_rfl) (fun _ _ _ h => h) (Or.inl ⟨by rfl, ?_⟩) hHeld ?_
                rotate_left
                focus (intro wq hSw; (try dsimp only at hSw); go_simp; try with_reducible rfl; done)
                simp only [Act.put, List.setIfInBounds_toArray, List.set_cons_zero, List.set_cons_succ]
                refine wpAnyH_done (by kernel_rfl) ?_ _
                have HO4 := Lib.hid (show W3.ownsRow w.heap.size 53 2 v3 (k + 1) (prmL (D.take m ++ ⟨n, v⟩ :: D.drop m)) from by
                  have := own_base HO3.out (b := w.heap.size) (by omega)
                  rw [show 0 + m + 1 + (k - m) = k + 1 by omega] at this
                  have e : prmL (D.take m ++ ⟨n, v⟩ :: D.drop m) = [] ++ prmL (D.take m) ++ [.string n, .string v] ++ prmL (D.drop m) := by rw [prmL_app]; simp [prmL]
                  rw [e]; exact this)
                obtain ⟨b4, c4, rfl⟩ : ∃ b4 c4, v3 = .slice (some b4) (k + 1) c4 := by
                  rcases HO4.out.2 with ⟨_, h2⟩ | ⟨g, cap, _, h1, _⟩
                  · omega
                  · exact ⟨_, cap, h1⟩
                have HL4 := Lib.hid (show (D.take m ++ ⟨n, v⟩ :: D.drop m).length = k + 1 from by simp [HDL.out]; omega)
                have HB4 := Lib.hid (HBx.out.trans ((HBq.out.trans (HB3.out.mono hwb2)).mono hwx))
                clear HO3 HB3 hHeld
                go_wp2_with fail
                go_roundw
                case rel => exact ⟨k + 1, by omega, by go_num, b4, c4, rfl, _, HL4, HS2, Lib.hid (by unfold OwnHd; rw [HL4.out]; exact HO4.out), HB4⟩
                case measure => simp [intOf]; omega
              · go_simp
                refine hK.out _ _ (HK.out _ ((((Below.refl wq.heap.size wq).alloc (Nat.le_refl _) (.cells #[] 53)).alloc (by first | (simp only [World.size_alloc]; omega) | (simp only [World.size_drew, World.size_alloc]; omega)) (.cells #[.string n, .string v] 53)).drew)) (fun hHeld => ?_)
                clear hK K
                try simp only [Act.put, List.setIfInBounds_toArray, List.set_cons_zero, List.set_cons_succ]
                refine wpAnyH_ready (rs := [4]) (by kernel_rfl) (by simp) ?_
                refine AllReadyH.cons (o := ⟨some 47, _, _, _, _, _⟩) rfl (fun K hK => ?_) AllReadyH.nil
                have hmade := (World.ownsRow_made (base := wq.heap.size) (e := 53) (size := 2) wq #[] 0 (Nat.le_refl _) (Nat.zero_le _) rfl).alloc (.cells #[.string n, .string v] 53)
                have hbox := Blk.new (wq.alloc (.cells #[] 53)) 53 #[.string n, .string v]
                rw [World.size_alloc] at hbox
                refine stepH_append rfl _ _ rfl wq.heap.size (.slice (some ⟨wq.heap.size, 0, none⟩) 0 0) 0 [] rfl (by exact hmade) b m cp _ rfl HS1L.out (HS1C.out _ ((((Below.refl wq.heap.size wq).alloc (Nat.le_refl _) (.cells #[] 53)).alloc (by first | (simp only [World.size_alloc]; omega) | (simp only [World.size_drew, World.size_alloc]; omega)) (.cells #[.string n, .string v] 53)).drew)) (hdL_one _) (by omega) (by first | (simp only [World.size_alloc]; omega) | (simp only [World.size_drew, World.size_alloc]; omega)) ?_
                intro v1 W1 ho1 hg1
                have HB1 := Lib.hid (show Below wq.heap.size wq W1 from ((((Below.refl wq.heap.size wq).alloc (Nat.le_refl _) (.cells #[] 53)).alloc (by first | (simp only [World.size_alloc]; omega) | (simp only [World.size_drew, World.size_alloc]; omega)) (.cells #[.string n, .string v] 53)).drew).grown hg1 (by first | (simp only [World.size_alloc]; omega) | (simp only [World.size_drew, World.size_alloc]; omega)) (fun _ e => ob_ge e (by omega)))
                have HO1 := Lib.hid ho1
                have hs1 := HB1.out.size
                have HX1 := Lib.hid (show Blk W1 (wq.heap.size + 1) 53 #[.string n, .string v] from (hg1.block (wq.heap.size + 1) (by first | (simp only [World.size_alloc]; omega) | (simp only [World.size_drew, World.size_alloc]; omega)) (ob_ne (by omega))).trans hbox)
                clear ho1 hg1 hmade hbox
                refine hK.out _ _ (HK.out _ (HB1.out)) (fun hHeld => ?_)
                clear hK K
                try simp only [Act.put, List.setIfInBounds_toArray, List.set_cons_zero, List.set_cons_succ]
                refine wpAnyH_ready (rs := [7]) (by kernel_rfl) (by simp) ?_
                refine AllReadyH.cons (o := ⟨some 50, _, _, _, _, _⟩) rfl (fun K hK => ?_) AllReadyH.nil
                refine stepH_append rfl _ _ rfl wq.heap.size v1 _ _ rfl (HO1.out) ⟨wq.heap.size + 1, 0, none⟩ 1 1 [.string n, .string v] rfl rfl (two_blk HX1.out) two_one22 (by omega) (by (try simp only [World.size_alloc]); omega) ?_
                intro v2 W2 ho2 hg2
                have HB2 := Lib.hid (show Below wq.heap.size wq W2 from (HB1.out).grown hg2 (by (try simp only [World.size_alloc]); omega) (fun g hg => (HO1.out.lt g hg).1))
                have HO2 := Lib.hid ho2
                have hs2 := HB2.out.size
                clear ho2 hg2 HO1 HB1
                refine hK.out _ _ (HK.out _ (HB2.out)) (fun hHeld => ?_)
                clear hK K
                try simp only [Act.put, List.setIfInBounds_toArray, List.set_cons_zero, List.set_cons_succ]
                refine wpAnyH_ready (rs := [11]) (by kernel_rfl) (by simp) ?_
                refine AllReadyH.cons (o := ⟨some 54, _, _, _, _, _⟩) rfl (fun K hK => ?_) AllReadyH.nil
                refine stepH_append rfl _ _ rfl wq.heap.size v2 _ _ rfl HO2.out A3 (k - m) (cp - m) _ rfl HS3L.out (HS3C.out _ HB2.out) (hdL_one _) (by omega) (by omega) ?_
                intro v3 W3 ho3 hg3
                have HB3 := Lib.hid (show Below wq.heap.size wq W3 from HB2.out.grown hg3 (by omega) (fun g hg => (HO2.out.lt g hg).1))
                have HO3 := Lib.hid ho3
                clear ho3 hg3 HO2 HB2
                refine hK.out _ _ (HK.out _ (HB3.out)) (fun hHeld => ?_)
                clear hK K
                try simp only [Act.put, List.setIfInBounds_toArray, List.set_cons_zero, List.set_cons_succ]
                refine wpAnyH_take (i := 12) (oi := ⟨some 3, _, _, _, _, _⟩) (v := ?_) rfl (by kernel_rfl) (by kernel_rfl) (by kernel_rfl) (fun _ _ _ h => h) (Or.inl ⟨by rfl, ?_⟩) hHeld ?_
                rotate_left
                focus (intro wq hSw; (try dsimp only at hSw); go_simp; try with_reducible rfl; done)
                simp only [Act.put, List.setIfInBounds_toArray, List.set_cons_zero, List.set_cons_succ]
                refine wpAnyH_done (by kernel_rfl) ?_ _
                have HO4 := Lib.hid (show W3.ownsRow w.heap.size 53 2 v3 (k + 1) (prmL (D.take m ++ ⟨n, v⟩ :: D.drop m)) from by
                  have := own_base HO3.out (b := w.heap.size) (by omega)
                  rw [show 0 + m + 1 + (k - m) = k + 1 by omega] at this
                  have e : prmL (D.take m ++ ⟨n, v⟩ :: D.drop m) = [] ++ prmL (D.take m) ++ [.string n, .string v] ++ prmL (D.drop m) := by rw [prmL_app]; simp [prmL]
                  rw [e]; exact this)
                obtain ⟨b4, c4, rfl⟩ : ∃ b4 c4, v3 = .slice (some b4) (k + 1) c4 := by
                  rcases HO4.out.2 with ⟨_, h2⟩ | ⟨g, cap, _, h1, _⟩
                  · omega
                  · exact ⟨_, cap, h1⟩
                have HL4 := Lib.hid (show (D.take m ++ ⟨n, v⟩ :: D.drop m).length = k + 1 from by simp [HDL.out]; omega)
                have HB4 := Lib.hid (HBx.out.trans ((HBq.out.trans (HB3.out.mono hwb2)).mono hwx))
                clear HO3 HB3 hHeld
                go_wp2_with fail
                go_roundw
                case rel => exact ⟨k + 1, by omega, by go_num, b4, c4, rfl, _, HL4, HS2, Lib.hid (by unfold OwnHd; rw [HL4.out]; exact HO4.out), HB4⟩
                case measure => simp [intOf]; omega
            · go_simp
              refine hK.out _ _ (HK.out _ (((Below.refl wq.heap.size wq).alloc (Nat.le_refl _) (.cells #[.string n, .string v] 53)).drew)) (fun hHeld => ?_)
              clear hK K
              try simp only [Act.put, List.setIfInBounds_toArray, List.set_cons_zero, List.set_cons_succ]
              refine wpAnyH_ready (rs := [0]) (by kernel_rfl) (by simp) ?_
              refine AllReadyH.cons (o := ⟨some 43, _, _, _, _, _⟩) rfl (fun K hK => ?_) AllReadyH.nil
              go_simp
              refine hK.out _ _ (HK.out _ ((((Below.refl wq.heap.size wq).alloc (Nat.le_refl _) (.cells #[.string n, .string v] 53)).alloc (by first | (simp only [World.size_alloc]; omega) | (simp only [World.size_drew, World.size_alloc]; omega)) (.cells #[] 53)).drew)) (fun hHeld => ?_)
              clear hK K
              try simp only [Act.put, List.setIfInBounds_toArray, List.set_cons_zero, List.set_cons_succ]
              refine wpAnyH_ready (rs := [4]) (by kernel_rfl) (by simp) ?_
              refine AllReadyH.cons (o := ⟨some 47, _, _, _, _, _⟩) rfl (fun K hK => ?_) AllReadyH.nil
              have hmade := World.ownsRow_made (base := wq.heap.size) (e := 53) (size := 2) (wq.alloc (.cells #[.string n, .string v] 53)) #[] 0 (by first | (simp only [World.size_alloc]; omega) | (simp only [World.size_drew, World.size_alloc]; omega)) (Nat.zero_le _) rfl
              rw [World.size_alloc] at hmade
              have hbox := (Blk.new wq 53 #[.string n, .string v]).alloc (.cells #[] 53)
              refine stepH_append rfl _ _ rfl wq.heap.size (.slice (some ⟨wq.heap.size + 1, 0, none⟩) 0 0) 0 [] rfl (by exact hmade) b m cp _ rfl HS1L.out (HS1C.out _ ((((Below.refl wq.heap.size wq).alloc (Nat.le_refl _) (.cells #[.string n, .string v] 53)).alloc (by first | (simp only [World.size_alloc]; omega) | (simp only [World.size_drew, World.size_alloc]; omega)) (.cells #[] 53)).drew)) (hdL_one _) (by omega) (by first | (simp only [World.size_alloc]; omega) | (simp only [World.size_drew, World.size_alloc]; omega)) ?_
              intro v1 W1 ho1 hg1
              have HB1 := Lib.hid (show Below wq.heap.size wq W1 from ((((Below.refl wq.heap.size wq).alloc (Nat.le_refl _) (.cells #[.string n, .string v] 53)).alloc (by first | (simp only [World.size_alloc]; omega) | (simp only [World.size_drew, World.size_alloc]; omega)) (.cells #[] 53)).drew).grown hg1 (by first | (simp only [World.size_alloc]; omega) | (simp only [World.size_drew, World.size_alloc]; omega)) (fun _ e => ob_ge e (by omega)))
              have HO1 := Lib.hid ho1
              have hs1 := HB1.out.size
              have HX1 := Lib.hid (show Blk W1 wq.heap.size 53 #[.string n, .string v] from (hg1.block wq.heap.size (by first | (simp only [World.size_alloc]; omega) | (simp only [World.size_drew, World.size_alloc]; omega)) (ob_ne (by omega))).trans hbox)
              clear ho1 hg1 hmade hbox
              refine hK.out _ _ (HK.out _ (HB1.out)) (fun hHeld => ?_)
              clear hK K
              try simp only [Act.put, List.setIfInBounds_toArray, List.set_cons_zero, List.set_cons_succ]
              refine wpAnyH_ready (rs := [7]) (by kernel_rfl) (by simp) ?_
              refine AllReadyH.cons (o := ⟨some 50, _, _, _, _, _⟩) rfl (fun K hK => ?_) AllReadyH.nil
              refine stepH_append rfl _ _ rfl wq.heap.size v1 _ _ rfl (HO1.out) ⟨wq.heap.size, 0, none⟩ 1 1 [.string n, .string v] rfl rfl (two_blk HX1.out) two_one22 (by omega) (by (try simp only [World.size_alloc]); omega) ?_
              intro v2 W2 ho2 hg2
              have HB2 := Lib.hid (show Below wq.heap.size wq W2 from (HB1.out).grown hg2 (by (try simp only [World.size_alloc]); omega) (fun g hg => (HO1.out.lt g hg).1))
              have HO2 := Lib.hid ho2
              have hs2 := HB2.out.size
              clear ho2 hg2 HO1 HB1
              refine hK.out _ _ (HK.out _ (HB2.out)) (fun hHeld => ?_)
              clear hK K
              try simp only [Act.put, List.setIfInBounds_toArray, List.set_cons_zero, List.set_cons_succ]
              refine wpAnyH_ready (rs := [11]) (by kernel_rfl) (by simp) ?_
              refine AllReadyH.cons (o := ⟨some 54, _, _, _, _, _⟩) rfl (fun K hK => ?_) AllReadyH.nil
              refine stepH_append rfl _ _ rfl wq.heap.size v2 _ _ rfl HO2.out A3 (k - m) (cp - m) _ rfl HS3L.out (HS3C.out _ HB2.out) (hdL_one _) (by omega) (by omega) ?_
              intro v3 W3 ho3 hg3
              have HB3 := Lib.hid (show Below wq.heap.size wq W3 from HB2.out.grown hg3 (by omega) (fun g hg => (HO2.out.lt g hg).1))
              have HO3 := Lib.hid ho3
              clear ho3 hg3 HO2 HB2
              refine hK.out _ _ (HK.out _ (HB3.out)) (fun hHeld => ?_)
              clear hK K
              try simp only [Act.put, List.setIfInBounds_toArray, List.set_cons_zero, List.set_cons_succ]
              refine wpAnyH_take (i := 12) (oi := ⟨some 3, _, _, _, _, _⟩) (v := ?_) rfl (by kernel_rfl) (by kernel_rfl) (by kernel_rfl) (fun _ _ _ h => h) (Or.inl ⟨by rfl, ?_⟩) hHeld ?_
              rotate_left
              focus (intro wq hSw; (try dsimp only at hSw); go_simp; try with_reducible rfl; done)
              simp only [Act.put, List.setIfInBounds_toArray, List.set_cons_zero, List.set_cons_succ]
              refine wpAnyH_done (by kernel_rfl) ?_ _
              have HO4 := Lib.hid (show W3.ownsRow w.heap.size 53 2 v3 (k + 1) (prmL (D.take m ++ ⟨n, v⟩ :: D.drop m)) from by
                have := own_base HO3.out (b := w.heap.size) (by omega)
                rw [show 0 + m + 1 + (k - m) = k + 1 by omega] at this
                have e : prmL (D.take m ++ ⟨n, v⟩ :: D.drop m) = [] ++ prmL (D.take m) ++ [.string n, .string v] ++ prmL (D.drop m) := by rw [prmL_app]; simp [prmL]
                rw [e]; exact this)
              obtain ⟨b4, c4, rfl⟩ : ∃ b4 c4, v3 = .slice (some b4) (k + 1) c4 := by
                rcases HO4.out.2 with ⟨_, h2⟩ | ⟨g, cap, _, h1, _⟩
                · omega
                · exact ⟨_, cap, h1⟩
              have HL4 := Lib.hid (show (D.take m ++ ⟨n, v⟩ :: D.drop m).length = k + 1 from by simp [HDL.out]; omega)
              have HB4 := Lib.hid (HBx.out.trans ((HBq.out.trans (HB3.out.mono hwb2)).mono hwx))
              clear HO3 HB3 hHeld
              go_wp2_with fail
              go_roundw
              case rel => exact ⟨k + 1, by omega, by go_num, b4, c4, rfl, _, HL4, HS2, Lib.hid (by unfold OwnHd; rw [HL4.out]; exact HO4.out), HB4⟩
              case measure => simp [intOf]; omega
          · obtain ⟨m', hm'⟩ : ∃ m', m = m' + 1 := ⟨m - 1, by omega⟩
            have hgd : decide ((0 : Int) < (m : Int)) = true := by simpa using h0
            have hsub : (m : Int) - 1 = (m' : Int) := by omega
            have hsub2 : IntKind.i64.wrap ((m : Int) - 1) = (m' : Int) := by rw [hsub]; exact IntWalk.i64_in _ (by omega)
            have hmD : m' < D.length := by rw [HDL.out]; omega
            have hmk' : m' < k := by omega
            have HRUN := Lib.hid (show lssN ⟨n, v⟩ D[m'] = false → ∀ x ∈ D.take m, lssN ⟨n, v⟩ x = false from fun h => by rw [hm']; exact run_order HSD.out.1 hmD h)
            have HDP := Lib.hid (show lssN ⟨n, v⟩ D[m'] = true → ∀ x ∈ D.drop m', lssN ⟨n, v⟩ x = true from fun h => drop_all (P := fun x => lssN ⟨n, v⟩ x = true) hmD h (by rw [← hm']; exact HGT.out))
            obtain ⟨b', e', hbl, e0, e1⟩ := HOy.out.hd m' hmD
            cases e'
            obtain ⟨p, hp⟩ : ∃ p, D[m'] = p := ⟨_, rfl⟩
            rw [hp] at e0 e1 HRUN HDP
            clear hp
            obtain ⟨qn, qv⟩ := p
            simp only at e0 e1
            have HMM := Lib.hid hm'
            clear hm' hsub
            have HLS := Lib.hid (show lssN ⟨n, v⟩ ⟨qn, qv⟩ = Op.bytesLess n.toList qn.toList from rfl)
            obtain ⟨z, hz⟩ : ∃ z, (!(Op.bytesLess qn.toList n.toList || qn.toList == n.toList)) = z := ⟨_, rfl⟩
            cases z
            · have HS2 := Lib.hid (HST.out D m HSD.out (HRUN.out (by rw [HLS.out]; exact gtr_no hz)) HGT.out)
              clear HRUN HDP
              go_wp2_with fail
              go_quiet (fail)
              go_wp2_with fail
              generalize hWq : wr.drewN nq = wq
              have HBq := Lib.hid (show Below wc.heap.size wc wq from by rw [← hWq]; exact Below.drewN' HBy.out _)
              have hwb2 : wc.heap.size ≤ wq.heap.size := HBq.out.size
              have hwb : w.heap.size ≤ wq.heap.size := Nat.le_trans hwx hwb2
              have HXq := Lib.hid (HX.out.below HBq.out HX.out.lt)
              have HOq := Lib.hid (HOx.out.below HBq.out (Nat.le_refl _))
              clear hWq d0 d1
              have HK := Lib.hid (fun W (hW : Below wq.heap.size wq W) => show W.cell? ⟨hb, 0, none⟩ = some (.string n) ∧ W.cell? ⟨hb, 1, none⟩ = some (.string v) from ⟨(HXq.out.below hW HXq.out.lt).cell 0, (HXq.out.below hW HXq.out.lt).cell 1⟩)
              have HS1C := Lib.hid (HOq.out.take (by rw [HDL.out]; exact hm)).hd.cellsB
              have HS1L := Lib.hid (show (prmL (D.take m)).length = m * 2 from by rw [prmL_len, List.length_take, HDL.out, Nat.min_eq_left hm])
              have HS3L := Lib.hid (show (prmL (D.drop m)).length = (k - m) * 2 from by rw [prmL_len, List.length_drop, HDL.out])
              obtain ⟨A3, hA3, hT⟩ : ∃ A3, (if cp = m then some b else some (b.add (m * 2))) = some A3 ∧ HdIn wq (some A3) (D.drop m) := by
                by_cases hc : cp = m
                · exact ⟨b, if_pos hc, by rw [List.drop_of_length_le (by rw [HDL.out]; omega)]; exact HdIn.nil _ _⟩
                · exact ⟨_, if_neg hc, HOq.out.hd.tail m⟩
              have HS3C := Lib.hid hT.cellsB
              clear hT
              refine wp_region_held_drew (S := fun w' => w'.cell? ⟨hb, 0, none⟩ = some (.string n) ∧ w'.cell? ⟨hb, 1, none⟩ = some (.string v)) (by kernel_rfl) (HK.out _ (Below.refl wq.heap.size wq).drew) (fun hHeld => ?_)
              refine wpAnyH_take (i := 1) (oi := ⟨some 44, _, _, _, _, _⟩) (v := ?_) rfl (by kernel_rfl) (by kernel_rfl) (by kernel_rfl) (fun _ _ _ h => h) (Or.inl ⟨by rfl, ?_⟩) hHeld ?_
              rotate_left
              focus (intro wq hSw; (try dsimp only at hSw); go_simp; try with_reducible rfl; done)
              simp only [Act.put, List.setIfInBounds_toArray, List.set_cons_zero, List.set_cons_succ]
              refine wpAnyH_take (i := 2) (oi := ⟨some 45, _, _, _, _, _⟩) (v := ?_) rfl (by kernel_rfl) (by kernel_rfl) (by kernel_rfl) (fun _ _ _ h => h) (Or.inl ⟨by rfl, ?_⟩) hHeld ?_
              rotate_left
              focus (intro wq hSw; (try dsimp only at hSw); go_simp; try with_reducible rfl; done)
              simp only [Act.put, List.setIfInBounds_toArray, List.set_cons_zero, List.set_cons_succ]
              refine wpAnyH_take (i := 3) (oi := ⟨some 46, _, _, _, _, _⟩) (v := ?_) rfl (by kernel_rfl) (by kernel_rfl) (by kernel_rfl) (fun _ _ _ h => h) (Or.inl ⟨by rfl, ?_⟩) hHeld ?_
              rotate_left
              focus (intro wq hSw; (try dsimp only at hSw); go_simp; try with_reducible rfl; done)
              simp only [Act.put, List.setIfInBounds_toArray, List.set_cons_zero, List.set_cons_succ]
              refine wpAnyH_take (i := 5) (oi := ⟨some 48, _, _, _, _, _⟩) (v := ?_) rfl (by kernel_rfl) (by kernel_rfl) (by kernel_rfl) (fun _ _ _ h => h) (Or.inl ⟨by rfl, ?_⟩) hHeld ?_
              rotate_left
              focus (intro wq hSw; (try dsimp only at hSw); go_simp; try with_reducible rfl; done)
              simp only [Act.put, List.setIfInBounds_toArray, List.set_cons_zero, List.set_cons_succ]
              refine wpAnyH_take (i := 8) (oi := ⟨some 51, _, _, _, _, _⟩) (v := ?_) rfl (by kernel_rfl) (by kernel_rfl) (by kernel_rfl) (fun _ _ _ h => h) (Or.inl ⟨by rfl, ?_⟩) hHeld ?_
              rotate_left
              focus (intro wq hSw; (try dsimp only at hSw); go_simp; try with_reducible rfl; done)
              simp only [Act.put, List.setIfInBounds_toArray, List.set_cons_zero, List.set_cons_succ]
              refine wpAnyH_take (i := 9) (oi := ⟨some 52, _, _, _, _, _⟩) (v := ?_) rfl (by kernel_rfl) (by kernel_rfl) (by kernel_rfl) (fun _ _ _ h => h) (Or.inl ⟨by rfl, ?_⟩) hHeld ?_
              rotate_left
              focus (intro wq hSw; (try dsimp only at hSw); go_simp; try with_reducible rfl; done)
              simp only [Act.put, List.setIfInBounds_toArray, List.set_cons_zero, List.set_cons_succ]
              refine wpAnyH_take (i := 10) (oi := ⟨some 53, _, _, _, _, _⟩) (v := ?_) rfl (by kernel_rfl) (by kernel_rfl) (by kernel_rfl) (fun _ _ _ h => h) (Or.inl ⟨by rfl, ?_⟩) hHeld ?_
              rotate_left
              focus (intro wq hSw; (try dsimp only at hSw); go_simp; try with_reducible rfl; done)
              simp only [Act.put, List.setIfInBounds_toArray, List.set_cons_zero, List.set_cons_succ]
              refine wpAnyH_ready (rs := [0, 6]) (by kernel_rfl) (by simp) ?_
              refine AllReadyH.cons (o := ⟨some 43, _, _, _, _, _⟩) rfl (fun K hK => ?_) (AllReadyH.cons (o := ⟨some 49, _, _, _, _, _⟩) rfl (fun K hK => ?_) AllReadyH.nil)
              · go_simp
                refine hK.out _ _ (HK.out _ (((Below.refl wq.heap.size wq).alloc (Nat.le_refl _) (.cells #[] 53)).drew)) (fun hHeld => ?_)
                clear hK K
                try simp only [Act.put, List.setIfInBounds_toArray, List.set_cons_zero, List.set_cons_succ]
                refine wpAnyH_ready (rs := [4, 6]) (by kernel_rfl) (by simp) ?_
                refine AllReadyH.cons (o := ⟨some 47, _, _, _, _, _⟩) rfl (fun K hK => ?_) (AllReadyH.cons (o := ⟨some 49, _, _, _, _, _⟩) rfl (fun K hK => ?_) AllReadyH.nil)
                · have hmade := World.ownsRow_made (base := wq.heap.size) (e := 53) (size := 2) wq #[] 0 (Nat.le_refl _) (Nat.zero_le _) rfl
                  refine stepH_append rfl _ _ rfl wq.heap.size (.slice (some ⟨wq.heap.size, 0, none⟩) 0 0) 0 [] rfl (by exact hmade) b m cp _ rfl HS1L.out (HS1C.out _ (((Below.refl wq.heap.size wq).alloc (Nat.le_refl _) (.cells #[] 53)).drew)) (hdL_one _) (by omega) (by first | (simp only [World.size_alloc]; omega) | (simp only [World.size_drew, World.size_alloc]; omega)) ?_
                  intro v1 W1 ho1 hg1
                  have HB1 := Lib.hid (show Below wq.heap.size wq W1 from (((Below.refl wq.heap.size wq).alloc (Nat.le_refl _) (.cells #[] 53)).drew).grown hg1 (by first | (simp only [World.size_alloc]; omega) | (simp only [World.size_drew, World.size_alloc]; omega)) (fun _ e => ob_ge e (by omega)))
                  have HO1 := Lib.hid ho1
                  have hs1 := HB1.out.size
                  clear ho1 hg1 hmade
                  refine hK.out _ _ (HK.out _ (HB1.out)) (fun hHeld => ?_)
                  clear hK K
                  try simp only [Act.put, List.setIfInBounds_toArray, List.set_cons_zero, List.set_cons_succ]
                  refine wpAnyH_ready (rs := [6]) (by kernel_rfl) (by simp) ?_
                  refine AllReadyH.cons (o := ⟨some 49, _, _, _, _, _⟩) rfl (fun K hK => ?_) AllReadyH.nil
                  go_simp
                  refine hK.out _ _ (HK.out _ (HB1.out.alloc HB1.out.size (.cells #[.string n, .string v] 53))) (fun hHeld => ?_)
                  clear hK K
                  try simp only [Act.put, List.setIfInBounds_toArray, List.set_cons_zero, List.set_cons_succ]
                  refine wpAnyH_ready (rs := [7]) (by kernel_rfl) (by simp) ?_
                  refine AllReadyH.cons (o := ⟨some 50, _, _, _, _, _⟩) rfl (fun K hK => ?_) AllReadyH.nil
                  refine stepH_append rfl _ _ rfl wq.heap.size v1 _ _ rfl (HO1.out.alloc _) ⟨W1.heap.size, 0, none⟩ 1 1 [.string n, .string v] rfl rfl (two_new W1 n v) two_one22 (by omega) (by (try simp only [World.size_alloc]); omega) ?_
                  intro v2 W2 ho2 hg2
                  have HB2 := Lib.hid (show Below wq.heap.size wq W2 from (HB1.out.alloc HB1.out.size (.cells #[.string n, .string v] 53)).grown hg2 (by (try simp only [World.size_alloc]); omega) (fun g hg => (HO1.out.lt g hg).1))
                  have HO2 := Lib.hid ho2
                  have hs2 := HB2.out.size
                  clear ho2 hg2 HO1 HB1
                  refine hK.out _ _ (HK.out _ (HB2.out)) (fun hHeld => ?_)
                  clear hK K
                  try simp only [Act.put, List.setIfInBounds_toArray, List.set_cons_zero, List.set_cons_succ]
                  refine wpAnyH_ready (rs := [11]) (by kernel_rfl) (by simp) ?_
                  refine AllReadyH.cons (o := ⟨some 54, _, _, _, _, _⟩) rfl (fun K hK => ?_) AllReadyH.nil
                  refine stepH_append rfl _ _ rfl wq.heap.size v2 _ _ rfl HO2.out A3 (k - m) (cp - m) _ rfl HS3L.out (HS3C.out _ HB2.out) (hdL_one _) (by omega) (by omega) ?_
                  intro v3 W3 ho3 hg3
                  have HB3 := Lib.hid (show Below wq.heap.size wq W3 from HB2.out.grown hg3 (by omega) (fun g hg => (HO2.out.lt g hg).1))
                  have HO3 := Lib.hid ho3
                  clear ho3 hg3 HO2 HB2
                  refine hK.out _ _ (HK.out _ (HB3.out)) (fun hHeld => ?_)
                  clear hK K
                  try simp only [Act.put, List.setIfInBounds_toArray, List.set_cons_zero, List.set_cons_succ]
                  refine wpAnyH_take (i := 12) (oi := ⟨some 3, _, _, _, _, _⟩) (v := ?_) rfl (by kernel_rfl) (by kernel_rfl) (by kernel_rfl) (fun _ _ _ h => h) (Or.inl ⟨by rfl, ?_⟩) hHeld ?_
                  rotate_left
                  focus (intro wq hSw; (try dsimp only at hSw); go_simp; try with_reducible rfl; done)
                  simp only [Act.put, List.setIfInBounds_toArray, List.set_cons_zero, List.set_cons_succ]
                  refine wpAnyH_done (by kernel_rfl) ?_ _
                  have HO4 := Lib.hid (show W3.ownsRow w.heap.size 53 2 v3 (k + 1) (prmL (D.take m ++ ⟨n, v⟩ :: D.drop m)) from by
                    have := own_base HO3.out (b := w.heap.size) (by omega)
                    rw [show 0 + m + 1 + (k - m) = k + 1 by omega] at this
                    have e : prmL (D.take m ++ ⟨n, v⟩ :: D.drop m) = [] ++ prmL (D.take m) ++ [.string n, .string v] ++ prmL (D.drop m) := by rw [prmL_app]; simp [prmL]
                    rw [e]; exact this)
                  obtain ⟨b4, c4, rfl⟩ : ∃ b4 c4, v3 = .slice (some b4) (k + 1) c4 := by
                    rcases HO4.out.2 with ⟨_, h2⟩ | ⟨g, cap, _, h1, _⟩
                    · omega
                    · exact ⟨_, cap, h1⟩
                  have HL4 := Lib.hid (show (D.take m ++ ⟨n, v⟩ :: D.drop m).length = k + 1 from by simp [HDL.out]; omega)
                  have HB4 := Lib.hid (HBx.out.trans ((HBq.out.trans (HB3.out.mono hwb2)).mono hwx))
                  clear HO3 HB3 hHeld
                  go_wp2_with fail
                  go_roundw
                  case rel => exact ⟨k + 1, by omega, by go_num, b4, c4, rfl, _, HL4, HS2, Lib.hid (by unfold OwnHd; rw [HL4.out]; exact HO4.out), HB4⟩
                  case measure => simp [intOf]; omega
                · go_simp
                  refine hK.out _ _ (HK.out _ ((((Below.refl wq.heap.size wq).alloc (Nat.le_refl _) (.cells #[] 53)).alloc (by first | (simp only [World.size_alloc]; omega) | (simp only [World.size_drew, World.size_alloc]; omega)) (.cells #[.string n, .string v] 53)).drew)) (fun hHeld => ?_)
                  clear hK K
                  try simp only [Act.put, List.setIfInBounds_toArray, List.set_cons_zero, List.set_cons_succ]
                  refine wpAnyH_ready (rs := [4]) (by kernel_rfl) (by simp) ?_
                  refine AllReadyH.cons (o := ⟨some 47, _, _, _, _, _⟩) rfl (fun K hK => ?_) AllReadyH.nil
                  have hmade := (World.ownsRow_made (base := wq.heap.size) (e := 53) (size := 2) wq #[] 0 (Nat.le_refl _) (Nat.zero_le _) rfl).alloc (.cells #[.string n, .string v] 53)
                  have hbox := Blk.new (wq.alloc (.cells #[] 53)) 53 #[.string n, .string v]
                  rw [World.size_alloc] at hbox
                  refine stepH_append rfl _ _ rfl wq.heap.size (.slice (some ⟨wq.heap.size, 0, none⟩) 0 0) 0 [] rfl (by exact hmade) b m cp _ rfl HS1L.out (HS1C.out _ ((((Below.refl wq.heap.size wq).alloc (Nat.le_refl _) (.cells #[] 53)).alloc (by first | (simp only [World.size_alloc]; omega) | (simp only [World.size_drew, World.size_alloc]; omega)) (.cells #[.string n, .string v] 53)).drew)) (hdL_one _) (by omega) (by first | (simp only [World.size_alloc]; omega) | (simp only [World.size_drew, World.size_alloc]; omega)) ?_
                  intro v1 W1 ho1 hg1
                  have HB1 := Lib.hid (show Below wq.heap.size wq W1 from ((((Below.refl wq.heap.size wq).alloc (Nat.le_refl _) (.cells #[] 53)).alloc (by first | (simp only [World.size_alloc]; omega) | (simp only [World.size_drew, World.size_alloc]; omega)) (.cells #[.string n, .string v] 53)).drew).grown hg1 (by first | (simp only [World.size_alloc]; omega) | (simp only [World.size_drew, World.size_alloc]; omega)) (fun _ e => ob_ge e (by omega)))
                  have HO1 := Lib.hid ho1
                  have hs1 := HB1.out.size
                  have HX1 := Lib.hid (show Blk W1 (wq.heap.size + 1) 53 #[.string n, .string v] from (hg1.block (wq.heap.size + 1) (by first | (simp only [World.size_alloc]; omega) | (simp only [World.size_drew, World.size_alloc]; omega)) (ob_ne (by omega))).trans hbox)
                  clear ho1 hg1 hmade hbox
                  refine hK.out _ _ (HK.out _ (HB1.out)) (fun hHeld => ?_)
                  clear hK K
                  try simp only [Act.put, List.setIfInBounds_toArray, List.set_cons_zero, List.set_cons_succ]
                  refine wpAnyH_ready (rs := [7]) (by kernel_rfl) (by simp) ?_
                  refine AllReadyH.cons (o := ⟨some 50, _, _, _, _, _⟩) rfl (fun K hK => ?_) AllReadyH.nil
                  refine stepH_append rfl _ _ rfl wq.heap.size v1 _ _ rfl (HO1.out) ⟨wq.heap.size + 1, 0, none⟩ 1 1 [.string n, .string v] rfl rfl (two_blk HX1.out) two_one22 (by omega) (by (try simp only [World.size_alloc]); omega) ?_
                  intro v2 W2 ho2 hg2
                  have HB2 := Lib.hid (show Below wq.heap.size wq W2 from (HB1.out).grown hg2 (by (try simp only [World.size_alloc]); omega) (fun g hg => (HO1.out.lt g hg).1))
                  have HO2 := Lib.hid ho2
                  have hs2 := HB2.out.size
                  clear ho2 hg2 HO1 HB1
                  refine hK.out _ _ (HK.out _ (HB2.out)) (fun hHeld => ?_)
                  clear hK K
                  try simp only [Act.put, List.setIfInBounds_toArray, List.set_cons_zero, List.set_cons_succ]
                  refine wpAnyH_ready (rs := [11]) (by kernel_rfl) (by simp) ?_
                  refine AllReadyH.cons (o := ⟨some 54, _, _, _, _, _⟩) rfl (fun K hK => ?_) AllReadyH.nil
                  refine stepH_append rfl _ _ rfl wq.heap.size v2 _ _ rfl HO2.out A3 (k - m) (cp - m) _ rfl HS3L.out (HS3C.out _ HB2.out) (hdL_one _) (by omega) (by omega) ?_
                  intro v3 W3 ho3 hg3
                  have HB3 := Lib.hid (show Below wq.heap.size wq W3 from HB2.out.grown hg3 (by omega) (fun g hg => (HO2.out.lt g hg).1))
                  have HO3 := Lib.hid ho3
                  clear ho3 hg3 HO2 HB2
                  refine hK.out _ _ (HK.out _ (HB3.out)) (fun hHeld => ?_)
                  clear hK K
                  try simp only [Act.put, List.setIfInBounds_toArray, List.set_cons_zero, List.set_cons_succ]
                  refine wpAnyH_take (i := 12) (oi := ⟨some 3, _, _, _, _, _⟩) (v := ?_) rfl (by kernel_rfl) (by kernel_rfl) (by kernel_rfl) (fun _ _ _ h => h) (Or.inl ⟨by rfl, ?_⟩) hHeld ?_
                  rotate_left
                  focus (intro wq hSw; (try dsimp only at hSw); go_simp; try with_reducible rfl; done)
                  simp only [Act.put, List.setIfInBounds_toArray, List.set_cons_zero, List.set_cons_succ]
                  refine wpAnyH_done (by kernel_rfl) ?_ _
                  have HO4 := Lib.hid (show W3.ownsRow w.heap.size 53 2 v3 (k + 1) (prmL (D.take m ++ ⟨n, v⟩ :: D.drop m)) from by
                    have := own_base HO3.out (b := w.heap.size) (by omega)
                    rw [show 0 + m + 1 + (k - m) = k + 1 by omega] at this
                    have e : prmL (D.take m ++ ⟨n, v⟩ :: D.drop m) = [] ++ prmL (D.take m) ++ [.string n, .string v] ++ prmL (D.drop m) := by rw [prmL_app]; simp [prmL]
                    rw [e]; exact this)
                  obtain ⟨b4, c4, rfl⟩ : ∃ b4 c4, v3 = .slice (some b4) (k + 1) c4 := by
                    rcases HO4.out.2 with ⟨_, h2⟩ | ⟨g, cap, _, h1, _⟩
                    · omega
                    · exact ⟨_, cap, h1⟩
                  have HL4 := Lib.hid (show (D.take m ++ ⟨n, v⟩ :: D.drop m).length = k + 1 from by simp [HDL.out]; omega)
                  have HB4 := Lib.hid (HBx.out.trans ((HBq.out.trans (HB3.out.mono hwb2)).mono hwx))
                  clear HO3 HB3 hHeld
                  go_wp2_with fail
                  go_roundw
                  case rel => exact ⟨k + 1, by omega, by go_num, b4, c4, rfl, _, HL4, HS2, Lib.hid (by unfold OwnHd; rw [HL4.out]; exact HO4.out), HB4⟩
                  case measure => simp [intOf]; omega
              · go_simp
                refine hK.out _ _ (HK.out _ (((Below.refl wq.heap.size wq).alloc (Nat.le_refl _) (.cells #[.string n, .string v] 53)).drew)) (fun hHeld => ?_)
                clear hK K
                try simp only [Act.put, List.setIfInBounds_toArray, List.set_cons_zero, List.set_cons_succ]
                refine wpAnyH_ready (rs := [0]) (by kernel_rfl) (by simp) ?_
                refine AllReadyH.cons (o := ⟨some 43, _, _, _, _, _⟩) rfl (fun K hK => ?_) AllReadyH.nil
                go_simp
                refine hK.out _ _ (HK.out _ ((((Below.refl wq.heap.size wq).alloc (Nat.le_refl _) (.cells #[.string n, .string v] 53)).alloc (by first | (simp only [World.size_alloc]; omega) | (simp only [World.size_drew, World.size_alloc]; omega)) (.cells #[] 53)).drew)) (fun hHeld => ?_)
                clear hK K
                try simp only [Act.put, List.setIfInBounds_toArray, List.set_cons_zero, List.set_cons_succ]
                refine wpAnyH_ready (rs := [4]) (by kernel_rfl) (by simp) ?_
                refine AllReadyH.cons (o := ⟨some 47, _, _, _, _, _⟩) rfl (fun K hK => ?_) AllReadyH.nil
                have hmade := World.ownsRow_made (base := wq.heap.size) (e := 53) (size := 2) (wq.alloc (.cells #[.string n, .string v] 53)) #[] 0 (by first | (simp only [World.size_alloc]; omega) | (simp only [World.size_drew, World.size_alloc]; omega)) (Nat.zero_le _) rfl
                rw [World.size_alloc] at hmade
                have hbox := (Blk.new wq 53 #[.string n, .string v]).alloc (.cells #[] 53)
                refine stepH_append rfl _ _ rfl wq.heap.size (.slice (some ⟨wq.heap.size + 1, 0, none⟩) 0 0) 0 [] rfl (by exact hmade) b m cp _ rfl HS1L.out (HS1C.out _ ((((Below.refl wq.heap.size wq).alloc (Nat.le_refl _) (.cells #[.string n, .string v] 53)).alloc (by first | (simp only [World.size_alloc]; omega) | (simp only [World.size_drew, World.size_alloc]; omega)) (.cells #[] 53)).drew)) (hdL_one _) (by omega) (by first | (simp only [World.size_alloc]; omega) | (simp only [World.size_drew, World.size_alloc]; omega)) ?_
                intro v1 W1 ho1 hg1
                have HB1 := Lib.hid (show Below wq.heap.size wq W1 from ((((Below.refl wq.heap.size wq).alloc (Nat.le_refl _) (.cells #[.string n, .string v] 53)).alloc (by first | (simp only [World.size_alloc]; omega) | (simp only [World.size_drew, World.size_alloc]; omega)) (.cells #[] 53)).drew).grown hg1 (by first | (simp only [World.size_alloc]; omega) | (simp only [World.size_drew, World.size_alloc]; omega)) (fun _ e => ob_ge e (by omega)))
                have HO1 := Lib.hid ho1
                have hs1 := HB1.out.size
                have HX1 := Lib.hid (show Blk W1 wq.heap.size 53 #[.string n, .string v] from (hg1.block wq.heap.size (by first | (simp only [World.size_alloc]; omega) | (simp only [World.size_drew, World.size_alloc]; omega)) (ob_ne (by omega))).trans hbox)
                clear ho1 hg1 hmade hbox
                refine hK.out _ _ (HK.out _ (HB1.out)) (fun hHeld => ?_)
                clear hK K
                try simp only [Act.put, List.setIfInBounds_toArray, List.set_cons_zero, List.set_cons_succ]
                refine wpAnyH_ready (rs := [7]) (by kernel_rfl) (by simp) ?_
                refine AllReadyH.cons (o := ⟨some 50, _, _, _, _, _⟩) rfl (fun K hK => ?_) AllReadyH.nil
                refine stepH_append rfl _ _ rfl wq.heap.size v1 _ _ rfl (HO1.out) ⟨wq.heap.size, 0, none⟩ 1 1 [.string n, .string v] rfl rfl (two_blk HX1.out) two_one22 (by omega) (by (try simp only [World.size_alloc]); omega) ?_
                intro v2 W2 ho2 hg2
                have HB2 := Lib.hid (show Below wq.heap.size wq W2 from (HB1.out).grown hg2 (by (try simp only [World.size_alloc]); omega) (fun g hg => (HO1.out.lt g hg).1))
                have HO2 := Lib.hid ho2
                have hs2 := HB2.out.size
                clear ho2 hg2 HO1 HB1
                refine hK.out _ _ (HK.out _ (HB2.out)) (fun hHeld => ?_)
                clear hK K
                try simp only [Act.put, List.setIfInBounds_toArray, List.set_cons_zero, List.set_cons_succ]
                refine wpAnyH_ready (rs := [11]) (by kernel_rfl) (by simp) ?_
                refine AllReadyH.cons (o := ⟨some 54, _, _, _, _, _⟩) rfl (fun K hK => ?_) AllReadyH.nil
                refine stepH_append rfl _ _ rfl wq.heap.size v2 _ _ rfl HO2.out A3 (k - m) (cp - m) _ rfl HS3L.out (HS3C.out _ HB2.out) (hdL_one _) (by omega) (by omega) ?_
                intro v3 W3 ho3 hg3
                have HB3 := Lib.hid (show Below wq.heap.size wq W3 from HB2.out.grown hg3 (by omega) (fun g hg => (HO2.out.lt g hg).1))
                have HO3 := Lib.hid ho3
                clear ho3 hg3 HO2 HB2
                refine hK.out _ _ (HK.out _ (HB3.out)) (fun hHeld => ?_)
                clear hK K
                try simp only [Act.put, List.setIfInBounds_toArray, List.set_cons_zero, List.set_cons_succ]
                refine wpAnyH_take (i := 12) (oi := ⟨some 3, _, _, _, _, _⟩) (v := ?_) rfl (by kernel_rfl) (by kernel_rfl) (by kernel_rfl) (fun _ _ _ h => h) (Or.inl ⟨by rfl, ?_⟩) hHeld ?_
                rotate_left
                focus (intro wq hSw; (try dsimp only at hSw); go_simp; try with_reducible rfl; done)
                simp only [Act.put, List.setIfInBounds_toArray, List.set_cons_zero, List.set_cons_succ]
                refine wpAnyH_done (by kernel_rfl) ?_ _
                have HO4 := Lib.hid (show W3.ownsRow w.heap.size 53 2 v3 (k + 1) (prmL (D.take m ++ ⟨n, v⟩ :: D.drop m)) from by
                  have := own_base HO3.out (b := w.heap.size) (by omega)
                  rw [show 0 + m + 1 + (k - m) = k + 1 by omega] at this
                  have e : prmL (D.take m ++ ⟨n, v⟩ :: D.drop m) = [] ++ prmL (D.take m) ++ [.string n, .string v] ++ prmL (D.drop m) := by rw [prmL_app]; simp [prmL]
                  rw [e]; exact this)
                obtain ⟨b4, c4, rfl⟩ : ∃ b4 c4, v3 = .slice (some b4) (k + 1) c4 := by
                  rcases HO4.out.2 with ⟨_, h2⟩ | ⟨g, cap, _, h1, _⟩
                  · omega
                  · exact ⟨_, cap, h1⟩
                have HL4 := Lib.hid (show (D.take m ++ ⟨n, v⟩ :: D.drop m).length = k + 1 from by simp [HDL.out]; omega)
                have HB4 := Lib.hid (HBx.out.trans ((HBq.out.trans (HB3.out.mono hwb2)).mono hwx))
                clear HO3 HB3 hHeld
                go_wp2_with fail
                go_roundw
                case rel => exact ⟨k + 1, by omega, by go_num, b4, c4, rfl, _, HL4, HS2, Lib.hid (by unfold OwnHd; rw [HL4.out]; exact HO4.out), HB4⟩
                case measure => simp [intOf]; omega
            · have HG2 := Lib.hid (HDP.out (by rw [HLS.out]; exact gtr_yes hz))
              clear HRUN HDP
              go_wp2_with fail
              go_quiet (fail)
              go_wp2
              go_roundw
              case rel => exact ⟨m', by omega, rfl, HG2, Lib.hid (by obtain ⟨q, hq⟩ := HDR.out; rw [hq]; exact ⟨_, World.drewN_drewN _ _ _⟩)⟩
              case measure => have := HMM.out; simp [intOf]; omega
    · obtain rfl : k = l.length := by omega
      rw [HALL.out] at HSD
      go_wp2
      go_ret
      exact ⟨some b, cp, D, by rw [HDL.out]; rfl, HDL.out, HSD.out, HO.out, HW.out⟩

end Go.Proofs.Ytjikahflbhgniaa
namespace Go.Proofs.Ytjikahflbhgniaa
open Go.RowKit

theorem fewHs_prmL (lp : Nat → Prm) (k : Nat) : prmL (fewHs lp (k + 1)) = prmL (fewHs lp k) ++ [.string (fewH (lp k)).n, .string (fewH (lp k)).v] := by
  rw [fewHs_succ, prmL_app]; rfl

set_option maxHeartbeats 4000000 in
set_option maxRecDepth 100000 in
theorem few22_any (A : Option Addr) (n c most : Nat) (lp : Nat → Prm) (w : World) (h : Came w A n lp) (hn : n ≤ 9223372036854775807) (hmost : most ≤ 1000) :
    Calls Try.prog 7 #[.slice A n c, .int .i64 most] w fun e w' => ∃ b c', e = .returned (.slice (some b) (min n most) c') ∧ OwnHd w' w.heap.size (some b) c' (fewHs lp (min n most)) ∧ Below w.heap.size w w' := by
  have HH := Lib.hid h
  have HO0 := Lib.hid (World.ownsRow_made (base := w.heap.size) (e := 53) (size := 2) w #[] 0 (Nat.le_refl _) (Nat.zero_le _) rfl)
  have HB0 := Lib.hid ((Below.refl w.heap.size w).alloc (Nat.le_refl _) (.cells #[] 53))
  clear h
  go_enter Try.func7, Try.ntmps7
  go_wp2
  go_loopw [5, 6] (fun x i wr => ∃ k : Nat, k ≤ n ∧ k ≤ most ∧ i = .int .i64 k ∧ Hid (x ≠ .slice none 0 0) ∧ Hid (wr.ownsRow w.heap.size 53 2 x k (prmL (fewHs lp k))) ∧ Hid (Below w.heap.size w wr)) (fun _ i _ => n - (intOf i).toNat)
  case atStart => exact ⟨0, by omega, by omega, rfl, Lib.hid (fun e => by cases e), HO0, HB0⟩
  case round =>
    obtain ⟨k, hkn, hkm, rfl, HNE, HO, HW⟩ := hrel
    have hwr := HW.out.size
    by_cases hlt : k < n ∧ k < most
    · obtain ⟨h1, h2⟩ := hlt
      obtain ⟨a, rfl, hal, e0, e1, q1, q2⟩ := (HH.out.below HW.out) k h1
      have HHB := Lib.hid (fun W (hW : Below w.heap.size w W) => ((HH.out.below hW) k h1))
      have HFP := Lib.hid (fewHs_prmL lp k)
      have HK := Lib.hid (fun W (hW : Below w.heap.size w W) => show W.cell? (a.add (k * 2)) = some (.string (lp k).n) ∧ W.cell? ⟨(a.add (k * 2)).block, (a.add (k * 2)).off + 1, none⟩ = some (.string (lp k).v) from by
        obtain ⟨a', e, _, d0, d1, _⟩ := HHB.out W hW
        cases e
        exact ⟨d0, d1⟩)
      have HC0 : Hid (∀ W, Calls Try.prog 6 #[.string (lp k).n, .int .i64 30] W fun e w' => e = .returned (.string (fewH (lp k)).n) ∧ W = w') := fun W => cut_any (lp k).n 30 W q1
      have HC1 : Hid (∀ W, Calls Try.prog 6 #[.string (lp k).v, .int .i64 100] W fun e w' => e = .returned (.string (fewH (lp k)).v) ∧ W = w') := fun W => cut_any (lp k).v 100 W q2
      have d1 : decide (k < n) = true := by simpa using h1
      have d2 : decide ((k : Int) < (most : Int)) = true := by simpa using h2
      generalize hq : fewH (lp k) = q at *
      generalize lp k = lk at *
      clear hq q1 q2 HHB
      obtain ⟨ln, lv⟩ := lk
      obtain ⟨qn, qv⟩ := q
      simp only at e0 e1 HC0 HC1 HFP HK
      have HBX := Lib.hid (HW.out.trans ((drewAlloc wr (.cells #[.string qn, .string qv] 53)).mono hwr))
      go_wp2_with fail
      go_region_held3 (fun w' => w'.cell? (a.add (k * 2)) = some (.string ln) ∧ w'.cell? ⟨(a.add (k * 2)).block, (a.add (k * 2)).off + 1, none⟩ = some (.string lv))
        (first | go_keep | exact HK.out _ HB2.out | exact HK.out _ HBX.out)
        (first
          | (go_at_call 6; (with_reducible refine (HC0.out _).mono ?_); rintro e w1 ⟨rfl, rfl⟩)
          | (go_at_call 6; (with_reducible refine (HC1.out _).mono ?_); rintro e w1 ⟨rfl, rfl⟩)
          | (refine stepH_append rfl _ _ rfl w.heap.size u5 _ _ rfl (own_mv HO.out (Mv.of_below (drewAlloc wr _) []) (by simp)) ⟨wr.heap.size, 0, none⟩ 1 1 [.string qn, .string qv] rfl rfl (two_new wr qn qv) two_one22 (by omega) (by simp; omega) ?_
             intro v' w2 hown hgrow
             have HB2 := Lib.hid (show Below w.heap.size w w2 from HBX.out.grown hgrow (by simp; omega) (fun g hg => (HO.out.lt g hg).1))
             have HN2 := Lib.hid (show v' ≠ .slice none 0 0 from fun e => by subst e; have := hown.2; simp at this)
             have HO2 := Lib.hid hown
             clear hown hgrow))
      all_goals
        go_wp2_with fail
        go_roundw
        case rel => exact ⟨k + 1, by omega, by omega, by go_num, HN2, by rw [HFP.out]; exact HO2, HB2⟩
        case measure => simp [intOf]; omega
    · have hmin : min n most = k := by omega
      obtain ⟨b', c', rfl⟩ : ∃ b' c', u5 = .slice (some b') k c' := by
        rcases HO.out.2 with ⟨h1, _⟩ | ⟨g, cap, _, h1, _⟩
        · exact absurd h1 HNE.out
        · exact ⟨_, cap, h1⟩
      have hlt2 : ¬ (k < n) ∨ k < n ∧ ¬ (k < most) := by omega
      have HOk := Lib.hid (show OwnHd wr w.heap.size (some b') c' (fewHs lp k) from by unfold OwnHd; rw [fewHs_len]; exact HO.out)
      rcases hlt2 with h3 | ⟨h3, h4⟩
      · go_wp2
        go_ret
        exact ⟨b', c', by rw [hmin]; rfl, by rw [hmin]; exact HOk.out, HW.out⟩
      · go_wp2
        go_ret
        exact ⟨b', c', by rw [hmin]; rfl, by rw [hmin]; exact HOk.out, HW.out⟩

theorem parA_lives : parA ⟨#[65, 58, 32, 98]⟩ = ([⟨⟨#[65]⟩, ⟨#[98]⟩⟩], 0, 0) := by kernel_rfl

set_option maxHeartbeats 2000000 in
theorem lives22_any (w : World) : Calls Try.prog 23 #[] w fun e w' => e = .returned (.bool true) ∧ Below w.heap.size w w' := by
  have HP := Lib.hid (hparse_any ⟨#[65, 58, 32, 98]⟩ w (by decide))
  unfold ParSays at HP
  rw [parA_lives] at HP
  go_enter Try.func23, Try.ntmps23
  go_wp2_with fail
  refine HP.out.mono ?_
  rintro e w1 ⟨A, c, rfl, hd, b1⟩
  have HB := Lib.hid b1
  obtain ⟨a, rfl, _, c0, c1⟩ := hd 0 (by simp)
  have HZ := Lib.hid (show a.add (0 * 2) = a from by simp [Addr.add])
  rw [HZ.out] at c0 c1
  simp only [List.getElem_cons_zero] at c0 c1
  clear b1 hd HP
  go_wp2
  go_ret
  exact ⟨rfl, HB.out⟩

end Go.Proofs.Ytjikahflbhgniaa
namespace Go.Proofs.Ytjikahflbhgniaa

abbrev sepS : ByteArray := ⟨#[44, 32]⟩
/-- The values as one text. -/
def joinS : List ByteArray → ByteArray
  | [] => ⟨#[]⟩
  | x :: r => r.foldl (fun a y => (a ++ sepS) ++ y) x
theorem joinS_snoc {xs : List ByteArray} (h : xs ≠ []) (y : ByteArray) : joinS (xs ++ [y]) = (joinS xs ++ sepS) ++ y := by
  cases xs with
  | nil => exact absurd rfl h
  | cons x r => simp [joinS, List.foldl_append]
theorem joinS_step {xs : List ByteArray} {k : Nat} (h : k < xs.length) (hk : 0 < k) : joinS (xs.take (k + 1)) = (joinS (xs.take k) ++ sepS) ++ xs[k] := by
  rw [List.take_succ_eq_append_getElem h, joinS_snoc]
  intro e
  have := congrArg List.length e
  rw [List.length_take, List.length_nil] at this
  omega
theorem joinS_step0 {xs : List ByteArray} (h : 0 < xs.length) : joinS (xs.take 1) = xs[0] := by
  cases xs with
  | nil => simp at h
  | cons x r => rfl
theorem joinS_all (xs : List ByteArray) : joinS (xs.take xs.length) = joinS xs := by rw [List.take_length]
theorem joinS_le {m : Nat} : ∀ (r : List ByteArray) (x : ByteArray), (∀ y ∈ r, y.size ≤ m) → (r.foldl (fun a y => (a ++ sepS) ++ y) x).size ≤ x.size + r.length * (m + 2)
  | [], x, _ => by simp
  | y :: r, x, h => by
    have h1 := joinS_le r ((x ++ sepS) ++ y) (fun z hz => h z (List.mem_cons_of_mem _ hz))
    have h2 := h y List.mem_cons_self
    rw [List.foldl_cons]
    have h3 : ((x ++ sepS) ++ y).size = x.size + 2 + y.size := by
      rw [ByteArray.size_append, ByteArray.size_append]; rfl
    rw [h3] at h1
    have h4 : (y :: r).length * (m + 2) = r.length * (m + 2) + (m + 2) := by rw [List.length_cons, Nat.add_mul, Nat.one_mul]
    omega
theorem joinS_size {m : Nat} {xs : List ByteArray} (h : ∀ y ∈ xs, y.size ≤ m) : (joinS xs).size ≤ xs.length * (m + 2) := by
  cases xs with
  | nil => exact Nat.zero_le _
  | cons x r =>
    have h1 := joinS_le r x (fun z hz => h z (List.mem_cons_of_mem _ hz))
    have h2 := h x List.mem_cons_self
    have h4 : (x :: r).length * (m + 2) = r.length * (m + 2) + (m + 2) := by rw [List.length_cons, Nat.add_mul, Nat.one_mul]
    show (r.foldl (fun a y => (a ++ sepS) ++ y) x).size ≤ _
    omega

end Go.Proofs.Ytjikahflbhgniaa
