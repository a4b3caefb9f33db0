/-
  What Get and Combined of package header answer. Conditions: texts are shorter than a mebibyte, headers no more than a mebibyte; for Combined, no more than 1000 of at most 1000 bytes.
  The law HeaderGets. No condition.
  What package ranges' Of and the document's answer; the law RangesOf. No condition.
-/
import Derived.Test.YtaolclpjlkdkjaaZ21
import Derived.Test.YtaolclpjlkdkjaaZ24
import Derived.Maps.AppendAt
import Derived.Test.YtaolclpjlkdkjaaZ4
import Derived.Test.YtaolclpjlkdkjaaZ2
import Derived.Test.YtaolclpjlkdkjaaZ8
import Derived.Test.YtaolclpjlkdkjaaZ9
import Derived.Test.YtaolclpjlkdkjaaRows
import Derived.WalkKit
import Derived.WalkSpells
import Derived.WalkLawsBesides
import Derived.Laws.IdiomStrings
import Derived.LoopTactic
import Derived.Lib.Hide
import Derived.Outline
import Derived.Test.YtaolclpjlkdkjaaZ18
import Derived.Test.YtaolclpjlkdkjaaZ23
namespace Go.Proofs.Ytaolclpjlkdkjaa
open Go.RowKit Go.Shelf
attribute [local go_sem] Oper.semAt_some

/-- The iterator's value, and the world in which it was made. -/
abbrev namedF (b : Nat) : Value := .func (.func 76) #[] #[.pointer (some ⟨b, 0, none⟩), .pointer (some ⟨b + 2, 0, none⟩)]
structure NamedAt (W : World) (b c : Nat) (name : ByteArray) (A : Option Addr) (l : List Prm) : Prop where
  lb : Blk W b 37 #[.slice A l.length c]
  nb : Blk W (b + 1) 9 #[.string name]
  fb : Blk W (b + 2) 99 #[namedV (b + 1)]

set_option maxHeartbeats 400000 in
theorem named_any (name : ByteArray) (A : Option Addr) (c : Nat) (l : List Prm) (w : World) :
    Calls Try.prog 60 #[.string name, .slice A l.length c] w fun e w' => e = .returned (namedF w.heap.size) ∧ NamedAt w' w.heap.size c name A l ∧ Below w.heap.size w w' ∧ w'.heap.size = w.heap.size + 3 := by
  have hmf := make_func
  have hst : ∀ (w : World) (a : Addr) (fn : Fn) (fi ca : Array Value) (m : Mode), (store a (.func fn fi ca) m).run Try.prog w = stored Try.prog w a (.func fn fi ca) m := fun w a _ _ _ m => run_store Try.prog w a _ m rfl
  go_enter Try.func60, Try.ntmps60
  go_wp2_with (go_at_call 75; (with_reducible refine (isNamed_any name _).mono ?_); rintro e w1 ⟨rfl, rfl⟩)
  go_ret
  have e1 : ((w.alloc (.cells #[.slice A l.length c] 37)).alloc (.cells #[.string name] 9)).heap.size = w.heap.size + 2 := by simp
  have b2 := Blk.new ((w.alloc (.cells #[.slice A l.length c] 37)).alloc (.cells #[.string name] 9)) 99 #[namedV (w.heap.size + 1)]
  have b1 := (Blk.new (w.alloc (.cells #[.slice A l.length c] 37)) 9 #[.string name]).alloc (.cells #[namedV (w.heap.size + 1)] 99)
  have b0 := ((Blk.new w 37 #[.slice A l.length c]).alloc (.cells #[.string name] 9)).alloc (.cells #[namedV (w.heap.size + 1)] 99)
  rw [e1] at b2
  rw [World.size_alloc] at b1
  exact ⟨rfl, ⟨b0, b1, b2⟩, (((Below.refl _ w).alloc (Nat.le_refl _) _).alloc (by simp) _).alloc (by simp; omega) _, by simp⟩

theorem named_stops (n : Nat) (hn : 1 ≤ n) (b L B c : Nat) (name : ByteArray) (A : Option Addr) (l : List Prm) (hm : name.size ≤ 1048576) (ha : AllIn 1048576 l) (hl : l.length ≤ 1048576) (w : World) (h : NamedAt w b c name A l) (hP : HdIn w A l)
    (hb : b + 2 < B) (hL : L < b) (hA : ∀ a, A = some a → 0 < l.length → a.block < B ∧ a.block ≠ L) :
    SeqStopsK Fence.wide n Try.prog 76 #[.pointer (some ⟨b, 0, none⟩), .pointer (some ⟨b + 2, 0, none⟩)] encH (KeepsU B L) (fun xs => xs = l.filter (hasN name)) (fun _ => True) l.length w := fun l' J Jx W hW hJ _ hY h0 =>
  named1_in n hn l' b (b + 2) (b + 1) L B W.heap.size c name A l hm ha hl J Jx hJ hY W (h.lb.below hW h.lb.lt) (h.fb.below hW h.fb.lt) (h.nb.below hW h.nb.lt) (hP.below hW) ⟨hb, by omega⟩ ⟨by omega, by omega⟩ hA h0

theorem Try.infoS22 : (Try.prog.info? 9).map (fun i => (i.zero, i.size, i.bytes)) = some (some (.string ⟨#[]⟩), 1, 16) := by kernel_rfl
theorem strs_snoc (xs : List ByteArray) (x : ByteArray) : strs (xs ++ [x]) = strs xs ++ [.string x] := by simp [strs]

set_option maxRecDepth 100000 in
set_option maxHeartbeats 4000000 in
theorem hget_any (name : ByteArray) (A : Option Addr) (c : Nat) (l : List Prm) (w : World) (h : HdIn w A l) (ha : AllIn 1048576 l) (hn : l.length ≤ 1048576) (hm : name.size ≤ 1048576) :
    Calls Try.prog 33 #[.string name, .slice A l.length c] w fun e w' => ∃ v, e = .returned v ∧ w'.ownsRow w.heap.size 9 1 v (getN name l).length (strs (getN name l)) ∧ Below w.heap.size w w' := by
  obtain ⟨i0, hi, hz0, hz1, hz2⟩ := info_parts Try.infoS22
  have HH := Lib.hid h
  have HN := Lib.hid fun n W => callsIn_wide (n := n).2 (named_any name A c l W)
  have HAL := Lib.hid h.lt
  clear h
  refine (callsIn_wide (n := 3)).1 ?_
  refine callsIn_of_wp_marks Try.func33 rfl trivial ?_ rfl
  simp only [Try.ntmps33, List.size_toArray, List.length_cons, List.length_nil, Nat.reduceAdd, Nat.reduceSub, Array.replicate_succ, Array.replicate_zero, List.push_toArray, List.append_toArray, List.nil_append, List.cons_append]
  have HL0 := Lib.hid (Blk.new w 61 #[.slice none 0 0])
  have HB0 := Lib.hid ((Below.refl w.heap.size w).alloc (Nat.le_refl _) (.cells #[.slice none 0 0] 61))
  gi_wp2_with (refine ⟨trivial, ?_⟩; gi_at_call 60; refine (HN.out _ _).mono ?_; rintro e w1 ⟨rfl, hn1, b1, hs1⟩; have HN1 := Lib.hid hn1; have HL1 := Lib.hid (HL0.out.below b1 HL0.out.lt); have HB1 := Lib.hid (HB0.out.trans (b1.mono HB0.out.size)); have HH1 := Lib.hid ((HH.out.below HB0.out).below b1); have HS1 := Lib.hid hs1; clear hn1 b1 hs1)
  have hL1 := HL1.out
  have hszw : (w.alloc (.cells #[.slice none 0 0] 61)).heap.size = w.heap.size + 1 := by simp
  have hN1 : NamedAt w1 (w.heap.size + 1) c name A l := by rw [← hszw]; exact HN1.out
  have hsz : w1.heap.size = w.heap.size + 4 := by rw [HS1.out, hszw]
  clear HN HL0 HB0 HS1 HN1 hszw
  refine wpIn_rangeFunc_ownH (w0 := w1) rfl (by omega) (gf := 76) (lb := #[.pointer (some ⟨w.heap.size + 1, 0, none⟩), .pointer (some ⟨w.heap.size + 1 + 2, 0, none⟩)]) rfl trivial (enters_of Try.func76 (by kernel_rfl) rfl)
    (named_stops 2 (by omega) (w.heap.size + 1) w.heap.size w1.heap.size c name A l hm ha hn w1 hN1 HH1.out (by omega) (by omega) (fun a e h0 => by have := HAL.out a e h0; omega)) keepsU_t (fun W l o o' h1 h2 h3 h4 => keepsU_b W l o o' h1 h2 h3 h4) (Below.refl _ _) (fun _ => rfl)
    (fun pre W => (∃ v, Boxed W w.heap.size 61 v ∧ W.ownsRow w1.heap.size 9 1 v pre.length (strs (pre.map Prm.v)) ∧ True) ∧ (Below w.heap.size w W ∧ w1.heap.size ≤ W.heap.size))
    (fun _ _ _ => False)
    (OwnFrom.and (Own.from (holdsRow_own w1.heap.size w.heap.size 61 9 1 (fun pre : List Prm => pre.length) (fun pre => strs (pre.map Prm.v)) (fun _ _ => True)) _) (OwnFrom.and (ownFrom_below (Nat.le_refl _) (by omega)) (fun s X Y row hs hg hr => Nat.le_trans hs hg.size)))
    (fun _ _ _ _ _ hs _ _ => hs)
    ⟨⟨_, hL1, World.ownsRow_nil _ _ _ _, trivial⟩, HB1.out, Nat.le_refl _⟩
    (fun x a' W => ∃ Bx, w1.heap.size ≤ Bx ∧ Blk W Bx 60 #[.string x.n, .string x.v] ∧ a' = { tmps := #[.string name, .slice A l.length c, undef, undef, .slice none 0 0, .pointer (some ⟨w.heap.size, 0, none⟩), .pointer (some ⟨Bx, 0, none⟩), .string name, .slice A l.length c, namedF (w.heap.size + 1), .agg #[.string x.n, .string x.v], undef, undef, undef, undef, undef, undef], defers := [] })
    (fun x a' s X Y row ⟨Bx, h1, h2, h3⟩ hg hr => ⟨Bx, h1, (blk_own (β := Unit) Bx _ _).from _ s X Y row h2 hg hr, h3⟩) ?assign ?body ?done ?stop
  case assign =>
    rintro l' pre x W K ⟨⟨v, hv, hrow, _⟩, hB, hs⟩ hK
    gi_wp2
    exact hK _ _ ((KeepsOthers.alloc _ _).from _) (keepsU_below ((Below.refl _ W).alloc hs _)) ⟨⟨v, hv.alloc _, hrow.alloc _, trivial⟩, hB.alloc (by omega) _, by simp; omega⟩ ⟨W.heap.size, hs, Blk.new W _ _, rfl⟩
  case body =>
    rintro l' pre x a' W hl ⟨r, hr⟩ ⟨⟨v, hv, hrow, _⟩, hB, hs⟩ ⟨Bx, hBx, hbx, rfl⟩ hlt
    have c1 := hbx.cell 1
    have hvc := hv.cell
    have hvl : v.ownBlock ≠ some w.heap.size := fun e => by have := (hrow.lt _ e).1; omega
    have HROW := Lib.hid hrow
    have HV := Lib.hid hv
    have hpl : pre.length < l.length := hlt
    clear hrow hv hr
    obtain ⟨ao, n', cap, rfl⟩ := own_slice HROW.out
    gi_wp2_with (gi_at_builtin; refine wpListIn_append_own _ rfl _ _ 61 rfl w1.heap.size 9 i0 _ 1 16 Try.underlying61 hi hz0 hz1 hz2 rfl (by decide) _ _ _ rfl (HROW.out.alloc _) ⟨W.heap.size, 0, none⟩ 1 1 [.string x.v] rfl rfl (cell_one_new _ _ _) (by simp [Value.oneCell']) (by unfold maxLen; omega) (by omega) (by simp; omega) ?_; intro v' w2 hown' hgrow _; obtain ⟨g', cap', rfl⟩ := ownsRow_succ hown'; obtain ⟨hv1, hv2, hr2, hk2, hb2⟩ := HV.out.appended (by decide) (own_base HROW.out (by omega)) hB.size (Nat.le_refl _) (own_base hown' (by omega)) hgrow; have hc1 := hv1.cell; have hf1 := hv1.frozen)
    have hrow2 := hown'.kept (grownBy_setCell' w2 w.heap.size (.slice (some ⟨g', 0, none⟩) (pre.length + 1) cap')) (.inr (hv1.not_row (by decide) hown').symm)
    have hmv := boxed_mv (L := w.heap.size) (v' := .slice (some ⟨g', 0, none⟩) (pre.length + 1) cap') HROW.out hs hgrow
    have HE := Lib.hid (show strs ((pre ++ [x]).map Prm.v) = strs (pre.map Prm.v) ++ [.string x.v] from by rw [List.map_append]; exact strs_snoc _ _)
    have HE2 := Lib.hid (show (pre ++ [x]).length = pre.length + 1 from by simp)
    refine ⟨hk2.from _, keepsU_mv hmv, ⟨⟨_, hv2, ?_, trivial⟩, hB.trans hb2, Nat.le_trans hs hmv.size⟩⟩
    rw [HE.out, HE2.out]
    exact hrow2
  case done =>
    rintro D xs W hD rfl ⟨⟨v, hv, hrow, _⟩, hB, hs⟩ hK
    have hvc := hv.cell
    have HROW := Lib.hid hrow
    have HV := Lib.hid hv
    clear hrow hv
    obtain ⟨ao, n', cap, rfl⟩ := own_slice HROW.out
    gi_wp2
    refine ⟨by simp, .inl ⟨_, _, rfl, run_takeDeferred hK, ?_⟩⟩
    exact ⟨_, results_tmp rfl _ _ _, _, rfl, (show (getN name l).length = (l.filter (hasN name)).length from by unfold getN; rw [List.length_map]) ▸ own_base (ownsRow_putObj HROW.out _ hK rfl) (by omega), hB.trans (belowK_b (w := w) (Nat.le_refl _) W D _ _ (by omega) hK rfl rfl)⟩
  case stop =>
    rintro D c pre W _ _ h _
    exact h.elim

end Go.Proofs.Ytaolclpjlkdkjaa
namespace Go.Proofs.Ytaolclpjlkdkjaa
open Go.RowKit

theorem came_of_hd {w : World} {A : Option Addr} {l : List Prm} (h : HdIn w A l) (hall : ∀ p ∈ l, p.n.size ≤ 30 ∧ p.v.size ≤ 100) (d : Prm) : Came w A l.length (fun i => l.getD i d) := fun i hi => by
  obtain ⟨a, e, hl, h0, h1⟩ := h i hi
  have hp := hall l[i] (List.getElem_mem hi)
  have e2 : l.getD i d = l[i] := by rw [List.getD_eq_getElem?_getD, List.getElem?_eq_getElem hi]; rfl
  refine ⟨a, e, hl, ?_, ?_, ?_⟩
  · show w.cell? (a.add (i * 2)) = some (.string (l.getD i d).n)
    rw [e2]; exact h0
  · show w.cell? _ = some (.string (l.getD i d).v)
    rw [e2]; exact h1
  · show (l.getD i d).n.size ≤ _ ∧ (l.getD i d).v.size ≤ _
    rw [e2]; omega
/-- Few of headers that are cut already. -/
theorem few22_own (A : Option Addr) (c most : Nat) (L : List Prm) (w : World) (h : HdIn w A L) (hall : ∀ p ∈ L, p.n.size ≤ 30 ∧ p.v.size ≤ 100) (hl : L.length ≤ most) (hmost : most ≤ 1000) :
    Calls Try.prog 17 #[.slice A L.length c, .int .i64 most] w fun e w' => ∃ b c', e = .returned (.slice (some b) L.length c') ∧ OwnHd w' w.heap.size (some b) c' L ∧ Below w.heap.size w w' := by
  have := few22_any A L.length c most (fun i => L.getD i ⟨⟨#[]⟩, ⟨#[]⟩⟩) w (came_of_hd h hall _) (by omega) hmost
  rw [Nat.min_eq_left hl, fewHs_id hall] at this
  exact this
end Go.Proofs.Ytaolclpjlkdkjaa
namespace Go.Proofs.Ytaolclpjlkdkjaa
open Go.RowKit

/-- The header's name, in the document's letters. -/
abbrev crS : ByteArray := ⟨#[99, 111, 110, 116, 101, 110, 116, 45, 114, 97, 110, 103, 101]⟩
theorem getN_same {x y : ByteArray} (h : lowS x = lowS y) (l : List Prm) : getN x l = getN y l := by
  unfold getN
  congr 2
  funext p
  unfold hasN sameB
  rw [h]
theorem cr_low : lowS ⟨#[67, 111, 110, 116, 101, 110, 116, 45, 82, 97, 110, 103, 101]⟩ = lowS crS := by kernel_rfl
theorem contN_code {x y z : Option Int} {n a : Nat} {d : Int} (h : contN x y z n = .error (a, d)) : d = 2 ∨ d = 9 := by
  unfold contN at h
  split at h
  · split at h
    · cases h
    · cases h; exact .inr rfl
  · cases h; exact .inr rfl
theorem contE_code {s x y z : ByteArray} {k a : Nat} {d : Int} (h : contE s k x y z = .error (a, d)) : d = 2 ∨ d = 9 := by
  unfold contE at h
  split at h
  · cases h; exact .inl rfl
  · exact contN_code h
theorem contS_code {s x y : ByteArray} {k a : Nat} {none : Bool} {d : Int} (h : contS s k none x y = .error (a, d)) : d = 2 ∨ d = 9 := by
  unfold contS at h
  split at h
  · cases h; exact .inl rfl
  · split at h
    · exact contE_code h
    · split at h
      · cases h; exact .inl rfl
      · exact contE_code h
theorem contM_code {s : ByteArray} {c a : Nat} {d : Int} (h : contM s c = .error (a, d)) : d = 2 ∨ d = 9 := by
  unfold contM at h
  split at h
  · exact contS_code h
  · split at h
    · cases h; exact .inl rfl
    · split at h
      · cases h; exact .inl rfl
      · split at h
        · cases h; exact .inl rfl
        · exact contS_code h
theorem contO_code {s : ByteArray} {a : Nat} {d : Int} (h : contO s = .error (a, d)) : d = 2 ∨ d = 9 := by
  unfold contO at h
  split at h
  · cases h; exact .inl rfl
  · split at h
    · cases h; exact .inl rfl
    · exact contM_code h

/-- What Of answers. -/
def ofO (o : Except (Nat × Int) (Int × Int × Int)) : Ending :=
  match o with
  | .ok (a, b, c) => .returned (.tuple #[partV a b c, .bool true])
  | .error _ => .returned (.tuple #[partV 0 0 0, .bool false])
def ofV (V : List ByteArray) : Ending :=
  match V with
  | [x] => ofO (contO x)
  | _ => .returned (.tuple #[partV 0 0 0, .bool false])
theorem ofV_other {V : List ByteArray} (h : V.length ≠ 1) : ofV V = .returned (.tuple #[partV 0 0 0, .bool false]) := by
  match V, h with
  | [], _ => rfl
  | [x], h => exact absurd rfl h
  | _ :: _ :: _, _ => rfl
theorem ofV_one (x : ByteArray) : ∃ a b c d, contV (contO x) = .returned (.tuple #[partV a b c, .int .i64 d]) ∧ ofV [x] = .returned (.tuple #[partV a b c, .bool (d == 0)]) := by
  cases ho : contO x with
  | ok v =>
    obtain ⟨a, b, c⟩ := v
    exact ⟨a, b, c, 0, rfl, by show ofO (contO x) = _; rw [ho]; rfl⟩
  | error v =>
    obtain ⟨n, d⟩ := v
    have hd : d = 2 ∨ d = 9 := contO_code ho
    refine ⟨0, 0, 0, d, rfl, ?_⟩
    show ofO (contO x) = _
    rw [ho]
    rcases hd with rfl | rfl <;> rfl
theorem ofV_some (V : List ByteArray) : ∃ a b c z, ofV V = .returned (.tuple #[partV a b c, .bool z]) := by
  by_cases h : V.length = 1
  · match V, h with
    | [x], _ =>
      obtain ⟨a, b, c, d, _, h2⟩ := ofV_one x
      exact ⟨a, b, c, _, h2⟩
  · exact ⟨0, 0, 0, false, ofV_other h⟩

set_option maxHeartbeats 2000000 in
theorem of24_any (A : Option Addr) (c : Nat) (L : List Prm) (w : World) (h : HdIn w A L) (ha : AllIn 1048576 L) (hn : L.length ≤ 1048576) :
    Calls Try.prog 18 #[.slice A L.length c] w fun e w' => e = ofV (getN crS L) ∧ Below w.heap.size w w' := by
  obtain ⟨w0, hw0⟩ : ∃ w0, w0 = w.alloc (partC 0 0 0) := ⟨_, rfl⟩
  have HB := Lib.hid (show Below w.heap.size w w0 from by rw [hw0]; exact (Below.refl _ _).alloc (Nat.le_refl _) _)
  have HZ := Lib.hid (show Blk w0 w.heap.size 29 #[.int .i64 0, .int .i64 0, .int .i64 0] from by rw [hw0]; exact Blk.new w _ _)
  have hg := hget_any ⟨#[67, 111, 110, 116, 101, 110, 116, 45, 82, 97, 110, 103, 101]⟩ A c L w0 (h.below HB.out) ha hn (by decide)
  rw [getN_same cr_low] at hg
  have HG := Lib.hid hg
  have hl := getN_len crS L
  have hall : ∀ x ∈ getN crS L, x.size ≤ 1048576 := fun x hx => by
    unfold getN at hx
    obtain ⟨p, hp, rfl⟩ := List.mem_map.1 hx
    exact (ha p (List.mem_filter.1 hp).1).2
  clear hg ha h
  generalize getN crS L = V at *
  by_cases h1 : V.length = 1
  · match V, h1 with
    | [x], _ =>
      obtain ⟨a, b, c', d, h2, h3⟩ := ofV_one x
      have HC := Lib.hid (fun W => content24_any x W (by have := hall x (by simp); omega))
      rw [h2] at HC
      rw [h3]
      clear hall h2 h3 hl
      go_enter Try.func18, Try.ntmps18
      go_wp2_with fail
      rw [← hw0]
      clear hw0
      refine HG.out.mono ?_
      rintro e w1 ⟨v, rfl, ho, b1⟩
      obtain ⟨A', c1, rfl, hT, _⟩ := TxIn.of_own ho
      obtain ⟨g, rfl, hg, hx⟩ := hT 0 (by simp)
      have HB1 := Lib.hid (HB.out.trans (b1.mono HB.out.size))
      have HZ1 := Lib.hid (HZ.out.below b1 HZ.out.lt)
      have hx0 : w1.cell? ⟨g, 0, none⟩ = some (.string x) := hx
      clear b1 ho hT HG HB HZ
      go_wp2_with fail
      refine (HC.out _).mono ?_
      rintro e w2 ⟨rfl, b2⟩
      obtain ⟨w3, hw3⟩ : ∃ w3, w3 = w2.alloc (partC a b c') := ⟨_, rfl⟩
      have HB3 := Lib.hid (show Below w.heap.size w w3 from by rw [hw3]; exact (below_on HB1.out b2).alloc (below_on HB1.out b2).size _)
      have HZ3 := Lib.hid (show Blk w3 w.heap.size 29 #[.int .i64 0, .int .i64 0, .int .i64 0] from by rw [hw3]; exact (HZ1.out.below b2 HZ1.out.lt).alloc _)
      have HP3 := Lib.hid (show Blk w3 w2.heap.size 29 #[.int .i64 a, .int .i64 b, .int .i64 c'] from by rw [hw3]; exact Blk.new w2 _ _)
      clear b2 HC hx0 hx
      go_upto_region 5 with fail
      rw [← hw3]
      clear hw3
      have z0 := HZ3.out.cell 0
      have z1 := HZ3.out.cell 1
      have z2 := HZ3.out.cell 2
      have f0 := HZ3.out.frozen 0
      have f1 := HZ3.out.frozen 1
      have f2 := HZ3.out.frozen 2
      have p0 := HP3.out.cell 0
      have p1 := HP3.out.cell 1
      have p2 := HP3.out.cell 2
      go_wp2
      have hk := ((HZ3.out.set_ 0 (.int .i64 a)).set_ 1 (.int .i64 b)).set_ 2 (.int .i64 c')
      have j0 : _ = some (.int .i64 a : Value) := hk.cell 0
      have j1 : _ = some (.int .i64 b : Value) := hk.cell 1
      have j2 : _ = some (.int .i64 c' : Value) := hk.cell 2
      exact bodyPost_ret (v := .tuple #[partV a b c', .bool (d == 0)]) (by simp [results, Try.results18, go_sem, j0, j1, j2]) rfl ⟨rfl, ((HB3.out.setCell (by exact Nat.le_refl _) _).setCell (by exact Nat.le_refl _) _).setCell (by exact Nat.le_refl _) _⟩
  · rw [ofV_other h1]
    have hv : V.length ≤ 1048576 := by omega
    have hne : ((V.length : Int) == 1) = false := by rw [beq_eq_false_iff_ne]; omega
    clear hall hl h1
    go_enter Try.func18, Try.ntmps18
    go_wp2_with fail
    rw [← hw0]
    clear hw0
    refine HG.out.mono ?_
    rintro e w1 ⟨v, rfl, ho, b1⟩
    obtain ⟨A', c1, rfl, _, _⟩ := TxIn.of_own ho
    have HB1 := Lib.hid (HB.out.trans (b1.mono HB.out.size))
    have HZ1 := Lib.hid (HZ.out.below b1 HZ.out.lt)
    have z0 := HZ1.out.cell 0
    have z1 := HZ1.out.cell 1
    have z2 := HZ1.out.cell 2
    have f0 := HZ1.out.frozen 0
    have f1 := HZ1.out.frozen 1
    have f2 := HZ1.out.frozen 2
    clear b1 ho HG HB HZ
    generalize V.length = n at *
    go_wp2
    have hk := ((HZ1.out.set_ 0 (.int .i64 0)).set_ 1 (.int .i64 0)).set_ 2 (.int .i64 0)
    have j0 : _ = some (.int .i64 0 : Value) := hk.cell 0
    have j1 : _ = some (.int .i64 0 : Value) := hk.cell 1
    have j2 : _ = some (.int .i64 0 : Value) := hk.cell 2
    exact bodyPost_ret (v := .tuple #[partV 0 0 0, .bool false]) (by simp [results, Try.results18, go_sem, j0, j1, j2]) rfl ⟨rfl, ((HB1.out.setCell (by exact Nat.le_refl _) _).setCell (by exact Nat.le_refl _) _).setCell (by exact Nat.le_refl _) _⟩

set_option maxHeartbeats 2000000 in
theorem rof24_any (A : Option Addr) (c : Nat) (L : List Prm) (w : World) (h : HdIn w A L) (ha : AllIn 1048576 L) (hn : L.length ≤ 1048576) :
    Calls Try.prog 19 #[.slice A L.length c] w fun e w' => e = ofV (getN crS L) ∧ Below w.heap.size w w' := by
  obtain ⟨w0, hw0⟩ : ∃ w0, w0 = w.alloc (partC 0 0 0) := ⟨_, rfl⟩
  have HB := Lib.hid (show Below w.heap.size w w0 from by rw [hw0]; exact (Below.refl _ _).alloc (Nat.le_refl _) _)
  have HZ := Lib.hid (show Blk w0 w.heap.size 29 #[.int .i64 0, .int .i64 0, .int .i64 0] from by rw [hw0]; exact Blk.new w _ _)
  have hg := rget_any ⟨#[99, 111, 110, 116, 101, 110, 116, 45, 114, 97, 110, 103, 101]⟩ A c L w0 (h.below HB.out) ha hn (by decide)
  have hg' := hg
  have HG := Lib.hid hg
  have hl := getN_len crS L
  have hall : ∀ x ∈ getN crS L, x.size ≤ 1048576 := fun x hx => by
    unfold getN at hx
    obtain ⟨p, hp, rfl⟩ := List.mem_map.1 hx
    exact (ha p (List.mem_filter.1 hp).1).2
  clear hg hg' ha h
  generalize getN crS L = V at *
  by_cases h1 : V.length = 1
  · match V, h1 with
    | [x], _ =>
      obtain ⟨a, b, c', d, h2, h3⟩ := ofV_one x
      have HC := Lib.hid (fun W => rcontent24_any x W (by have := hall x (by simp); omega))
      rw [h2] at HC
      rw [h3]
      clear hall h2 h3 hl
      go_enter Try.func19, Try.ntmps19
      go_wp2_with fail
      rw [← hw0]
      clear hw0
      refine HG.out.mono ?_
      rintro e w1 ⟨v, rfl, ho, b1⟩
      obtain ⟨A', c1, rfl, hT, _⟩ := TxIn.of_own ho
      obtain ⟨g, rfl, hg, hx⟩ := hT 0 (by simp)
      have HB1 := Lib.hid (HB.out.trans (b1.mono HB.out.size))
      have HZ1 := Lib.hid (HZ.out.below b1 HZ.out.lt)
      have hx0 : w1.cell? ⟨g, 0, none⟩ = some (.string x) := hx
      clear b1 ho hT HG HB HZ
      go_wp2_with fail
      refine (HC.out _).mono ?_
      rintro e w2 ⟨rfl, b2⟩
      obtain ⟨w3, hw3⟩ : ∃ w3, w3 = w2.alloc (partC a b c') := ⟨_, rfl⟩
      have HB3 := Lib.hid (show Below w.heap.size w w3 from by rw [hw3]; exact (below_on HB1.out b2).alloc (below_on HB1.out b2).size _)
      have HZ3 := Lib.hid (show Blk w3 w.heap.size 29 #[.int .i64 0, .int .i64 0, .int .i64 0] from by rw [hw3]; exact (HZ1.out.below b2 HZ1.out.lt).alloc _)
      have HP3 := Lib.hid (show Blk w3 w2.heap.size 29 #[.int .i64 a, .int .i64 b, .int .i64 c'] from by rw [hw3]; exact Blk.new w2 _ _)
      clear b2 HC hx0 hx
      go_upto_region 5 with fail
      rw [← hw3]
      clear hw3
      have z0 := HZ3.out.cell 0
      have z1 := HZ3.out.cell 1
      have z2 := HZ3.out.cell 2
      have f0 := HZ3.out.frozen 0
      have f1 := HZ3.out.frozen 1
      have f2 := HZ3.out.frozen 2
      have p0 := HP3.out.cell 0
      have p1 := HP3.out.cell 1
      have p2 := HP3.out.cell 2
      go_wp2
      have hk := ((HZ3.out.set_ 0 (.int .i64 a)).set_ 1 (.int .i64 b)).set_ 2 (.int .i64 c')
      have j0 : _ = some (.int .i64 a : Value) := hk.cell 0
      have j1 : _ = some (.int .i64 b : Value) := hk.cell 1
      have j2 : _ = some (.int .i64 c' : Value) := hk.cell 2
      exact bodyPost_ret (v := .tuple #[partV a b c', .bool (d == 0)]) (by simp [results, Try.results19, go_sem, j0, j1, j2]) rfl ⟨rfl, ((HB3.out.setCell (by exact Nat.le_refl _) _).setCell (by exact Nat.le_refl _) _).setCell (by exact Nat.le_refl _) _⟩
  · rw [ofV_other h1]
    have hv : V.length ≤ 1048576 := by omega
    have hne : ((V.length : Int) == 1) = false := by rw [beq_eq_false_iff_ne]; omega
    clear hall hl h1
    go_enter Try.func19, Try.ntmps19
    go_wp2_with fail
    rw [← hw0]
    clear hw0
    refine HG.out.mono ?_
    rintro e w1 ⟨v, rfl, ho, b1⟩
    obtain ⟨A', c1, rfl, _, _⟩ := TxIn.of_own ho
    have HB1 := Lib.hid (HB.out.trans (b1.mono HB.out.size))
    have HZ1 := Lib.hid (HZ.out.below b1 HZ.out.lt)
    have z0 := HZ1.out.cell 0
    have z1 := HZ1.out.cell 1
    have z2 := HZ1.out.cell 2
    have f0 := HZ1.out.frozen 0
    have f1 := HZ1.out.frozen 1
    have f2 := HZ1.out.frozen 2
    clear b1 ho HG HB HZ
    generalize V.length = n at *
    go_wp2
    have hk := ((HZ1.out.set_ 0 (.int .i64 0)).set_ 1 (.int .i64 0)).set_ 2 (.int .i64 0)
    have j0 : _ = some (.int .i64 0 : Value) := hk.cell 0
    have j1 : _ = some (.int .i64 0 : Value) := hk.cell 1
    have j2 : _ = some (.int .i64 0 : Value) := hk.cell 2
    exact bodyPost_ret (v := .tuple #[partV 0 0 0, .bool false]) (by simp [results, Try.results19, go_sem, j0, j1, j2]) rfl ⟨rfl, ((HB1.out.setCell (by exact Nat.le_refl _) _).setCell (by exact Nat.le_refl _) _).setCell (by exact Nat.le_refl _) _⟩

set_option maxHeartbeats 2000000 in
theorem of_walk (a b c0 : Int) (z : Bool) (A : Option Addr) (n c : Nat) (L : List Prm) (w : World)
    (HF1 : Hid (∀ W, Below w.heap.size w W → Calls Try.prog 17 #[.slice A n c, .int .i64 10] W fun e w' => ∃ b c', e = .returned (.slice (some b) L.length c') ∧ OwnHd w' W.heap.size (some b) c' L ∧ Below W.heap.size W w'))
    (HF2 : Hid (∀ A c W, HdIn W A L → Calls Try.prog 17 #[.slice A L.length c, .int .i64 10] W fun e w' => ∃ b c', e = .returned (.slice (some b) L.length c') ∧ OwnHd w' W.heap.size (some b) c' L ∧ Below W.heap.size W w'))
    (HO : Hid (∀ A c W, HdIn W A L → Calls Try.prog 18 #[.slice A L.length c] W fun e w' => e = .returned (.tuple #[partV a b c0, .bool z]) ∧ Below W.heap.size W w'))
    (HRO : Hid (∀ A c W, HdIn W A L → Calls Try.prog 19 #[.slice A L.length c] W fun e w' => e = .returned (.tuple #[partV a b c0, .bool z]) ∧ Below W.heap.size W w')) :
    Calls Try.prog 5 #[.slice A n c] w fun e w' => e = .returned (.bool true) ∧ Below w.heap.size w w' := by
  have HLV := Lib.hid lives24_any
  go_enter Try.func5, Try.ntmps5
  go_wp2_with fail
  refine (HF1.out _ (Below.refl _ _)).mono ?_
  rintro e w1 ⟨g1, d1, rfl, o1, b1⟩
  have HL := Lib.hid o1.hd
  have HB := Lib.hid b1
  clear o1 b1 HF1
  go_wp2_with fail
  refine (HF2.out _ _ _ HL.out).mono ?_
  rintro e w2 ⟨g2, d2, rfl, o2, b2⟩
  have HF := Lib.hid o2.hd
  replace HL := Lib.hid (HL.out.below b2)
  replace HB := Lib.hid (below_on HB.out b2)
  clear o2 b2 HF2
  go_wp2_with fail
  refine (HO.out _ _ _ HF.out).mono ?_
  rintro e w3 ⟨rfl, b3⟩
  replace HL := Lib.hid (HL.out.below (b3.alloc b3.size (partC a b c0)))
  replace HB := Lib.hid (show Below w.heap.size w (w3.alloc (partC a b c0)) from (below_on HB.out b3).alloc (below_on HB.out b3).size _)
  have HZ1 := Lib.hid (Blk.new w3 29 #[.int .i64 a, .int .i64 b, .int .i64 c0])
  clear b3 HO HF
  go_wp2_with fail
  refine (HRO.out _ _ _ HL.out).mono ?_
  rintro e w4 ⟨rfl, b4⟩
  obtain ⟨w5, hw5⟩ : ∃ w5, w5 = w4.alloc (partC a b c0) := ⟨_, rfl⟩
  replace HB := Lib.hid (show Below w.heap.size w w5 from by rw [hw5]; exact (below_on HB.out b4).alloc (below_on HB.out b4).size _)
  replace HZ1 := Lib.hid (show Blk w5 w3.heap.size _ _ from by rw [hw5]; exact (HZ1.out.below b4 HZ1.out.lt).alloc _)
  have HZ2 := Lib.hid (show Blk w5 w4.heap.size 29 #[.int .i64 a, .int .i64 b, .int .i64 c0] from by rw [hw5]; exact Blk.new w4 _ _)
  clear b4 HRO HL
  go_upto_region 4 with fail
  rw [← hw5]
  clear hw5
  have c4 := HZ1.out.cell 0
  have c5 := HZ1.out.cell 1
  have c6 := HZ1.out.cell 2
  have c7 := HZ2.out.cell 0
  have c8 := HZ2.out.cell 1
  have c9 := HZ2.out.cell 2
  go_wp2_with fail
  refine (HLV.out _).mono ?_
  rintro e w6 ⟨rfl, b6⟩
  replace HB := Lib.hid (below_on HB.out b6)
  clear b6
  go_wp2
  go_ret
  exact ⟨rfl, HB.out⟩

theorem lof24_any (A : Option Addr) (n c : Nat) (lp : Nat → Prm) (w : World) (h : Came w A n lp) (hn : n ≤ 9223372036854775807) :
    Calls Try.prog 5 #[.slice A n c] w fun e w' => e = .returned (.bool true) ∧ Below w.heap.size w w' := by
  have HF1 := Lib.hid (fun W (hW : Below w.heap.size w W) => few22_any A n c 10 lp W (h.below hW) hn (by omega))
  have hll := fewHs_len lp (min n 10)
  have hall := fewHs_all lp (min n 10)
  have hmin : min n 10 ≤ 10 := Nat.min_le_right _ _
  rw [← hll] at hmin
  generalize fewHs lp (min n 10) = L at *
  rw [← hll] at HF1
  clear hll h
  have ha : AllIn 1048576 L := fun p hp => ⟨by have := (hall p hp).1; omega, by have := (hall p hp).2; omega⟩
  obtain ⟨a, b, c0, z, ho⟩ := ofV_some (getN crS L)
  refine of_walk a b c0 z A n c L w HF1 (Lib.hid fun A c W h => few22_own A c 10 L W h hall hmin (by omega)) (Lib.hid fun A c W h => ?_) (Lib.hid fun A c W h => ?_)
  · rw [← ho]; exact of24_any A c L W h ha (by omega)
  · rw [← ho]; exact rof24_any A c L W h ha (by omega)

end Go.Proofs.Ytaolclpjlkdkjaa
