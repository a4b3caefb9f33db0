/-
  What package mp4's Is and Brands answer. Condition: the text takes at most 2^40 bytes.
-/
import Derived.Test.YtbibcpbldnedhaaYc
import Derived.Lib.Builder
import Derived.Test.YtbibcpbldnedhaaMFLaw
namespace Go.Proofs.Ytbibcpbldnedhaa
open Go.RowKit

theorem mp4B_pre {x : ByteArray} (h : 3 ≤ x.size) : prefB x mp4S = mp4B x := by
  unfold prefB mp4B
  rw [show decide (mp4S.size ≤ x.size) = true from decide_eq_true h]
  rfl

set_option maxHeartbeats 400000 in
theorem is1_any (b : Nat) (d : Bool) (x : ByteArray) (w : World) (hb : Blk w b 4 #[.bool d]) (h3 : 3 ≤ x.size) (hs : x.size ≤ 9223372036854775807) :
    Calls Try.prog 22 #[.string x, .pointer (some ⟨b, 0, none⟩)] w fun e w' => e = .returned (.bool (!mp4B x)) ∧ Mv w.heap.size [b] w w' ∧ Blk w' b 4 #[.bool (mp4B x)] := by
  have c0 : w.cell? ⟨b, 0, none⟩ = some (.bool d) := hb.cell 0
  have z0 := hb.frozen 0
  have HP : Hid (∀ W, Calls Try.prog 23 #[.string x, .string mp4S] W fun e w' => e = .returned (.bool (mp4B x)) ∧ W = w') := Lib.hid fun W => by
    have := hasPrefix_any x mp4S W hs (by show 3 ≤ _; omega)
    rwa [mp4B_pre h3] at this
  have HB := Lib.hid hb
  clear hb
  generalize mp4B x = v at *
  go_enter Try.func22, Try.ntmps22
  go_wp2_with (go_at_call 23; (with_reducible refine (HP.out _).mono ?_); rintro e w1 ⟨rfl, rfl⟩)
  go_ret
  exact ⟨rfl, (Mv.refl _ _ _).setCell (.inl (by simp)) _, HB.out.set_ 0 _⟩

theorem is1_enter (a b : Value) (w : World) : (callFunc 22 #[a, b]).run Try.prog w = .ok (.enter 22 #[a, b]) w := by simp [go_sem]

set_option maxHeartbeats 400000 in
theorem mp4Is_any (s : ByteArray) (w : World) (hs : s.size ≤ 1099511627776) :
    Calls Try.prog 11 #[.string s] w fun e w' => e = .returned (.bool (filmB s)) ∧ Below w.heap.size w w' := by
  have hmf := make_func
  have HB0 := Lib.hid (Blk.new w 4 #[.bool false])
  have HA0 : Hid (Below w.heap.size w (w.alloc (.cells #[.bool false] 4))) := Lib.hid ((Below.refl _ _).alloc (Nat.le_refl _) _)
  have hw0 : (w.alloc (.cells #[.bool false] 4)).heap.size = w.heap.size + 1 := by simp
  have HE := Lib.hid (eachBrand_any 22 ⟨w.heap.size, 0, none⟩ s (w.alloc (.cells #[.bool false] 4)) (by omega)
    (fun k W => Below w.heap.size w W ∧ w.heap.size < W.heap.size ∧ filmA s k = false ∧ Blk W w.heap.size 4 #[.bool false])
    (fun k W => Below w.heap.size w W ∧ filmA s k = true ∧ Blk W w.heap.size 4 #[.bool true])
    (fun k W W' ⟨h1, h2, h3, h4⟩ hb => ⟨h1.trans (hb.mono h1.size), Nat.lt_of_lt_of_le h2 hb.size, h3, h4.below hb h2⟩)
    (fun x W => is1_enter _ _ W)
    (fun k W hk ⟨h1, h2, h3, h4⟩ => (is1_any w.heap.size false (namT s k) W h4 (by rw [namT_size hk]; omega) (by rw [namT_size hk]; omega)).mono fun e W' ⟨he, hm, hb⟩ => by
      have hbw : Below w.heap.size w W' := h1.trans (hm.below h1.size (by simp))
      have hst : filmA s (k + 1) = mp4B (namT s k) := by rw [filmA, h3, Bool.false_or]
      rw [← hst] at he hb
      cases hc : filmA s (k + 1)
      · rw [hc] at he hb
        exact .inl ⟨he, hbw, Nat.lt_of_lt_of_le h2 hm.size, rfl, hb⟩
      · rw [hc] at he hb
        exact .inr ⟨he, hbw, rfl, hb⟩)
    ⟨HA0.out, by simp, rfl, HB0.out⟩)
  go_enter Try.func11, Try.ntmps11
  go_wp2_with fail
  refine HE.out.mono ?_
  rintro e w1 ⟨rfl, h⟩
  rcases h with ⟨h1, h2, h3, h4⟩ | ⟨k, hk, h1, h3, h4⟩
  · have c0 : w1.cell? ⟨w.heap.size, 0, none⟩ = some (.bool false) := h4.cell 0
    go_wp2
    go_ret
    exact ⟨by unfold filmB; rw [h3]; rfl, h1⟩
  · have c0 : w1.cell? ⟨w.heap.size, 0, none⟩ = some (.bool true) := h4.cell 0
    go_wp2
    go_ret
    exact ⟨by unfold filmB; rw [filmA_on hk h3]; rfl, h1⟩

theorem strs_snoc (l : List ByteArray) (x : ByteArray) : strs (l ++ [x]) = strs l ++ [.string x] := by simp [strs]

set_option maxHeartbeats 1000000 in
theorem brands1_any (b base n : Nat) (v : Value) (l : List ByteArray) (x : ByteArray) (w : World) (hb : Blk w b 28 #[v]) (ho : w.ownsRow base 9 1 v n (strs l)) (hn : n ≤ 1099511627776) (hbase : base ≤ w.heap.size) (hbb : base ≤ b) :
    Calls Try.prog 24 #[.string x, .pointer (some ⟨b, 0, none⟩)] w fun e w' => e = .returned (.bool true) ∧ Below base w w' ∧ ∃ v', Blk w' b 28 #[v'] ∧ w'.ownsRow base 9 1 v' (n + 1) (strs (l ++ [x])) := by
  obtain ⟨i0, hi, hz0, hz1, hz2⟩ := info_parts Try.info9
  have hbl := hb.lt
  have c0 : w.cell? ⟨b, 0, none⟩ = some v := hb.cell 0
  have HNE := Lib.hid (Lib.ownBlock_ne ho hb (by decide))
  obtain ⟨ao, n', cap, rfl⟩ := own_slice ho
  have HO := Lib.hid ho
  have HB := Lib.hid hb
  clear ho hb
  go_enter Try.func24, Try.ntmps24
  go_wp2_with (at_builtin; refine wpList_append_own _ rfl _ _ 28 rfl base 9 i0 (.string ⟨#[]⟩) 1 16 Try.underlying28 hi hz0 hz1 hz2 rfl (by decide) _ _ _ rfl (HO.out.alloc _) ⟨w.heap.size, 0, none⟩ 1 1 [.string x] rfl rfl ?c1 ?c2 ?c3 ?c4 ?c5 ?_)
  case c1 =>
    intro j u hj
    match j, hj with
    | 0, hj => simp at hj; subst hj; simp [Addr.add]
  case c2 => intro u hu; simp at hu; subst hu; rfl
  case c3 => unfold maxLen; omega
  case c4 => omega
  case c5 => simp; omega
  intro v' w1 hown hgrow _
  have HB1 : Blk w1 b 28 #[.slice ao n' cap] := (hgrow.block b (by simp; omega) (fun e => HNE.out e.symm)).trans (HB.out.alloc _)
  have hbw := Below.grown (Below.refl base (w.alloc (.cells #[.string x] 9))) hgrow (by simp; omega) (fun g hg => (HO.out.lt g hg).1)
  have HW := Lib.hid (((Below.refl base w).alloc hbase _).trans hbw)
  have c1 : w1.cell? ⟨b, 0, none⟩ = some (.slice ao n' cap) := HB1.cell 0
  have z1 := HB1.frozen 0
  have HNE1 := Lib.hid (Lib.ownBlock_ne hown HB1 (by decide))
  have HK := Lib.hid HB1
  obtain ⟨ao', n2, cap', rfl⟩ := own_slice hown
  have HOW := Lib.hid hown
  clear HB1 hbw hgrow hown c0
  go_wp2
  go_ret
  refine ⟨rfl, HW.out.setCell hbb _, _, HK.out.set_ 0 _, ?_⟩
  have h2 := own_mv HOW.out (((Mv.refl w1.heap.size [b] w1)).setCell (p := ⟨b, 0, none⟩) (.inl (by simp)) (.slice ao' n2 cap')) (by simpa using HNE1.out)
  rw [strs_snoc]
  exact h2

theorem brands1_enter (a b : Value) (w : World) : (callFunc 24 #[a, b]).run Try.prog w = .ok (.enter 24 #[a, b]) w := by simp [go_sem]

set_option maxHeartbeats 400000 in
theorem mp4Brands_any (s : ByteArray) (w : World) (hs : s.size ≤ 1099511627776) :
    Calls Try.prog 14 #[.string s] w (NewStrs (namL s (namN s)) w) := by
  have hmf := make_func
  have hnn := namN_le s
  have HB0 := Lib.hid (Blk.new w 28 #[.slice none 0 0])
  have HA0 : Hid (Below w.heap.size w (w.alloc (.cells #[.slice none 0 0] 28))) := Lib.hid ((Below.refl _ _).alloc (Nat.le_refl _) _)
  have HE := Lib.hid (eachBrand_any 24 ⟨w.heap.size, 0, none⟩ s (w.alloc (.cells #[.slice none 0 0] 28)) (by omega)
    (fun k W => Below w.heap.size w W ∧ w.heap.size < W.heap.size ∧ ∃ v, Blk W w.heap.size 28 #[v] ∧ W.ownsRow w.heap.size 9 1 v k (strs (namL s k)))
    (fun _ _ => False)
    (fun k W W' ⟨h1, h2, v, h3, h4⟩ hb => ⟨h1.trans (hb.mono h1.size), Nat.lt_of_lt_of_le h2 hb.size, v, h3.below hb h2, own_below h4 hb⟩)
    (fun x W => brands1_enter _ _ W)
    (fun k W hk ⟨h1, h2, v, h3, h4⟩ => (brands1_any w.heap.size w.heap.size k v (namL s k) (namT s k) W h3 h4 (by omega) h1.size (Nat.le_refl _)).mono fun e W' ⟨he, hm, v', hb', ho'⟩ =>
      .inl ⟨he, h1.trans hm, Nat.lt_of_lt_of_le h2 hm.size, v', hb', ho'⟩)
    ⟨HA0.out, by simp, _, HB0.out, World.ownsRow_nil _ _ _ _⟩)
  go_enter Try.func14, Try.ntmps14
  go_wp2_with fail
  refine HE.out.mono ?_
  rintro e w1 ⟨rfl, h⟩
  rcases h with ⟨h1, h2, v, h3, h4⟩ | ⟨k, hk, h⟩
  · have c0 : w1.cell? ⟨w.heap.size, 0, none⟩ = some v := h3.cell 0
    go_wp2
    go_ret
    exact ⟨v, rfl, by rw [namL_len]; exact h4, h1⟩
  · exact h.elim

end Go.Proofs.Ytbibcpbldnedhaa
