/-
  The law Mp3Joined, and an argument that is a slice of twos of bytes, written out. Condition: what an argument's reading gives.
-/
import Derived.Test.YtmjkolkmpnadpaaPq
import Derived.Test.YtmjkolkmpnadpaaLift
import Derived.Deep.Slices
import Derived.Lib.SmallJoins
import Derived.ChangeMaps5
import Derived.OpenShut
namespace Go.Proofs.Ytmjkolkmpnadpaa
open Go.ChangeShapes Go.WideShapes Go.ChangeAt Go.RowKit Go.Joins Go.Deep

theorem Try.cellsTwoB : Try.prog.cellsOf 41 = 2 := by kernel_rfl
theorem Try.cellsByte : Try.prog.cellsOf 5 = 1 := by kernel_rfl
theorem open_byte1 {H : Type} {enc : TypeId × Value → H} {W : World} {base : Nat} {spare : Nat → Bool} {held : Bool} {n : Nat} {v : Value} {y : DataW H × List MemPlace}
    (h : DataW.trod enc Try.prog W base spare held n 5 [v] = some y) : ∃ b : UInt8, v = .int .u8 (b.toNat : Int) := by
  obtain ⟨k0, e0, _, w0⟩ := DataW.trod_int Try.underlying5 h
  obtain ⟨b, rfl⟩ := byte_of w0
  exact ⟨b, by simpa using e0⟩
/-- A slice of twos of bytes that came in. -/
def TwoCame (W : World) (A : Option Addr) (n : Nat) (lp : Nat → Two) : Prop := ∀ i, i < n → ∃ a, A = some a ∧ a.block < W.heap.size ∧ W.cell? (a.add (i * 2)) = some (.int .u8 ((lp i).b.toNat : Int)) ∧ W.cell? ((a.add (i * 2)).add 1) = some (.int .u8 ((lp i).c.toNat : Int))

set_option maxRecDepth 100000 in
theorem open_bytes2 {H : Type} {enc : TypeId × Value → H} {W : World} {base : Nat} {v : Value} {d : DataW H} {p : List MemPlace}
    (hv : Value.okWide Try.prog W .any base 39 v) (h : DataW.Trod enc Try.prog W 0 (fun _ => true) true 39 v d p) :
    ∃ (A : Option Addr) (n c : Nat) (lp : Nat → Two), v = .slice A n c ∧ n ≤ 9223372036854775807 ∧ TwoCame W A n lp := by
  obtain ⟨fuel, hf⟩ := h
  obtain ⟨A, n, c, rfl⟩ := okWide_slice Try.underlying39 hv
  rcases open_slice Try.underlying39 hf with ⟨hc, _⟩ | ⟨a, len, cap, m, nn, D, Pl, hc, _, hl, hm, hmm, _, hi⟩
  · simp [Value.cells] at hc
    obtain ⟨rfl, rfl, rfl⟩ := hc
    exact ⟨none, 0, 0, fun _ => ⟨0, 0⟩, rfl, by omega, fun i h => absurd h (by omega)⟩
  · simp [Value.cells] at hc
    obtain ⟨rfl, rfl, rfl⟩ := hc
    simp at hmm
    unfold maxLen at hm
    have key : ∀ i, i < n → ∃ t : Two, a.block < W.heap.size ∧ W.cell? (a.add (i * 2)) = some (.int .u8 (t.b.toNat : Int)) ∧ W.cell? ((a.add (i * 2)).add 1) = some (.int .u8 (t.c.toNat : Int)) := fun i hin => by
      obtain ⟨cs, hcs, ht⟩ := hi i (by omega)
      rw [Try.cellsTwoB] at hcs
      obtain ⟨_, hlen, hat⟩ := World.cells?_some hcs
      obtain ⟨xs, m2, _, _, _, hl2, hg⟩ := DataW.trod_array Try.underlying41 ht
      match cs, hlen with
      | [v0, v1], _ =>
        match xs, hl2 with
        | [y0, y1], _ =>
          have h0 := hg 0 (by omega)
          have h1 := hg 1 (by omega)
          rw [Try.cellsByte] at h0 h1
          simp at h0 h1
          obtain ⟨s0, rfl⟩ := open_byte1 h0
          obtain ⟨s1, rfl⟩ := open_byte1 h1
          have c0 : W.cell? (a.add (i * 2)) = some (.int .u8 (s0.toNat : Int)) := by
            have := hat 0 (by omega)
            simpa [Try.cellsTwoB, Addr.add] using this
          have c1 : W.cell? ((a.add (i * 2)).add 1) = some (.int .u8 (s1.toNat : Int)) := by
            have := hat 1 (by omega)
            simpa [Try.cellsTwoB] using this
          have hblk := World.block_lt_of_cell? W _ c0
          have he : (a.add (i * 2)).block = a.block := by unfold Addr.add; split <;> rfl
          rw [he] at hblk
          exact ⟨⟨s0, s1⟩, hblk, c0, c1⟩
    refine ⟨some a, n, c, fun i => if hi : i < n then Classical.choose (key i hi) else ⟨0, 0⟩, rfl, by omega, fun i hin => ?_⟩
    simp only [dif_pos hin]
    exact ⟨a, rfl, Classical.choose_spec (key i hin)⟩

theorem twoS_size (b c : UInt8) : (twoS b c).size ≤ 1441 := by
  unfold twoS
  split
  · rename_i h
    have := frmS_size h
    have := szF_le (hdF (headS b c))
    omega
  · exact Nat.zero_le _
theorem twoS_no {b c : UInt8} (h : (twoS b c).toList = []) : twoS b c = ⟨#[]⟩ := by
  have h2 : (twoS b c).size = 0 := by rw [← toList_size, h]; rfl
  unfold twoS at h2 ⊢
  split
  · rename_i h4
    rw [if_pos h4] at h2
    have := frmS_size h4
    omega
  · rfl
theorem twoS_yes {b c : UInt8} (h : (twoS b c).toList ≠ []) : Two.ok ⟨b, c⟩ ∧ twoS b c = frmS b c := by
  unfold twoS at h ⊢
  split
  · rename_i h4
    exact ⟨h4, rfl⟩
  · rename_i h4
    rw [if_neg h4] at h
    exact absurd (show (⟨#[]⟩ : ByteArray).toList = [] from by kernel_rfl) h

set_option maxHeartbeats 4000000 in
set_option maxRecDepth 100000 in
theorem mp3Joined_any (A : Option Addr) (n c : Nat) (lp : Nat → Two) (w : World) (hd : TwoCame w A n lp) (hn : n ≤ 9223372036854775807) :
    Calls Try.prog 6 #[.slice A n c] w fun e w' => e = .returned (.bool true) ∧ Below w.heap.size w w' := by
  have HD := Lib.hid hd
  clear hd
  have HLV := Lib.hid lives18_any
  go_enter Try.func6, Try.ntmps6
  go_wp2
  go_loopw [3, 4, 5, 6] (fun t m i _ wr => ∃ (k : Nat) (L : List Two), k ≤ n ∧ k ≤ 6 ∧ L.length ≤ k ∧ i = .int .i64 (k : Nat) ∧ t = .string (rowS L) ∧ m = .int .i64 (L.length : Nat) ∧ (∀ x ∈ L, Two.ok x) ∧ Aft w wr) (fun _ _ i _ _ => 6 - (intOf i).toNat)
  case atStart => exact ⟨0, [], by omega, by omega, Nat.le_refl _, rfl, rfl, rfl, fun x hx => absurd hx (by simp), Below.refl _ _⟩
  case round =>
    obtain ⟨k, L, hk, hk6, hL, rfl, rfl, rfl, hok, hw⟩ := hrel
    have HW := Lib.hid hw
    have HO := Lib.hid hok
    have hz := rowS_size L hok
    clear hw hok
    by_cases hlt : k < n ∧ k < 6
    · obtain ⟨hlt, hlt6⟩ := hlt
      obtain ⟨a, rfl, hab, c0, c1⟩ := HD.out k hlt
      have hab' : (a.add (k * 2)).block < w.heap.size := by
        have he : (a.add (k * 2)).block = a.block := by unfold Addr.add; split <;> rfl
        rw [he]; exact hab
      have f0 : ∀ x : Wld (Aft w), x.val.cell? (a.add (k * 2)) = some (.int .u8 ((lp k).b.toNat : Int)) := fun x => (Below.cell x.ok hab').trans c0
      have f1 : ∀ x : Wld (Aft w), x.val.cell? ⟨(a.add (k * 2)).block, (a.add (k * 2)).off + 1, none⟩ = some (.int .u8 ((lp k).c.toNat : Int)) := fun x => (Below.cell (p := ⟨(a.add (k * 2)).block, (a.add (k * 2)).off + 1, none⟩) x.ok hab').trans c1
      have inst : Nonempty (Wld (Aft w)) := ⟨⟨_, HW.out⟩⟩
      have HF := Lib.hid (fun W => rframe_any (lp k).b (lp k).c W)
      have hts := twoS_size (lp k).b (lp k).c
      have HNO := Lib.hid (twoS_no (b := (lp k).b) (c := (lp k).c))
      have HYES := Lib.hid (twoS_yes (b := (lp k).b) (c := (lp k).c))
      have HRA := Lib.hid (rowS_add ⟨(lp k).b, (lp k).c⟩ L)
      clear c0 c1
      generalize (lp k).b = bb at *
      generalize (lp k).c = cc at *
      obtain ⟨M, hM⟩ : ∃ M, M = twoS bb cc := ⟨_, rfl⟩
      rw [← hM] at HF hts HNO HYES
      clear hM
      obtain ⟨z, hzz⟩ : ∃ z, z = rowS L := ⟨_, rfl⟩
      obtain ⟨len, hlen⟩ : ∃ len, len = L.length := ⟨_, rfl⟩
      have HZ := Lib.hid hzz
      have HLN := Lib.hid hlen
      rw [← hzz] at hz HRA
      rw [← hzz, ← hlen]
      rw [← hlen] at hz hL
      clear hzz hlen
      have hsum : ¬ 9223372036854775807 < z.size + M.size := by omega
      by_cases he : M.toList = []
      · have he2 : (M.toList == ([] : List UInt8)) = true := by rw [he]; rfl
        clear he
        go_wp2
        refine wp_region_class (Aft w) (by kernel_rfl) (by kernel_rfl) HW.out.drew ?_
        repeat (go_big_quiet_step ((go_at_call 22; exact Calls.cls (HF.out _) fun _ h => Aft.next h)))
        refine wpQuiet_nil ?_
        intro w2 h2
        have HW2 := Lib.hid h2
        clear h2 f0 f1 inst
        go_wp2
        go_roundw
        case rel => exact ⟨k + 1, L, by omega, by omega, by rw [← HLN.out]; omega, by go_num, by rw [HZ.out], by rw [HLN.out], HO.out, HW2.out⟩
        case measure => simp [intOf]; omega
      · have he2 : (M.toList == ([] : List UInt8)) = false := by rw [beq_eq_false_iff_ne]; exact he
        have HY := Lib.hid (HYES.out he)
        have HOK := Lib.hid (show ∀ x ∈ L ++ [⟨bb, cc⟩], Two.ok x from fun x hx => by
          rcases List.mem_append.1 hx with h | h
          · exact HO.out x h
          · rw [List.mem_singleton.1 h]; exact HY.out.1)
        have HRS := Lib.hid (show rowS (L ++ [⟨bb, cc⟩]) = z ++ M from by rw [HRA.out, HY.out.2])
        have HLL := Lib.hid (show (L ++ [(⟨bb, cc⟩ : Two)]).length = len + 1 from by rw [List.length_append, HLN.out]; rfl)
        clear he HYES HNO
        go_wp2
        refine wp_region_class (Aft w) (by kernel_rfl) (by kernel_rfl) HW.out.drew ?_
        repeat (go_big_quiet_step ((go_at_call 22; exact Calls.cls (HF.out _) fun _ h => Aft.next h)))
        refine wpQuiet_nil ?_
        intro w2 h2
        have HW2 := Lib.hid h2
        clear h2 f0 f1 inst
        go_wp2
        go_roundw
        case rel => exact ⟨k + 1, L ++ [⟨bb, cc⟩], by omega, by omega, by rw [HLL.out]; omega, by go_num, by rw [HRS.out], by rw [HLL.out]; go_num, HOK.out, HW2.out⟩
        case measure => simp [intOf]; omega
    · have hg := rowS_frm L HO.out
      have his := rowS_is L HO.out
      have hz2 : (rowS L).size ≤ 8646 := by omega
      have HFR := Lib.hid (fun W => frames_any (rowS L) W (by omega))
      have HMI := Lib.hid (fun W => mis_any (rowS L) W (by omega))
      rw [hg] at HFR
      rw [his] at HMI
      have hd1 : Hid (decide (1 < L.length) = decide ((1 : Int) < (L.length : Nat))) := Lib.hid (by rw [Bool.eq_iff_iff, decide_eq_true_eq, decide_eq_true_eq]; omega)
      rw [hd1.out] at HMI
      have hcase : (n = k) ∨ (k < n ∧ k = 6) := by omega
      clear hg his hz hlt HO hd1
      generalize rowS L = z at *
      generalize L.length = len at *
      rcases hcase with rfl | ⟨h1, rfl⟩
      all_goals
        as_aux_lemma =>
        go_wp2_with (first
          | (go_at_call 17; (with_reducible refine (HFR.out _).mono ?_); rintro e w1 ⟨rfl, hb⟩; have HW1 := Lib.hid (HW.out.step hb); clear hb)
          | (go_at_call 18; (with_reducible refine (HMI.out _).mono ?_); rintro e w2 ⟨rfl, hb⟩; have HW2 := Lib.hid (HW1.out.step hb); clear hb)
          | (go_at_call 13; (with_reducible refine (HLV.out _).mono ?_); rintro e w3 ⟨rfl, hb⟩; have HW3 := Lib.hid (HW2.out.step hb); clear hb))
        go_ret
        exact ⟨by simp, HW3.out⟩

end Go.Proofs.Ytmjkolkmpnadpaa
