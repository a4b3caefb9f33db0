/-
  The law PackCounts, and an argument that is a slice of threes of texts, written out. Condition: what an argument's reading gives.
-/
import Derived.Test.YtcoblepgehjamaaWg
import Derived.Test.YtcoblepgehjamaaWh
import Derived.Test.YtcoblepgehjamaaWe
import Derived.Test.YtcoblepgehjamaaIg
import Derived.Test.YtcoblepgehjamaaLift
import Derived.Deep.Slices
import Derived.Lib.SmallJoins
import Derived.ChangeMaps5
import Derived.OpenShut
namespace Go.Proofs.Ytcoblepgehjamaa
open Go.ChangeShapes Go.WideShapes Go.ChangeAt Go.RowKit Go.Joins Go.Deep

theorem Try.cellsThree : Try.prog.cellsOf 36 = 3 := by kernel_rfl
theorem Try.cellsStr3 : Try.prog.cellsOf 9 = 1 := by kernel_rfl
theorem open_str3 {H : Type} {enc : TypeId × Value → H} {W : World} {base : Nat} {spare : Nat → Bool} {held : Bool} {n : Nat} {v : Value} {y : DataW H × List MemPlace}
    (h : DataW.trod enc Try.prog W base spare held n 9 [v] = some y) : ∃ s : ByteArray, v = .string s ∧ s.size ≤ 9223372036854775807 := by
  obtain ⟨s, e, _, hs⟩ := DataW.trod_string Try.underlying9 h
  unfold maxLen at hs
  exact ⟨s, by simpa using e, hs⟩
/-- Three texts. -/
structure Thr where
  x : ByteArray
  y : ByteArray
  z : ByteArray
/-- A slice of threes of texts that came in. -/
def ThrCame (W : World) (A : Option Addr) (n : Nat) (lp : Nat → Thr) : Prop := ∀ i, i < n → ∃ a, A = some a ∧ a.block < W.heap.size ∧ W.cell? (a.add (i * 3)) = some (.string (lp i).x) ∧ W.cell? ((a.add (i * 3)).add 1) = some (.string (lp i).y) ∧ W.cell? ((a.add (i * 3)).add 2) = some (.string (lp i).z) ∧
  (lp i).x.size ≤ 9223372036854775807 ∧ (lp i).y.size ≤ 9223372036854775807 ∧ (lp i).z.size ≤ 9223372036854775807

set_option maxRecDepth 100000 in
theorem open_threes {H : Type} {enc : TypeId × Value → H} {W : World} {base : Nat} {v : Value} {d : DataW H} {p : List MemPlace}
    (hv : Value.okWide Try.prog W .any base 34 v) (h : DataW.Trod enc Try.prog W 0 (fun _ => true) true 34 v d p) :
    ∃ (A : Option Addr) (n c : Nat) (lp : Nat → Thr), v = .slice A n c ∧ n ≤ 9223372036854775807 ∧ ThrCame W A n lp := by
  obtain ⟨fuel, hf⟩ := h
  obtain ⟨A, n, c, rfl⟩ := okWide_slice Try.underlying34 hv
  rcases open_slice Try.underlying34 hf with ⟨hc, _⟩ | ⟨a, len, cap, m, nn, D, Pl, hc, _, hl, hm, hmm, _, hi⟩
  · simp [Value.cells] at hc
    obtain ⟨rfl, rfl, rfl⟩ := hc
    exact ⟨none, 0, 0, fun _ => ⟨⟨#[]⟩, ⟨#[]⟩, ⟨#[]⟩⟩, rfl, by omega, fun i h => absurd h (by omega)⟩
  · simp [Value.cells] at hc
    obtain ⟨rfl, rfl, rfl⟩ := hc
    simp at hmm
    unfold maxLen at hm
    have key : ∀ i, i < n → ∃ t : Thr, a.block < W.heap.size ∧ W.cell? (a.add (i * 3)) = some (.string t.x) ∧ W.cell? ((a.add (i * 3)).add 1) = some (.string t.y) ∧ W.cell? ((a.add (i * 3)).add 2) = some (.string t.z) ∧ t.x.size ≤ 9223372036854775807 ∧ t.y.size ≤ 9223372036854775807 ∧ t.z.size ≤ 9223372036854775807 := fun i hin => by
      obtain ⟨cs, hcs, ht⟩ := hi i (by omega)
      rw [Try.cellsThree] at hcs
      obtain ⟨_, hlen, hat⟩ := World.cells?_some hcs
      obtain ⟨xs, m2, _, _, _, hl2, hg⟩ := DataW.trod_array Try.underlying36 ht
      match cs, hlen with
      | [v0, v1, v2], _ =>
        match xs, hl2 with
        | [y0, y1, y2], _ =>
          have h0 := hg 0 (by omega)
          have h1 := hg 1 (by omega)
          have h2 := hg 2 (by omega)
          rw [Try.cellsStr3] at h0 h1 h2
          simp at h0 h1 h2
          obtain ⟨s0, rfl, e0⟩ := open_str3 h0
          obtain ⟨s1, rfl, e1⟩ := open_str3 h1
          obtain ⟨s2, rfl, e2⟩ := open_str3 h2
          have c0 : W.cell? (a.add (i * 3)) = some (.string s0) := by
            have := hat 0 (by omega)
            simpa [Try.cellsThree, Addr.add] using this
          have c1 : W.cell? ((a.add (i * 3)).add 1) = some (.string s1) := by
            have := hat 1 (by omega)
            simpa [Try.cellsThree] using this
          have c2 : W.cell? ((a.add (i * 3)).add 2) = some (.string s2) := by
            have := hat 2 (by omega)
            simpa [Try.cellsThree] using this
          have hblk := World.block_lt_of_cell? W _ c0
          have he : (a.add (i * 3)).block = a.block := by unfold Addr.add; split <;> rfl
          rw [he] at hblk
          exact ⟨⟨s0, s1, s2⟩, hblk, c0, c1, c2, e0, e1, e2⟩
    refine ⟨some a, n, c, fun i => if hi : i < n then Classical.choose (key i hi) else ⟨⟨#[]⟩, ⟨#[]⟩, ⟨#[]⟩⟩, rfl, by omega, fun i hin => ?_⟩
    simp only [dif_pos hin]
    exact ⟨a, rfl, Classical.choose_spec (key i hin)⟩

theorem Aft.same {w : World} {x : Wld (Aft w)} {W' : World} (h : x.val = W') : Aft w W' := h ▸ x.ok
theorem aft_cell {w : World} {a : Addr} {v : Value} (h : w.cell? a = some v) (x : Wld (Aft w)) : x.val.cell? a = some v :=
  (World.cell?_of_block (x.ok.block _ (World.block_lt_of_cell? w _ h))).trans h
theorem cat_size {m : Nat → ByteArray} (hm : ∀ i, (m i).size ≤ 410) : ∀ k, (catM m k).size ≤ k * 410
  | 0 => Nat.zero_le _
  | k + 1 => by
    have := cat_size hm k
    have := hm k
    rw [catM, ByteArray.size_append]
    omega
/-- The member that a three of texts makes. -/
def thrM (t : Thr) : ByteArray := memS (cutB t.x 40) (cutB t.y 40) (cutB t.z 300)
theorem thrM_size (t : Thr) : (thrM t).size ≤ 410 := by
  have h1 := cutB_size t.x 40
  have h2 := cutB_size t.y 40
  have h3 := cutB_size t.z 300
  unfold thrM
  rw [memS_size]
  omega
theorem thrM_is (t : Thr) : ∃ x y z, thrM t = memS x y z ∧ x.size < 256 ∧ y.size < 256 ∧ z.size < 65536 := by
  have h1 := cutB_size t.x 40
  have h2 := cutB_size t.y 40
  have h3 := cutB_size t.z 300
  exact ⟨_, _, _, rfl, by omega, by omega, by omega⟩

set_option maxHeartbeats 4000000 in
set_option maxRecDepth 100000 in
theorem packCounts_any (A : Option Addr) (n c : Nat) (lp : Nat → Thr) (w : World) (hd : ThrCame w A n lp) (hn : n ≤ 9223372036854775807) :
    Calls Try.prog 6 #[.slice A n c] w fun e w' => e = .returned (.bool true) ∧ Below w.heap.size w w' := by
  have HD := Lib.hid hd
  clear hd
  have HLV := Lib.hid lives15_any
  obtain ⟨m, hm⟩ : ∃ m : Nat → ByteArray, m = fun i => thrM (lp i) := ⟨_, rfl⟩
  have HSZ := Lib.hid (cat_size (m := m) (fun i => by rw [hm]; exact thrM_size _))
  have HG := Lib.hid (memG_cat (m := m) (fun i => by rw [hm]; exact thrM_is _))
  have HMI := Lib.hid (fun i => (show m i = thrM (lp i) from by rw [hm]))
  clear hm
  go_enter Try.func6, Try.ntmps6
  go_wp2
  go_loopw [3, 4, 5] (fun s q i wr => ∃ k : Nat, k ≤ n ∧ k ≤ 8 ∧ i = .int .i64 k ∧ q = .int .i64 k ∧ s = .string (catM m k) ∧ Aft w wr) (fun _ _ i _ => 8 - (intOf i).toNat)
  case atStart => exact ⟨0, by omega, by omega, rfl, rfl, rfl, Below.refl _ _⟩
  case round =>
    obtain ⟨k, hk, hk8, rfl, rfl, rfl, hw⟩ := hrel
    have HW := Lib.hid hw
    clear hw
    have hz := HSZ.out k
    by_cases hlt : k < n ∧ k < 8
    · obtain ⟨hlt, hlt8⟩ := hlt
      obtain ⟨a, rfl, hab, c0, c1, c2, hx0, hx1, hx2⟩ := HD.out k hlt
      have HC0 := Lib.hid (fun W => cut_any (lp k).x 40 W hx0)
      have HC1 := Lib.hid (fun W => cut_any (lp k).y 40 W hx1)
      have HC2 := Lib.hid (fun W => cut_any (lp k).z 300 W hx2)
      have HMM := Lib.hid (fun W => rMember_any (cutB (lp k).x 40) (cutB (lp k).y 40) (cutB (lp k).z 300) W (cutB_size _ _) (cutB_size _ _) (cutB_size _ _))
      have HCAT := Lib.hid (show catM m (k + 1) = catM m k ++ thrM (lp k) from by rw [catM, HMI.out])
      have hts := thrM_size (lp k)
      have HTE := Lib.hid (show thrM (lp k) = memS (cutB (lp k).x 40) (cutB (lp k).y 40) (cutB (lp k).z 300) from rfl)
      rw [← HTE.out] at HMM
      clear HTE
      have f0 := aft_cell c0
      have f1 : ∀ v : Wld (Aft w), v.val.cell? ⟨(a.add (k * 3)).block, (a.add (k * 3)).off + 1, none⟩ = some (.string (lp k).y) := aft_cell c1
      have f2 : ∀ v : Wld (Aft w), v.val.cell? ⟨(a.add (k * 3)).block, (a.add (k * 3)).off + 2, none⟩ = some (.string (lp k).z) := aft_cell c2
      generalize thrM (lp k) = M at *
      generalize cutB (lp k).x 40 = x0 at *
      generalize cutB (lp k).y 40 = x1 at *
      generalize cutB (lp k).z 300 = x2 at *
      generalize catM m k = z at *
      have hsum : ¬ 9223372036854775807 < z.size + M.size := by omega
      have inst : Nonempty (Wld (Aft w)) := ⟨⟨_, HW.out⟩⟩
      clear c0 c1 c2
      go_wp2
      refine wp_region_class (Aft w) (by kernel_rfl) (by kernel_rfl) HW.out.drew ?_
      repeat (go_big_quiet_step (first
        | (go_at_call 7; (first | with_reducible exact Calls.cls (HC0.out _) fun _ h => Aft.same h | with_reducible exact Calls.cls (HC1.out _) fun _ h => Aft.same h | with_reducible exact Calls.cls (HC2.out _) fun _ h => Aft.same h))
        | (go_at_call 20; with_reducible exact Calls.cls (HMM.out _) fun _ h => Aft.next h)))
      refine wpQuiet_nil ?_
      intro w3 h3
      have HW3 := Lib.hid h3
      clear h3
      go_wp2
      go_roundw
      case rel => exact ⟨k + 1, by omega, by omega, by go_num, by go_num, by rw [HCAT.out], HW3.out⟩
      case measure => simp [intOf]; omega
    · have hg : memG (catM m k) = (k, true) := by
        have := HG.out k ⟨#[]⟩
        rw [show catM m k ++ (⟨#[]⟩ : ByteArray) = catM m k from ByteArray.append_empty, memG_none] at this
        rw [this]
        simp
      have hgx : memG (catM m k ++ ⟨#[120]⟩) = (k, false) := by
        rw [HG.out k ⟨#[120]⟩, memG_x]
        simp
      have HM1 := Lib.hid (fun W => packMembers_any (catM m k) W (by omega))
      have HM2 := Lib.hid (fun W => packMembers_any (catM m k ++ ⟨#[120]⟩) W (by have h1 : (⟨#[120]⟩ : ByteArray).size = 1 := rfl; rw [ByteArray.size_append, h1]; omega))
      rw [hg] at HM1
      rw [hgx] at HM2
      clear hg hgx
      generalize catM m k = z at *
      have HB := Lib.hid (show Below w.heap.size w wr from HW.out)
      have e0 : (decide (0 < k) && false) = false := Bool.and_false _
      have e1 : (decide (0 < k) && true) = decide (0 < k) := Bool.and_true _
      have HM1 : Hid (∀ W, Calls Try.prog 18 #[.string z] W fun e w' => e = .returned (.tuple #[.int .i64 (k : Nat), .bool (decide (0 < k))]) ∧ Below W.heap.size W w') := fun W => by
        have := HM1.out W
        rwa [show (decide (0 < (k, true).1) && (k, true).2) = decide (0 < k) from e1] at this
      have HM2 : Hid (∀ W, Calls Try.prog 18 #[.string (z ++ ⟨#[120]⟩)] W fun e w' => e = .returned (.tuple #[.int .i64 (k : Nat), .bool false]) ∧ Below W.heap.size W w') := fun W => by
        have := HM2.out W
        rwa [show (decide (0 < (k, false).1) && (k, false).2) = false from e0] at this
      clear e0 e1
      have hcase : ¬k < n ∨ (k < n ∧ ¬k < 8) := by omega
      clear hlt
      rcases hcase with h1 | ⟨h1, h2⟩ <;> cases d : decide (0 < k)
      all_goals
        rw [d] at HM1
        go_wp2_with (first
          | (go_at_call 18; (first | with_reducible refine (HM1.out _).mono ?_ | with_reducible refine (HM2.out _).mono ?_); rintro e w1 ⟨rfl, b1⟩; have HB := Lib.hid (HB.out.trans (b1.mono HB.out.size)); clear b1)
          | (go_at_call 14; (with_reducible refine (HLV.out _).mono ?_); rintro e w1 ⟨rfl, b1⟩; have HB := Lib.hid (HB.out.trans (b1.mono HB.out.size)); clear b1))
        go_ret
        exact ⟨rfl, HB.out⟩

end Go.Proofs.Ytcoblepgehjamaa
