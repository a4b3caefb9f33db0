/-
  What package media's loop over lacks is handed: how many bytes each open pattern lacks, one behind the other. Condition: the text is not longer than memory.
-/
import Derived.Test.YtnidokhlhgkjcaaVb
import Derived.Test.YtnidokhlhgkjcaaMk4
import Derived.Test.YtnidokhlhgkjcaaIg
import Derived.RangeFuncNested
import Derived.RangeFuncBound
import Derived.RangeFuncCalls
import Derived.RangeFuncLeaves
import Derived.Shelf.Abstract
import Derived.Shelf.RegionOpen
import Derived.WalkKit
import Derived.OwnWalkIn
import Derived.TacticsInMore
import Derived.LoopNIn
import Derived.LoopIn
namespace Go.Proofs.Ytnidokhlhgkjcaa
open Go.RowKit Go.Shelf
attribute [local go_sem] Oper.semAt_some

/-- How many bytes those of the first k patterns lack that are open. -/
def lackL (s : ByteArray) (ps : Nat → Pat) : Nat → List Nat
  | 0 => []
  | k + 1 => if opnP s (ps k) = true then lackL s ps k ++ [lackN s (ps k)] else lackL s ps k
theorem lackL_open {s : ByteArray} {ps : Nat → Pat} {k : Nat} (h : opnP s (ps k) = true) : lackL s ps (k + 1) = lackL s ps k ++ [lackN s (ps k)] := by
  rw [lackL, if_pos h]
theorem lackL_shut {s : ByteArray} {ps : Nat → Pat} {k : Nat} (h : opnP s (ps k) = false) : lackL s ps (k + 1) = lackL s ps k := by
  rw [lackL, if_neg (by rw [h]; decide)]
theorem lackL_len (s : ByteArray) (ps : Nat → Pat) : ∀ k, (lackL s ps k).length ≤ k
  | 0 => Nat.le_refl _
  | k + 1 => by
    have := lackL_len s ps k
    rw [lackL]
    split <;> simp <;> omega
/-- The least of a list of numbers above 0; 0 of none. -/
def minL (xs : List Nat) : Nat := xs.foldl (fun l x => if l = 0 ∨ x < l then x else l) 0
theorem minL_snoc (xs : List Nat) (x : Nat) : minL (xs ++ [x]) = if minL xs = 0 ∨ x < minL xs then x else minL xs := by
  unfold minL
  rw [List.foldl_append]
  rfl
theorem minL_low (s : ByteArray) (ps : Nat → Pat) : ∀ k, minL (lackL s ps k) = lowN s ps k
  | 0 => rfl
  | k + 1 => by
    have h := minL_low s ps k
    cases e : opnP s (ps k)
    · rw [lackL_shut e, low_shut e, h]
    · rw [lackL_open e, low_open e, minL_snoc, h]

/-- What a round keeps: every block of cells but one. -/
def KeepsBut (L : Nat) (A B : World) : Prop := ∀ g cs t f, g ≠ L → A.heap[g]? = some (.cells cs t f) → B.heap[g]? = some (.cells cs t f)
theorem keepsBut_t {L : Nat} {A B C : World} (h : KeepsBut L A B) (k : KeepsBut L B C) : KeepsBut L A C := fun g cs t f hg e => k g cs t f hg (h g cs t f hg e)
theorem keepsBut_b {L B : Nat} (W : World) (l : Nat) (o o' : Obj) (_ : B ≤ l) (hl : W.heap[l]? = some o) (ho : o.isCells = false) (_ : o.isWalk = false) : KeepsBut L W (W.putObj l o') := fun g cs t f _ e => by
  have hne : g ≠ l := fun h => by
    subst h
    rw [hl] at e
    cases e
    simp [Obj.isCells] at ho
  exact (World.putObj_heap_other hne).trans e
theorem Blk.but {L : Nat} {A B : World} {g : Nat} {T : TypeId} {cs : Array Value} (h : Blk A g T cs) (k : KeepsBut L A B) (hg : g ≠ L) : Blk B g T cs := k g cs T _ hg h
theorem abides_step {β : Type} {B : Nat} {J : β → World → Prop} (h : AbidesFrom B J) {x : β} {W W' : World} (hj : J x W) (hb : Below W.heap.size W W') : J x W' :=
  h x W W' none hj ⟨hb.os, hb.tape, hb.output, hb.size, fun i hi _ => hb.block i hi⟩ (fun r e => by cases e)

abbrev encN (x : Nat) : Array Value := #[.int .i64 (x : Int)]

set_option maxHeartbeats 4000000 in
set_option maxRecDepth 100000 in
/-- The iterator, for every loop body that keeps what is not its own. -/
theorem lacks1_in (n : Nat) (hn : 1 ≤ n) (l Bn L B0 : Nat) (s : ByteArray) (hs : s.size ≤ 140737488351232) (J Jx : List Nat → World → Prop) (hJ : AbidesFrom B0 J)
    (hY : ∀ pre x W, J pre W → pre.length < 6 → YieldAt Fence.wide (n - 1) Try.prog l (encN x) W fun e W' =>
      (e = .returned (.bool true) ∧ J (pre ++ [x]) W' ∧ KeepsBut L W W') ∨ (e = .returned (.bool false) ∧ Jx (pre ++ [x]) W'))
    (W : World) (hB : Blk W Bn 9 #[.string s]) (hne : Bn ≠ L) (hL : L < W.heap.size) (h0 : J [] W) :
    CallsIn Fence.wide n Try.prog 37 #[.func (.yield l) #[] #[], .pointer (some ⟨Bn, 0, none⟩)] W fun e W' => (∃ v, e = .returned v) ∧
      ((∃ xs, xs = lackL s medP 6 ∧ J xs W') ∨ (∃ pre, True ∧ Jx pre W')) := by
  have HY := Lib.hid hY
  have HJ := Lib.hid hJ
  have HBn := Lib.hid hB
  have H0 := Lib.hid h0
  clear hY hJ hB h0
  have HTB := Lib.hid fun W => callsIn_wide (n := n - 1).2 (medTable_any W)
  refine callsIn_of_wp Try.func37 rfl trivial ?_ rfl
  simp only [Try.ntmps37, List.size_toArray, List.length_cons, List.length_nil, Nat.reduceAdd, Nat.reduceSub, Array.replicate_succ, Array.replicate_zero, List.push_toArray, List.append_toArray, List.nil_append, List.cons_append]
  gi_wp2_with (refine ⟨trivial, ?_⟩; gi_at_call 17; refine (HTB.out _).mono ?_; rintro e w1 ⟨g, rfl, hg, hp, b1⟩; have HBn := Lib.hid (HBn.out.below b1 HBn.out.lt); have H0 := Lib.hid (abides_step HJ.out H0.out b1); have HP := Lib.hid hp; have hgL : g ≠ L := (by omega); clear b1 hp hg)
  gi_loopw [7] (fun i wr => ∃ k : Nat, k ≤ 6 ∧ i = .int .i64 (k : Nat) ∧ J (lackL s medP k) wr ∧ Hid (Blk wr Bn 9 #[.string s]) ∧ Hid (Blk wr g 32 (cells6 medP))) (fun i _ => 6 - (intOf i).toNat)
  case atStart => exact ⟨0, by omega, rfl, H0.out, HBn, HP⟩
  case round =>
    obtain ⟨k, hk, rfl, hJk, HB2, HP2⟩ := hrel
    clear HBn H0 HP
    have HJk := Lib.hid hJk
    clear hJk
    by_cases hlt : k < 6
    · have HO := Lib.hid (fun W => callsIn_wide (n := n - 1).2 (open_any s (medP k).b (medP k).m (medP k).k (medP k).t W (by omega) (med_ok hlt).1 (med_ok hlt).2.1 (med_ok hlt).2.2))
      have hb12 := (med_small hlt).1
      obtain ⟨c0, c1, c2, c3⟩ := (pats6 HP2.out).2 k hlt
      have hct : wr.cell? ⟨Bn, 0, none⟩ = some (.string s) := HB2.out.cell 0
      have hbl := HB2.out.lt
      have HKK := Lib.hid (med_skip hlt)
      have HV : Hid (opnP s (medP k) = opnB s (medP k).b (medP k).m (medP k).k) := rfl
      cases ho : opnB s (medP k).b (medP k).m (medP k).k
      · have HL := Lib.hid (lackL_shut (ps := medP) (HV.out.trans ho))
        rw [ho] at HO
        clear ho HV
        gi_wp2_with (first | (with_reducible refine And.intro ?_ ?_; focus (intro f h; cases h)) | (refine ⟨trivial, ?_⟩; gi_at_call 38; refine (HO.out _).mono ?_; rintro e w3 ⟨rfl, b3⟩; have b4 := ((Below.refl wr.heap.size wr).alloc (Nat.le_refl _) _).trans (b3.mono (by simp)); have HB2 := Lib.hid (HB2.out.below b4 HB2.out.lt); have HP2 := Lib.hid (HP2.out.below b4 HP2.out.lt); have HJk := Lib.hid (abides_step HJ.out HJk.out b4); clear b3 b4))
        go_roundw
        case rel => exact ⟨k + 1, by omega, by go_num, by rw [HL.out]; exact HJk.out, HB2, HP2⟩
        case measure => simp [intOf]; omega
      · have hop : opnP s (medP k) = true := HV.out.trans ho
        have HL := Lib.hid (lackL_open hop)
        obtain ⟨hl1, hl2⟩ := lack_le s (medP k) hop HKK.out
        rw [ho] at HO
        clear ho HV hop
        obtain ⟨la, hla⟩ : ∃ la, la = lackN s (medP k) := ⟨_, rfl⟩
        rw [← hla] at HL hl1
        have hli : ((medP k).b.size : Int) - (s.size : Int) = (la : Int) := by omega
        have HLN := Lib.hid (lackL_len s medP k)
        clear hla hl1
        gi_wp2_with (first | (with_reducible refine And.intro ?_ ?_; focus (intro f h; cases h)) | (refine ⟨trivial, ?_⟩; gi_at_call 38; refine (HO.out _).mono ?_; rintro e w3 ⟨rfl, b3⟩; have b4 := ((Below.refl wr.heap.size wr).alloc (Nat.le_refl _) _).trans (b3.mono (by simp)); have HB2 := Lib.hid (HB2.out.below b4 HB2.out.lt); have HP2 := Lib.hid (HP2.out.below b4 HP2.out.lt); have HJk := Lib.hid (abides_step HJ.out HJk.out b4); have c4 : w3.cell? ⟨wr.heap.size, 0, none⟩ = some (.string (medP k).b) := ((Blk.new wr 32 #[.string (medP k).b, .string (medP k).m, .string (medP k).k, .string (medP k).t]).below b3 (by simp)).cell 0; have hct : w3.cell? ⟨Bn, 0, none⟩ = some (.string s) := HB2.out.cell 0; clear b3 b4; obtain ⟨f2, t2, a2, y2, hy2, hR2⟩ := HY.out (lackL s medP k) la w3 HJk.out (Nat.lt_of_le_of_lt HLN.out hlt); dsimp only [encN] at hy2))
        refine hR2.mono ?_
        rintro e W3 (⟨rfl, hJ3, hk3⟩ | ⟨rfl, hx3⟩)
        · have HBN3 := Lib.hid (HB2.out.but hk3 hne)
          have HP3 := Lib.hid (HP2.out.but hk3 hgL)
          have HJ3 := Lib.hid hJ3
          clear hk3 hJ3
          gi_wp2
          go_roundw
          case rel => exact ⟨k + 1, by omega, by go_num, by rw [HL.out]; exact HJ3.out, HBN3, HP3⟩
          case measure => simp [intOf]; omega
        · gi_wp2
          refine bodyPost_ret (results_none rfl _ _ _) rfl ?_
          exact ⟨⟨_, rfl⟩, .inr ⟨_, trivial, hx3⟩⟩
    · obtain rfl : k = 6 := by omega
      gi_wp2
      go_end0
      exact ⟨⟨_, rfl⟩, .inl ⟨_, rfl, HJk.out⟩⟩

end Go.Proofs.Ytnidokhlhgkjcaa
