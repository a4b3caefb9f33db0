/-
  What the document's own number of layer 27 answers, as bytes that are left (SaidE, numE). Condition: the text is no longer than a length can be.
  What the document's own value of layer 27 answers, as bytes that are left (SaidE, dscE), where its list answers so. Condition: the text is no longer than a length can be.
  What the document's own list of layer 27 answers of values without names, as bytes that are left (SaidE, dscE), where its value answers so. Condition: the text is no longer than a length can be.
-/
import Derived.Test.YtdebionbjefhlaaZ6
import Derived.Deep.CutRange
namespace Go.Proofs.Ytdebionbjefhlaa
open Go.RowKit

/-! A number, part by part. -/
def frcE : List UInt8 → Ej
  | [] => .wl []
  | b :: l => if b == 101 || b == 69 then numE 5 l else .wl (b :: l)
def pntE : List UInt8 → Ej
  | [] => .wl []
  | b :: l => if b == 46 then numE 3 l else if b == 101 || b == 69 then numE 5 l else .wl (b :: l)
def onE (k : List UInt8 → Ej) : Ej → Ej
  | .wl r => k r
  | x => x
theorem num_two (l : List UInt8) : numE 2 l = pntE l := by cases l <;> rfl
theorem dig_head {l r : List UInt8} {b : UInt8} (h : l.dropWhile digB = b :: r) : digB b = false := by
  have h2 := List.head?_dropWhile_not digB l
  rw [h] at h2
  simpa using h2
theorem num_whole (l : List UInt8) : numE 1 l = pntE (l.dropWhile digB) := by
  rw [num_one]
  cases h : l.dropWhile digB with
  | nil => rfl
  | cons b r =>
    rw [show numE 1 (b :: r) = if digB b then numE 1 r else if b == 46 then numE 3 r else if b == 101 || b == 69 then numE 5 r else .wl (b :: r) from by rw [numE], dig_head h, if_neg (by decide)]
    rfl
theorem num_frac (l : List UInt8) : numE 4 l = frcE (l.dropWhile digB) := by
  rw [num_four]
  cases h : l.dropWhile digB with
  | nil => rfl
  | cons b r =>
    rw [show numE 4 (b :: r) = if digB b then numE 4 r else if b == 101 || b == 69 then numE 5 r else .wl (b :: r) from by rw [numE], dig_head h, if_neg (by decide)]
    rfl
theorem num_three (l : List UInt8) : numE 3 l = onE frcE (runE l) := by
  cases l with
  | nil => rfl
  | cons b r =>
    rw [numE]
    cases h : digB b with
    | true =>
      rw [runE_cons, h, if_pos rfl, if_pos rfl]
      exact num_frac r
    | false =>
      rw [runE_cons, h]
      rfl
theorem runE_no (b : UInt8) (r : List UInt8) (h : digB b = false) : runE (b :: r) = .bd (b :: r) := by rw [runE_cons, h]; rfl
theorem runE_yes (b : UInt8) (r : List UInt8) (h : digB b = true) : runE (b :: r) = .wl (r.dropWhile digB) := by rw [runE_cons, h]; rfl
theorem num_six (l : List UInt8) : numE 6 l = runE l := by
  cases l with
  | nil => rfl
  | cons b r =>
    rw [numE]
    cases h : digB b with
    | true => rw [runE_yes b r h, if_pos rfl]; exact num_seven r
    | false => rw [runE_no b r h]; rfl
theorem num_five (b : UInt8) (r : List UInt8) : numE 5 (b :: r) = if b == 43 || b == 45 then runE r else runE (b :: r) := by
  rw [numE]
  cases h : (b == 43 || b == 45) with
  | true => rw [if_pos rfl, if_pos rfl]; exact num_six r
  | false =>
    cases hd : digB b with
    | true => rw [runE_yes b r hd]; exact num_seven r
    | false => rw [runE_no b r hd]; rfl
theorem num_zero0 (r : List UInt8) : numE 0 (48 :: r) = pntE r := by
  rw [numE]
  exact num_two r
theorem num_zero (b : UInt8) (r : List UInt8) (h : (b == 48) = false) : numE 0 (b :: r) = onE pntE (runE (b :: r)) := by
  rw [numE, h, if_neg (by decide)]
  cases hd : digB b with
  | true => rw [runE_yes b r hd, if_pos rfl]; exact num_whole r
  | false => rw [runE_no b r hd]; rfl
theorem run_wl {b : UInt8} {r x : List UInt8} (h : runE (b :: r) = .wl x) : digB b = true := by
  rw [runE_cons] at h
  cases hd : digB b with
  | true => rfl
  | false => rw [hd] at h; cases h
theorem num_stop {l : List UInt8} (h : ∀ r, runE l ≠ .wl r) : numE 0 l = runE l := by
  cases l with
  | nil => rfl
  | cons b r =>
    cases hd : digB b with
    | true => exact absurd (by rw [runE_cons, hd]; rfl) (h (r.dropWhile digB))
    | false =>
      have h48 : (b == 48) = false := by
        cases h8 : (b == 48) with
        | false => rfl
        | true =>
          rw [show b = 48 from eq_of_beq h8] at hd
          cases hd
      rw [num_zero b r h48, runE_cons, hd]
      rfl

/-! What a call says, parted. -/
theorem said_stop {s : ByteArray} {x : Ej} {f : Nat} {vs : Array Value} {w : World} (h : Calls Try.prog f vs w fun e w' => (∃ v, e = .returned v ∧ SaidE s x v) ∧ Below w.heap.size w w') (hx : ∀ r, x ≠ .wl r) :
    Calls Try.prog f vs w fun e w' => ∃ (a st : Int), e = .returned (sdV a st) ∧ Hid ((st != -1) = true) ∧ Hid (SaidE s x (sdV a st)) ∧ Below w.heap.size w w' := by
  refine h.mono ?_
  rintro e w' ⟨⟨v, rfl, hv⟩, hb⟩
  cases x with
  | op => obtain ⟨a, rfl⟩ := hv; exact ⟨a, 1, rfl, Lib.hid rfl, Lib.hid ⟨a, rfl⟩, hb⟩
  | bd r => obtain ⟨k, hk, hr, rfl⟩ := hv; exact ⟨k, 0, rfl, Lib.hid rfl, Lib.hid ⟨k, hk, hr, rfl⟩, hb⟩
  | dp r => obtain ⟨k, hk, hr, rfl⟩ := hv; exact ⟨k, 3, rfl, Lib.hid rfl, Lib.hid ⟨k, hk, hr, rfl⟩, hb⟩
  | wl r => exact absurd rfl (hx r)
theorem said_go {s : ByteArray} {r : List UInt8} {f : Nat} {vs : Array Value} {w : World} (h : Calls Try.prog f vs w fun e w' => (∃ v, e = .returned v ∧ SaidE s (.wl r) v) ∧ Below w.heap.size w w') {j : Nat} (hj : j = s.size - r.length) :
    Calls Try.prog f vs w fun e w' => e = .returned (sdV (j : Nat) (-1)) ∧ Hid (r = LL s j) ∧ Below w.heap.size w w' := by
  refine h.mono ?_
  rintro e w' ⟨⟨v, rfl, hv⟩, hb⟩
  obtain ⟨k, hk, rfl, rfl⟩ := hv
  have e : j = k := by
    rw [hj, ll_len]
    omega
  subst e
  exact ⟨rfl, Lib.hid rfl, hb⟩

theorem said_any27 {s : ByteArray} {x : Ej} {f : Nat} {vs : Array Value} {w : World} (h : Calls Try.prog f vs w fun e w' => (∃ v, e = .returned v ∧ SaidE s x v) ∧ Below w.heap.size w w') :
    Calls Try.prog f vs w fun e w' => ∃ (a st : Int), e = .returned (sdV a st) ∧ Hid (SaidE s x (sdV a st)) ∧ Below w.heap.size w w' := by
  refine h.mono ?_
  rintro e w' ⟨⟨v, rfl, hv⟩, hb⟩
  cases x with
  | op => obtain ⟨a, rfl⟩ := hv; exact ⟨a, 1, rfl, Lib.hid ⟨a, rfl⟩, hb⟩
  | bd r => obtain ⟨k, hk, hr, rfl⟩ := hv; exact ⟨k, 0, rfl, Lib.hid ⟨k, hk, hr, rfl⟩, hb⟩
  | dp r => obtain ⟨k, hk, hr, rfl⟩ := hv; exact ⟨k, 3, rfl, Lib.hid ⟨k, hk, hr, rfl⟩, hb⟩
  | wl r => obtain ⟨k, hk, hr, rfl⟩ := hv; exact ⟨k, -1, rfl, Lib.hid ⟨k, hk, hr, rfl⟩, hb⟩
theorem Blk.two {W : World} {g : Nat} {p r : Value} (h : Blk W g 38 #[p, r]) (a x : Int) : Blk ((W.setCell ⟨g, 0, none⟩ (.int .i64 a)).setCell ⟨g, 1, none⟩ (.int .i64 x)) g 38 #[.int .i64 a, .int .i64 x] := (h.set_ 0 _).set_ 1 _
theorem below_two {B : Nat} {a w : World} (h : Below B a w) (x y : Value) : Below B a ((w.setCell ⟨B, 0, none⟩ x).setCell ⟨B, 1, none⟩ y) :=
  (h.setCell (p := ⟨B, 0, none⟩) (Nat.le_refl _) _).setCell (p := ⟨B, 1, none⟩) (Nat.le_refl _) _
theorem i_byte (b c : UInt8) : (b == c) = ((b.toNat : Int) == (c.toNat : Int)) := by
  rw [Bool.eq_iff_iff, beq_iff_eq, beq_iff_eq]
  exact ⟨fun h => by rw [h], fun h => UInt8.toNat_inj.1 (by omega)⟩
theorem pnt_go (b : UInt8) (l : List UInt8) : pntE (b :: l) = if (b.toNat : Int) == 46 then onE frcE (runE l) else frcE (b :: l) := by
  rw [show ((b.toNat : Int) == 46) = (b == 46) from (i_byte b 46).symm, ← num_three]
  rfl
theorem frc_go (b : UInt8) (l : List UInt8) : frcE (b :: l) = if (b.toNat : Int) == 101 || (b.toNat : Int) == 69 then numE 5 l else .wl (b :: l) := by
  rw [show ((b.toNat : Int) == 101) = (b == 101) from (i_byte b 101).symm, show ((b.toNat : Int) == 69) = (b == 69) from (i_byte b 69).symm]
  rfl
theorem fiv_go (b : UInt8) (l : List UInt8) : numE 5 (b :: l) = if (b.toNat : Int) == 43 || (b.toNat : Int) == 45 then runE l else runE (b :: l) := by
  rw [show ((b.toNat : Int) == 43) = (b == 43) from (i_byte b 43).symm, show ((b.toNat : Int) == 45) = (b == 45) from (i_byte b 45).symm]
  exact num_five b l
theorem zer_go (b : UInt8) (l r : List UInt8) (h : runE (b :: l) = .wl r) : numE 0 (b :: l) = if (b.toNat : Int) == 48 then pntE l else pntE r := by
  rw [show ((b.toNat : Int) == 48) = (b == 48) from (i_byte b 48).symm]
  cases h8 : (b == 48) with
  | true =>
    rw [show b = 48 from eq_of_beq h8]
    exact num_zero0 l
  | false =>
    rw [num_zero b l h8, h]
    rfl
/-- The answer's block as it was made, what is said so far in another one, all else as it was. -/
structure TwoW (w : World) (B : Nat) (a b : Int) (wx : World) : Prop where
  far : w.heap.size < B
  said : Blk wx B 38 #[.int .i64 a, .int .i64 b]
  own : Blk wx w.heap.size 38 #[.int .i64 0, .int .i64 0]
  below : Below w.heap.size w wx
theorem TwoW.put {w wx : World} {B : Nat} {a b : Int} (h : TwoW w B a b wx) (x : Int) : TwoW w B x b (wx.setCell ⟨B, 0, none⟩ (.int .i64 x)) :=
  ⟨h.far, h.said.set_ 0 (.int .i64 x), h.own.far (p := ⟨B, 0, none⟩) (Nat.ne_of_lt h.far) _, h.below.setCell (p := ⟨B, 0, none⟩) (Nat.le_of_lt h.far) _⟩
theorem TwoW.putB {w wx : World} {B : Nat} {a b : Int} (h : TwoW w B a b wx) (x y : Int) : TwoW w B x y ((wx.setCell ⟨B, 0, none⟩ (.int .i64 x)).setCell ⟨B, 1, none⟩ (.int .i64 y)) :=
  ⟨h.far, (h.said.set_ 0 (.int .i64 x)).set_ 1 (.int .i64 y), (h.own.far (p := ⟨B, 0, none⟩) (Nat.ne_of_lt h.far) _).far (p := ⟨B, 1, none⟩) (Nat.ne_of_lt h.far) _,
    (h.below.setCell (p := ⟨B, 0, none⟩) (Nat.le_of_lt h.far) _).setCell (p := ⟨B, 1, none⟩) (Nat.le_of_lt h.far) _⟩
theorem TwoW.on {w wx wy : World} {B : Nat} {a b : Int} (h : TwoW w B a b wx) (hb : Below wx.heap.size wx wy) : TwoW w B a b wy :=
  ⟨h.far, h.said.below hb h.said.lt, h.own.below hb h.own.lt, h.below.trans (hb.mono h.below.size)⟩
theorem TwoW.facts {w wx : World} {B : Nat} {a b : Int} (h : TwoW w B a b wx) : (wx.cell? ⟨B, 0, none⟩ = some (.int .i64 a) ∧ wx.cell? ⟨B, 1, none⟩ = some (.int .i64 b) ∧ wx.frozen? ⟨B, 0, none⟩ = false ∧ wx.frozen? ⟨B, 1, none⟩ = false) ∧
    (wx.cell? ⟨w.heap.size, 0, none⟩ = some (.int .i64 0) ∧ wx.cell? ⟨w.heap.size, 1, none⟩ = some (.int .i64 0) ∧ wx.frozen? ⟨w.heap.size, 0, none⟩ = false ∧ wx.frozen? ⟨w.heap.size, 1, none⟩ = false) ∧ w.heap.size ≠ B ∧ B ≠ w.heap.size :=
  ⟨⟨h.said.cell 0, h.said.cell 1, h.said.frozen 0, h.said.frozen 1⟩, ⟨h.own.cell 0, h.own.cell 1, h.own.frozen 0, h.own.frozen 1⟩, Nat.ne_of_lt h.far, (Nat.ne_of_lt h.far).symm⟩

set_option maxHeartbeats 4000000 in
set_option maxRecDepth 10000 in
theorem number27_any (s : ByteArray) (k : Nat) (w : World) (hk : k < s.size) (hs : s.size ≤ 4611686018427387904) :
    Calls Try.prog 28 #[.string s, .int .i64 (k : Nat)] w fun e w' => (∃ v, e = .returned v ∧ SaidE s (numE 0 (if (s[k].toNat : Int) == 45 then LL s (k + 1) else LL s k)) v) ∧ Below w.heap.size w w' := by
  have hz := Try.zeroSaid
  have HR := Lib.hid (fun m (hm : m ≤ s.size) W => run27_any s m W hm hs)
  obtain ⟨q, hq⟩ : ∃ q, q = numE 0 (if (s[k].toNat : Int) == 45 then LL s (k + 1) else LL s k) := ⟨_, rfl⟩
  rw [← hq]
  have HQ := Lib.hid hq
  clear hq
  have HB0 := Lib.hid (show Blk (w.alloc (.cells #[.int .i64 0, .int .i64 0] 38)) w.heap.size 38 #[.int .i64 0, .int .i64 0] ∧ Below w.heap.size w (w.alloc (.cells #[.int .i64 0, .int .i64 0] 38)) from ⟨Blk.new _ _ _, (Below.refl _ _).alloc (Nat.le_refl _) _⟩)
  go_enter Try.func28, Try.ntmps28
  go_upto_if 9 with fail
  go_cut [1] from 9 to 11 (fun a wx => ∃ j : Nat, j ≤ s.size ∧ a = .int .i64 j ∧ Hid (q = numE 0 (LL s j)) ∧ wx = w.alloc (.cells #[.int .i64 0, .int .i64 0] 38))
  case first =>
    cases h45 : ((s[k].toNat : Int) == 45)
    · have HZ : Hid (q = numE 0 (LL s k)) := Lib.hid (by rw [HQ.out, h45]; rfl)
      go_wp2
      go_meet
      exact ⟨k, Nat.le_of_lt hk, rfl, HZ, rfl⟩
    · have HZ : Hid (q = numE 0 (LL s (k + 1))) := Lib.hid (by rw [HQ.out, h45]; rfl)
      go_wp2
      go_meet
      exact ⟨k + 1, hk, by go_num, HZ, rfl⟩
  case rest =>
    obtain ⟨m, hm, rfl, HZ, rfl⟩ := hcut
    clear HQ
    by_cases hX : ∃ r, runE (LL s m) = .wl r
    · obtain ⟨r, hr⟩ := hX
      have hms : m < s.size := by
        rcases Nat.lt_or_ge m s.size with h | h
        · exact h
        · rw [ll_nil h] at hr
          cases hr
      have HC := Lib.hid (ll_cons hms)
      obtain ⟨j, hj⟩ : ∃ j, j = s.size - r.length := ⟨_, rfl⟩
      have HRM := Lib.hid (fun W => said_go (s := s) (r := r) (by have := HR.out m hm W; rw [hr] at this; exact this) hj)
      have hjs : j ≤ s.size := by omega
      have HJ := Lib.hid (zer_go _ _ _ (HC.out ▸ hr))
      clear hr hj
      go_upto_if 22 with (go_at_call 38; (with_reducible refine (HRM.out _).mono ?_); rintro e w1 ⟨rfl, HRR, hb⟩; have HW1 := Lib.hid (show ∀ a b : Int, TwoW w w1.heap.size a b (w1.alloc (.cells #[.int .i64 a, .int .i64 b] 38)) from fun a b => ⟨Nat.lt_of_lt_of_le (by simp) hb.size, Blk.new _ _ _, (HB0.out.1.below hb HB0.out.1.lt).alloc _, (HB0.out.2.trans (hb.mono (by simp))).alloc (Nat.le_trans HB0.out.2.size hb.size) _⟩); clear hb)
      go_cut [1] from 22 to 25 (fun a wx => ∃ i : Nat, i ≤ s.size ∧ a = .int .i64 m ∧ Hid (q = pntE (LL s i)) ∧ Hid (TwoW w w1.heap.size (i : Nat) (-1) wx))
      case first =>
        cases h48 : ((s[m].toNat : Int) == 48)
        · have HY : Hid (q = pntE (LL s j)) := Lib.hid (by rw [HZ.out, HC.out, HJ.out, h48, ← HRR.out]; rfl)
          go_wp2
          go_meet
          exact ⟨j, hjs, rfl, HY, Lib.hid (HW1.out _ _)⟩
        · have HY : Hid (q = pntE (LL s (m + 1))) := Lib.hid (by rw [HZ.out, HC.out, HJ.out, h48]; rfl)
          obtain ⟨m1, hm1⟩ : ∃ m1, m1 = m + 1 := ⟨_, rfl⟩
          have g1 : ((m : Nat) : Int) + 1 = (m1 : Int) := by omega
          rw [← hm1] at HY
          clear hm1
          go_wp2
          go_meet
          exact ⟨m1, by omega, rfl, HY, Lib.hid (HW1.out _ _)⟩
      case rest =>
        obtain ⟨i, hi, rfl, HP, HWc⟩ := hcut
        clear HJ HRR HC HZ HW1
        generalize w1.heap.size = B at *
        obtain ⟨⟨c0, c1, z0, z1⟩, ⟨e0, e1, y0, y1⟩, n1, n2⟩ := HWc.out.facts
        by_cases his : i < s.size
        · have HCI := Lib.hid (ll_cons his)
          have r1 : decide (i < s.size) = true := by simpa using his
          have HPG := Lib.hid (pnt_go s[i] (LL s (i + 1)))
          go_upto_if 37 with fail
          go_cut [1] from 36 to 47 (fun a wx => ∃ p : Nat, p ≤ s.size ∧ a = .int .i64 p ∧ Hid (q = frcE (LL s p)) ∧ Hid (∃ x y, TwoW w B x y wx))
          case first =>
            cases h46 : ((s[i].toNat : Int) == 46)
            · have HY : Hid (q = frcE (LL s i)) := Lib.hid (by rw [HP.out, HCI.out, HPG.out, h46]; rfl)
              go_wp2
              go_meet
              exact ⟨i, hi, rfl, HY, Lib.hid ⟨_, _, HWc.out⟩⟩
            · have HY : Hid (q = onE frcE (runE (LL s (i + 1)))) := Lib.hid (by rw [HP.out, HCI.out, HPG.out, h46]; rfl)
              obtain ⟨i1, hi1⟩ : ∃ i1, i1 = i + 1 := ⟨_, rfl⟩
              have g1 : ((i : Nat) : Int) + 1 = (i1 : Int) := by omega
              rw [← hi1] at HY
              have hi1s : i1 ≤ s.size := by omega
              clear hi1
              by_cases hX : ∃ r, runE (LL s i1) = .wl r
              · obtain ⟨r, hr⟩ := hX
                rw [hr] at HY
                obtain ⟨j2, hj2⟩ : ∃ j, j = s.size - r.length := ⟨_, rfl⟩
                have HR2 := Lib.hid (fun W => said_go (s := s) (r := r) (by have := HR.out i1 hi1s W; rw [hr] at this; exact this) hj2)
                have hj2s : j2 ≤ s.size := by omega
                clear hr hj2
                go_wp2_with (go_at_call 38; (with_reducible refine (HR2.out _).mono ?_); rintro e w2 ⟨rfl, HRR, hb⟩; have HT := Lib.hid (HWc.out.on hb); obtain ⟨⟨b0, b1, x0, x1⟩, ⟨f0, f1, v0, v1⟩, _, _⟩ := HT.out.facts; clear hb)
                go_meet
                exact ⟨j2, hj2s, rfl, by rw [← HRR.out]; exact HY, Lib.hid ⟨_, _, HT.out.putB _ _⟩⟩
              · have HR2 := Lib.hid (fun W => said_stop (HR.out i1 hi1s W) (fun r hr => hX ⟨r, hr⟩))
                have HN : Hid (q = runE (LL s i1)) := by
                  refine Lib.hid (HY.out.trans ?_)
                  cases hr : runE (LL s i1) with
                  | wl r => exact absurd ⟨r, hr⟩ hX
                  | op => rfl
                  | bd r => rfl
                  | dp r => rfl
                clear hX
                go_wp2_with (go_at_call 38; (with_reducible refine (HR2.out _).mono ?_); rintro e w2 ⟨a, st, rfl, HST, HS, hb⟩; have HT := Lib.hid (HWc.out.on hb); obtain ⟨⟨b0, b1, x0, x1⟩, ⟨f0, f1, v0, v1⟩, _, _⟩ := HT.out.facts; have hst := HST.out; clear hb)
                have HT2 := Lib.hid (HT.out.putB a st)
                have hB := HT2.out.own.two (a) (st)
                have d0 := (hB.cell 0).trans rfl
                have d1 := (hB.cell 1).trans rfl
                exact bodyPost_ret (v := sdV (a) (st)) (by simp only [results, Try.results28]; simp [go_sem, d0, d1]) rfl ⟨⟨_, rfl, by rw [HN.out]; exact HS.out⟩, below_two HT2.out.below _ _⟩
          case rest =>
            obtain ⟨p, hp, rfl, HF, HV⟩ := hcut
            obtain ⟨x, y, hv⟩ := HV.out
            have HX := Lib.hid hv
            obtain ⟨⟨c0, c1, z0, z1⟩, ⟨e0, e1, y0, y1⟩, n1, n2⟩ := hv.facts
            clear hv HV HPG HCI HP HWc
            by_cases hps : p < s.size
            · have HCP := Lib.hid (ll_cons hps)
              have r2 : decide (p < s.size) = true := by simpa using hps
              have HFG := Lib.hid (frc_go s[p] (LL s (p + 1)))
              obtain ⟨p1, hp1⟩ : ∃ p1, p1 = p + 1 := ⟨_, rfl⟩
              have g1 : ((p : Nat) : Int) + 1 = (p1 : Int) := by omega
              rw [← hp1] at HFG HCP
              have hp1s : p1 ≤ s.size := by omega
              clear hp1
              by_cases hee : ((s[p].toNat : Int) == 101 || (s[p].toNat : Int) == 69) = true
              · have HY : Hid (q = numE 5 (LL s p1)) := Lib.hid (by rw [HF.out, HCP.out, HFG.out, if_pos hee])
                have hcase : ((s[p].toNat : Int) == 101) = true ∨ (((s[p].toNat : Int) == 101) = false ∧ ((s[p].toNat : Int) == 69) = true) := by
                  cases h : ((s[p].toNat : Int) == 101)
                  · rw [h] at hee; exact Or.inr ⟨rfl, hee⟩
                  · exact Or.inl rfl
                clear hee
                by_cases hp2 : p1 < s.size
                · have HC1 := Lib.hid (ll_cons hp2)
                  have r3 : decide (p1 < s.size) = true := by simpa using hp2
                  have HFV := Lib.hid (fiv_go s[p1] (LL s (p1 + 1)))
                  obtain ⟨p2, hp3⟩ : ∃ p2, p2 = p1 + 1 := ⟨_, rfl⟩
                  have g2 : ((p1 : Nat) : Int) + 1 = (p2 : Int) := by omega
                  rw [← hp3] at HFV HC1
                  have hp2s : p2 ≤ s.size := by omega
                  clear hp3
                  by_cases hsg : ((s[p1].toNat : Int) == 43 || (s[p1].toNat : Int) == 45) = true
                  · have HN : Hid (q = runE (LL s p2)) := Lib.hid (by rw [HY.out, HC1.out, HFV.out, if_pos hsg])
                    have hcase2 : ((s[p1].toNat : Int) == 43) = true ∨ (((s[p1].toNat : Int) == 43) = false ∧ ((s[p1].toNat : Int) == 45) = true) := by
                      cases h : ((s[p1].toNat : Int) == 43)
                      · rw [h] at hsg; exact Or.inr ⟨rfl, hsg⟩
                      · exact Or.inl rfl
                    have HR2 := Lib.hid (fun W => said_any27 (HR.out p2 hp2s W))
                    clear hsg
                    rcases hcase with h1 | ⟨h1, h2⟩ <;> rcases hcase2 with h3 | ⟨h3, h4⟩
                    all_goals
                      go_wp2_with (go_at_call 38; (with_reducible refine (HR2.out _).mono ?_); rintro e w2 ⟨a, st, rfl, HS, hb⟩; have HT := Lib.hid (HX.out.on hb); obtain ⟨⟨b0, b1, x0, x1⟩, ⟨f0, f1, v0, v1⟩, _, _⟩ := HT.out.facts; clear hb)
                      have hB := HT.out.own.two (a) (st)
                      have d0 := (hB.cell 0).trans rfl
                      have d1 := (hB.cell 1).trans rfl
                      exact bodyPost_ret (v := sdV (a) (st)) (by simp only [results, Try.results28]; simp [go_sem, d0, d1]) rfl ⟨⟨_, rfl, by rw [HN.out]; exact HS.out⟩, below_two HT.out.below _ _⟩
                  · have h3 : ((s[p1].toNat : Int) == 43) = false := by
                      cases h : ((s[p1].toNat : Int) == 43)
                      · rfl
                      · rw [h] at hsg; exact absurd rfl hsg
                    have h4 : ((s[p1].toNat : Int) == 45) = false := by
                      cases h : ((s[p1].toNat : Int) == 45)
                      · rfl
                      · rw [h, h3] at hsg; exact absurd rfl hsg
                    have HN : Hid (q = runE (LL s p1)) := Lib.hid (by rw [HY.out, HC1.out, HFV.out, if_neg hsg])
                    have HR2 := Lib.hid (fun W => said_any27 (HR.out p1 hp1s W))
                    clear hsg
                    rcases hcase with h1 | ⟨h1, h2⟩
                    all_goals
                      go_wp2_with (go_at_call 38; (with_reducible refine (HR2.out _).mono ?_); rintro e w2 ⟨a, st, rfl, HS, hb⟩; have HT := Lib.hid (HX.out.on hb); obtain ⟨⟨b0, b1, x0, x1⟩, ⟨f0, f1, v0, v1⟩, _, _⟩ := HT.out.facts; clear hb)
                      have hB := HT.out.own.two (a) (st)
                      have d0 := (hB.cell 0).trans rfl
                      have d1 := (hB.cell 1).trans rfl
                      exact bodyPost_ret (v := sdV (a) (st)) (by simp only [results, Try.results28]; simp [go_sem, d0, d1]) rfl ⟨⟨_, rfl, by rw [HN.out]; exact HS.out⟩, below_two HT.out.below _ _⟩
                · obtain rfl : p1 = s.size := by omega
                  have HN : Hid (q = runE (LL s s.size)) := Lib.hid (by rw [HY.out, ll_nil (Nat.le_refl _)]; rfl)
                  have HR2 := Lib.hid (fun W => said_any27 (HR.out s.size (Nat.le_refl _) W))
                  rcases hcase with h1 | ⟨h1, h2⟩
                  all_goals
                    go_wp2_with (go_at_call 38; (with_reducible refine (HR2.out _).mono ?_); rintro e w2 ⟨a, st, rfl, HS, hb⟩; have HT := Lib.hid (HX.out.on hb); obtain ⟨⟨b0, b1, x0, x1⟩, ⟨f0, f1, v0, v1⟩, _, _⟩ := HT.out.facts; clear hb)
                    have hB := HT.out.own.two (a) (st)
                    have d0 := (hB.cell 0).trans rfl
                    have d1 := (hB.cell 1).trans rfl
                    exact bodyPost_ret (v := sdV (a) (st)) (by simp only [results, Try.results28]; simp [go_sem, d0, d1]) rfl ⟨⟨_, rfl, by rw [HN.out]; exact HS.out⟩, below_two HT.out.below _ _⟩
              · have h1 : ((s[p].toNat : Int) == 101) = false := by
                  cases h : ((s[p].toNat : Int) == 101)
                  · rfl
                  · rw [h] at hee; exact absurd rfl hee
                have h2 : ((s[p].toNat : Int) == 69) = false := by
                  cases h : ((s[p].toNat : Int) == 69)
                  · rfl
                  · rw [h, h1] at hee; exact absurd rfl hee
                have HN : Hid (q = .wl (LL s p)) := Lib.hid (by rw [HF.out, HCP.out, HFG.out, if_neg hee])
                clear hee
                go_wp2
                have hB := HX.out.own.two ((p : Nat)) (-1)
                have d0 := (hB.cell 0).trans rfl
                have d1 := (hB.cell 1).trans rfl
                exact bodyPost_ret (v := sdV ((p : Nat)) (-1)) (by simp only [results, Try.results28]; simp [go_sem, d0, d1]) rfl ⟨⟨_, rfl, by rw [HN.out]; exact ⟨p, hp, rfl, rfl⟩⟩, below_two HX.out.below _ _⟩
            · obtain rfl : p = s.size := by omega
              have HN : Hid (q = .wl (LL s s.size)) := Lib.hid (by rw [HF.out, ll_nil (Nat.le_refl _)]; rfl)
              go_wp2
              have hB := HX.out.own.two ((s.size : Nat)) (-1)
              have d0 := (hB.cell 0).trans rfl
              have d1 := (hB.cell 1).trans rfl
              exact bodyPost_ret (v := sdV ((s.size : Nat)) (-1)) (by simp only [results, Try.results28]; simp [go_sem, d0, d1]) rfl ⟨⟨_, rfl, by rw [HN.out]; exact ⟨s.size, Nat.le_refl _, rfl, rfl⟩⟩, below_two HX.out.below _ _⟩
        · obtain rfl : i = s.size := by omega
          have HN : Hid (q = .wl (LL s s.size)) := Lib.hid (by rw [HP.out, ll_nil (Nat.le_refl _)]; rfl)
          go_wp2
          have hB := HWc.out.own.two ((s.size : Nat)) (-1)
          have d0 := (hB.cell 0).trans rfl
          have d1 := (hB.cell 1).trans rfl
          exact bodyPost_ret (v := sdV ((s.size : Nat)) (-1)) (by simp only [results, Try.results28]; simp [go_sem, d0, d1]) rfl ⟨⟨_, rfl, by rw [HN.out]; exact ⟨s.size, Nat.le_refl _, rfl, rfl⟩⟩, below_two HWc.out.below _ _⟩
    · have HRM := Lib.hid (fun W => said_stop (HR.out m hm W) (fun r hr => hX ⟨r, hr⟩))
      have HN := Lib.hid (num_stop (fun r hr => hX ⟨r, hr⟩))
      clear hX
      go_wp2_with (go_at_call 38; (with_reducible refine (HRM.out _).mono ?_); rintro e w1 ⟨a, st, rfl, HST, HS, hb⟩; have hst := HST.out; have ho := HB0.out.1.below hb HB0.out.1.lt; have e0 := ho.cell 0; have e1 := ho.cell 1; have y0 := ho.frozen 0; have y1 := ho.frozen 1; have hl := ho.lt; simp only [List.getElem?_toArray, List.getElem?_cons_zero, List.getElem?_cons_succ] at e0 e1; have HO := Lib.hid ho; have HB1 := Lib.hid (HB0.out.2.trans (hb.mono (by simp))); clear hb ho)
      have hB := (HO.out.two a st).alloc (.cells #[.int .i64 a, .int .i64 st] 38)
      have d0 := (hB.cell 0).trans rfl
      have d1 := (hB.cell 1).trans rfl
      exact bodyPost_ret (v := sdV a st) (by simp only [results, Try.results28]; simp [go_sem, d0, d1]) rfl ⟨⟨_, rfl, by rw [HZ.out, HN.out]; exact HS.out⟩, (below_two HB1.out _ _).alloc (by simp [World.setCell]; omega) _⟩
end Go.Proofs.Ytdebionbjefhlaa
namespace Go.Proofs.Ytdebionbjefhlaa
open Go.RowKit

def ValH (s : ByteArray) (f : Nat) : Prop := ∀ (k d : Nat) (W : World), k ≤ s.size → d ≤ 200 → 2 * (s.size - k) + 1 ≤ f →
  Calls Try.prog 20 #[.string s, .int .i64 (k : Nat), .int .i64 (d : Nat)] W fun e w' => (∃ v, e = .returned v ∧ SaidE s (dscE f none d (LL s k)) v) ∧ Below W.heap.size W w'
def LisH (s : ByteArray) (f : Nat) : Prop := ∀ (k d : Nat) (named : Bool) (W : World), k ≤ s.size → d ≤ 200 → 2 * (s.size - k) + 2 ≤ f →
  Calls Try.prog 25 #[.string s, .int .i64 (k : Nat), .int .i64 (d : Nat), .bool named] W fun e w' => (∃ v, e = .returned v ∧ SaidE s (dscE f (some (named, true)) d (LL s k)) v) ∧ Below W.heap.size W w'

/-- The answer's block as it was made, all else as it was. -/
structure OwnW (w wx : World) : Prop where
  own : Blk wx w.heap.size 38 #[.int .i64 0, .int .i64 0]
  below : Below w.heap.size w wx
theorem OwnW.facts {w wx : World} (h : OwnW w wx) : wx.cell? ⟨w.heap.size, 0, none⟩ = some (.int .i64 0) ∧ wx.cell? ⟨w.heap.size, 1, none⟩ = some (.int .i64 0) ∧ wx.frozen? ⟨w.heap.size, 0, none⟩ = false ∧ wx.frozen? ⟨w.heap.size, 1, none⟩ = false ∧ w.heap.size < wx.heap.size :=
  ⟨h.own.cell 0, h.own.cell 1, h.own.frozen 0, h.own.frozen 1, h.own.lt⟩
theorem OwnW.on {w wx wy : World} (h : OwnW w wx) (hb : Below wx.heap.size wx wy) : OwnW w wy := ⟨h.own.below hb h.own.lt, h.below.trans (hb.mono h.below.size)⟩
theorem OwnW.alloc {w wx : World} (h : OwnW w wx) (o : Obj) : OwnW w (wx.alloc o) := ⟨h.own.alloc o, h.below.alloc h.below.size o⟩
theorem OwnW.new (w : World) : OwnW w (w.alloc (.cells #[.int .i64 0, .int .i64 0] 38)) := ⟨Blk.new _ _ _, (Below.refl _ _).alloc (Nat.le_refl _) _⟩
/-- The answer, written. -/
structure EndW (w : World) (a st : Int) (wx : World) : Prop where
  own : Blk wx w.heap.size 38 #[.int .i64 a, .int .i64 st]
  below : Below w.heap.size w wx
theorem OwnW.fin {w wx : World} (h : OwnW w wx) (a st : Int) : EndW w a st ((wx.setCell ⟨w.heap.size, 0, none⟩ (.int .i64 a)).setCell ⟨w.heap.size, 1, none⟩ (.int .i64 st)) := ⟨h.own.two a st, below_two h.below _ _⟩
theorem EndW.alloc {w wx : World} {a st : Int} (h : EndW w a st wx) (o : Obj) : EndW w a st (wx.alloc o) := ⟨h.own.alloc o, h.below.alloc h.below.size o⟩
theorem EndW.new (w : World) (a st : Int) : EndW w a st (w.alloc (.cells #[.int .i64 a, .int .i64 st] 38)) := ⟨Blk.new _ _ _, (Below.refl _ _).alloc (Nat.le_refl _) _⟩
theorem EndW.facts {w wx : World} {a st : Int} (h : EndW w a st wx) : wx.cell? ⟨w.heap.size, 0, none⟩ = some (.int .i64 a) ∧ wx.cell? ⟨w.heap.size, 1, none⟩ = some (.int .i64 st) := ⟨h.own.cell 0, h.own.cell 1⟩

theorem fst_rest {list : Bool → List UInt8 → Ej} {d : Nat} {b : UInt8} {r : List UInt8} (h1 : ((b.toNat : Int) == 91) = false) (h2 : ((b.toNat : Int) == 123) = false) (h3 : ((b.toNat : Int) == 34) = false) :
    fstE list d b r = if (b.toNat : Int) == 45 then numE 0 r else if digB b then numE 0 (b :: r) else if (b.toNat : Int) == 116 then worE [116, 114, 117, 101] (b :: r) else if (b.toNat : Int) == 102 then worE [102, 97, 108, 115, 101] (b :: r) else if (b.toNat : Int) == 110 then worE [110, 117, 108, 108] (b :: r) else .bd (b :: r) := by
  rw [show ((b.toNat : Int) == 91) = (b == 91) from (i_byte b 91).symm] at h1
  rw [show ((b.toNat : Int) == 123) = (b == 123) from (i_byte b 123).symm] at h2
  rw [show ((b.toNat : Int) == 34) = (b == 34) from (i_byte b 34).symm] at h3
  rw [show ((b.toNat : Int) == 45) = (b == 45) from (i_byte b 45).symm, show ((b.toNat : Int) == 116) = (b == 116) from (i_byte b 116).symm, show ((b.toNat : Int) == 102) = (b == 102) from (i_byte b 102).symm, show ((b.toNat : Int) == 110) = (b == 110) from (i_byte b 110).symm]
  unfold fstE
  rw [h1, h2, h3]
  simp only [Bool.false_eq_true, if_false]
  cases h4 : (b == 45)
  · cases h5 : digB b
    · cases h6 : (b == 116)
      · cases h7 : (b == 102)
        · cases h8 : (b == 110)
          · rfl
          · rw [show b = 110 from eq_of_beq h8]
            rfl
        · rw [show b = 102 from eq_of_beq h7]
          rfl
      · rw [show b = 116 from eq_of_beq h6]
        rfl
    · rfl
  · rfl
theorem fst_text {list : Bool → List UInt8 → Ej} {d : Nat} {b : UInt8} {r : List UInt8} (h : ((b.toNat : Int) == 34) = true) : fstE list d b r = quoE 0 r := by
  rw [show ((b.toNat : Int) == 34) = (b == 34) from (i_byte b 34).symm] at h
  rw [show b = 34 from eq_of_beq h]
  rfl
theorem fst_arr {list : Bool → List UInt8 → Ej} {d : Nat} {b : UInt8} {r : List UInt8} (h : ((b.toNat : Int) == 91) = true) : fstE list d b r = if d == 0 then .dp (b :: r) else list false r := by
  rw [show ((b.toNat : Int) == 91) = (b == 91) from (i_byte b 91).symm] at h
  rw [show b = 91 from eq_of_beq h]
  rfl
theorem fst_obj {list : Bool → List UInt8 → Ej} {d : Nat} {b : UInt8} {r : List UInt8} (h : ((b.toNat : Int) == 123) = true) : fstE list d b r = if d == 0 then .dp (b :: r) else list true r := by
  rw [show ((b.toNat : Int) == 123) = (b == 123) from (i_byte b 123).symm] at h
  rw [show b = 123 from eq_of_beq h]
  rfl

/-- Where what parts is gone by. -/
def skP (s : ByteArray) (k : Nat) : Nat := s.size - ((LL s k).dropWhile whiB).length
theorem skP_is {s : ByteArray} {k : Nat} (hk : k ≤ s.size) : LL s (skP s k) = (LL s k).dropWhile whiB ∧ k ≤ skP s k ∧ skP s k ≤ s.size := by
  have h1 := drop_len (LL s k)
  rw [ll_len] at h1
  have h2 : (LL s k).dropWhile whiB = (LL s k).drop ((LL s k).length - ((LL s k).dropWhile whiB).length) := List.suffix_iff_eq_drop.1 (List.dropWhile_suffix _)
  rw [ll_len] at h2
  unfold skP
  refine ⟨?_, by omega, by omega⟩
  rw [h2]
  generalize ((LL s k).dropWhile whiB).length = n at *
  unfold LL
  rw [List.drop_drop, List.length_drop]
  congr 1
  have : s.data.toList.length = s.size := by simp
  omega
theorem skip27_at (s : ByteArray) (k : Nat) (w : World) (hk : k ≤ s.size) (hs : s.size ≤ 4611686018427387904) :
    Calls Try.prog 21 #[.string s, .int .i64 (k : Nat)] w fun e w' => e = .returned (.int .i64 (skP s k : Nat)) ∧ w = w' := by
  refine (skip27_any s k w hk hs).mono ?_
  rintro e w' ⟨⟨j, h1, h2, h3, rfl⟩, rfl⟩
  have h := congrArg List.length h3
  rw [ll_len] at h
  have e : j = skP s k := by unfold skP; omega
  rw [e]
  exact ⟨rfl, rfl⟩

set_option maxHeartbeats 4000000 in
set_option maxRecDepth 10000 in
theorem value_step {s : ByteArray} {f : Nat} (hs : s.size ≤ 4611686018427387904) (hl : LisH s f) : ValH s (f + 1) := by
  intro k d w hk hd hf
  have hz := Try.zeroSaid
  obtain ⟨q, hq⟩ : ∃ q, q = dscE (f + 1) none d (LL s k) := ⟨_, rfl⟩
  rw [← hq]
  have HK := Lib.hid (fun W => skip27_at s k W hk hs)
  obtain ⟨hJ, hkj, hj⟩ := skP_is hk
  obtain ⟨j, hjk⟩ : ∃ j, j = skP s k := ⟨_, rfl⟩
  rw [← hjk] at HK hJ hkj hj
  have HO := Lib.hid (OwnW.new w)
  by_cases hjs : j < s.size
  · have HC := Lib.hid (ll_cons hjs)
    have HQ := Lib.hid (hq.trans (dsc_val (f := f) (depth := d) (hJ.symm.trans HC.out)))
    have t0 : (((j : Nat) : Int) == ((s.size : Nat) : Int)) = false := by rw [beq_eq_false_iff_ne]; omega
    obtain ⟨m, hm⟩ : ∃ m, m = j + 1 := ⟨_, rfl⟩
    have g1 : ((j : Nat) : Int) + 1 = (m : Int) := by omega
    rw [← hm] at HQ HC
    have hms : m ≤ s.size := by omega
    have HLI := Lib.hid (fun named W (h : d ≠ 0) => hl m (d - 1) named W hms (by omega) (by omega))
    have HDG := Lib.hid (fun W => refDigit_any s[j] W)
    have HM := Lib.hid hm
    clear hq hJ hl hf hm hjk
    cases c91 : ((s[j].toNat : Int) == 91)
    · cases c123 : ((s[j].toNat : Int) == 123)
      · cases c34 : ((s[j].toNat : Int) == 34)
        · have HR := Lib.hid (HQ.out.trans (fst_rest c91 c123 c34))
          cases c45 : ((s[j].toNat : Int) == 45)
          · cases cd : digB s[j]
            · rw [cd] at HDG
              cases c116 : ((s[j].toNat : Int) == 116)
              · cases c102 : ((s[j].toNat : Int) == 102)
                · cases c110 : ((s[j].toNat : Int) == 110)
                  · have HZ : Hid (q = .bd (LL s j)) := Lib.hid (by rw [HR.out, c45, cd, c116, c102, c110, ← HC.out]; rfl)
                    clear cd
                    go_enter Try.func20, Try.ntmps20
                    go_wp2_with (first | (go_at_call 21; (with_reducible refine (HK.out _).mono ?_); rintro e w1 ⟨rfl, rfl⟩) | (go_at_call 27; (with_reducible refine (HDG.out _).mono ?_); rintro e w1 ⟨rfl, rfl⟩))
                    obtain ⟨d0, d1⟩ := (EndW.new w ((j : Nat)) 0).facts
                    exact bodyPost_ret (v := sdV ((j : Nat)) 0) (by simp only [results, Try.results20]; simp [go_sem, d0, d1]) rfl ⟨⟨_, rfl, by rw [HZ.out]; exact ⟨j, hj, rfl, rfl⟩⟩, (EndW.new w ((j : Nat)) 0).below⟩
                  · have HZ : Hid (q = worE [110, 117, 108, 108] (LL s j)) := Lib.hid (by rw [HR.out, c45, cd, c116, c102, c110, ← HC.out]; rfl)
                    have HV := Lib.hid (fun W => said_any27 (word27_any s ⟨#[110, 117, 108, 108]⟩ j W hj hs (by decide)))
                    clear cd
                    go_enter Try.func20, Try.ntmps20
                    go_wp2_with (first | (go_at_call 21; (with_reducible refine (HK.out _).mono ?_); rintro e w1 ⟨rfl, rfl⟩) | (go_at_call 27; (with_reducible refine (HDG.out _).mono ?_); rintro e w1 ⟨rfl, rfl⟩) | (go_at_call 29; (with_reducible refine (HV.out _).mono ?_); rintro e w2 ⟨a, st, rfl, HS, hb⟩; have HT := Lib.hid (HO.out.on hb); obtain ⟨e0, e1, y0, y1, hl⟩ := HT.out.facts; clear hb))
                    obtain ⟨d0, d1⟩ := (HT.out.fin a st).facts
                    exact bodyPost_ret (v := sdV a st) (by simp only [results, Try.results20]; simp [go_sem, d0, d1]) rfl ⟨⟨_, rfl, by rw [HZ.out]; exact HS.out⟩, (HT.out.fin a st).below⟩
                · have HZ : Hid (q = worE [102, 97, 108, 115, 101] (LL s j)) := Lib.hid (by rw [HR.out, c45, cd, c116, c102, ← HC.out]; rfl)
                  have HV := Lib.hid (fun W => said_any27 (word27_any s ⟨#[102, 97, 108, 115, 101]⟩ j W hj hs (by decide)))
                  clear cd
                  go_enter Try.func20, Try.ntmps20
                  go_wp2_with (first | (go_at_call 21; (with_reducible refine (HK.out _).mono ?_); rintro e w1 ⟨rfl, rfl⟩) | (go_at_call 27; (with_reducible refine (HDG.out _).mono ?_); rintro e w1 ⟨rfl, rfl⟩) | (go_at_call 29; (with_reducible refine (HV.out _).mono ?_); rintro e w2 ⟨a, st, rfl, HS, hb⟩; have HT := Lib.hid (HO.out.on hb); obtain ⟨e0, e1, y0, y1, hl⟩ := HT.out.facts; clear hb))
                  obtain ⟨d0, d1⟩ := (HT.out.fin a st).facts
                  exact bodyPost_ret (v := sdV a st) (by simp only [results, Try.results20]; simp [go_sem, d0, d1]) rfl ⟨⟨_, rfl, by rw [HZ.out]; exact HS.out⟩, (HT.out.fin a st).below⟩
              · have HZ : Hid (q = worE [116, 114, 117, 101] (LL s j)) := Lib.hid (by rw [HR.out, c45, cd, c116, ← HC.out]; rfl)
                have HV := Lib.hid (fun W => said_any27 (word27_any s ⟨#[116, 114, 117, 101]⟩ j W hj hs (by decide)))
                clear cd
                go_enter Try.func20, Try.ntmps20
                go_wp2_with (first | (go_at_call 21; (with_reducible refine (HK.out _).mono ?_); rintro e w1 ⟨rfl, rfl⟩) | (go_at_call 27; (with_reducible refine (HDG.out _).mono ?_); rintro e w1 ⟨rfl, rfl⟩) | (go_at_call 29; (with_reducible refine (HV.out _).mono ?_); rintro e w2 ⟨a, st, rfl, HS, hb⟩; have HT := Lib.hid (HO.out.on hb); obtain ⟨e0, e1, y0, y1, hl⟩ := HT.out.facts; clear hb))
                obtain ⟨d0, d1⟩ := (HT.out.fin a st).facts
                exact bodyPost_ret (v := sdV a st) (by simp only [results, Try.results20]; simp [go_sem, d0, d1]) rfl ⟨⟨_, rfl, by rw [HZ.out]; exact HS.out⟩, (HT.out.fin a st).below⟩
            · rw [cd] at HDG
              have HZ : Hid (q = numE 0 (LL s j)) := Lib.hid (by rw [HR.out, c45, cd, ← HC.out]; rfl)
              have HV := Lib.hid (fun W => said_any27 (by have h := number27_any s j W hjs hs; rw [c45, if_neg (by decide)] at h; exact h))
              clear cd
              go_enter Try.func20, Try.ntmps20
              go_wp2_with (first | (go_at_call 21; (with_reducible refine (HK.out _).mono ?_); rintro e w1 ⟨rfl, rfl⟩) | (go_at_call 27; (with_reducible refine (HDG.out _).mono ?_); rintro e w1 ⟨rfl, rfl⟩) | (go_at_call 28; (with_reducible refine (HV.out _).mono ?_); rintro e w2 ⟨a, st, rfl, HS, hb⟩; have HT := Lib.hid (HO.out.on hb); obtain ⟨e0, e1, y0, y1, hl⟩ := HT.out.facts; clear hb))
              obtain ⟨d0, d1⟩ := (HT.out.fin a st).facts
              exact bodyPost_ret (v := sdV a st) (by simp only [results, Try.results20]; simp [go_sem, d0, d1]) rfl ⟨⟨_, rfl, by rw [HZ.out]; exact HS.out⟩, (HT.out.fin a st).below⟩
          · have HZ : Hid (q = numE 0 (LL s m)) := Lib.hid (by rw [HR.out, c45]; rfl)
            have HV := Lib.hid (fun W => said_any27 (by have h := number27_any s j W hjs hs; rw [c45, if_pos rfl, ← HM.out] at h; exact h))
            go_enter Try.func20, Try.ntmps20
            go_wp2_with (first | (go_at_call 21; (with_reducible refine (HK.out _).mono ?_); rintro e w1 ⟨rfl, rfl⟩) | (go_at_call 27; (with_reducible refine (HDG.out _).mono ?_); rintro e w1 ⟨rfl, rfl⟩) | (go_at_call 28; (with_reducible refine (HV.out _).mono ?_); rintro e w2 ⟨a, st, rfl, HS, hb⟩; have HT := Lib.hid (HO.out.on hb); obtain ⟨e0, e1, y0, y1, hl⟩ := HT.out.facts; clear hb))
            obtain ⟨d0, d1⟩ := (HT.out.fin a st).facts
            exact bodyPost_ret (v := sdV a st) (by simp only [results, Try.results20]; simp [go_sem, d0, d1]) rfl ⟨⟨_, rfl, by rw [HZ.out]; exact HS.out⟩, (HT.out.fin a st).below⟩
        · have HZ : Hid (q = quoE 0 (LL s m)) := Lib.hid (by rw [HQ.out, fst_text c34])
          have HV := Lib.hid (fun W => said_any27 (quote27_any s m W hms hs))
          go_enter Try.func20, Try.ntmps20
          go_wp2_with (first | (go_at_call 21; (with_reducible refine (HK.out _).mono ?_); rintro e w1 ⟨rfl, rfl⟩) | (go_at_call 27; (with_reducible refine (HDG.out _).mono ?_); rintro e w1 ⟨rfl, rfl⟩) | (go_at_call 26; (with_reducible refine (HV.out _).mono ?_); rintro e w2 ⟨a, st, rfl, HS, hb⟩; have HT := Lib.hid (HO.out.on hb); obtain ⟨e0, e1, y0, y1, hl⟩ := HT.out.facts; clear hb))
          obtain ⟨d0, d1⟩ := (HT.out.fin a st).facts
          exact bodyPost_ret (v := sdV a st) (by simp only [results, Try.results20]; simp [go_sem, d0, d1]) rfl ⟨⟨_, rfl, by rw [HZ.out]; exact HS.out⟩, (HT.out.fin a st).below⟩
      · by_cases h0 : d = 0
        · subst h0
          have HZ : Hid (q = .dp (LL s j)) := Lib.hid (by rw [HQ.out, fst_obj c123, ← HC.out]; rfl)
          go_enter Try.func20, Try.ntmps20
          go_wp2_with (first | (go_at_call 21; (with_reducible refine (HK.out _).mono ?_); rintro e w1 ⟨rfl, rfl⟩) | (go_at_call 27; (with_reducible refine (HDG.out _).mono ?_); rintro e w1 ⟨rfl, rfl⟩))
          obtain ⟨d0, d1⟩ := (EndW.new w ((j : Nat)) 3).facts
          exact bodyPost_ret (v := sdV ((j : Nat)) 3) (by simp only [results, Try.results20]; simp [go_sem, d0, d1]) rfl ⟨⟨_, rfl, by rw [HZ.out]; exact ⟨j, hj, rfl, rfl⟩⟩, (EndW.new w ((j : Nat)) 3).below⟩
        · have HZ : Hid (q = dscE f (some (true, true)) (d - 1) (LL s m)) := Lib.hid (by rw [HQ.out, fst_obj c123, if_neg (by simpa using h0)])
          have HV := Lib.hid (fun W => said_any27 (HLI.out true W h0))
          have t1 : (((d : Nat) : Int) == 0) = false := by rw [beq_eq_false_iff_ne]; omega
          obtain ⟨d9, hd9⟩ : ∃ d9, d9 = d - 1 := ⟨_, rfl⟩
          have g2 : ((d : Nat) : Int) - 1 = (d9 : Int) := by omega
          rw [← hd9] at HZ HV
          clear hd9 h0
          go_enter Try.func20, Try.ntmps20
          go_wp2_with (first | (go_at_call 21; (with_reducible refine (HK.out _).mono ?_); rintro e w1 ⟨rfl, rfl⟩) | (go_at_call 27; (with_reducible refine (HDG.out _).mono ?_); rintro e w1 ⟨rfl, rfl⟩) | (go_at_call 25; (with_reducible refine (HV.out _).mono ?_); rintro e w2 ⟨a, st, rfl, HS, hb⟩; have HT := Lib.hid (HO.out.on hb); obtain ⟨e0, e1, y0, y1, hl⟩ := HT.out.facts; clear hb))
          obtain ⟨d0, d1⟩ := (HT.out.fin a st).facts
          exact bodyPost_ret (v := sdV a st) (by simp only [results, Try.results20]; simp [go_sem, d0, d1]) rfl ⟨⟨_, rfl, by rw [HZ.out]; exact HS.out⟩, (HT.out.fin a st).below⟩
    · by_cases h0 : d = 0
      · subst h0
        have HZ : Hid (q = .dp (LL s j)) := Lib.hid (by rw [HQ.out, fst_arr c91, ← HC.out]; rfl)
        go_enter Try.func20, Try.ntmps20
        go_wp2_with (first | (go_at_call 21; (with_reducible refine (HK.out _).mono ?_); rintro e w1 ⟨rfl, rfl⟩) | (go_at_call 27; (with_reducible refine (HDG.out _).mono ?_); rintro e w1 ⟨rfl, rfl⟩))
        obtain ⟨d0, d1⟩ := (EndW.new w ((j : Nat)) 3).facts
        exact bodyPost_ret (v := sdV ((j : Nat)) 3) (by simp only [results, Try.results20]; simp [go_sem, d0, d1]) rfl ⟨⟨_, rfl, by rw [HZ.out]; exact ⟨j, hj, rfl, rfl⟩⟩, (EndW.new w ((j : Nat)) 3).below⟩
      · have HZ : Hid (q = dscE f (some (false, true)) (d - 1) (LL s m)) := Lib.hid (by rw [HQ.out, fst_arr c91, if_neg (by simpa using h0)])
        have HV := Lib.hid (fun W => said_any27 (HLI.out false W h0))
        have c123 : ((s[j].toNat : Int) == 123) = false := by
          rw [beq_iff_eq] at c91
          rw [beq_eq_false_iff_ne]
          omega
        have t1 : (((d : Nat) : Int) == 0) = false := by rw [beq_eq_false_iff_ne]; omega
        obtain ⟨d9, hd9⟩ : ∃ d9, d9 = d - 1 := ⟨_, rfl⟩
        have g2 : ((d : Nat) : Int) - 1 = (d9 : Int) := by omega
        rw [← hd9] at HZ HV
        clear hd9 h0
        go_enter Try.func20, Try.ntmps20
        go_wp2_with (first | (go_at_call 21; (with_reducible refine (HK.out _).mono ?_); rintro e w1 ⟨rfl, rfl⟩) | (go_at_call 27; (with_reducible refine (HDG.out _).mono ?_); rintro e w1 ⟨rfl, rfl⟩) | (go_at_call 25; (with_reducible refine (HV.out _).mono ?_); rintro e w2 ⟨a, st, rfl, HS, hb⟩; have HT := Lib.hid (HO.out.on hb); obtain ⟨e0, e1, y0, y1, hl⟩ := HT.out.facts; clear hb))
        obtain ⟨d0, d1⟩ := (HT.out.fin a st).facts
        exact bodyPost_ret (v := sdV a st) (by simp only [results, Try.results20]; simp [go_sem, d0, d1]) rfl ⟨⟨_, rfl, by rw [HZ.out]; exact HS.out⟩, (HT.out.fin a st).below⟩
  · obtain rfl : j = s.size := by omega
    have HZ : Hid (q = .op) := Lib.hid (hq.trans (dsc_nil (hJ.symm.trans (ll_nil (Nat.le_refl _)))))
    clear hq hJ hl hf hjk
    go_enter Try.func20, Try.ntmps20
    go_wp2_with (first | (go_at_call 21; (with_reducible refine (HK.out _).mono ?_); rintro e w1 ⟨rfl, rfl⟩) | (go_at_call 27; (with_reducible refine (HDG.out _).mono ?_); rintro e w1 ⟨rfl, rfl⟩))
    obtain ⟨d0, d1⟩ := (EndW.new w ((s.size : Nat)) 1).facts
    exact bodyPost_ret (v := sdV ((s.size : Nat)) 1) (by simp only [results, Try.results20]; simp [go_sem, d0, d1]) rfl ⟨⟨_, rfl, by rw [HZ.out]; exact ⟨_, rfl⟩⟩, (EndW.new w ((s.size : Nat)) 1).below⟩
end Go.Proofs.Ytdebionbjefhlaa
namespace Go.Proofs.Ytdebionbjefhlaa
open Go.RowKit

theorem tal_stop {named : Bool} {k : List UInt8 → Ej} {x : Ej} (h : ∀ r, x ≠ .wl r) : talE named k x = x := by
  cases x with
  | op => rfl
  | bd _ => rfl
  | dp _ => rfl
  | wl r => exact absurd rfl (h r)

set_option maxHeartbeats 16000000 in
set_option maxRecDepth 10000 in
theorem list_plain {s : ByteArray} {f : Nat} (hs : s.size ≤ 4611686018427387904) (hv : ∀ g, g < f → ValH s g) (k d : Nat) (w : World) (hk : k ≤ s.size) (hd : d ≤ 200) (hf : 2 * (s.size - k) + 2 ≤ f) :
    Calls Try.prog 25 #[.string s, .int .i64 (k : Nat), .int .i64 (d : Nat), .bool false] w fun e w' => (∃ v, e = .returned v ∧ SaidE s (dscE f (some (false, true)) d (LL s k)) v) ∧ Below w.heap.size w w' := by
  have hz := Try.zeroSaid
  obtain ⟨q, hq⟩ : ∃ q, q = dscE f (some (false, true)) d (LL s k) := ⟨_, rfl⟩
  rw [← hq]
  have HQ := Lib.hid hq
  have HO0 := Lib.hid (OwnW.new w)
  clear hq
  go_enter Try.func25, Try.ntmps25
  go_wp2
  go_loopw [1, 10] (fun a n wr => ∃ j i g : Nat, j ≤ s.size ∧ i ≤ j ∧ a = .int .i64 j ∧ n = .int .i64 i ∧ g ≤ f ∧ 2 * (s.size - j) + 2 ≤ g ∧ Hid (q = dscE g (some (false, (i == 0))) d (LL s j)) ∧ Hid (OwnW w wr)) (fun a _ _ => s.size - (intOf a).toNat)
  case atStart => exact ⟨k, 0, f, hk, Nat.zero_le _, rfl, rfl, Nat.le_refl _, hf, HQ, HO0⟩
  case round =>
    obtain ⟨j, i, g0, hj, hij, rfl, rfl, hg0, hgj, HJ, HO⟩ := hrel
    obtain ⟨x0, x1, z0, z1, hlw⟩ := HO.out.facts
    obtain ⟨g, rfl⟩ : ∃ g, g0 = g + 1 := ⟨g0 - 1, by omega⟩
    have HG := Lib.hid (show g + 1 ≤ f ∧ 2 * (s.size - j) + 2 ≤ g + 1 from ⟨hg0, hgj⟩)
    obtain ⟨hJ1, hj1, lj1⟩ := skP_is hj
    have HK1 := Lib.hid (fun W => skip27_at s j W hj hs)
    obtain ⟨j1, hj1k⟩ : ∃ j1, j1 = skP s j := ⟨_, rfl⟩
    rw [← hj1k] at HK1 hJ1 hj1 lj1
    clear hj1k
    by_cases h1 : j1 < s.size
    · have HC0 := Lib.hid (ll_cons h1)
      have t1 : (((j1 : Nat) : Int) == ((s.size : Nat) : Int)) = false := by rw [beq_eq_false_iff_ne]; omega
      obtain ⟨m1, hm1⟩ : ∃ m1, m1 = j1 + 1 := ⟨_, rfl⟩
      have gm1 : ((j1 : Nat) : Int) + 1 = (m1 : Int) := by omega
      have lm1 : m1 ≤ s.size := by omega
      rw [← hm1] at HC0
      have HQ1 := Lib.hid (HJ.out.trans (dsc_lis (f := g) (depth := d) (named := false) (first := (i == 0)) (hJ1.symm.trans HC0.out)))
      have HM1 := Lib.hid hm1
      have HV0 := Lib.hid (fun (k : Nat) (hk : k ≤ s.size) (hk2 : 2 * (s.size - k) + 1 ≤ g) W => hv g (by omega) k d W hk hd hk2)
      have HLJ := Lib.hid hJ1
      clear hJ1 hm1 hg0 hgj
      have hc : (i = 0 ∧ ((s[j1].toNat : Int) == 93) = true) ∨ ((i == 0 && s[j1] == (if false then (125 : UInt8) else 93)) = false ∧ (((((i : Nat) : Int) == 0) = true ∧ ((s[j1].toNat : Int) == 93) = false) ∨ (((i : Nat) : Int) == 0) = false)) := by
        by_cases h0 : i = 0
        · subst h0
          cases he : ((s[j1].toNat : Int) == 93)
          · exact Or.inr ⟨(i_byte s[j1] 93).trans he, Or.inl ⟨rfl, rfl⟩⟩
          · exact Or.inl ⟨rfl, rfl⟩
        · refine Or.inr ⟨?_, Or.inr ?_⟩
          · rw [show (i == 0) = false from by rw [beq_eq_false_iff_ne]; exact h0]
            rfl
          · rw [beq_eq_false_iff_ne]
            omega
      rcases hc with ⟨rfl, he⟩ | ⟨he, hrest⟩
      · have HZ : Hid (q = .wl (LL s m1)) := Lib.hid (by rw [HQ1.out, show ((0 : Nat) == 0 && s[j1] == (if false then (125 : UInt8) else 93)) = true from (i_byte s[j1] 93).trans he]; rfl)
        go_wp2_with (go_at_call 21; (with_reducible refine (HK1.out _).mono ?_); rintro e w1 ⟨rfl, rfl⟩)
        have hE := (HO.out.fin (m1 : Nat) (-1))
        obtain ⟨d0, d1⟩ := hE.facts
        exact bodyPost_ret (v := sdV (m1 : Nat) (-1)) (by simp only [results, Try.results25]; simp [go_sem, d0, d1]) rfl ⟨⟨_, rfl, by rw [HZ.out]; exact ⟨m1, lm1, rfl, rfl⟩⟩, hE.below⟩
      · have HQ2 : Hid (q = talE false (fun r => dscE g (some (false, false)) d r) (dscE g none d (LL s j1))) := Lib.hid (by rw [HQ1.out, he, ← HC0.out]; rfl)
        have HV := Lib.hid (fun W => HV0.out j1 lj1 (by have h := HG.out; omega) W)
        clear he
        rcases hrest with ⟨hi0, hne⟩ | hne
        all_goals
          by_cases hX : ∃ r, dscE g none d (LL s j1) = .wl r
          · obtain ⟨r, hr⟩ := hX
            obtain ⟨j2, hj2⟩ : ∃ j2, j2 = s.size - r.length := ⟨_, rfl⟩
            have HC2 := Lib.hid (fun W => said_go (s := s) (r := r) (by have h := HV.out W; rw [hr] at h; exact h) hj2)
            have lj2 : j2 ≤ s.size := by omega
            have HY := Lib.hid (HQ2.out.trans (congrArg (talE false (fun r => dscE g (some (false, false)) d r)) hr))
            have HLE := Lib.hid (show r.length ≤ s.size - j1 by have h := dsc_len g none d (LL s j1) (s.size - j1) r (by rw [ll_len]; exact Nat.le_refl _) hr; exact h)
            clear hr hj2
            by_cases hr2 : r = LL s j2
            · obtain ⟨hJ3, hj23, lj3⟩ := skP_is lj2
              have HK3 := Lib.hid (fun W => skip27_at s j2 W lj2 hs)
              obtain ⟨j3, hj3⟩ : ∃ j3, j3 = skP s j2 := ⟨_, rfl⟩
              rw [← hj3] at HK3 hJ3 hj23 lj3
              rw [← hr2] at hJ3
              have HJ2 := Lib.hid (show j1 ≤ j2 by have h := HLE.out; rw [hr2, ll_len] at h; omega)
              clear hj3 hr2
              by_cases h3 : j3 < s.size
              · have HC3 := Lib.hid (ll_cons h3)
                have t3 : (((j3 : Nat) : Int) == ((s.size : Nat) : Int)) = false := by rw [beq_eq_false_iff_ne]; omega
                obtain ⟨m3, hm3⟩ : ∃ m3, m3 = j3 + 1 := ⟨_, rfl⟩
                have gm3 : ((j3 : Nat) : Int) + 1 = (m3 : Int) := by omega
                have lm3 : m3 ≤ s.size := by omega
                rw [← hm3] at HC3
                have HY2 := Lib.hid (HY.out.trans (tal_cons (hJ3.symm.trans HC3.out)))
                have ce := (i_byte s[j3] 93)
                have ck := (i_byte s[j3] 44)
                rw [show (((93 : UInt8).toNat : Nat) : Int) = 93 from rfl] at ce
                rw [show (((44 : UInt8).toNat : Nat) : Int) = 44 from rfl] at ck
                have HM3 := Lib.hid hm3
                clear hm3 hJ3
                cases c1 : ((s[j3].toNat : Int) == 93)
                · cases c2 : ((s[j3].toNat : Int) == 44)
                  · have c3 : ((s[j3].toNat : Int) != 44) = true := by unfold bne; rw [c2]; rfl
                    have HZ : Hid (q = .bd (LL s j3)) := Lib.hid (by rw [HY2.out, show (s[j3] == (if false then (125 : UInt8) else 93)) = false from ce.trans c1, show (s[j3] == (44 : UInt8)) = false from ck.trans c2, ← HC3.out]; rfl)
                    clear ce ck
                    go_wp2_with (first | (go_at_call 21; (with_reducible refine (HK1.out _).mono ?_); rintro e w1 ⟨rfl, rfl⟩) | (go_at_call 20; (with_reducible refine (HC2.out _).mono ?_); rintro e w3 ⟨rfl, HRV, hb⟩; have HT := Lib.hid (HO.out.on hb); obtain ⟨e5, e6, y5, y6, hl2⟩ := HT.out.facts; clear hb) | (go_at_call 21; (with_reducible refine (HK3.out _).mono ?_); rintro e w1 ⟨rfl, rfl⟩))
                    have hE := (HT.out.fin (j3 : Nat) 0).alloc (.cells #[.int .i64 (j2 : Nat), .int .i64 (-1)] 38)
                    obtain ⟨d0, d1⟩ := hE.facts
                    exact bodyPost_ret (v := sdV (j3 : Nat) (0)) (by simp only [results, Try.results25]; simp [go_sem, d0, d1]) rfl ⟨⟨_, rfl, by rw [HZ.out]; exact ⟨j3, lj3, rfl, rfl⟩⟩, hE.below⟩
                  · have c3 : ((s[j3].toNat : Int) != 44) = false := by unfold bne; rw [c2]; rfl
                    have HZ : Hid (q = dscE g (some (false, (i + 1 == 0))) d (LL s m3)) := Lib.hid (by rw [HY2.out, show (s[j3] == (if false then (125 : UInt8) else 93)) = false from ce.trans c1, show (s[j3] == (44 : UInt8)) = true from ck.trans c2]; rfl)
                    clear ce ck
                    go_wp2_with (first | (go_at_call 21; (with_reducible refine (HK1.out _).mono ?_); rintro e w1 ⟨rfl, rfl⟩) | (go_at_call 20; (with_reducible refine (HC2.out _).mono ?_); rintro e w3 ⟨rfl, HRV, hb⟩; have HT := Lib.hid (HO.out.on hb); obtain ⟨e5, e6, y5, y6, hl2⟩ := HT.out.facts; clear hb) | (go_at_call 21; (with_reducible refine (HK3.out _).mono ?_); rintro e w1 ⟨rfl, rfl⟩))
                    go_roundw
                    case rel => exact ⟨m3, i + 1, g, lm3, by have h2 := HJ2.out; have h3 := HM3.out; omega, by go_num, rfl, by have h2 := HJ2.out; have h3 := HM3.out; have h4 := HG.out; omega, by have h2 := HJ2.out; have h3 := HM3.out; have h4 := HG.out; omega, HZ, Lib.hid (HT.out.alloc _)⟩
                    case measure => have hm3o := HM3.out; have hj2o := HJ2.out; simp [intOf]; omega
                · have HZ : Hid (q = .wl (LL s m3)) := Lib.hid (by rw [HY2.out, show (s[j3] == (if false then (125 : UInt8) else 93)) = true from ce.trans c1]; rfl)
                  clear ce ck
                  go_wp2_with (first | (go_at_call 21; (with_reducible refine (HK1.out _).mono ?_); rintro e w1 ⟨rfl, rfl⟩) | (go_at_call 20; (with_reducible refine (HC2.out _).mono ?_); rintro e w3 ⟨rfl, HRV, hb⟩; have HT := Lib.hid (HO.out.on hb); obtain ⟨e5, e6, y5, y6, hl2⟩ := HT.out.facts; clear hb) | (go_at_call 21; (with_reducible refine (HK3.out _).mono ?_); rintro e w1 ⟨rfl, rfl⟩))
                  have hE := (HT.out.fin (m3 : Nat) (-1)).alloc (.cells #[.int .i64 (j2 : Nat), .int .i64 (-1)] 38)
                  obtain ⟨d0, d1⟩ := hE.facts
                  exact bodyPost_ret (v := sdV (m3 : Nat) (-1)) (by simp only [results, Try.results25]; simp [go_sem, d0, d1]) rfl ⟨⟨_, rfl, by rw [HZ.out]; exact ⟨m3, lm3, rfl, rfl⟩⟩, hE.below⟩
              · obtain rfl : j3 = s.size := by omega
                have HZ : Hid (q = .op) := Lib.hid (HY.out.trans (tal_nil (hJ3.symm.trans (ll_nil (Nat.le_refl _)))))
                clear hJ3
                go_wp2_with (first | (go_at_call 21; (with_reducible refine (HK1.out _).mono ?_); rintro e w1 ⟨rfl, rfl⟩) | (go_at_call 20; (with_reducible refine (HC2.out _).mono ?_); rintro e w3 ⟨rfl, HRV, hb⟩; have HT := Lib.hid (HO.out.on hb); obtain ⟨e5, e6, y5, y6, hl2⟩ := HT.out.facts; clear hb) | (go_at_call 21; (with_reducible refine (HK3.out _).mono ?_); rintro e w1 ⟨rfl, rfl⟩))
                have hE := (HT.out.fin (s.size : Nat) 1).alloc (.cells #[.int .i64 (j2 : Nat), .int .i64 (-1)] 38)
                obtain ⟨d0, d1⟩ := hE.facts
                exact bodyPost_ret (v := sdV (s.size : Nat) (1)) (by simp only [results, Try.results25]; simp [go_sem, d0, d1]) rfl ⟨⟨_, rfl, by rw [HZ.out]; exact ⟨_, rfl⟩⟩, hE.below⟩
            · go_wp2_with (first | (go_at_call 21; (with_reducible refine (HK1.out _).mono ?_); rintro e w1 ⟨rfl, rfl⟩) | (go_at_call 20; (with_reducible refine (HC2.out _).mono ?_); rintro e w3 ⟨rfl, HRV, hb⟩; exact absurd HRV.out hr2) | (go_at_call 21; (with_reducible refine (HK3.out _).mono ?_); rintro e w1 ⟨rfl, rfl⟩))
          · have HC2 := Lib.hid (fun W => said_stop (HV.out W) (fun r hr => hX ⟨r, hr⟩))
            have HN := Lib.hid (tal_stop (named := false) (k := fun r => dscE g (some (false, false)) d r) (fun r hr => hX ⟨r, hr⟩))
            clear hX
            go_wp2_with (first | (go_at_call 21; (with_reducible refine (HK1.out _).mono ?_); rintro e w1 ⟨rfl, rfl⟩) | (go_at_call 20; (with_reducible refine (HC2.out _).mono ?_); rintro e w3 ⟨a, st, rfl, HST, HS, hb⟩; have hst := HST.out; have HT := Lib.hid (HO.out.on hb); obtain ⟨e5, e6, y5, y6, hl2⟩ := HT.out.facts; clear hb) | (go_at_call 21; (with_reducible refine (HK3.out _).mono ?_); rintro e w1 ⟨rfl, rfl⟩))
            have hE := (HT.out.fin a st).alloc (.cells #[.int .i64 (a), .int .i64 (st)] 38)
            obtain ⟨d0, d1⟩ := hE.facts
            exact bodyPost_ret (v := sdV (a) (st)) (by simp only [results, Try.results25]; simp [go_sem, d0, d1]) rfl ⟨⟨_, rfl, by rw [HQ2.out, HN.out]; exact HS.out⟩, hE.below⟩
    · obtain rfl : j1 = s.size := by omega
      have HZ : Hid (q = .op) := Lib.hid (HJ.out.trans (dsc_nil (hJ1.symm.trans (ll_nil (Nat.le_refl _)))))
      clear hJ1
      go_wp2_with (go_at_call 21; (with_reducible refine (HK1.out _).mono ?_); rintro e w1 ⟨rfl, rfl⟩)
      have hE := (HO.out.fin (s.size : Nat) 1)
      obtain ⟨d0, d1⟩ := hE.facts
      exact bodyPost_ret (v := sdV (s.size : Nat) (1)) (by simp only [results, Try.results25]; simp [go_sem, d0, d1]) rfl ⟨⟨_, rfl, by rw [HZ.out]; exact ⟨_, rfl⟩⟩, hE.below⟩
end Go.Proofs.Ytdebionbjefhlaa
