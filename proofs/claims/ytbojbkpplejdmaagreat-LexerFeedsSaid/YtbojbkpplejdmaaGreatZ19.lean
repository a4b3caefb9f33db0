/-
  Facts of layer 29: what is known of all bytes (whoV), as a verdict (jdgO); four cells of a block written anew. No condition.
  What the document's own quote of layer 27 answers, as bytes that are left (SaidE, quoE). Condition: the text is no longer than a length can be.
  What the document's own number of layer 27 answers, as bytes that are left (SaidE, numE). Condition: the text is no longer than a length can be.
-/
import Derived.Test.YtbojbkpplejdmaaGreatZ18
import Derived.Test.YtbojbkpplejdmaaGreatZ4
import Derived.Test.YtbojbkpplejdmaaGreatZ14
import Derived.Deep.CutRange
namespace Go.Proofs.YtbojbkpplejdmaaGreat
open Go.RowKit

/-- Why, and what then. -/
def rsV : Nat → ByteArray
  | 0 => ⟨#[100, 101, 101, 112]⟩
  | 1 => ⟨#[110, 111, 32, 115, 99, 114, 105, 112, 116]⟩
  | 2 => ⟨#[115, 99, 114, 105, 112, 116]⟩
  | 3 => ⟨#[98, 108, 97, 110, 107]⟩
  | 4 => ⟨#[106, 115, 111, 110]⟩
  | 5 => ⟨#[115, 99, 114, 105, 112, 116]⟩
  | _ => ⟨#[99, 117, 116, 32, 111, 102, 102]⟩
def vdV : Nat → Int
  | 0 => 2
  | 1 => 2
  | 2 => 1
  | 3 => 1
  | 4 => 2
  | 5 => 1
  | _ => 2
def jdgV (v : Int) (r : ByteArray) (a : Int) : Value := .agg #[.int .i64 v, .string r, .int .i64 a, .bool false]
/-- What is known of all bytes: what, and behind how many. -/
def whoV (D : Nat) (s : ByteArray) (ended : Bool) : Option (Nat × Nat) := match fstV D [] s.data.toList with
  | some r => some r
  | none => if ended then some (endV D s, s.size) else none
def jdgO : Option (Nat × Nat) → Value
  | none => jdgV 0 ⟨#[]⟩ 0
  | some (c, n) => jdgV (vdV c) (rsV c) (n : Nat)
def zeroJ4 : Array Value := #[.int .i64 0, .string ⟨#[]⟩, .int .i64 0, .bool false]
theorem Tryz.zeroJudged (w : World) : (zeroValue 24).run Tryz.prog w = .ok (.agg #[.int .i64 0, .string ⟨#[]⟩, .int .i64 0, .bool false]) w := by kernel_rfl
theorem Blk.set4 {W : World} {g : Nat} {t : TypeId} {u0 u1 u2 u3 : Value} (h : Blk W g t #[u0, u1, u2, u3]) (v0 v1 v2 v3 : Value) :
    Blk ((((W.setCell ⟨g, 0, none⟩ v0).setCell ⟨g, 1, none⟩ v1).setCell ⟨g, 2, none⟩ v2).setCell ⟨g, 3, none⟩ v3) g t #[v0, v1, v2, v3] :=
  (((h.set_ 0 v0).set_ 1 v1).set_ 2 v2).set_ 3 v3
theorem below_set4 {w W : World} {g : Nat} (h : Below w.heap.size w W) (hg : w.heap.size ≤ g) (v0 v1 v2 v3 : Value) :
    Below w.heap.size w ((((W.setCell ⟨g, 0, none⟩ v0).setCell ⟨g, 1, none⟩ v1).setCell ⟨g, 2, none⟩ v2).setCell ⟨g, 3, none⟩ v3) :=
  (((h.setCell hg _).setCell hg _).setCell hg _).setCell hg _
end Go.Proofs.YtbojbkpplejdmaaGreat
namespace Go.Proofs.YtbojbkpplejdmaaGreat
open Go.RowKit

theorem esc_has (b : UInt8) : hasB ⟨#[34, 92, 47, 98, 102, 110, 114, 116]⟩ b = escJ b := by
  have := bytes_all (p := fun b => hasB ⟨#[34, 92, 47, 98, 102, 110, 114, 116]⟩ b == escJ b) (by kernel_rfl) b
  exact eq_of_beq this
theorem quo0_end (b : UInt8) (l : List UInt8) (h : ((b.toNat : Int) == 34) = true) : quoE 0 (b :: l) = .wl l := by
  have e : b = 34 := UInt8.toNat_inj.1 (by have := eq_of_beq h; show b.toNat = 34; omega)
  subst e
  rfl
theorem quo0_low (b : UInt8) (l : List UInt8) (h : decide ((b.toNat : Int) < 32) = true) : quoE 0 (b :: l) = .bd (b :: l) := by
  have h1 : b.toNat < 32 := by have := of_decide_eq_true h; omega
  have h2 : (b == 34) = false := by
    rw [beq_eq_false_iff_ne]
    intro e
    rw [e] at h1
    exact absurd h1 (by decide)
  rw [quoE, h2]
  show (match (if decide (b.toNat < 32) then none else if b == 92 then some 1 else some 0) with | some m => quoE m l | none => Ej.bd (b :: l)) = _
  rw [decide_eq_true h1]
  rfl
theorem quo0_go (b : UInt8) (l : List UInt8) (h1 : decide ((b.toNat : Int) < 32) = false) (h2 : ((b.toNat : Int) == 34) = false) : quoE 0 (b :: l) = if (b.toNat : Int) == 92 then quoE 1 l else quoE 0 l := by
  have e1 : decide (b.toNat < 32) = false := by
    rw [decide_eq_false_iff_not] at h1 ⊢
    omega
  have e2 : (b == 34) = false := by
    rw [beq_eq_false_iff_ne] at h2 ⊢
    intro e
    rw [e] at h2
    exact h2 rfl
  have e3 : ((b.toNat : Int) == 92) = (b == 92) := by
    rw [Bool.eq_iff_iff, beq_iff_eq, beq_iff_eq]
    exact ⟨fun h => UInt8.toNat_inj.1 (by show b.toNat = 92; omega), fun h => by rw [h]; rfl⟩
  rw [quoE, e2, e3]
  show (match (if decide (b.toNat < 32) then none else if b == 92 then some 1 else some 0) with | some m => quoE m l | none => Ej.bd (b :: l)) = _
  rw [e1]
  cases b == 92 <;> rfl
theorem quo1_go (b : UInt8) (l : List UInt8) : quoE 1 (b :: l) = if (b.toNat : Int) == 117 then quoE 5 l else if escJ b then quoE 0 l else .bd (b :: l) := by
  have e3 : ((b.toNat : Int) == 117) = (b == 117) := by
    rw [Bool.eq_iff_iff, beq_iff_eq, beq_iff_eq]
    exact ⟨fun h => UInt8.toNat_inj.1 (by show b.toNat = 117; omega), fun h => by rw [h]; rfl⟩
  rw [quoE, e3]
  show (match (if b == 117 then some 5 else if escJ b then some 0 else none) with | some m => quoE m l | none => Ej.bd (b :: l)) = _
  cases b == 117 <;> cases escJ b <;> rfl
/-- Where reading stands ahead of digit j of four. -/
def stQ (j : Nat) : Nat := if j = 5 then 0 else 6 - j
theorem quoh_nil {j : Nat} (_h1 : 1 ≤ j) (_h4 : j ≤ 4) : quoE (stQ j) [] = .op := rfl
theorem quoh_go {j : Nat} (h1 : 1 ≤ j) (h4 : j ≤ 4) (b : UInt8) (l : List UInt8) : quoE (stQ j) (b :: l) = if hexB b < 0 then .bd (b :: l) else quoE (stQ (j + 1)) l := by
  have e : stQ j = (4 - j) + 2 := by unfold stQ; rw [if_neg (by omega)]; omega
  have e2 : stQ (j + 1) = if 4 - j = 0 then 0 else 4 - j + 1 := by unfold stQ; split <;> split <;> omega
  rw [e, quoE, e2]
  show (match (if decide (0 ≤ hexB b) then some (if 4 - j = 0 then 0 else 4 - j + 1) else none) with | some m => quoE m l | none => Ej.bd (b :: l)) = _
  by_cases h : hexB b < 0
  · rw [decide_eq_false (by omega), if_pos h]
    rfl
  · rw [decide_eq_true (by omega), if_neg h]
    rfl

set_option maxHeartbeats 4000000 in
set_option maxRecDepth 10000 in
theorem quote27_any (s : ByteArray) (k : Nat) (w : World) (hk : k ≤ s.size) (hs : s.size ≤ 4611686018427387904) :
    Calls Tryz.prog 45 #[.string s, .int .i64 (k : Nat)] w fun e w' => (∃ v, e = .returned v ∧ SaidE s (quoE 0 (LL s k)) v) ∧ Below w.heap.size w w' := by
  have hz := Tryz.zeroSaid
  have HX := Lib.hid refHex_any
  have HH : Hid (∀ b W, Calls Tryz.prog 42 #[.string ⟨#[34, 92, 47, 98, 102, 110, 114, 116]⟩, .int .u8 ((b : UInt8).toNat : Int)] W fun e w' => e = .returned (.bool (escJ b)) ∧ W = w') := Lib.hid fun b W => by
    have := has_any ⟨#[34, 92, 47, 98, 102, 110, 114, 116]⟩ b W (by decide)
    rw [esc_has] at this
    exact this
  obtain ⟨q, hq⟩ : ∃ q, q = quoE 0 (LL s k) := ⟨_, rfl⟩
  rw [← hq]
  have HQ := Lib.hid hq
  clear hq
  have HW := Lib.hid (fun c => (Below.refl w.heap.size w).alloc (Nat.le_refl _) (.cells c 57))
  go_enter Tryz.func45, Tryz.ntmps45
  go_wp2
  go_loop [1] (fun i => ∃ j : Nat, k ≤ j ∧ j ≤ s.size ∧ i = .int .i64 j ∧ Hid (q = quoE 0 (LL s j))) (fun i => s.size - (intOf i).toNat)
  case atStart => exact ⟨k, Nat.le_refl _, hk, rfl, HQ⟩
  case round =>
    obtain ⟨j, hj, hjs, rfl, HJ⟩ := hrel
    clear HQ
    by_cases hlt : j < s.size
    · have e1 : decide (j < s.size) = true := by simpa using hlt
      have HC := Lib.hid (ll_cons hlt)
      obtain ⟨m, hm⟩ : ∃ m, m = j + 1 := ⟨_, rfl⟩
      have g : ((j : Nat) : Int) + 1 = (m : Int) := by omega
      have hms : m ≤ s.size := by omega
      rw [← hm] at HC
      cases h0 : decide ((s[j].toNat : Int) < 32)
      · cases h1 : ((s[j].toNat : Int) == 34)
        · have HY := Lib.hid (quo0_go _ (LL s m) h0 h1)
          cases h2 : ((s[j].toNat : Int) == 92)
          · have h3 : ((s[j].toNat : Int) != 92) = true := by unfold bne; rw [h2]; rfl
            have HZ : Hid (q = quoE 0 (LL s m)) := Lib.hid (by rw [HJ.out, HC.out, HY.out, h2]; rfl)
            clear hm
            go_wp2
            go_round
            case rel => exact ⟨m, by omega, hms, rfl, HZ⟩
            case measure => simp [intOf]; omega
          · have h3 : ((s[j].toNat : Int) != 92) = false := by unfold bne; rw [h2]; rfl
            have HE : Hid (q = quoE 1 (LL s m)) := Lib.hid (by rw [HJ.out, HC.out, HY.out, h2]; rfl)
            by_cases hms2 : m < s.size
            · have e4 : (((m : Nat) : Int) == ((s.size : Nat) : Int)) = false := by rw [beq_eq_false_iff_ne]; omega
              have HC2 := Lib.hid (ll_cons hms2)
              have HY2 := Lib.hid (quo1_go s[m] (LL s (m + 1)))
              cases h5 : ((s[m].toNat : Int) == 117)
              · have HB := Lib.hid (fun W => HH.out s[m] W)
                cases h6 : escJ s[m]
                · rw [h6] at HB
                  have HZ : Hid (q = .bd (LL s m)) := Lib.hid (by rw [HE.out, HC2.out, HY2.out, h5, h6]; rfl)
                  clear hm h6
                  go_wp2_with (go_at_call 42; (with_reducible refine (HB.out _).mono ?_); rintro e w1 ⟨rfl, rfl⟩)
                  exact bodyPost_ret (v := sdV (m : Nat) 0) (by simp [results, Tryz.results45, go_sem]) rfl ⟨⟨_, rfl, by rw [HZ.out]; exact ⟨m, hms, rfl, rfl⟩⟩, HW.out _⟩
                · rw [h6] at HB
                  have HZ : Hid (q = quoE 0 (LL s (m + 1))) := Lib.hid (by rw [HE.out, HC2.out, HY2.out, h5, h6]; rfl)
                  clear hm h6
                  go_wp2_with (go_at_call 42; (with_reducible refine (HB.out _).mono ?_); rintro e w1 ⟨rfl, rfl⟩)
                  go_round
                  case rel => exact ⟨m + 1, by omega, by omega, by go_num, HZ⟩
                  case measure => simp [intOf]; omega
              · have HR : Hid (q = quoE (stQ 1) (LL s (m + 1))) := Lib.hid (by rw [HE.out, HC2.out, HY2.out, h5]; rfl)
                clear hm
                go_wp2
                go_loop [6] (fun i => ∃ n : Nat, 1 ≤ n ∧ n ≤ 5 ∧ m + n ≤ s.size ∧ i = .int .i64 n ∧ Hid (q = quoE (stQ n) (LL s (m + n)))) (fun i => 5 - (intOf i).toNat)
                case atStart => exact ⟨1, by omega, by omega, by omega, rfl, HR⟩
                case round =>
                  obtain ⟨n, hn1, hn5, hns, rfl, HN⟩ := hrel
                  obtain ⟨p, hp⟩ : ∃ p, p = m + n := ⟨_, rfl⟩
                  have g2 : ((m : Nat) : Int) + (n : Int) = (p : Int) := by omega
                  rw [← hp] at HN hns
                  clear HR
                  by_cases hlt5 : n < 5
                  · have e5 : decide (((n : Nat) : Int) < 5) = true := by rw [decide_eq_true_iff]; omega
                    by_cases hps : p < s.size
                    · have e6 : decide (s.size ≤ p) = false := by rw [decide_eq_false_iff_not]; omega
                      have HC3 := Lib.hid (ll_cons hps)
                      have HY3 := Lib.hid (quoh_go hn1 (show n ≤ 4 by omega) s[p] (LL s (p + 1)))
                      have HB := Lib.hid (fun W => HX.out s[p] W)
                      by_cases hx : hexB s[p] < 0
                      · have HZ : Hid (q = .bd (LL s p)) := Lib.hid (by rw [HN.out, HC3.out, HY3.out, if_pos hx])
                        have e7 : decide (hexB s[p] < 0) = true := decide_eq_true hx
                        clear hx hp
                        generalize hexB s[p] = x at *
                        go_wp2_with (go_at_call 61; (with_reducible refine (HB.out _).mono ?_); rintro e w1 ⟨rfl, rfl⟩)
                        exact bodyPost_ret (v := sdV (p : Nat) 0) (by simp [results, Tryz.results45, go_sem]) rfl ⟨⟨_, rfl, by rw [HZ.out]; exact ⟨p, hns, rfl, rfl⟩⟩, HW.out _⟩
                      · have HZ : Hid (q = quoE (stQ (n + 1)) (LL s (m + (n + 1)))) := Lib.hid (by rw [HN.out, HC3.out, HY3.out, if_neg hx, hp]; rfl)
                        have e7 : decide (hexB s[p] < 0) = false := decide_eq_false hx
                        have HP := Lib.hid hp
                        clear hx hp
                        generalize hexB s[p] = x at *
                        go_wp2_with (go_at_call 61; (with_reducible refine (HB.out _).mono ?_); rintro e w1 ⟨rfl, rfl⟩)
                        go_round
                        case rel => exact ⟨n + 1, by omega, by omega, by have := HP.out; omega, by go_num, HZ⟩
                        case measure => simp [intOf]; omega
                    · have e6 : decide (s.size ≤ p) = true := by rw [decide_eq_true_iff]; omega
                      have HZ : Hid (q = .op) := Lib.hid (by rw [HN.out, ll_nil (s := s) (by omega)]; exact quoh_nil hn1 (by omega))
                      clear hp
                      go_wp2
                      exact bodyPost_ret (v := sdV (s.size : Nat) 1) (by simp [results, Tryz.results45, go_sem]) rfl ⟨⟨_, rfl, by rw [HZ.out]; exact ⟨_, rfl⟩⟩, HW.out _⟩
                  · obtain rfl : n = 5 := by omega
                    have g3 : ((m : Nat) : Int) + 5 = (p : Int) := by omega
                    have HZ : Hid (q = quoE 0 (LL s p)) := HN
                    have HP := Lib.hid hp
                    clear g2 hp hn1 hn5 hlt5
                    go_wp2
                    go_round
                    case rel => exact ⟨p, by have := HP.out; omega, by omega, rfl, HZ⟩
                    case measure => have hpo := HP.out; simp [intOf]; omega
            · obtain rfl : m = s.size := by omega
              have HZ : Hid (q = .op) := Lib.hid (by rw [HE.out, ll_nil (Nat.le_refl _)]; rfl)
              clear hm
              go_wp2
              exact bodyPost_ret (v := sdV (s.size : Nat) 1) (by simp [results, Tryz.results45, go_sem]) rfl ⟨⟨_, rfl, by rw [HZ.out]; exact ⟨_, rfl⟩⟩, HW.out _⟩
        · have HZ : Hid (q = .wl (LL s m)) := Lib.hid (by rw [HJ.out, HC.out, quo0_end _ _ h1])
          clear hm
          go_wp2
          exact bodyPost_ret (v := sdV (m : Nat) (-1)) (by simp [results, Tryz.results45, go_sem]) rfl ⟨⟨_, rfl, by rw [HZ.out]; exact ⟨m, hms, rfl, rfl⟩⟩, HW.out _⟩
      · have HZ : Hid (q = .bd (LL s j)) := Lib.hid (by rw [HJ.out, HC.out, quo0_low _ _ h0])
        clear hm
        go_wp2
        exact bodyPost_ret (v := sdV (j : Nat) 0) (by simp [results, Tryz.results45, go_sem]) rfl ⟨⟨_, rfl, by rw [HZ.out]; exact ⟨j, hjs, rfl, rfl⟩⟩, HW.out _⟩
    · obtain rfl : j = s.size := by omega
      have HZ : Hid (q = .op) := Lib.hid (by rw [HJ.out, ll_nil (Nat.le_refl _)]; rfl)
      go_wp2
      exact bodyPost_ret (v := sdV (s.size : Nat) 1) (by simp [results, Tryz.results45, go_sem]) rfl ⟨⟨_, rfl, by rw [HZ.out]; exact ⟨_, rfl⟩⟩, HW.out _⟩
end Go.Proofs.YtbojbkpplejdmaaGreat
namespace Go.Proofs.YtbojbkpplejdmaaGreat
open Go.RowKit

/-! A number, part by part. -/
def frcE : List UInt8 → Ej
  | [] => .wl []
  | b :: l => if b == 101 || b == 69 then numE 5 l else .wl (b :: l)
def pntE : List UInt8 → Ej
  | [] => .wl []
  | b :: l => if b == 46 then numE 3 l else if b == 101 || b == 69 then numE 5 l else .wl (b :: l)
def onE (k : List UInt8 → Ej) : Ej → Ej
  | .wl r => k r
  | x => x
theorem num_two (l : List UInt8) : numE 2 l = pntE l := by cases l <;> rfl
theorem dig_head {l r : List UInt8} {b : UInt8} (h : l.dropWhile digB = b :: r) : digB b = false := by
  have h2 := List.head?_dropWhile_not digB l
  rw [h] at h2
  simpa using h2
theorem num_whole (l : List UInt8) : numE 1 l = pntE (l.dropWhile digB) := by
  rw [num_one]
  cases h : l.dropWhile digB with
  | nil => rfl
  | cons b r =>
    rw [show numE 1 (b :: r) = if digB b then numE 1 r else if b == 46 then numE 3 r else if b == 101 || b == 69 then numE 5 r else .wl (b :: r) from by rw [numE], dig_head h, if_neg (by decide)]
    rfl
theorem num_frac (l : List UInt8) : numE 4 l = frcE (l.dropWhile digB) := by
  rw [num_four]
  cases h : l.dropWhile digB with
  | nil => rfl
  | cons b r =>
    rw [show numE 4 (b :: r) = if digB b then numE 4 r else if b == 101 || b == 69 then numE 5 r else .wl (b :: r) from by rw [numE], dig_head h, if_neg (by decide)]
    rfl
theorem num_three (l : List UInt8) : numE 3 l = onE frcE (runE l) := by
  cases l with
  | nil => rfl
  | cons b r =>
    rw [numE]
    cases h : digB b with
    | true =>
      rw [runE_cons, h, if_pos rfl, if_pos rfl]
      exact num_frac r
    | false =>
      rw [runE_cons, h]
      rfl
theorem runE_no (b : UInt8) (r : List UInt8) (h : digB b = false) : runE (b :: r) = .bd (b :: r) := by rw [runE_cons, h]; rfl
theorem runE_yes (b : UInt8) (r : List UInt8) (h : digB b = true) : runE (b :: r) = .wl (r.dropWhile digB) := by rw [runE_cons, h]; rfl
theorem num_six (l : List UInt8) : numE 6 l = runE l := by
  cases l with
  | nil => rfl
  | cons b r =>
    rw [numE]
    cases h : digB b with
    | true => rw [runE_yes b r h, if_pos rfl]; exact num_seven r
    | false => rw [runE_no b r h]; rfl
theorem num_five (b : UInt8) (r : List UInt8) : numE 5 (b :: r) = if b == 43 || b == 45 then runE r else runE (b :: r) := by
  rw [numE]
  cases h : (b == 43 || b == 45) with
  | true => rw [if_pos rfl, if_pos rfl]; exact num_six r
  | false =>
    cases hd : digB b with
    | true => rw [runE_yes b r hd]; exact num_seven r
    | false => rw [runE_no b r hd]; rfl
theorem num_zero0 (r : List UInt8) : numE 0 (48 :: r) = pntE r := by
  rw [numE]
  exact num_two r
theorem num_zero (b : UInt8) (r : List UInt8) (h : (b == 48) = false) : numE 0 (b :: r) = onE pntE (runE (b :: r)) := by
  rw [numE, h, if_neg (by decide)]
  cases hd : digB b with
  | true => rw [runE_yes b r hd, if_pos rfl]; exact num_whole r
  | false => rw [runE_no b r hd]; rfl
theorem num_stop {l : List UInt8} (h : ∀ r, runE l ≠ .wl r) : numE 0 l = runE l := by
  cases l with
  | nil => rfl
  | cons b r =>
    cases hd : digB b with
    | true => exact absurd (by rw [runE_cons, hd]; rfl) (h (r.dropWhile digB))
    | false =>
      have h48 : (b == 48) = false := by
        cases h8 : (b == 48) with
        | false => rfl
        | true =>
          rw [show b = 48 from eq_of_beq h8] at hd
          cases hd
      rw [num_zero b r h48, runE_cons, hd]
      rfl

/-! What a call says, parted. -/
theorem said_stop {s : ByteArray} {x : Ej} {f : Nat} {vs : Array Value} {w : World} (h : Calls Tryz.prog f vs w fun e w' => (∃ v, e = .returned v ∧ SaidE s x v) ∧ Below w.heap.size w w') (hx : ∀ r, x ≠ .wl r) :
    Calls Tryz.prog f vs w fun e w' => ∃ (a st : Int), e = .returned (sdV a st) ∧ Hid ((st != -1) = true) ∧ Hid (SaidE s x (sdV a st)) ∧ Below w.heap.size w w' := by
  refine h.mono ?_
  rintro e w' ⟨⟨v, rfl, hv⟩, hb⟩
  cases x with
  | op => obtain ⟨a, rfl⟩ := hv; exact ⟨a, 1, rfl, Lib.hid rfl, Lib.hid ⟨a, rfl⟩, hb⟩
  | bd r => obtain ⟨k, hk, hr, rfl⟩ := hv; exact ⟨k, 0, rfl, Lib.hid rfl, Lib.hid ⟨k, hk, hr, rfl⟩, hb⟩
  | dp r => obtain ⟨k, hk, hr, rfl⟩ := hv; exact ⟨k, 3, rfl, Lib.hid rfl, Lib.hid ⟨k, hk, hr, rfl⟩, hb⟩
  | wl r => exact absurd rfl (hx r)
theorem said_go {s : ByteArray} {r : List UInt8} {f : Nat} {vs : Array Value} {w : World} (h : Calls Tryz.prog f vs w fun e w' => (∃ v, e = .returned v ∧ SaidE s (.wl r) v) ∧ Below w.heap.size w w') {j : Nat} (hj : j = s.size - r.length) :
    Calls Tryz.prog f vs w fun e w' => e = .returned (sdV (j : Nat) (-1)) ∧ Hid (r = LL s j) ∧ Below w.heap.size w w' := by
  refine h.mono ?_
  rintro e w' ⟨⟨v, rfl, hv⟩, hb⟩
  obtain ⟨k, hk, rfl, rfl⟩ := hv
  have e : j = k := by
    rw [hj, ll_len]
    omega
  subst e
  exact ⟨rfl, Lib.hid rfl, hb⟩

theorem said_any27 {s : ByteArray} {x : Ej} {f : Nat} {vs : Array Value} {w : World} (h : Calls Tryz.prog f vs w fun e w' => (∃ v, e = .returned v ∧ SaidE s x v) ∧ Below w.heap.size w w') :
    Calls Tryz.prog f vs w fun e w' => ∃ (a st : Int), e = .returned (sdV a st) ∧ Hid (SaidE s x (sdV a st)) ∧ Below w.heap.size w w' := by
  refine h.mono ?_
  rintro e w' ⟨⟨v, rfl, hv⟩, hb⟩
  cases x with
  | op => obtain ⟨a, rfl⟩ := hv; exact ⟨a, 1, rfl, Lib.hid ⟨a, rfl⟩, hb⟩
  | bd r => obtain ⟨k, hk, hr, rfl⟩ := hv; exact ⟨k, 0, rfl, Lib.hid ⟨k, hk, hr, rfl⟩, hb⟩
  | dp r => obtain ⟨k, hk, hr, rfl⟩ := hv; exact ⟨k, 3, rfl, Lib.hid ⟨k, hk, hr, rfl⟩, hb⟩
  | wl r => obtain ⟨k, hk, hr, rfl⟩ := hv; exact ⟨k, -1, rfl, Lib.hid ⟨k, hk, hr, rfl⟩, hb⟩
theorem Blk.two {W : World} {g : Nat} {p r : Value} (h : Blk W g 57 #[p, r]) (a x : Int) : Blk ((W.setCell ⟨g, 0, none⟩ (.int .i64 a)).setCell ⟨g, 1, none⟩ (.int .i64 x)) g 57 #[.int .i64 a, .int .i64 x] := (h.set_ 0 _).set_ 1 _
theorem below_two {B : Nat} {a w : World} (h : Below B a w) (x y : Value) : Below B a ((w.setCell ⟨B, 0, none⟩ x).setCell ⟨B, 1, none⟩ y) :=
  (h.setCell (p := ⟨B, 0, none⟩) (Nat.le_refl _) _).setCell (p := ⟨B, 1, none⟩) (Nat.le_refl _) _
theorem i_byte (b c : UInt8) : (b == c) = ((b.toNat : Int) == (c.toNat : Int)) := by
  rw [Bool.eq_iff_iff, beq_iff_eq, beq_iff_eq]
  exact ⟨fun h => by rw [h], fun h => UInt8.toNat_inj.1 (by omega)⟩
theorem pnt_go (b : UInt8) (l : List UInt8) : pntE (b :: l) = if (b.toNat : Int) == 46 then onE frcE (runE l) else frcE (b :: l) := by
  rw [show ((b.toNat : Int) == 46) = (b == 46) from (i_byte b 46).symm, ← num_three]
  rfl
theorem frc_go (b : UInt8) (l : List UInt8) : frcE (b :: l) = if (b.toNat : Int) == 101 || (b.toNat : Int) == 69 then numE 5 l else .wl (b :: l) := by
  rw [show ((b.toNat : Int) == 101) = (b == 101) from (i_byte b 101).symm, show ((b.toNat : Int) == 69) = (b == 69) from (i_byte b 69).symm]
  rfl
theorem fiv_go (b : UInt8) (l : List UInt8) : numE 5 (b :: l) = if (b.toNat : Int) == 43 || (b.toNat : Int) == 45 then runE l else runE (b :: l) := by
  rw [show ((b.toNat : Int) == 43) = (b == 43) from (i_byte b 43).symm, show ((b.toNat : Int) == 45) = (b == 45) from (i_byte b 45).symm]
  exact num_five b l
theorem zer_go (b : UInt8) (l r : List UInt8) (h : runE (b :: l) = .wl r) : numE 0 (b :: l) = if (b.toNat : Int) == 48 then pntE l else pntE r := by
  rw [show ((b.toNat : Int) == 48) = (b == 48) from (i_byte b 48).symm]
  cases h8 : (b == 48) with
  | true =>
    rw [show b = 48 from eq_of_beq h8]
    exact num_zero0 l
  | false =>
    rw [num_zero b l h8, h]
    rfl
/-- The answer's block as it was made, what is said so far in another one, all else as it was. -/
structure TwoW (w : World) (B : Nat) (a b : Int) (wx : World) : Prop where
  far : w.heap.size < B
  said : Blk wx B 57 #[.int .i64 a, .int .i64 b]
  own : Blk wx w.heap.size 57 #[.int .i64 0, .int .i64 0]
  below : Below w.heap.size w wx
theorem TwoW.putB {w wx : World} {B : Nat} {a b : Int} (h : TwoW w B a b wx) (x y : Int) : TwoW w B x y ((wx.setCell ⟨B, 0, none⟩ (.int .i64 x)).setCell ⟨B, 1, none⟩ (.int .i64 y)) :=
  ⟨h.far, (h.said.set_ 0 (.int .i64 x)).set_ 1 (.int .i64 y), (h.own.far (p := ⟨B, 0, none⟩) (Nat.ne_of_lt h.far) _).far (p := ⟨B, 1, none⟩) (Nat.ne_of_lt h.far) _,
    (h.below.setCell (p := ⟨B, 0, none⟩) (Nat.le_of_lt h.far) _).setCell (p := ⟨B, 1, none⟩) (Nat.le_of_lt h.far) _⟩
theorem TwoW.on {w wx wy : World} {B : Nat} {a b : Int} (h : TwoW w B a b wx) (hb : Below wx.heap.size wx wy) : TwoW w B a b wy :=
  ⟨h.far, h.said.below hb h.said.lt, h.own.below hb h.own.lt, h.below.trans (hb.mono h.below.size)⟩
theorem TwoW.facts {w wx : World} {B : Nat} {a b : Int} (h : TwoW w B a b wx) : (wx.cell? ⟨B, 0, none⟩ = some (.int .i64 a) ∧ wx.cell? ⟨B, 1, none⟩ = some (.int .i64 b) ∧ wx.frozen? ⟨B, 0, none⟩ = false ∧ wx.frozen? ⟨B, 1, none⟩ = false) ∧
    (wx.cell? ⟨w.heap.size, 0, none⟩ = some (.int .i64 0) ∧ wx.cell? ⟨w.heap.size, 1, none⟩ = some (.int .i64 0) ∧ wx.frozen? ⟨w.heap.size, 0, none⟩ = false ∧ wx.frozen? ⟨w.heap.size, 1, none⟩ = false) ∧ w.heap.size ≠ B ∧ B ≠ w.heap.size :=
  ⟨⟨h.said.cell 0, h.said.cell 1, h.said.frozen 0, h.said.frozen 1⟩, ⟨h.own.cell 0, h.own.cell 1, h.own.frozen 0, h.own.frozen 1⟩, Nat.ne_of_lt h.far, (Nat.ne_of_lt h.far).symm⟩

set_option maxHeartbeats 4000000 in
set_option maxRecDepth 10000 in
theorem number27_any (s : ByteArray) (k : Nat) (w : World) (hk : k < s.size) (hs : s.size ≤ 4611686018427387904) :
    Calls Tryz.prog 47 #[.string s, .int .i64 (k : Nat)] w fun e w' => (∃ v, e = .returned v ∧ SaidE s (numE 0 (if (s[k].toNat : Int) == 45 then LL s (k + 1) else LL s k)) v) ∧ Below w.heap.size w w' := by
  have hz := Tryz.zeroSaid
  have HR := Lib.hid (fun m (hm : m ≤ s.size) W => run27_any s m W hm hs)
  obtain ⟨q, hq⟩ : ∃ q, q = numE 0 (if (s[k].toNat : Int) == 45 then LL s (k + 1) else LL s k) := ⟨_, rfl⟩
  rw [← hq]
  have HQ := Lib.hid hq
  clear hq
  have HB0 := Lib.hid (show Blk (w.alloc (.cells #[.int .i64 0, .int .i64 0] 57)) w.heap.size 57 #[.int .i64 0, .int .i64 0] ∧ Below w.heap.size w (w.alloc (.cells #[.int .i64 0, .int .i64 0] 57)) from ⟨Blk.new _ _ _, (Below.refl _ _).alloc (Nat.le_refl _) _⟩)
  go_enter Tryz.func47, Tryz.ntmps47
  go_upto_if 9 with fail
  go_cut [1] from 9 to 11 (fun a wx => ∃ j : Nat, j ≤ s.size ∧ a = .int .i64 j ∧ Hid (q = numE 0 (LL s j)) ∧ wx = w.alloc (.cells #[.int .i64 0, .int .i64 0] 57))
  case first =>
    cases h45 : ((s[k].toNat : Int) == 45)
    · have HZ : Hid (q = numE 0 (LL s k)) := Lib.hid (by rw [HQ.out, h45]; rfl)
      go_wp2
      go_meet
      exact ⟨k, Nat.le_of_lt hk, rfl, HZ, rfl⟩
    · have HZ : Hid (q = numE 0 (LL s (k + 1))) := Lib.hid (by rw [HQ.out, h45]; rfl)
      go_wp2
      go_meet
      exact ⟨k + 1, hk, by go_num, HZ, rfl⟩
  case rest =>
    obtain ⟨m, hm, rfl, HZ, rfl⟩ := hcut
    clear HQ
    by_cases hX : ∃ r, runE (LL s m) = .wl r
    · obtain ⟨r, hr⟩ := hX
      have hms : m < s.size := by
        rcases Nat.lt_or_ge m s.size with h | h
        · exact h
        · rw [ll_nil h] at hr
          cases hr
      have HC := Lib.hid (ll_cons hms)
      obtain ⟨j, hj⟩ : ∃ j, j = s.size - r.length := ⟨_, rfl⟩
      have HRM := Lib.hid (fun W => said_go (s := s) (r := r) (by have := HR.out m hm W; rw [hr] at this; exact this) hj)
      have hjs : j ≤ s.size := by omega
      have HJ := Lib.hid (zer_go _ _ _ (HC.out ▸ hr))
      clear hr hj
      go_upto_if 22 with (go_at_call 62; (with_reducible refine (HRM.out _).mono ?_); rintro e w1 ⟨rfl, HRR, hb⟩; have HW1 := Lib.hid (show ∀ a b : Int, TwoW w w1.heap.size a b (w1.alloc (.cells #[.int .i64 a, .int .i64 b] 57)) from fun a b => ⟨Nat.lt_of_lt_of_le (by simp) hb.size, Blk.new _ _ _, (HB0.out.1.below hb HB0.out.1.lt).alloc _, (HB0.out.2.trans (hb.mono (by simp))).alloc (Nat.le_trans HB0.out.2.size hb.size) _⟩); clear hb)
      go_cut [1] from 22 to 25 (fun a wx => ∃ i : Nat, i ≤ s.size ∧ a = .int .i64 m ∧ Hid (q = pntE (LL s i)) ∧ Hid (TwoW w w1.heap.size (i : Nat) (-1) wx))
      case first =>
        cases h48 : ((s[m].toNat : Int) == 48)
        · have HY : Hid (q = pntE (LL s j)) := Lib.hid (by rw [HZ.out, HC.out, HJ.out, h48, ← HRR.out]; rfl)
          go_wp2
          go_meet
          exact ⟨j, hjs, rfl, HY, Lib.hid (HW1.out _ _)⟩
        · have HY : Hid (q = pntE (LL s (m + 1))) := Lib.hid (by rw [HZ.out, HC.out, HJ.out, h48]; rfl)
          obtain ⟨m1, hm1⟩ : ∃ m1, m1 = m + 1 := ⟨_, rfl⟩
          have g1 : ((m : Nat) : Int) + 1 = (m1 : Int) := by omega
          rw [← hm1] at HY
          clear hm1
          go_wp2
          go_meet
          exact ⟨m1, by omega, rfl, HY, Lib.hid (HW1.out _ _)⟩
      case rest =>
        obtain ⟨i, hi, rfl, HP, HWc⟩ := hcut
        clear HJ HRR HC HZ HW1
        generalize w1.heap.size = B at *
        obtain ⟨⟨c0, c1, z0, z1⟩, ⟨e0, e1, y0, y1⟩, n1, n2⟩ := HWc.out.facts
        by_cases his : i < s.size
        · have HCI := Lib.hid (ll_cons his)
          have r1 : decide (i < s.size) = true := by simpa using his
          have HPG := Lib.hid (pnt_go s[i] (LL s (i + 1)))
          go_upto_if 37 with fail
          go_cut [1] from 36 to 47 (fun a wx => ∃ p : Nat, p ≤ s.size ∧ a = .int .i64 p ∧ Hid (q = frcE (LL s p)) ∧ Hid (∃ x y, TwoW w B x y wx))
          case first =>
            cases h46 : ((s[i].toNat : Int) == 46)
            · have HY : Hid (q = frcE (LL s i)) := Lib.hid (by rw [HP.out, HCI.out, HPG.out, h46]; rfl)
              go_wp2
              go_meet
              exact ⟨i, hi, rfl, HY, Lib.hid ⟨_, _, HWc.out⟩⟩
            · have HY : Hid (q = onE frcE (runE (LL s (i + 1)))) := Lib.hid (by rw [HP.out, HCI.out, HPG.out, h46]; rfl)
              obtain ⟨i1, hi1⟩ : ∃ i1, i1 = i + 1 := ⟨_, rfl⟩
              have g1 : ((i : Nat) : Int) + 1 = (i1 : Int) := by omega
              rw [← hi1] at HY
              have hi1s : i1 ≤ s.size := by omega
              clear hi1
              by_cases hX : ∃ r, runE (LL s i1) = .wl r
              · obtain ⟨r, hr⟩ := hX
                rw [hr] at HY
                obtain ⟨j2, hj2⟩ : ∃ j, j = s.size - r.length := ⟨_, rfl⟩
                have HR2 := Lib.hid (fun W => said_go (s := s) (r := r) (by have := HR.out i1 hi1s W; rw [hr] at this; exact this) hj2)
                have hj2s : j2 ≤ s.size := by omega
                clear hr hj2
                go_wp2_with (go_at_call 62; (with_reducible refine (HR2.out _).mono ?_); rintro e w2 ⟨rfl, HRR, hb⟩; have HT := Lib.hid (HWc.out.on hb); obtain ⟨⟨b0, b1, x0, x1⟩, ⟨f0, f1, v0, v1⟩, _, _⟩ := HT.out.facts; clear hb)
                go_meet
                exact ⟨j2, hj2s, rfl, by rw [← HRR.out]; exact HY, Lib.hid ⟨_, _, HT.out.putB _ _⟩⟩
              · have HR2 := Lib.hid (fun W => said_stop (HR.out i1 hi1s W) (fun r hr => hX ⟨r, hr⟩))
                have HN : Hid (q = runE (LL s i1)) := by
                  refine Lib.hid (HY.out.trans ?_)
                  cases hr : runE (LL s i1) with
                  | wl r => exact absurd ⟨r, hr⟩ hX
                  | op => rfl
                  | bd r => rfl
                  | dp r => rfl
                clear hX
                go_wp2_with (go_at_call 62; (with_reducible refine (HR2.out _).mono ?_); rintro e w2 ⟨a, st, rfl, HST, HS, hb⟩; have HT := Lib.hid (HWc.out.on hb); obtain ⟨⟨b0, b1, x0, x1⟩, ⟨f0, f1, v0, v1⟩, _, _⟩ := HT.out.facts; have hst := HST.out; clear hb)
                have HT2 := Lib.hid (HT.out.putB a st)
                have hB := HT2.out.own.two (a) (st)
                have d0 := (hB.cell 0).trans rfl
                have d1 := (hB.cell 1).trans rfl
                exact bodyPost_ret (v := sdV (a) (st)) (by simp only [results, Tryz.results47]; simp [go_sem, d0, d1]) rfl ⟨⟨_, rfl, by rw [HN.out]; exact HS.out⟩, below_two HT2.out.below _ _⟩
          case rest =>
            obtain ⟨p, hp, rfl, HF, HV⟩ := hcut
            obtain ⟨x, y, hv⟩ := HV.out
            have HX := Lib.hid hv
            obtain ⟨⟨c0, c1, z0, z1⟩, ⟨e0, e1, y0, y1⟩, n1, n2⟩ := hv.facts
            clear hv HV HPG HCI HP HWc
            by_cases hps : p < s.size
            · have HCP := Lib.hid (ll_cons hps)
              have r2 : decide (p < s.size) = true := by simpa using hps
              have HFG := Lib.hid (frc_go s[p] (LL s (p + 1)))
              obtain ⟨p1, hp1⟩ : ∃ p1, p1 = p + 1 := ⟨_, rfl⟩
              have g1 : ((p : Nat) : Int) + 1 = (p1 : Int) := by omega
              rw [← hp1] at HFG HCP
              have hp1s : p1 ≤ s.size := by omega
              clear hp1
              by_cases hee : ((s[p].toNat : Int) == 101 || (s[p].toNat : Int) == 69) = true
              · have HY : Hid (q = numE 5 (LL s p1)) := Lib.hid (by rw [HF.out, HCP.out, HFG.out, if_pos hee])
                have hcase : ((s[p].toNat : Int) == 101) = true ∨ (((s[p].toNat : Int) == 101) = false ∧ ((s[p].toNat : Int) == 69) = true) := by
                  cases h : ((s[p].toNat : Int) == 101)
                  · rw [h] at hee; exact Or.inr ⟨rfl, hee⟩
                  · exact Or.inl rfl
                clear hee
                by_cases hp2 : p1 < s.size
                · have HC1 := Lib.hid (ll_cons hp2)
                  have r3 : decide (p1 < s.size) = true := by simpa using hp2
                  have HFV := Lib.hid (fiv_go s[p1] (LL s (p1 + 1)))
                  obtain ⟨p2, hp3⟩ : ∃ p2, p2 = p1 + 1 := ⟨_, rfl⟩
                  have g2 : ((p1 : Nat) : Int) + 1 = (p2 : Int) := by omega
                  rw [← hp3] at HFV HC1
                  have hp2s : p2 ≤ s.size := by omega
                  clear hp3
                  by_cases hsg : ((s[p1].toNat : Int) == 43 || (s[p1].toNat : Int) == 45) = true
                  · have HN : Hid (q = runE (LL s p2)) := Lib.hid (by rw [HY.out, HC1.out, HFV.out, if_pos hsg])
                    have hcase2 : ((s[p1].toNat : Int) == 43) = true ∨ (((s[p1].toNat : Int) == 43) = false ∧ ((s[p1].toNat : Int) == 45) = true) := by
                      cases h : ((s[p1].toNat : Int) == 43)
                      · rw [h] at hsg; exact Or.inr ⟨rfl, hsg⟩
                      · exact Or.inl rfl
                    have HR2 := Lib.hid (fun W => said_any27 (HR.out p2 hp2s W))
                    clear hsg
                    rcases hcase with h1 | ⟨h1, h2⟩ <;> rcases hcase2 with h3 | ⟨h3, h4⟩
                    all_goals
                      go_wp2_with (go_at_call 62; (with_reducible refine (HR2.out _).mono ?_); rintro e w2 ⟨a, st, rfl, HS, hb⟩; have HT := Lib.hid (HX.out.on hb); obtain ⟨⟨b0, b1, x0, x1⟩, ⟨f0, f1, v0, v1⟩, _, _⟩ := HT.out.facts; clear hb)
                      have hB := HT.out.own.two (a) (st)
                      have d0 := (hB.cell 0).trans rfl
                      have d1 := (hB.cell 1).trans rfl
                      exact bodyPost_ret (v := sdV (a) (st)) (by simp only [results, Tryz.results47]; simp [go_sem, d0, d1]) rfl ⟨⟨_, rfl, by rw [HN.out]; exact HS.out⟩, below_two HT.out.below _ _⟩
                  · have h3 : ((s[p1].toNat : Int) == 43) = false := by
                      cases h : ((s[p1].toNat : Int) == 43)
                      · rfl
                      · rw [h] at hsg; exact absurd rfl hsg
                    have h4 : ((s[p1].toNat : Int) == 45) = false := by
                      cases h : ((s[p1].toNat : Int) == 45)
                      · rfl
                      · rw [h, h3] at hsg; exact absurd rfl hsg
                    have HN : Hid (q = runE (LL s p1)) := Lib.hid (by rw [HY.out, HC1.out, HFV.out, if_neg hsg])
                    have HR2 := Lib.hid (fun W => said_any27 (HR.out p1 hp1s W))
                    clear hsg
                    rcases hcase with h1 | ⟨h1, h2⟩
                    all_goals
                      go_wp2_with (go_at_call 62; (with_reducible refine (HR2.out _).mono ?_); rintro e w2 ⟨a, st, rfl, HS, hb⟩; have HT := Lib.hid (HX.out.on hb); obtain ⟨⟨b0, b1, x0, x1⟩, ⟨f0, f1, v0, v1⟩, _, _⟩ := HT.out.facts; clear hb)
                      have hB := HT.out.own.two (a) (st)
                      have d0 := (hB.cell 0).trans rfl
                      have d1 := (hB.cell 1).trans rfl
                      exact bodyPost_ret (v := sdV (a) (st)) (by simp only [results, Tryz.results47]; simp [go_sem, d0, d1]) rfl ⟨⟨_, rfl, by rw [HN.out]; exact HS.out⟩, below_two HT.out.below _ _⟩
                · obtain rfl : p1 = s.size := by omega
                  have HN : Hid (q = runE (LL s s.size)) := Lib.hid (by rw [HY.out, ll_nil (Nat.le_refl _)]; rfl)
                  have HR2 := Lib.hid (fun W => said_any27 (HR.out s.size (Nat.le_refl _) W))
                  rcases hcase with h1 | ⟨h1, h2⟩
                  all_goals
                    go_wp2_with (go_at_call 62; (with_reducible refine (HR2.out _).mono ?_); rintro e w2 ⟨a, st, rfl, HS, hb⟩; have HT := Lib.hid (HX.out.on hb); obtain ⟨⟨b0, b1, x0, x1⟩, ⟨f0, f1, v0, v1⟩, _, _⟩ := HT.out.facts; clear hb)
                    have hB := HT.out.own.two (a) (st)
                    have d0 := (hB.cell 0).trans rfl
                    have d1 := (hB.cell 1).trans rfl
                    exact bodyPost_ret (v := sdV (a) (st)) (by simp only [results, Tryz.results47]; simp [go_sem, d0, d1]) rfl ⟨⟨_, rfl, by rw [HN.out]; exact HS.out⟩, below_two HT.out.below _ _⟩
              · have h1 : ((s[p].toNat : Int) == 101) = false := by
                  cases h : ((s[p].toNat : Int) == 101)
                  · rfl
                  · rw [h] at hee; exact absurd rfl hee
                have h2 : ((s[p].toNat : Int) == 69) = false := by
                  cases h : ((s[p].toNat : Int) == 69)
                  · rfl
                  · rw [h, h1] at hee; exact absurd rfl hee
                have HN : Hid (q = .wl (LL s p)) := Lib.hid (by rw [HF.out, HCP.out, HFG.out, if_neg hee])
                clear hee
                go_wp2
                have hB := HX.out.own.two ((p : Nat)) (-1)
                have d0 := (hB.cell 0).trans rfl
                have d1 := (hB.cell 1).trans rfl
                exact bodyPost_ret (v := sdV ((p : Nat)) (-1)) (by simp only [results, Tryz.results47]; simp [go_sem, d0, d1]) rfl ⟨⟨_, rfl, by rw [HN.out]; exact ⟨p, hp, rfl, rfl⟩⟩, below_two HX.out.below _ _⟩
            · obtain rfl : p = s.size := by omega
              have HN : Hid (q = .wl (LL s s.size)) := Lib.hid (by rw [HF.out, ll_nil (Nat.le_refl _)]; rfl)
              go_wp2
              have hB := HX.out.own.two ((s.size : Nat)) (-1)
              have d0 := (hB.cell 0).trans rfl
              have d1 := (hB.cell 1).trans rfl
              exact bodyPost_ret (v := sdV ((s.size : Nat)) (-1)) (by simp only [results, Tryz.results47]; simp [go_sem, d0, d1]) rfl ⟨⟨_, rfl, by rw [HN.out]; exact ⟨s.size, Nat.le_refl _, rfl, rfl⟩⟩, below_two HX.out.below _ _⟩
        · obtain rfl : i = s.size := by omega
          have HN : Hid (q = .wl (LL s s.size)) := Lib.hid (by rw [HP.out, ll_nil (Nat.le_refl _)]; rfl)
          go_wp2
          have hB := HWc.out.own.two ((s.size : Nat)) (-1)
          have d0 := (hB.cell 0).trans rfl
          have d1 := (hB.cell 1).trans rfl
          exact bodyPost_ret (v := sdV ((s.size : Nat)) (-1)) (by simp only [results, Tryz.results47]; simp [go_sem, d0, d1]) rfl ⟨⟨_, rfl, by rw [HN.out]; exact ⟨s.size, Nat.le_refl _, rfl, rfl⟩⟩, below_two HWc.out.below _ _⟩
    · have HRM := Lib.hid (fun W => said_stop (HR.out m hm W) (fun r hr => hX ⟨r, hr⟩))
      have HN := Lib.hid (num_stop (fun r hr => hX ⟨r, hr⟩))
      clear hX
      go_wp2_with (go_at_call 62; (with_reducible refine (HRM.out _).mono ?_); rintro e w1 ⟨a, st, rfl, HST, HS, hb⟩; have hst := HST.out; have ho := HB0.out.1.below hb HB0.out.1.lt; have e0 := ho.cell 0; have e1 := ho.cell 1; have y0 := ho.frozen 0; have y1 := ho.frozen 1; have hl := ho.lt; simp only [List.getElem?_toArray, List.getElem?_cons_zero, List.getElem?_cons_succ] at e0 e1; have HO := Lib.hid ho; have HB1 := Lib.hid (HB0.out.2.trans (hb.mono (by simp))); clear hb ho)
      have hB := (HO.out.two a st).alloc (.cells #[.int .i64 a, .int .i64 st] 57)
      have d0 := (hB.cell 0).trans rfl
      have d1 := (hB.cell 1).trans rfl
      exact bodyPost_ret (v := sdV a st) (by simp only [results, Tryz.results47]; simp [go_sem, d0, d1]) rfl ⟨⟨_, rfl, by rw [HZ.out, HN.out]; exact HS.out⟩, (below_two HB1.out _ _).alloc (by simp [World.setCell]; omega) _⟩
end Go.Proofs.YtbojbkpplejdmaaGreat
