/-
  Plain facts on layer 26's texts: what a text is quoted as (pqL), and a path without points (dotL). No condition.
  What Has answers: whether a byte is among some. Condition: the text is as long as a length can be.
  What package class's functions of one byte answer, and those of the document's own answer. No condition.
-/
import Derived.Test.YtagbndkfbnlpoaaGreatDoorZ1
import Derived.Test.YtagbndkfbnlpoaaGreatDoorRows
import Derived.WalkKit
import Derived.WalkSpells
import Derived.WalkLawsBesides
import Derived.LoopTactic
import Derived.Lib.Hide
import Derived.Laws.Externs
namespace Go.Proofs.YtagbndkfbnlpoaaGreatDoor

/-- A great digit to the base 16. -/
def digG (n : Nat) : UInt8 := if n < 10 then UInt8.ofNat (48 + n) else UInt8.ofNat (55 + n)
/-- Which bytes stand in a place as they are. -/
def ownB (b : UInt8) : Bool := decide (33 ≤ b.toNat) && decide (b.toNat ≤ 126) && !hasB ⟨#[34, 60, 62, 96]⟩ b
def hexY (b : UInt8) : Bool := decide (0 ≤ hexB b)
def escL (b : UInt8) : List UInt8 := if ownB b then [b] else [37, digG (b.toNat / 16), digG (b.toNat % 16)]
/-- A text quoted. -/
def pqL : List UInt8 → List UInt8
  | [] => []
  | [b] => escL b
  | [b, x] => escL b ++ escL x
  | b :: x :: y :: l => if b == 37 && hexY x && hexY y then 37 :: digG (hexB x).toNat :: digG (hexB y).toNat :: pqL l else escL b ++ pqL (x :: y :: l)
def pctL : UInt8 → List UInt8 → Bool
  | b, x :: y :: _ => b == 37 && hexY x && hexY y
  | _, _ => false
theorem pqL_pct {x y : UInt8} (l : List UInt8) (hx : hexY x = true) (hy : hexY y = true) : pqL (37 :: x :: y :: l) = 37 :: digG (hexB x).toNat :: digG (hexB y).toNat :: pqL l := by
  rw [pqL, if_pos (by rw [hx, hy]; rfl)]
theorem pqL_esc {b : UInt8} {l : List UInt8} (h : pctL b l = false) : pqL (b :: l) = escL b ++ pqL l := by
  match l with
  | [] => simp [pqL]
  | [x] => simp [pqL]
  | x :: y :: l =>
    have h2 : (b == 37 && hexY x && hexY y) = false := h
    rw [pqL, if_neg (by rw [h2]; decide)]
theorem digG_own {n : Nat} (h : n < 16) : ownB (digG n) = true := by
  have := (List.all_eq_true.1 (show (List.range 16).all (fun n => ownB (digG n)) = true from by kernel_rfl)) n (List.mem_range.2 h)
  exact this
theorem escL_own (b : UInt8) : ∀ c ∈ escL b, ownB c = true := fun c hc => by
  unfold escL at hc
  split at hc
  · rename_i h
    rw [List.mem_singleton.1 hc]; exact h
  · have h1 := b.toNat_lt
    rcases List.mem_cons.1 hc with rfl | hc
    · decide
    rcases List.mem_cons.1 hc with rfl | hc
    · exact digG_own (by omega)
    rw [List.mem_singleton.1 hc]
    exact digG_own (by omega)
theorem pqL_own : ∀ (n : Nat) (l : List UInt8), l.length ≤ n → ∀ c ∈ pqL l, ownB c = true
  | _, [], _, c, hc => by cases hc
  | _, [b], _, c, hc => escL_own b c hc
  | _, [b, x], _, c, hc => by
    rcases List.mem_append.1 hc with h | h
    · exact escL_own b c h
    · exact escL_own x c h
  | 0, b :: x :: y :: l, hn, c, hc => by simp at hn
  | n + 1, b :: x :: y :: l, hn, c, hc => by
    simp at hn
    rw [pqL] at hc
    split at hc
    · rename_i h
      simp only [Bool.and_eq_true] at h
      have r1 := hexB_range x
      have r2 := hexB_range y
      rcases List.mem_cons.1 hc with rfl | hc
      · decide
      rcases List.mem_cons.1 hc with rfl | hc
      · exact digG_own (by omega)
      rcases List.mem_cons.1 hc with rfl | hc
      · exact digG_own (by omega)
      exact pqL_own n l (by omega) c hc
    · rcases List.mem_append.1 hc with h | h
      · exact escL_own b c h
      · exact pqL_own n (x :: y :: l) (by simp; omega) c h
def pqS (s : ByteArray) : ByteArray := ⟨(pqL s.data.toList).toArray⟩
theorem pqS_list (s : ByteArray) : (pqS s).data.toList = pqL s.data.toList := by unfold pqS; simp
/-- What is quoted of itself has no byte that may not stand. -/
theorem pqS_self {s : ByteArray} (h : pqS s = s) : ∀ c ∈ s.data.toList, ownB c = true := fun c hc => by
  rw [← h, pqS_list] at hc
  exact pqL_own _ _ (Nat.le_refl _) c hc

/-- How many points a piece is; 0: it is another one. -/
def ptsL : List UInt8 → Nat → Nat
  | [], n => n
  | 37 :: x :: y :: l, n => if x == 50 && (y == 101 || y == 69) then ptsL l (n + 1) else 0
  | b :: l, n => if b == 46 then ptsL l (n + 1) else 0
/-- The pieces between slashes. -/
def slsL : List UInt8 → List (List UInt8)
  | [] => [[]]
  | b :: l => if b == 47 then [] :: slsL l else
    match slsL l with
    | p :: ps => (b :: p) :: ps
    | [] => [[b]]
theorem slsL_ne (l : List UInt8) : slsL l ≠ [] := by
  cases l with
  | nil => simp [slsL]
  | cons b l =>
    unfold slsL
    split
    · simp
    · split <;> simp
/-- The pieces that stay, behind those that stay already. -/
def dotF : List (List UInt8) → List (List UInt8) → List (List UInt8)
  | a, [] => a
  | a, p :: ps =>
    if ptsL p 0 = 1 ∨ ptsL p 0 = 2 then dotF ((if ptsL p 0 = 2 then a.dropLast else a) ++ (if ps = [] then [[]] else [])) ps
    else dotF (a ++ [p]) ps
theorem dotF_ne : ∀ (ps a : List (List UInt8)), ps ≠ [] → dotF a ps ≠ []
  | [], _, h => absurd rfl h
  | [p], a, _ => by
    unfold dotF
    split <;> simp [dotF]
  | p :: q :: ps, a, _ => by
    unfold dotF
    split
    · exact dotF_ne (q :: ps) _ (by simp)
    · exact dotF_ne (q :: ps) _ (by simp)
def joiL (l : List (List UInt8)) : List UInt8 := l.flatMap fun p => 47 :: p
/-- A path without pieces that are points; nothing of what does not begin with a slash. -/
def dotL : List UInt8 → List UInt8
  | [] => []
  | b :: l => if b == 47 then joiL (dotF [] (slsL l)) else []
def dotS (s : ByteArray) : ByteArray := ⟨(dotL s.data.toList).toArray⟩
theorem dotS_list (s : ByteArray) : (dotS s).data.toList = dotL s.data.toList := by unfold dotS; simp
theorem joiL_head {l : List (List UInt8)} (h : l ≠ []) : ∃ q, joiL l = 47 :: q := by
  cases l with
  | nil => exact absurd rfl h
  | cons p ps => exact ⟨p ++ joiL ps, by simp [joiL]⟩
/-- A path that is its own begins with a slash, unless it is empty. -/
theorem dotS_head {s : ByteArray} (h : dotS s = s) (h0 : s.data.toList ≠ []) : ∃ q, s.data.toList = 47 :: q := by
  have h1 : dotL s.data.toList = s.data.toList := by rw [← dotS_list, h]
  cases hs : s.data.toList with
  | nil => exact absurd hs h0
  | cons b l =>
    rw [hs] at h1
    by_cases hb : b = 47
    · exact ⟨l, by rw [hb]⟩
    · rw [dotL, if_neg (by rw [beq_iff_eq]; exact hb)] at h1
      cases h1
/-- A piece more behind a run without slashes. -/
theorem slsL_run : ∀ (p l : List UInt8), (∀ b ∈ p, (b == 47) = false) → slsL (p ++ 47 :: l) = p :: slsL l
  | [], l, _ => by simp [slsL]
  | b :: p, l, h => by
    have h1 := slsL_run p l fun c hc => h c (List.mem_cons_of_mem _ hc)
    rw [List.cons_append, slsL, if_neg (by rw [h b (List.mem_cons_self ..)]; decide), h1]
theorem slsL_last : ∀ (p : List UInt8), (∀ b ∈ p, (b == 47) = false) → slsL p = [p]
  | [], _ => rfl
  | b :: p, h => by
    have h1 := slsL_last p fun c hc => h c (List.mem_cons_of_mem _ hc)
    rw [slsL, if_neg (by rw [h b (List.mem_cons_self ..)]; decide), h1]

end Go.Proofs.YtagbndkfbnlpoaaGreatDoor
namespace Go.Proofs.YtagbndkfbnlpoaaGreatDoor
open Go.RowKit

set_option maxHeartbeats 1000000 in
theorem has_any (t : ByteArray) (b : UInt8) (w : World) (hs : t.size ≤ 9223372036854775807) :
    Calls Tryz.prog 50 #[.string t, .int .u8 (b.toNat : Int)] w fun e w' => e = .returned (.bool (hasB t b)) ∧ w = w' := by
  go_enter Tryz.func50, Tryz.ntmps50
  go_wp2
  go_loop [5] (fun i => ∃ k : Nat, k ≤ t.size ∧ i = .int .i64 k ∧ ∀ j (hj : j < t.size), j < k → t[j] ≠ b) (fun i => t.size - (intOf i).toNat)
  case atStart => exact ⟨0, by omega, rfl, fun j _ h => absurd h (by omega)⟩
  case round =>
    obtain ⟨k, hk, rfl, hno⟩ := hrel
    have HN := Lib.hid hno
    clear hno
    by_cases hlt : k < t.size
    · by_cases he : t[k] = b
      · have HA : Hid (hasB t b = true) := hasB_at hlt he
        have d1 : ((t[k].toNat : Int) == (b.toNat : Int)) = true := by rw [he]; simp
        clear he
        go_wp2
        go_ret
        exact ⟨by rw [HA.out]; rfl, rfl⟩
      · have d1 : ((t[k].toNat : Int) == (b.toNat : Int)) = false := by
          simp only [beq_eq_false_iff_ne, ne_eq]
          intro h
          exact he (UInt8.toNat_inj.1 (by omega))
        have HE := Lib.hid he
        clear he
        go_wp2
        go_round
        case rel => exact ⟨k + 1, by omega, by go_num, fun j hj h => if h1 : j = k then by subst h1; exact HE.out else HN.out j hj (by omega)⟩
        case measure => simp [intOf]; omega
    · obtain rfl : k = t.size := by omega
      have HA : Hid (hasB t b = false) := hasB_no fun i hi => HN.out i hi hi
      go_wp2
      go_ret
      exact ⟨by rw [HA.out]; rfl, rfl⟩

end Go.Proofs.YtagbndkfbnlpoaaGreatDoor
namespace Go.Proofs.YtagbndkfbnlpoaaGreatDoor
open Go.RowKit

theorem dI (a : Nat) (b : UInt8) : decide (a ≤ b.toNat) = decide ((a : Int) ≤ (b.toNat : Int)) := by simp
theorem dJ (a : Nat) (b : UInt8) : decide (b.toNat ≤ a) = decide ((b.toNat : Int) ≤ (a : Int)) := by simp
set_option maxHeartbeats 400000 in
theorem lower1_any (b : UInt8) (w : World) :
    Calls Tryz.prog 67 #[.int .u8 (b.toNat : Int)] w fun e w' => e = .returned (.int .u8 ((lowB b).toNat : Int)) ∧ w = w' := by
  have hb := b.toNat_lt
  by_cases h : 65 ≤ b.toNat ∧ b.toNat ≤ 90
  · have e : (lowB b).toNat = b.toNat + 32 := by
      unfold lowB
      rw [if_pos (by simpa using h), UInt8.toNat_ofNat']
      omega
    rw [e]
    have h1 : (65 : Int) ≤ (b.toNat : Int) := by omega
    have h2 : (b.toNat : Int) ≤ 90 := by omega
    clear e
    go_enter Tryz.func67, Tryz.ntmps67
    go_wp2
    go_ret
    refine ⟨?_, rfl⟩
    go_num
  · have e : lowB b = b := by
      unfold lowB
      rw [if_neg (by simpa using h)]
    rw [e]
    clear e
    by_cases h1 : (65 : Int) ≤ (b.toNat : Int)
    · have h2 : decide ((b.toNat : Int) ≤ 90) = false := by simp; omega
      go_enter Tryz.func67, Tryz.ntmps67
      go_wp2
      go_ret
      exact ⟨rfl, rfl⟩
    · have h2 : decide ((65 : Int) ≤ (b.toNat : Int)) = false := by simp; omega
      go_enter Tryz.func67, Tryz.ntmps67
      go_wp2
      go_ret
      exact ⟨rfl, rfl⟩

set_option maxHeartbeats 400000 in
theorem digit_any (b : UInt8) (w : World) :
    Calls Tryz.prog 59 #[.int .u8 (b.toNat : Int)] w fun e w' => e = .returned (.bool (digB b)) ∧ w = w' := by
  have e : digB b = (decide ((48 : Int) ≤ (b.toNat : Int)) && decide ((b.toNat : Int) ≤ 57)) := by unfold digB; rw [dI, dJ]; rfl
  rw [e]
  clear e
  cases h1 : decide ((48 : Int) ≤ (b.toNat : Int)) <;>
  · go_enter Tryz.func59, Tryz.ntmps59
    go_wp2
    go_ret
    exact ⟨rfl, rfl⟩

set_option maxHeartbeats 400000 in
theorem refDigit_any (b : UInt8) (w : World) :
    Calls Tryz.prog 53 #[.int .u8 (b.toNat : Int)] w fun e w' => e = .returned (.bool (digB b)) ∧ w = w' := by
  have e : digB b = (decide ((48 : Int) ≤ (b.toNat : Int)) && decide ((b.toNat : Int) ≤ 57)) := by unfold digB; rw [dI, dJ]; rfl
  rw [e]
  clear e
  cases h0 : decide ((48 : Int) ≤ (b.toNat : Int)) <;>
  · go_enter Tryz.func53, Tryz.ntmps53
    go_wp2
    go_ret
    exact ⟨rfl, rfl⟩

theorem indexByte2_any (s : ByteArray) (b : UInt8) (w : World) : (callFunc 117 #[.string s, .int .u8 (b.toNat : Int)]).run Tryz.prog w = .ok (.value (.int .i64 (firstIdx s b))) w := by
  rw [run_callFunc_extern (fn := Tryz.f117) (e := Extern.BytealgIndexByte.indexByte) Tryz.func117 rfl rfl rfl rfl]
  rw [run_indexByte_string]
  simp [Result.andThen]

set_option maxHeartbeats 400000 in
theorem indexByte1_any (s : ByteArray) (b : UInt8) (w : World) :
    Calls Tryz.prog 102 #[.string s, .int .u8 (b.toNat : Int)] w fun e w' => e = .returned (.int .i64 (firstIdx s b)) ∧ w = w' := by
  have hx := indexByte2_any s b
  go_enter Tryz.func102, Tryz.ntmps102
  go_wp2
  go_ret
  exact ⟨rfl, rfl⟩

set_option maxHeartbeats 400000 in
theorem indexByte_any (s : ByteArray) (b : UInt8) (w : World) :
    Calls Tryz.prog 92 #[.string s, .int .u8 (b.toNat : Int)] w fun e w' => e = .returned (.int .i64 (firstIdx s b)) ∧ w = w' := by
  go_enter Tryz.func92, Tryz.ntmps92
  go_wp2_with (go_at_call 102; refine (indexByte1_any s b _).mono ?_; rintro e w' ⟨rfl, rfl⟩)
  go_ret
  exact ⟨rfl, rfl⟩

set_option maxHeartbeats 400000 in
theorem hex_digit (b : UInt8) (w : World) (h : digB b = true) :
    Calls Tryz.prog 90 #[.int .u8 (b.toNat : Int)] w fun e w' => e = .returned (.tuple #[.int .i64 (hexB b), .bool true]) ∧ w = w' := by
  have hb : 48 ≤ b.toNat ∧ b.toNat ≤ 57 := by unfold digB at h; simpa using h
  have e : hexB b = (b.toNat : Int) - 48 := by unfold hexB; rw [if_pos h]
  have h1 : (0 : Int) ≤ (b.toNat : Int) - 48 := by omega
  have h2 : (b.toNat : Int) - 48 ≤ 255 := by omega
  rw [e]
  clear e hb
  go_enter Tryz.func90, Tryz.ntmps90
  go_wp2_with (first
    | (go_at_call 67; refine (lower1_any b _).mono ?_; rintro e w' ⟨rfl, rfl⟩)
    | (go_at_call 59; refine (digit_any b _).mono ?_; rintro e w' ⟨rfl, rfl⟩; simp only [*]))
  go_ret2
  exact ⟨rfl, rfl⟩

set_option maxHeartbeats 400000 in
theorem hex_letter (b : UInt8) (w : World) (h : digB b = false) (h1 : 97 ≤ (lowB b).toNat) (h2 : (lowB b).toNat ≤ 102) :
    Calls Tryz.prog 90 #[.int .u8 (b.toNat : Int)] w fun e w' => e = .returned (.tuple #[.int .i64 (hexB b), .bool true]) ∧ w = w' := by
  have e : hexB b = ((lowB b).toNat : Int) - 97 + 10 := by unfold hexB; rw [if_neg (by simp [h]), if_pos (by simp [h1, h2])]; omega
  have g1 : (97 : Int) ≤ ((lowB b).toNat : Int) := by omega
  have g2 : ((lowB b).toNat : Int) ≤ 102 := by omega
  have g3 : (0 : Int) ≤ ((lowB b).toNat : Int) - 97 := by omega
  have g4 : ((lowB b).toNat : Int) - 97 ≤ 255 := by omega
  rw [e]
  clear e h1 h2
  go_enter Tryz.func90, Tryz.ntmps90
  go_wp2_with (first
    | (go_at_call 67; refine (lower1_any b _).mono ?_; rintro e w' ⟨rfl, rfl⟩)
    | (go_at_call 59; refine (digit_any b _).mono ?_; rintro e w' ⟨rfl, rfl⟩; simp only [*]))
  go_ret2
  exact ⟨rfl, rfl⟩

set_option maxHeartbeats 400000 in
theorem hex_none (b : UInt8) (w : World) (h : digB b = false) (h1 : ¬ (97 ≤ (lowB b).toNat ∧ (lowB b).toNat ≤ 102)) :
    Calls Tryz.prog 90 #[.int .u8 (b.toNat : Int)] w fun e w' => e = .returned (.tuple #[.int .i64 0, .bool false]) ∧ w = w' := by
  have g : decide ((97 : Int) ≤ ((lowB b).toNat : Int)) = false ∨ decide ((97 : Int) ≤ ((lowB b).toNat : Int)) = true ∧ decide (((lowB b).toNat : Int) ≤ 102) = false := by
    simp
    omega
  clear h1
  rcases g with g1 | ⟨g1, g2⟩ <;>
  · go_enter Tryz.func90, Tryz.ntmps90
    go_wp2_with (first
      | (go_at_call 67; refine (lower1_any b _).mono ?_; rintro e w' ⟨rfl, rfl⟩)
      | (go_at_call 59; refine (digit_any b _).mono ?_; rintro e w' ⟨rfl, rfl⟩; simp only [*]))
    go_ret2
    exact ⟨rfl, rfl⟩

/-- What Hex answers: of none, 0 and false. -/
def hexV (b : UInt8) : Value := if 0 ≤ hexB b then .tuple #[.int .i64 (hexB b), .bool true] else .tuple #[.int .i64 0, .bool false]
theorem hex_any (b : UInt8) (w : World) :
    Calls Tryz.prog 90 #[.int .u8 (b.toNat : Int)] w fun e w' => e = .returned (hexV b) ∧ w = w' := by
  by_cases h : digB b = true
  · have e : hexV b = .tuple #[.int .i64 (hexB b), .bool true] := by
      have hb : 48 ≤ b.toNat ∧ b.toNat ≤ 57 := by unfold digB at h; simpa using h
      unfold hexV
      rw [if_pos (by unfold hexB; rw [if_pos h]; omega)]
    rw [e]
    exact hex_digit b w h
  have h : digB b = false := by simpa using h
  by_cases h1 : 97 ≤ (lowB b).toNat ∧ (lowB b).toNat ≤ 102
  · have e : hexV b = .tuple #[.int .i64 (hexB b), .bool true] := by
      unfold hexV
      rw [if_pos (by unfold hexB; rw [if_neg (by simp [h]), if_pos (by simp [h1])]; omega)]
    rw [e]
    exact hex_letter b w h h1.1 h1.2
  · have e : hexV b = .tuple #[.int .i64 0, .bool false] := by
      unfold hexV
      rw [if_neg (by unfold hexB; rw [if_neg (by simp [h]), if_neg (by simpa using h1)]; omega)]
    rw [e]
    exact hex_none b w h h1

set_option maxHeartbeats 1000000 in
theorem refHex_any (b : UInt8) (w : World) :
    Calls Tryz.prog 52 #[.int .u8 (b.toNat : Int)] w fun e w' => e = .returned (.int .i64 (hexB b)) ∧ w = w' := by
  go_enter Tryz.func52, Tryz.ntmps52
  go_wp2
  go_loop [5] (fun i => ∃ k : Nat, k ≤ 16 ∧ i = .int .i64 k ∧ ∀ j (hj : j < 16), j < k → (hexS[j]'(by rw [hexS_size]; exact hj)).toNat ≠ b.toNat ∧ (hexT[j]'(by rw [hexT_size]; exact hj)).toNat ≠ b.toNat) (fun i => 16 - (intOf i).toNat)
  case atStart => exact ⟨0, by omega, rfl, fun j _ h => absurd h (by omega)⟩
  case round =>
    obtain ⟨k, hk, rfl, hno⟩ := hrel
    have HN := Lib.hid hno
    clear hno
    obtain ⟨S, hS⟩ : ∃ S, S = hexS := ⟨_, rfl⟩
    obtain ⟨T, hT⟩ : ∃ T, T = hexT := ⟨_, rfl⟩
    have eS : (⟨#[48, 49, 50, 51, 52, 53, 54, 55, 56, 57, 97, 98, 99, 100, 101, 102]⟩ : ByteArray) = S := hS.symm
    have eT : (⟨#[48, 49, 50, 51, 52, 53, 54, 55, 56, 57, 65, 66, 67, 68, 69, 70]⟩ : ByteArray) = T := hT.symm
    rw [eS, eT]
    clear eS eT
    by_cases hlt : k < 16
    · have hlS : k < S.size := by rw [hS]; exact hlt
      have hlT : k < T.size := by rw [hT]; exact hlt
      have HS : Hid (S[k].toNat = (hexS[k]'(by rw [hexS_size]; exact hlt)).toNat) := by subst hS; rfl
      have HT : Hid (T[k].toNat = (hexT[k]'(by rw [hexT_size]; exact hlt)).toNat) := by subst hT; rfl
      clear hS hT
      cases d1 : ((S[k].toNat : Int) == (b.toNat : Int))
      · cases d2 : ((T[k].toNat : Int) == (b.toNat : Int))
        · have HE : Hid (S[k].toNat ≠ b.toNat ∧ T[k].toNat ≠ b.toNat) := ⟨fun e => by rw [e] at d1; simp at d1, fun e => by rw [e] at d2; simp at d2⟩
          go_wp2
          go_round
          case rel =>
            refine ⟨k + 1, by omega, by go_num, fun j hj h => ?_⟩
            by_cases h1 : j = k
            · subst h1
              exact ⟨by rw [← HS.out]; exact HE.out.1, by rw [← HT.out]; exact HE.out.2⟩
            · exact HN.out j hj (by omega)
          case measure => simp [intOf]; omega
        · have HA : Hid (hexB b = k) := hexB_at hlt (Or.inr (by rw [← HT.out]; have := beq_iff_eq.1 d2; omega))
          go_wp2
          go_ret
          exact ⟨by rw [HA.out]; rfl, rfl⟩
      · have HA : Hid (hexB b = k) := hexB_at hlt (Or.inl (by rw [← HS.out]; have := beq_iff_eq.1 d1; omega))
        go_wp2
        go_ret
        exact ⟨by rw [HA.out]; rfl, rfl⟩
    · obtain rfl : k = 16 := by omega
      have HA : Hid (hexB b = -1) := hexB_no fun j hj => HN.out j hj hj
      clear hS hT
      go_wp2
      go_ret
      exact ⟨by rw [HA.out]; rfl, rfl⟩

end Go.Proofs.YtagbndkfbnlpoaaGreatDoor
