/-
  What the document's own sign of layer 28 reads (SaO). Conditions: the text is no longer than a length can be; no more is open than may be; the counts are no greater than a length can be.
  What the document's own sign of layer 28 reads at a closing sign, and what sign reads (SaO). Conditions: the text is no longer than a length can be; no more is open than may be; the counts are no greater than a length can be.
  What the document's own next of layer 28 reads (SaO, nextO). Conditions: the text is no longer than a length can be; no more is open than may be; the counts are no greater than a length can be.
-/
import Derived.Test.YtbojbkpplejdmaaGreatZ16
import Derived.Test.YtbojbkpplejdmaaGreatZ3
import Derived.Test.YtbojbkpplejdmaaGreatZ15
namespace Go.Proofs.YtbojbkpplejdmaaGreat
open Go.RowKit

theorem opn_has (b : UInt8) : hasB ⟨#[40, 91, 123]⟩ b = opnH b := by
  have := bytes_all (p := fun b => hasB ⟨#[40, 91, 123]⟩ b == opnH b) (by kernel_rfl) b
  exact eq_of_beq this
theorem clo_has (b : UInt8) : hasB ⟨#[41, 93, 125]⟩ b = cloB b := by
  have := bytes_all (p := fun b => hasB ⟨#[41, 93, 125]⟩ b == cloB b) (by kernel_rfl) b
  exact eq_of_beq this
theorem ext_one {s : ByteArray} {k : Nat} (h : k < s.size) : s.extract k (k + 1) = ⟨#[s[k]]⟩ := by
  apply ByteArray.ext
  apply Array.toList_inj.1
  rw [ll_extract, Nat.add_sub_cancel_left, ll_cons h]
  rfl
theorem clo_ways {b : UInt8} (h : cloB b = true) : b = 41 ∨ b = 93 ∨ b = 125 := by
  unfold cloB at h
  rw [List.contains_iff_mem] at h
  simpa using h
theorem clo_opn {b : UInt8} (h : cloB b = true) : opnH b = false := by
  rcases clo_ways h with rfl | rfl | rfl <;> rfl
/-- What a sign does, by its ways. -/
theorem signO_open {D : Nat} {h : Hs} {b : UInt8} {l : List UInt8} (ho : opnH b = true) : signO D h b l = if h.op.length == D then .bad (pcH h) (b :: l) else .on (endH { pcH h with op := b :: h.op } 0) l := by
  unfold signO sigH
  rw [ho, if_pos rfl]
  show (match (if (h.op.length == D) = true then Sh.no (pcH h) else .go .z (endH { pcH h with op := b :: h.op } 0)) with
    | .go (.g _ _) h' => graveO D h' l
    | .go _ h' => .on h' l
    | .no h' => .bad h' (b :: l)) = _
  cases (h.op.length == D) <;> rfl
theorem signO_mid {D : Nat} {h : Hs} {b : UInt8} {l : List UInt8} (ho : opnH b = false) (hc : cloB b = false) : signO D h b l = .on (endH { pcH h with en := h.en + (if b == 59 && h.op.isEmpty then 1 else 0) } 0) l := by
  unfold signO sigH
  rw [ho, hc]
  rfl
theorem signO_none {D : Nat} {h : Hs} {b : UInt8} {l : List UInt8} (hc : cloB b = true) (h0 : h.op = []) : signO D h b l = .bad (pcH h) (b :: l) := by
  unfold signO sigH
  rw [clo_opn hc, hc]
  have e : (pcH h).op = [] := h0
  rw [if_neg (by decide), if_neg (by decide), e]
theorem signO_clo {D : Nat} {h : Hs} {b o : UInt8} {r l : List UInt8} (hc : cloB b = true) (h0 : h.op = o :: r) : signO D h b l = if b == 125 && o == 36 then graveO D { pcH h with op := r } l
      else if (b == 41 && o == 40) || (b == 93 && o == 91) || (b == 125 && o == 123) then
        (if b == 125 then .on (endH { pcH h with op := r, en := h.en + (if r.isEmpty then 1 else 0) } 2) l else .on (endH { pcH h with op := r } 1) l)
      else .bad (pcH h) (b :: l) := by
  unfold signO sigH
  rw [clo_opn hc, hc]
  have e : (pcH h).op = o :: r := h0
  rw [if_neg (by decide), if_neg (by decide), e]
  show (match (if (b == 125 && o == 36) = true then Sh.go (.g false false) { pcH h with op := r }
      else if ((b == 41 && o == 40) || (b == 93 && o == 91) || (b == 125 && o == 123)) = true then
        (if (b == 125) = true then .go .z (endH { pcH h with op := r, en := h.en + (if r.isEmpty = true then 1 else 0) } 2) else .go .z (endH { pcH h with op := r } 1))
      else .no (pcH h)) with
    | .go (.g _ _) h' => graveO D h' l
    | .go _ h' => .on h' l
    | .no h' => .bad h' (b :: l)) = _
  cases (b == 125 && o == 36) with
  | true => rfl
  | false =>
    cases ((b == 41 && o == 40) || (b == 93 && o == 91) || (b == 125 && o == 123)) with
    | false => rfl
    | true => cases (b == 125) <;> rfl

set_option maxHeartbeats 8000000 in
set_option maxRecDepth 10000 in
theorem ssign_open {w : World} {s : ByteArray} {xb D : Nat} {h : Hs} (m : Sa w xb D (-1) false h) (hd : h.op.length ≤ D) (hD : D ≤ 200) (k : Nat) (hk : k < s.size) (hs : s.size ≤ 4611686018427387904) (hp : h.pc + 1 ≤ 4611686018427387904) (ho : opnH s[k] = true) :
    Calls Tryz.prog 43 #[mptr xb, .string s, .int .i64 (k : Nat)] w fun e w' => ∃ v : Int, e = .returned (.int .i64 v) ∧ Mv w.heap.size [xb] w w' ∧ SaO s w' xb D (signO D h s[k] (LL s (k + 1))) v := by
  have c2 := m.c2
  have c3 := m.c3
  have c7 := m.c7
  have z2 := m.fr 2
  have z3 := m.fr 3
  have HO : Hid (∀ W, Calls Tryz.prog 42 #[.string ⟨#[40, 91, 123]⟩, .int .u8 (s[k].toNat : Int)] W fun e w' => e = .returned (.bool true) ∧ W = w') := Lib.hid fun W => by
    have := has_any ⟨#[40, 91, 123]⟩ s[k] W (by decide)
    rw [opn_has, ho] at this
    exact this
  have M1 := Lib.hid (show Sa (w.setCell ⟨xb, 3, none⟩ (.int .i64 ((h.pc : Int) + 1))) xb D (-1) false (pcH h) from m.s3 (n := h.pc + 1) (by simp))
  have HZ := Lib.hid (signO_open (D := D) (h := h) (l := LL s (k + 1)) ho)
  obtain ⟨q, hq⟩ : ∃ q, q = signO D h s[k] (LL s (k + 1)) := ⟨_, rfl⟩
  rw [← hq]
  rw [← hq] at HZ
  have hxs := opT_size h.op
  have HX1 := Lib.hid (ext_one hk)
  have HP := Lib.hid (opT_push s[k] h.op)
  have hk0 : k + 1 ≤ s.size := hk
  clear hq m ho
  cases hdd : (h.op.length == D) with
  | true =>
    have HY : Hid (q = .bad (pcH h) (s[k] :: LL s (k + 1))) := Lib.hid (by rw [HZ.out, hdd]; rfl)
    have t5 : (((opT h.op).size : Int) == (D : Int)) = true := by rw [beq_iff_eq] at hdd ⊢; omega
    have hxz : (opT h.op).size ≤ 4611686018427387904 := by omega
    have HA := Lib.hid (fun k => sfail_any M1.out k)
    clear hdd HZ hxs hd HP
    generalize opT h.op = x at *
    go_enter Tryz.func43, Tryz.ntmps43
    go_wp2_with (first
      | (go_at_call 42; (with_reducible refine (HO.out _).mono ?_); rintro e w1 ⟨rfl, rfl⟩)
      | (go_at_call 37; (with_reducible refine (HA.out _).mono ?_); rintro e w1 ⟨rfl, hm, hx⟩; have HM1 := Lib.hid hm; have HX := Lib.hid hx; clear hm hx))
    go_ret
    exact ⟨_, rfl, ((mv0 w xb).put1 _ _).then1 HM1.out, by rw [HY.out]; exact ⟨rfl, k, _, HX.out⟩⟩
  | false =>
    have HY : Hid (q = .on (endH { pcH h with op := s[k] :: h.op } 0) (LL s (k + 1))) := Lib.hid (by rw [HZ.out, hdd]; rfl)
    have t5 : (((opT h.op).size : Int) == (D : Int)) = false := by rw [beq_eq_false_iff_ne] at hdd ⊢; omega
    have hxz : (opT h.op).size ≤ 4611686018427387904 := by omega
    have HE : Hid (Calls Tryz.prog 56 #[mptr xb, .int .i64 0] ((w.setCell ⟨xb, 3, none⟩ (.int .i64 ((h.pc : Int) + 1))).setCell ⟨xb, 2, none⟩ (.string (opT h.op ++ s.extract k (k + 1)))).drew fun e w' => e = .returned (.tuple #[]) ∧ Mv w.heap.size [xb] w w' ∧ Sa w' xb D (-1) false (endH { pcH h with op := s[k] :: h.op } 0)) := Lib.hid (by
      refine (sended_any (Blk.drew (M1.out.s2 (o := s[k] :: h.op) (x := opT h.op ++ s.extract k (k + 1)) (by rw [HX1.out]; exact HP.out))) 0 (x := 0) rfl).mono ?_
      rintro e w' ⟨rfl, h1, h2⟩
      exact ⟨rfl, ((((mv0 w xb).put1 _ _).put1 _ _).drew).then1 h1, h2⟩)
    obtain ⟨n, hn⟩ : ∃ n, n = k + 1 := ⟨_, rfl⟩
    have g : ((k : Nat) : Int) + 1 = (n : Int) := by omega
    rw [← hn] at HE hk0 HY
    have hkn : k ≤ n := by omega
    clear hdd HZ hxs hd HP hn HX1
    generalize opT h.op = x at *
    go_enter Tryz.func43, Tryz.ntmps43
    go_wp2_with (go_at_call 42; (with_reducible refine (HO.out _).mono ?_); rintro e w1 ⟨rfl, rfl⟩)
    go_region
    go_wp2_with (go_at_call 56; (with_reducible refine HE.out.mono ?_); rintro e w1 ⟨rfl, hm, hx⟩; have HM1 := Lib.hid hm; have HX := Lib.hid hx; clear hm hx)
    go_ret
    exact ⟨_, rfl, HM1.out, by rw [HY.out]; exact ⟨n, hk0, rfl, rfl, HX.out⟩⟩

set_option maxHeartbeats 8000000 in
set_option maxRecDepth 10000 in
theorem ssign_mid {w : World} {s : ByteArray} {xb D : Nat} {h : Hs} (m : Sa w xb D (-1) false h) (hd : h.op.length ≤ D) (hD : D ≤ 200) (k : Nat) (hk : k < s.size) (hs : s.size ≤ 4611686018427387904) (hp : h.pc + 1 ≤ 4611686018427387904) (he : h.en + 1 ≤ 4611686018427387904) (ho : opnH s[k] = false) (hc : cloB s[k] = false) :
    Calls Tryz.prog 43 #[mptr xb, .string s, .int .i64 (k : Nat)] w fun e w' => ∃ v : Int, e = .returned (.int .i64 v) ∧ Mv w.heap.size [xb] w w' ∧ SaO s w' xb D (signO D h s[k] (LL s (k + 1))) v := by
  have c2 := m.c2
  have c3 := m.c3
  have c4 := m.c4
  have z3 := m.fr 3
  have z4 := m.fr 4
  have HO : Hid (∀ W, Calls Tryz.prog 42 #[.string ⟨#[40, 91, 123]⟩, .int .u8 (s[k].toNat : Int)] W fun e w' => e = .returned (.bool false) ∧ W = w') := Lib.hid fun W => by
    have := has_any ⟨#[40, 91, 123]⟩ s[k] W (by decide)
    rw [opn_has, ho] at this
    exact this
  have HC : Hid (∀ W, Calls Tryz.prog 42 #[.string ⟨#[41, 93, 125]⟩, .int .u8 (s[k].toNat : Int)] W fun e w' => e = .returned (.bool false) ∧ W = w') := Lib.hid fun W => by
    have := has_any ⟨#[41, 93, 125]⟩ s[k] W (by decide)
    rw [clo_has, hc] at this
    exact this
  have M1 := Lib.hid (show Sa (w.setCell ⟨xb, 3, none⟩ (.int .i64 ((h.pc : Int) + 1))) xb D (-1) false (pcH h) from m.s3 (n := h.pc + 1) (by simp))
  have HZ := Lib.hid (signO_mid (D := D) (h := h) (l := LL s (k + 1)) ho hc)
  obtain ⟨q, hq⟩ : ∃ q, q = signO D h s[k] (LL s (k + 1)) := ⟨_, rfl⟩
  rw [← hq]
  rw [← hq] at HZ
  have hxs := opT_size h.op
  have hk0 : k + 1 ≤ s.size := hk
  have e59 : (s[k] == 59) = ((s[k].toNat : Int) == 59) := bE s[k] 59
  have hxz : (opT h.op).size ≤ 4611686018427387904 := by omega
  have ez : (((opT h.op).size : Int) == 0) = h.op.isEmpty := by
    cases hop : h.op with
    | nil => rfl
    | cons a t => rw [beq_eq_false_iff_ne.2 (by rw [opT_size, List.length_cons]; omega)]; rfl
  clear hq m ho hc
  cases hen : (s[k] == 59 && h.op.isEmpty) with
  | true =>
    have HY : Hid (q = .on (endH { pcH h with en := h.en + 1 } 0) (LL s (k + 1))) := Lib.hid (by rw [HZ.out, hen]; rfl)
    rw [Bool.and_eq_true] at hen
    rw [hen.1] at e59
    rw [hen.2] at ez
    have t1 := e59.symm
    have HE : Hid (Calls Tryz.prog 56 #[mptr xb, .int .i64 0] ((w.setCell ⟨xb, 3, none⟩ (.int .i64 ((h.pc : Int) + 1))).setCell ⟨xb, 4, none⟩ (.int .i64 ((h.en : Int) + 1))) fun e w' => e = .returned (.tuple #[]) ∧ Mv w.heap.size [xb] w w' ∧ Sa w' xb D (-1) false (endH { pcH h with en := h.en + 1 } 0)) := Lib.hid (by
      refine (sended_any (M1.out.s4 (n := h.en + 1) (by simp)) 0 (x := 0) rfl).mono ?_
      rintro e w' ⟨rfl, h1, h2⟩
      exact ⟨rfl, (((mv0 w xb).put1 _ _).put1 _ _).then1 h1, h2⟩)
    clear hen HZ hxs hd e59
    generalize opT h.op = x at *
    go_enter Tryz.func43, Tryz.ntmps43
    go_wp2_with (first
      | (go_at_call 42; (with_reducible refine (HO.out _).mono ?_); rintro e w1 ⟨rfl, rfl⟩)
      | (go_at_call 42; (with_reducible refine (HC.out _).mono ?_); rintro e w1 ⟨rfl, rfl⟩)
      | (go_at_call 56; (with_reducible refine HE.out.mono ?_); rintro e w1 ⟨rfl, hm, hx⟩; have HM1 := Lib.hid hm; have HX := Lib.hid hx; clear hm hx))
    go_ret
    exact ⟨_, rfl, HM1.out, by rw [HY.out]; exact ⟨k + 1, hk0, rfl, by go_num, HX.out⟩⟩
  | false =>
    have HY : Hid (q = .on (endH (pcH h) 0) (LL s (k + 1))) := Lib.hid (by rw [HZ.out, hen]; rfl)
    have hways : ((s[k].toNat : Int) == 59) = false ∨ (((s[k].toNat : Int) == 59) = true ∧ (((opT h.op).size : Int) == 0) = false) := by
      rw [← e59, ez]
      cases hb : (s[k] == 59) with
      | false => exact Or.inl rfl
      | true => rw [hb, Bool.true_and] at hen; exact Or.inr ⟨rfl, hen⟩
    have HE : Hid (Calls Tryz.prog 56 #[mptr xb, .int .i64 0] (w.setCell ⟨xb, 3, none⟩ (.int .i64 ((h.pc : Int) + 1))) fun e w' => e = .returned (.tuple #[]) ∧ Mv w.heap.size [xb] w w' ∧ Sa w' xb D (-1) false (endH (pcH h) 0)) := Lib.hid (by
      refine (sended_any M1.out 0 (x := 0) rfl).mono ?_
      rintro e w' ⟨rfl, h1, h2⟩
      exact ⟨rfl, ((mv0 w xb).put1 _ _).then1 h1, h2⟩)
    clear hen HZ hxs hd e59 ez
    generalize opT h.op = x at *
    rcases hways with t1 | ⟨t1, t2⟩
    all_goals
      go_enter Tryz.func43, Tryz.ntmps43
      go_wp2_with (first
        | (go_at_call 42; (with_reducible refine (HO.out _).mono ?_); rintro e w1 ⟨rfl, rfl⟩)
        | (go_at_call 42; (with_reducible refine (HC.out _).mono ?_); rintro e w1 ⟨rfl, rfl⟩)
        | (go_at_call 56; (with_reducible refine HE.out.mono ?_); rintro e w1 ⟨rfl, hm, hx⟩; have HM1 := Lib.hid hm; have HX := Lib.hid hx; clear hm hx))
      go_ret
      exact ⟨_, rfl, HM1.out, by rw [HY.out]; exact ⟨k + 1, hk0, rfl, by go_num, HX.out⟩⟩
end Go.Proofs.YtbojbkpplejdmaaGreat
namespace Go.Proofs.YtbojbkpplejdmaaGreat
open Go.RowKit

/-- What the walks at a closing sign need of the text of what is open. -/
theorem opT_facts {o : UInt8} {r : List UInt8} {x : ByteArray} (hx : x = opT (o :: r)) : x.size = r.length + 1 ∧ x.extract 0 r.length = opT r ∧ ∀ h : r.length < x.size, x[r.length] = o := by
  subst hx
  exact ⟨by rw [opT_size, List.length_cons], opT_less o r, fun h => opT_last o r h⟩

set_option maxHeartbeats 8000000 in
set_option maxRecDepth 10000 in
theorem ssign_none {w : World} {s : ByteArray} {xb D : Nat} {h : Hs} (m : Sa w xb D (-1) false h) (k : Nat) (hk : k < s.size) (_hs : s.size ≤ 4611686018427387904) (hp : h.pc + 1 ≤ 4611686018427387904) (hc : cloB s[k] = true) (h0 : h.op = []) :
    Calls Tryz.prog 43 #[mptr xb, .string s, .int .i64 (k : Nat)] w fun e w' => ∃ v : Int, e = .returned (.int .i64 v) ∧ Mv w.heap.size [xb] w w' ∧ SaO s w' xb D (signO D h s[k] (LL s (k + 1))) v := by
  have c2 := m.c2
  have c3 := m.c3
  have z3 := m.fr 3
  have HO : Hid (∀ W, Calls Tryz.prog 42 #[.string ⟨#[40, 91, 123]⟩, .int .u8 (s[k].toNat : Int)] W fun e w' => e = .returned (.bool false) ∧ W = w') := Lib.hid fun W => by
    have := has_any ⟨#[40, 91, 123]⟩ s[k] W (by decide)
    rw [opn_has, clo_opn hc] at this
    exact this
  have HC : Hid (∀ W, Calls Tryz.prog 42 #[.string ⟨#[41, 93, 125]⟩, .int .u8 (s[k].toNat : Int)] W fun e w' => e = .returned (.bool true) ∧ W = w') := Lib.hid fun W => by
    have := has_any ⟨#[41, 93, 125]⟩ s[k] W (by decide)
    rw [clo_has, hc] at this
    exact this
  have M1 := Lib.hid (show Sa (w.setCell ⟨xb, 3, none⟩ (.int .i64 ((h.pc : Int) + 1))) xb D (-1) false (pcH h) from m.s3 (n := h.pc + 1) (by simp))
  have HY := Lib.hid (signO_none (D := D) (h := h) (l := LL s (k + 1)) hc h0)
  have HA := Lib.hid (fun k => sfail_any M1.out k)
  rw [h0, opT_nil] at c2
  clear m hc h0
  go_enter Tryz.func43, Tryz.ntmps43
  go_wp2_with (first
    | (go_at_call 42; (with_reducible refine (HO.out _).mono ?_); rintro e w1 ⟨rfl, rfl⟩)
    | (go_at_call 42; (with_reducible refine (HC.out _).mono ?_); rintro e w1 ⟨rfl, rfl⟩)
    | (go_at_call 37; (with_reducible refine (HA.out _).mono ?_); rintro e w1 ⟨rfl, hm, hx⟩; have HM1 := Lib.hid hm; have HX := Lib.hid hx; clear hm hx))
  go_ret
  exact ⟨_, rfl, ((mv0 w xb).put1 _ _).then1 HM1.out, by rw [HY.out]; exact ⟨rfl, k, _, HX.out⟩⟩

set_option maxHeartbeats 16000000 in
set_option maxRecDepth 10000 in
theorem ssign_clo {w : World} {s : ByteArray} {xb D : Nat} {h : Hs} (m : Sa w xb D (-1) false h) (hd : h.op.length ≤ D) (hD : D ≤ 200) (k : Nat) (hk : k < s.size) (hs : s.size ≤ 4611686018427387904) (hp : h.pc + 1 ≤ 4611686018427387904) (he : h.en + 1 ≤ 4611686018427387904) (hc : cloB s[k] = true) {o : UInt8} {r : List UInt8} (h0 : h.op = o :: r) :
    Calls Tryz.prog 43 #[mptr xb, .string s, .int .i64 (k : Nat)] w fun e w' => ∃ v : Int, e = .returned (.int .i64 v) ∧ Mv w.heap.size [xb] w w' ∧ SaO s w' xb D (signO D h s[k] (LL s (k + 1))) v := by
  have c2 := m.c2
  have c3 := m.c3
  have c4 := m.c4
  have z2 := m.fr 2
  have z3 := m.fr 3
  have z4 := m.fr 4
  have HO : Hid (∀ W, Calls Tryz.prog 42 #[.string ⟨#[40, 91, 123]⟩, .int .u8 (s[k].toNat : Int)] W fun e w' => e = .returned (.bool false) ∧ W = w') := Lib.hid fun W => by
    have := has_any ⟨#[40, 91, 123]⟩ s[k] W (by decide)
    rw [opn_has, clo_opn hc] at this
    exact this
  have HC : Hid (∀ W, Calls Tryz.prog 42 #[.string ⟨#[41, 93, 125]⟩, .int .u8 (s[k].toNat : Int)] W fun e w' => e = .returned (.bool true) ∧ W = w') := Lib.hid fun W => by
    have := has_any ⟨#[41, 93, 125]⟩ s[k] W (by decide)
    rw [clo_has, hc] at this
    exact this
  have M1 := Lib.hid (show Sa (w.setCell ⟨xb, 3, none⟩ (.int .i64 ((h.pc : Int) + 1))) xb D (-1) false (pcH h) from m.s3 (n := h.pc + 1) (by simp))
  have HQ := Lib.hid (signO_clo (D := D) (h := h) (l := LL s (k + 1)) hc h0)
  obtain ⟨q, hq⟩ : ∃ q, q = signO D h s[k] (LL s (k + 1)) := ⟨_, rfl⟩
  rw [← hq]
  rw [← hq] at HQ
  have HA := Lib.hid (fun k => sfail_any M1.out k)
  rw [h0] at c2 hd
  rw [List.length_cons] at hd
  obtain ⟨x, hx⟩ : ∃ x, x = opT (o :: r) := ⟨_, rfl⟩
  rw [← hx] at c2
  obtain ⟨hxs, hxe, hxo0⟩ := opT_facts hx
  have hlt : r.length < x.size := by omega
  have hxo := hxo0 hlt
  have M2 := Lib.hid (show Sa ((w.setCell ⟨xb, 3, none⟩ (.int .i64 ((h.pc : Int) + 1))).setCell ⟨xb, 2, none⟩ (.string (x.extract 0 r.length))) xb D (-1) false { pcH h with op := r } from M1.out.s2 (o := r) hxe)
  have HE : Hid (Calls Tryz.prog 56 #[mptr xb, .int .i64 1] ((w.setCell ⟨xb, 3, none⟩ (.int .i64 ((h.pc : Int) + 1))).setCell ⟨xb, 2, none⟩ (.string (x.extract 0 r.length))) fun e w' => e = .returned (.tuple #[]) ∧ Mv w.heap.size [xb] w w' ∧ Sa w' xb D (-1) false (endH { pcH h with op := r } 1)) := Lib.hid (by
    refine (sended_any M2.out 1 (x := 1) rfl).mono ?_
    rintro e w' ⟨rfl, h1, h2⟩
    exact ⟨rfl, (((mv0 w xb).put1 _ _).put1 _ _).then1 h1, h2⟩)
  have HE2 : Hid (Calls Tryz.prog 56 #[mptr xb, .int .i64 2] ((w.setCell ⟨xb, 3, none⟩ (.int .i64 ((h.pc : Int) + 1))).setCell ⟨xb, 2, none⟩ (.string (x.extract 0 r.length))) fun e w' => e = .returned (.tuple #[]) ∧ Mv w.heap.size [xb] w w' ∧ Sa w' xb D (-1) false (endH { pcH h with op := r } 2)) := Lib.hid (by
    refine (sended_any M2.out 2 (x := 2) rfl).mono ?_
    rintro e w' ⟨rfl, h1, h2⟩
    exact ⟨rfl, (((mv0 w xb).put1 _ _).put1 _ _).then1 h1, h2⟩)
  have HE3 : Hid (Calls Tryz.prog 56 #[mptr xb, .int .i64 2] (((w.setCell ⟨xb, 3, none⟩ (.int .i64 ((h.pc : Int) + 1))).setCell ⟨xb, 2, none⟩ (.string (x.extract 0 r.length))).setCell ⟨xb, 4, none⟩ (.int .i64 ((h.en : Int) + 1))) fun e w' => e = .returned (.tuple #[]) ∧ Mv w.heap.size [xb] w w' ∧ Sa w' xb D (-1) false (endH { pcH h with op := r, en := h.en + 1 } 2)) := Lib.hid (by
    refine (sended_any (M2.out.s4 (n := h.en + 1) (by simp)) 2 (x := 2) rfl).mono ?_
    rintro e w' ⟨rfl, h1, h2⟩
    exact ⟨rfl, ((((mv0 w xb).put1 _ _).put1 _ _).put1 _ _).then1 h1, h2⟩)
  obtain ⟨n, hn⟩ : ∃ n, n = k + 1 := ⟨_, rfl⟩
  have g : ((k : Nat) : Int) + 1 = (n : Int) := by omega
  have hns : n ≤ s.size := by omega
  rw [← hn] at HQ
  have HG := Lib.hid (sgrave_any M2.out (show r.length ≤ D by omega) hD n hns hs)
  have t0 : decide ((0 : Int) < (x.size : Int)) = true := by rw [decide_eq_true_iff]; omega
  have tz : ((x.size : Int) == 0) = false := by rw [beq_eq_false_iff_ne]; omega
  have g1 : (x.size : Int) - 1 = ((r.length : Nat) : Int) := by omega
  have e1 : ((x.size : Int) == 1) = r.isEmpty := by
    cases r with
    | nil => rw [beq_iff_eq.2]; rfl; rw [hxs]; rfl
    | cons a t => rw [beq_eq_false_iff_ne.2]; rfl; rw [hxs, List.length_cons]; omega
  have u36 : (o == 36) = ((x[r.length].toNat : Int) == 36) := by rw [hxo]; exact bE o 36
  have u40 : (o == 40) = ((x[r.length].toNat : Int) == 40) := by rw [hxo]; exact bE o 40
  have u91 : (o == 91) = ((x[r.length].toNat : Int) == 91) := by rw [hxo]; exact bE o 91
  have u123 : (o == 123) = ((x[r.length].toNat : Int) == 123) := by rw [hxo]; exact bE o 123
  have hxz : x.size ≤ 4611686018427387904 := by omega
  have b41 : (s[k] == 41) = ((s[k].toNat : Int) == 41) := bE s[k] 41
  have b93 : (s[k] == 93) = ((s[k].toNat : Int) == 93) := bE s[k] 93
  have b125 : (s[k] == 125) = ((s[k].toNat : Int) == 125) := bE s[k] 125
  have n125 : ((s[k].toNat : Int) != 125) = !(s[k] == 125) := by rw [b125]; rfl
  clear hx hxe hxo hxo0 hxs hq m M1 hd hn
  have hdl : (0 : Int) ≤ ((r.length : Nat) : Int) := by omega
  rcases clo_ways hc with hb | hb | hb
  · have t1 : ((s[k].toNat : Int) == 41) = true := b41.symm.trans (by rw [hb]; first | done | rfl)
    have t2 : ((s[k].toNat : Int) == 93) = false := b93.symm.trans (by rw [hb]; first | done | rfl)
    have t3 : ((s[k].toNat : Int) == 125) = false := b125.symm.trans (by rw [hb]; first | done | rfl)
    have t4 : ((s[k].toNat : Int) != 125) = true := n125.trans (by rw [hb]; first | done | rfl)
    have HR : Hid (q = if o == 40 then .on (endH { pcH h with op := r } 1) (LL s n) else .bad (pcH h) (s[k] :: LL s n)) := Lib.hid (by rw [HQ.out, hb]; cases (o == 40) <;> rfl)
    clear hb b41 b93 b125 n125 hc HQ u36 u91 u123 e1 M2 HG HE2 HE3
    cases ho : (o == 40) with
    | true =>
      rw [ho] at u40
      have t5 := u40.symm
      have HY : Hid (q = .on (endH { pcH h with op := r } 1) (LL s n)) := Lib.hid (by rw [HR.out, ho]; rfl)
      clear ho u40 HR
      generalize r.length = d at *
      go_enter Tryz.func43, Tryz.ntmps43
      go_wp2_with (first
        | (go_at_call 42; (with_reducible refine (HO.out _).mono ?_); rintro e w1 ⟨rfl, rfl⟩)
        | (go_at_call 42; (with_reducible refine (HC.out _).mono ?_); rintro e w1 ⟨rfl, rfl⟩)
        | (go_at_call 56; (with_reducible refine HE.out.mono ?_); rintro e w1 ⟨rfl, hm, hx⟩; have HM1 := Lib.hid hm; have HX := Lib.hid hx; clear hm hx))
      go_ret
      exact ⟨_, rfl, HM1.out, by rw [HY.out]; exact ⟨n, hns, rfl, rfl, HX.out⟩⟩
    | false =>
      rw [ho] at u40
      have t5 := u40.symm
      have HY : Hid (q = .bad (pcH h) (s[k] :: LL s n)) := Lib.hid (by rw [HR.out, ho]; rfl)
      clear ho u40 HR
      generalize r.length = d at *
      go_enter Tryz.func43, Tryz.ntmps43
      go_wp2_with (first
        | (go_at_call 42; (with_reducible refine (HO.out _).mono ?_); rintro e w1 ⟨rfl, rfl⟩)
        | (go_at_call 42; (with_reducible refine (HC.out _).mono ?_); rintro e w1 ⟨rfl, rfl⟩)
        | (go_at_call 37; (with_reducible refine (HA.out _).mono ?_); rintro e w1 ⟨rfl, hm, hx⟩; have HM1 := Lib.hid hm; have HX := Lib.hid hx; clear hm hx))
      go_ret
      exact ⟨_, rfl, ((mv0 w xb).put1 _ _).then1 HM1.out, by rw [HY.out]; exact ⟨rfl, k, _, HX.out⟩⟩
  · have t1 : ((s[k].toNat : Int) == 41) = false := b41.symm.trans (by rw [hb]; first | done | rfl)
    have t2 : ((s[k].toNat : Int) == 93) = true := b93.symm.trans (by rw [hb]; first | done | rfl)
    have t3 : ((s[k].toNat : Int) == 125) = false := b125.symm.trans (by rw [hb]; first | done | rfl)
    have t4 : ((s[k].toNat : Int) != 125) = true := n125.trans (by rw [hb]; first | done | rfl)
    have HR : Hid (q = if o == 91 then .on (endH { pcH h with op := r } 1) (LL s n) else .bad (pcH h) (s[k] :: LL s n)) := Lib.hid (by rw [HQ.out, hb]; cases (o == 91) <;> rfl)
    clear hb b41 b93 b125 n125 hc HQ u36 u40 u123 e1 M2 HG HE2 HE3
    cases ho : (o == 91) with
    | true =>
      rw [ho] at u91
      have t5 := u91.symm
      have HY : Hid (q = .on (endH { pcH h with op := r } 1) (LL s n)) := Lib.hid (by rw [HR.out, ho]; rfl)
      clear ho u91 HR
      generalize r.length = d at *
      go_enter Tryz.func43, Tryz.ntmps43
      go_wp2_with (first
        | (go_at_call 42; (with_reducible refine (HO.out _).mono ?_); rintro e w1 ⟨rfl, rfl⟩)
        | (go_at_call 42; (with_reducible refine (HC.out _).mono ?_); rintro e w1 ⟨rfl, rfl⟩)
        | (go_at_call 56; (with_reducible refine HE.out.mono ?_); rintro e w1 ⟨rfl, hm, hx⟩; have HM1 := Lib.hid hm; have HX := Lib.hid hx; clear hm hx))
      go_ret
      exact ⟨_, rfl, HM1.out, by rw [HY.out]; exact ⟨n, hns, rfl, rfl, HX.out⟩⟩
    | false =>
      rw [ho] at u91
      have t5 := u91.symm
      have HY : Hid (q = .bad (pcH h) (s[k] :: LL s n)) := Lib.hid (by rw [HR.out, ho]; rfl)
      clear ho u91 HR
      generalize r.length = d at *
      go_enter Tryz.func43, Tryz.ntmps43
      go_wp2_with (first
        | (go_at_call 42; (with_reducible refine (HO.out _).mono ?_); rintro e w1 ⟨rfl, rfl⟩)
        | (go_at_call 42; (with_reducible refine (HC.out _).mono ?_); rintro e w1 ⟨rfl, rfl⟩)
        | (go_at_call 37; (with_reducible refine (HA.out _).mono ?_); rintro e w1 ⟨rfl, hm, hx⟩; have HM1 := Lib.hid hm; have HX := Lib.hid hx; clear hm hx))
      go_ret
      exact ⟨_, rfl, ((mv0 w xb).put1 _ _).then1 HM1.out, by rw [HY.out]; exact ⟨rfl, k, _, HX.out⟩⟩
  · have t1 : ((s[k].toNat : Int) == 41) = false := b41.symm.trans (by rw [hb]; first | done | rfl)
    have t2 : ((s[k].toNat : Int) == 93) = false := b93.symm.trans (by rw [hb]; first | done | rfl)
    have t3 : ((s[k].toNat : Int) == 125) = true := b125.symm.trans (by rw [hb]; first | done | rfl)
    have t4 : ((s[k].toNat : Int) != 125) = false := n125.trans (by rw [hb]; first | done | rfl)
    have HR : Hid (q = if o == 36 then graveO D { pcH h with op := r } (LL s n) else if o == 123 then .on (endH { pcH h with op := r, en := h.en + (if r.isEmpty then 1 else 0) } 2) (LL s n) else .bad (pcH h) (s[k] :: LL s n)) := Lib.hid (by rw [HQ.out, hb]; cases (o == 36) <;> cases (o == 123) <;> rfl)
    clear hb b41 b93 b125 n125 hc HQ u40 u91 M2 HE
    cases ho : (o == 36) with
    | true =>
      rw [ho] at u36
      have t5 := u36.symm
      have HY : Hid (q = graveO D { pcH h with op := r } (LL s n)) := Lib.hid (by rw [HR.out, ho]; rfl)
      clear ho u36 HR e1 u123
      generalize r.length = d at *
      go_enter Tryz.func43, Tryz.ntmps43
      go_wp2_with (first
        | (go_at_call 42; (with_reducible refine (HO.out _).mono ?_); rintro e w1 ⟨rfl, rfl⟩)
        | (go_at_call 42; (with_reducible refine (HC.out _).mono ?_); rintro e w1 ⟨rfl, rfl⟩)
        | (go_at_call 39; (with_reducible refine HG.out.mono ?_); rintro e w1 ⟨v, rfl, hm, hx⟩; have HM1 := Lib.hid hm; have HX := Lib.hid hx; clear hm hx))
      go_ret
      exact ⟨_, rfl, (((mv0 w xb).put1 _ _).put1 _ _).then1 HM1.out, by rw [HY.out]; exact HX.out⟩
    | false =>
      rw [ho] at u36
      have t5 := u36.symm
      clear u36
      cases ho3 : (o == 123) with
      | true =>
        rw [ho3] at u123
        have t6 := u123.symm
        cases hre : r.isEmpty with
        | true =>
          rw [hre] at e1
          have HY : Hid (q = .on (endH { pcH h with op := r, en := h.en + 1 } 2) (LL s n)) := Lib.hid (by rw [HR.out, ho, ho3, hre]; rfl)
          clear ho ho3 hre HR u123
          generalize r.length = d at *
          go_enter Tryz.func43, Tryz.ntmps43
          go_wp2_with (first
            | (go_at_call 42; (with_reducible refine (HO.out _).mono ?_); rintro e w1 ⟨rfl, rfl⟩)
            | (go_at_call 42; (with_reducible refine (HC.out _).mono ?_); rintro e w1 ⟨rfl, rfl⟩)
            | (go_at_call 56; (with_reducible refine HE3.out.mono ?_); rintro e w1 ⟨rfl, hm, hx⟩; have HM1 := Lib.hid hm; have HX := Lib.hid hx; clear hm hx))
          go_ret
          exact ⟨_, rfl, HM1.out, by rw [HY.out]; exact ⟨n, hns, rfl, rfl, HX.out⟩⟩
        | false =>
          rw [hre] at e1
          have HY : Hid (q = .on (endH { pcH h with op := r } 2) (LL s n)) := Lib.hid (by rw [HR.out, ho, ho3, hre]; rfl)
          clear ho ho3 hre HR u123
          generalize r.length = d at *
          go_enter Tryz.func43, Tryz.ntmps43
          go_wp2_with (first
            | (go_at_call 42; (with_reducible refine (HO.out _).mono ?_); rintro e w1 ⟨rfl, rfl⟩)
            | (go_at_call 42; (with_reducible refine (HC.out _).mono ?_); rintro e w1 ⟨rfl, rfl⟩)
            | (go_at_call 56; (with_reducible refine HE2.out.mono ?_); rintro e w1 ⟨rfl, hm, hx⟩; have HM1 := Lib.hid hm; have HX := Lib.hid hx; clear hm hx))
          go_ret
          exact ⟨_, rfl, HM1.out, by rw [HY.out]; exact ⟨n, hns, rfl, rfl, HX.out⟩⟩
      | false =>
        rw [ho3] at u123
        have t6 := u123.symm
        have HY : Hid (q = .bad (pcH h) (s[k] :: LL s n)) := Lib.hid (by rw [HR.out, ho, ho3]; rfl)
        clear ho ho3 HR u123 e1
        generalize r.length = d at *
        go_enter Tryz.func43, Tryz.ntmps43
        go_wp2_with (first
          | (go_at_call 42; (with_reducible refine (HO.out _).mono ?_); rintro e w1 ⟨rfl, rfl⟩)
          | (go_at_call 42; (with_reducible refine (HC.out _).mono ?_); rintro e w1 ⟨rfl, rfl⟩)
          | (go_at_call 37; (with_reducible refine (HA.out _).mono ?_); rintro e w1 ⟨rfl, hm, hx⟩; have HM1 := Lib.hid hm; have HX := Lib.hid hx; clear hm hx))
        go_ret
        exact ⟨_, rfl, ((mv0 w xb).put1 _ _).then1 HM1.out, by rw [HY.out]; exact ⟨rfl, k, _, HX.out⟩⟩

theorem ssign_any {w : World} {s : ByteArray} {xb D : Nat} {h : Hs} (m : Sa w xb D (-1) false h) (hd : h.op.length ≤ D) (hD : D ≤ 200) (k : Nat) (hk : k < s.size) (hs : s.size ≤ 4611686018427387904) (hp : h.pc + 1 ≤ 4611686018427387904) (he : h.en + 1 ≤ 4611686018427387904) :
    Calls Tryz.prog 43 #[mptr xb, .string s, .int .i64 (k : Nat)] w fun e w' => ∃ v : Int, e = .returned (.int .i64 v) ∧ Mv w.heap.size [xb] w w' ∧ SaO s w' xb D (signO D h s[k] (LL s (k + 1))) v := by
  cases ho : opnH s[k] with
  | true => exact ssign_open m hd hD k hk hs hp ho
  | false =>
    cases hc : cloB s[k] with
    | false => exact ssign_mid m hd hD k hk hs hp he ho hc
    | true =>
      cases h0 : h.op with
      | nil => exact ssign_none m k hk hs hp hc h0
      | cons o r => exact ssign_clo m hd hD k hk hs hp he hc h0
end Go.Proofs.YtbojbkpplejdmaaGreat
namespace Go.Proofs.YtbojbkpplejdmaaGreat
open Go.RowKit

theorem sgn_has (b : UInt8) : hasB ⟨#[123, 125, 40, 41, 91, 93, 59, 44, 60, 62, 61, 33, 43, 45, 42, 37, 38, 124, 94, 126, 63, 58, 46]⟩ b = sgnH b := by
  have := bytes_all (p := fun b => hasB ⟨#[123, 125, 40, 41, 91, 93, 59, 44, 60, 62, 61, 33, 43, 45, 42, 37, 38, 124, 94, 126, 63, 58, 46]⟩ b == sgnH b) (by kernel_rfl) b
  exact eq_of_beq this
theorem blk_ways (b : UInt8) : (blkB b = true ∧ decide ((9 : Int) ≤ (b.toNat : Int)) = true ∧ decide ((b.toNat : Int) ≤ 13) = true)
    ∨ (blkB b = true ∧ decide ((9 : Int) ≤ (b.toNat : Int)) = true ∧ decide ((b.toNat : Int) ≤ 13) = false ∧ ((b.toNat : Int) == 32) = true)
    ∨ (blkB b = false ∧ decide ((9 : Int) ≤ (b.toNat : Int)) = true ∧ decide ((b.toNat : Int) ≤ 13) = false ∧ ((b.toNat : Int) == 32) = false)
    ∨ (blkB b = false ∧ decide ((9 : Int) ≤ (b.toNat : Int)) = false ∧ ((b.toNat : Int) == 32) = false) := by
  have e : blkB b = ((decide ((9 : Int) ≤ (b.toNat : Int)) && decide ((b.toNat : Int) ≤ 13)) || ((b.toNat : Int) == 32)) := by
    unfold blkB
    rw [bE b 32, show (((32 : UInt8).toNat : Nat) : Int) = 32 from rfl]
    congr 2 <;> (rw [decide_eq_decide]; omega)
  rw [e]
  by_cases h1 : (9 : Int) ≤ (b.toNat : Int)
  · rw [decide_eq_true h1]
    by_cases h2 : (b.toNat : Int) ≤ 13
    · rw [decide_eq_true h2]
      exact Or.inl ⟨rfl, rfl, rfl⟩
    · rw [decide_eq_false h2]
      cases h3 : ((b.toNat : Int) == 32)
      · exact Or.inr (Or.inr (Or.inl ⟨rfl, rfl, rfl, rfl⟩))
      · exact Or.inr (Or.inl ⟨rfl, rfl, rfl, rfl⟩)
  · rw [decide_eq_false h1]
    have h3 : ((b.toNat : Int) == 32) = false := by rw [beq_eq_false_iff_ne]; omega
    rw [h3]
    exact Or.inr (Or.inr (Or.inr ⟨rfl, rfl, rfl⟩))
theorem next_word {D : Nat} {h : Hs} {b : UInt8} {l : List UInt8} (h1 : blkB b = false) (h2 : innB b = true) : nextO D h b l = wordO h b (b :: l) := by
  have e : wpB (digB b) b = true := by unfold wpB; rw [h2]; rfl
  unfold nextO wordO
  rw [h1, h2, if_neg (by decide), if_pos rfl, List.takeWhile_cons, List.dropWhile_cons, e, if_pos rfl, if_pos rfl]
theorem next_less {D : Nat} {h : Hs} {l : List UInt8} : nextO D h 60 l = if h.pc == 0 then lessO h 1 l else signO D h 60 l := by
  unfold nextO
  cases (h.pc == 0) <;> rfl
theorem next_rest {D : Nat} {h : Hs} {b : UInt8} {l : List UInt8} (h1 : blkB b = false) (h2 : innB b = false) (h3 : b ≠ 34) (h4 : b ≠ 39) (h5 : b ≠ 96) (h6 : b ≠ 47) (h7 : b ≠ 60) : nextO D h b l = if sgnH b then signO D h b l else .bad h (b :: l) := by
  unfold nextO
  rw [h1, h2, beq_false_of_ne h3, beq_false_of_ne h4, beq_false_of_ne h5, beq_false_of_ne h6, beq_false_of_ne h7]
  rfl

set_option maxHeartbeats 16000000 in
set_option maxRecDepth 10000 in
theorem snext_any {w : World} {s : ByteArray} {xb D : Nat} {h : Hs} (m : Sa w xb D (-1) false h) (hd : h.op.length ≤ D) (hD : D ≤ 200) (k : Nat) (hk : k < s.size) (hs : s.size ≤ 4611686018427387904) (hp : h.pc + 1 ≤ 4611686018427387904) (he : h.en + 1 ≤ 4611686018427387904) :
    Calls Tryz.prog 24 #[mptr xb, .string s, .int .i64 (k : Nat)] w fun e w' => ∃ v : Int, e = .returned (.int .i64 v) ∧ Mv w.heap.size [xb] w w' ∧ SaO s w' xb D (nextO D h s[k] (LL s (k + 1))) v := by
  have c3 := m.c3
  have c6 := m.c6
  have z3 := m.fr 3
  have z6 := m.fr 6
  have M := Lib.hid m
  have HF0 := Lib.hid (fun W => sfeed_any s[k] W)
  have HI := Lib.hid (fun W => sinner_any s[k] W)
  have HJN := Lib.hid (sjoined_any m)
  have HA := Lib.hid (fun k => sfail_any m k)
  have M1 := Lib.hid (show Sa (w.setCell ⟨xb, 3, none⟩ (.int .i64 ((h.pc : Int) + 1))) xb D (-1) false (pcH h) from m.s3 (n := h.pc + 1) (by simp))
  have HH : Hid (∀ W, Calls Tryz.prog 42 #[.string ⟨#[123, 125, 40, 41, 91, 93, 59, 44, 60, 62, 61, 33, 43, 45, 42, 37, 38, 124, 94, 126, 63, 58, 46]⟩, .int .u8 (s[k].toNat : Int)] W fun e w' => e = .returned (.bool (sgnH s[k])) ∧ W = w') := Lib.hid fun W => by
    have := has_any ⟨#[123, 125, 40, 41, 91, 93, 59, 44, 60, 62, 61, 33, 43, 45, 42, 37, 38, 124, 94, 126, 63, 58, 46]⟩ s[k] W (by decide)
    rw [sgn_has] at this
    exact this
  obtain ⟨q, hq⟩ : ∃ q, q = nextO D h s[k] (LL s (k + 1)) := ⟨_, rfl⟩
  rw [← hq]
  have HQ := Lib.hid hq
  clear hq
  obtain ⟨n, hn⟩ : ∃ n, n = k + 1 := ⟨_, rfl⟩
  have g : ((k : Nat) : Int) + 1 = (n : Int) := by omega
  have hns : n ≤ s.size := by omega
  rw [← hn] at HQ
  have HC := Lib.hid (ll_cons hk)
  rw [← hn] at HC
  cases hbk : blkB s[k] with
  | true =>
    have HZ : Hid (q = .on (brH h s[k]) (LL s n)) := Lib.hid (by rw [HQ.out]; unfold nextO; rw [hbk]; rfl)
    have hpart : (decide ((9 : Int) ≤ (s[k].toNat : Int)) = true ∧ decide ((s[k].toNat : Int) ≤ 13) = true) ∨ (decide ((9 : Int) ≤ (s[k].toNat : Int)) = true ∧ decide ((s[k].toNat : Int) ≤ 13) = false ∧ ((s[k].toNat : Int) == 32) = true) := by
      rcases blk_ways s[k] with ⟨_, h1, h2⟩ | ⟨_, h1, h2, h3⟩ | ⟨h0, _⟩ | ⟨h0, _⟩
      · exact Or.inl ⟨h1, h2⟩
      · exact Or.inr ⟨h1, h2, h3⟩
      · rw [hbk] at h0; cases h0
      · rw [hbk] at h0; cases h0
    cases hbr : h.br with
    | true =>
      rw [hbr] at c6
      have HY : Hid (q = .on { h with br := true } (LL s n)) := Lib.hid (by rw [HZ.out, br_yes hbr])
      clear hbk hbr hn m HQ HZ
      rcases hpart with ⟨t1, t2⟩ | ⟨t1, t2, t3⟩
      all_goals
        go_enter Tryz.func24, Tryz.ntmps24
        go_wp2
        go_ret
        exact ⟨_, rfl, (mv0 w xb).put1 _ _, by rw [HY.out]; exact ⟨n, hns, rfl, rfl, M.out.s6 true⟩⟩
    | false =>
      rw [hbr] at c6
      have HY : Hid (q = .on { h with br := lineB s[k] } (LL s n)) := Lib.hid (by rw [HZ.out, br_not hbr])
      clear hbk hbr hn m HQ HZ
      generalize lineB s[k] = y at *
      have HF : Hid (∀ W, Calls Tryz.prog 33 #[.int .u8 (s[k].toNat : Int)] W fun e w' => e = .returned (.bool y) ∧ W = w') := HF0
      rcases hpart with ⟨t1, t2⟩ | ⟨t1, t2, t3⟩
      all_goals
        go_enter Tryz.func24, Tryz.ntmps24
        go_wp2_with (go_at_call 33; (with_reducible refine (HF.out _).mono ?_); rintro e w1 ⟨rfl, rfl⟩)
        go_ret
        exact ⟨_, rfl, (mv0 w xb).put1 _ _, by rw [HY.out]; exact ⟨n, hns, rfl, rfl, M.out.s6 y⟩⟩
  | false =>
    clear HF0
    have hpart : (decide ((9 : Int) ≤ (s[k].toNat : Int)) = true ∧ decide ((s[k].toNat : Int) ≤ 13) = false ∧ ((s[k].toNat : Int) == 32) = false) ∨ (decide ((9 : Int) ≤ (s[k].toNat : Int)) = false ∧ ((s[k].toNat : Int) == 32) = false) := by
      rcases blk_ways s[k] with ⟨h0, _⟩ | ⟨h0, _⟩ | ⟨_, h1, h2, h3⟩ | ⟨_, h1, h3⟩
      · rw [hbk] at h0; cases h0
      · rw [hbk] at h0; cases h0
      · exact Or.inl ⟨h1, h2, h3⟩
      · exact Or.inr ⟨h1, h3⟩
    cases hin : innB s[k] with
    | true =>
      rw [hin] at HI
      have HL := Lib.hid (sword_any m k hk hs hp)
      have HZ : Hid (q = wordO h s[k] (LL s k)) := Lib.hid (by rw [HQ.out, next_word hbk hin, HC.out])
      rw [← HZ.out] at HL
      clear hbk hin hn m HQ HZ c3 c6
      rcases hpart with ⟨t1, t2, t3⟩ | ⟨t1, t3⟩
      all_goals
        go_enter Tryz.func24, Tryz.ntmps24
        go_wp2_with (first
          | (go_at_call 34; (with_reducible refine (HI.out _).mono ?_); rintro e w1 ⟨rfl, rfl⟩)
          | (go_at_call 35; (with_reducible refine HL.out.mono ?_); rintro e w1 ⟨v, rfl, hm, hx⟩; have HM1 := Lib.hid hm; have HX := Lib.hid hx; clear hm hx))
        go_ret
        exact ⟨_, rfl, HM1.out, HX.out⟩
    | false =>
      rw [hin] at HI
      by_cases hb : s[k] = 34
      · have HZ : Hid (q = if joiH h then .bad h (s[k] :: LL s n) else quoteO s[k] (pcH h) (LL s n)) := Lib.hid (by rw [HQ.out, hb]; rfl)
        have HL := Lib.hid (squote_any M1.out s[k] n hns hs)
        have t9 : decide ((9 : Int) ≤ (s[k].toNat : Int)) = true := by rw [hb]; rfl
        have t13 : decide ((s[k].toNat : Int) ≤ 13) = false := by rw [hb]; rfl
        have t32 : ((s[k].toNat : Int) == 32) = false := by rw [hb]; rfl
        have t34 : ((s[k].toNat : Int) == 34) = true := by rw [hb]; rfl
        clear hb hbk hin hn m HQ hpart
        cases hj : joiH h with
        | true =>
          rw [hj] at HJN
          have HY : Hid (q = .bad h (s[k] :: LL s n)) := Lib.hid (by rw [HZ.out, hj]; rfl)
          clear hj HZ HL
          go_enter Tryz.func24, Tryz.ntmps24
          go_wp2_with (first
            | (go_at_call 34; (with_reducible refine (HI.out _).mono ?_); rintro e w1 ⟨rfl, rfl⟩)
            | (go_at_call 36; (with_reducible refine HJN.out.mono ?_); rintro e w1 ⟨rfl, rfl⟩)
            | (go_at_call 37; (with_reducible refine (HA.out _).mono ?_); rintro e w1 ⟨rfl, hm, hx⟩; have HM1 := Lib.hid hm; have HX := Lib.hid hx; clear hm hx))
          go_ret
          exact ⟨_, rfl, HM1.out, by rw [HY.out]; exact ⟨rfl, k, _, HX.out⟩⟩
        | false =>
          rw [hj] at HJN
          have HY : Hid (q = quoteO s[k] (pcH h) (LL s n)) := Lib.hid (by rw [HZ.out, hj]; rfl)
          clear hj HZ
          go_enter Tryz.func24, Tryz.ntmps24
          go_wp2_with (first
            | (go_at_call 34; (with_reducible refine (HI.out _).mono ?_); rintro e w1 ⟨rfl, rfl⟩)
            | (go_at_call 36; (with_reducible refine HJN.out.mono ?_); rintro e w1 ⟨rfl, rfl⟩)
            | (go_at_call 38; (with_reducible refine HL.out.mono ?_); rintro e w1 ⟨v, rfl, hm, hx⟩; have HM1 := Lib.hid hm; have HX := Lib.hid hx; clear hm hx))
          go_ret
          exact ⟨_, rfl, ((mv0 w xb).put1 _ _).then1 HM1.out, by rw [HY.out]; exact HX.out⟩
      by_cases hb : s[k] = 39
      · have HZ : Hid (q = if joiH h then .bad h (s[k] :: LL s n) else quoteO s[k] (pcH h) (LL s n)) := Lib.hid (by rw [HQ.out, hb]; rfl)
        have HL := Lib.hid (squote_any M1.out s[k] n hns hs)
        have t9 : decide ((9 : Int) ≤ (s[k].toNat : Int)) = true := by rw [hb]; rfl
        have t13 : decide ((s[k].toNat : Int) ≤ 13) = false := by rw [hb]; rfl
        have t32 : ((s[k].toNat : Int) == 32) = false := by rw [hb]; rfl
        have t34 : ((s[k].toNat : Int) == 34) = false := by rw [hb]; rfl
        have t39 : ((s[k].toNat : Int) == 39) = true := by rw [hb]; rfl
        clear hb hbk hin hn m HQ hpart
        cases hj : joiH h with
        | true =>
          rw [hj] at HJN
          have HY : Hid (q = .bad h (s[k] :: LL s n)) := Lib.hid (by rw [HZ.out, hj]; rfl)
          clear hj HZ HL
          go_enter Tryz.func24, Tryz.ntmps24
          go_wp2_with (first
            | (go_at_call 34; (with_reducible refine (HI.out _).mono ?_); rintro e w1 ⟨rfl, rfl⟩)
            | (go_at_call 36; (with_reducible refine HJN.out.mono ?_); rintro e w1 ⟨rfl, rfl⟩)
            | (go_at_call 37; (with_reducible refine (HA.out _).mono ?_); rintro e w1 ⟨rfl, hm, hx⟩; have HM1 := Lib.hid hm; have HX := Lib.hid hx; clear hm hx))
          go_ret
          exact ⟨_, rfl, HM1.out, by rw [HY.out]; exact ⟨rfl, k, _, HX.out⟩⟩
        | false =>
          rw [hj] at HJN
          have HY : Hid (q = quoteO s[k] (pcH h) (LL s n)) := Lib.hid (by rw [HZ.out, hj]; rfl)
          clear hj HZ
          go_enter Tryz.func24, Tryz.ntmps24
          go_wp2_with (first
            | (go_at_call 34; (with_reducible refine (HI.out _).mono ?_); rintro e w1 ⟨rfl, rfl⟩)
            | (go_at_call 36; (with_reducible refine HJN.out.mono ?_); rintro e w1 ⟨rfl, rfl⟩)
            | (go_at_call 38; (with_reducible refine HL.out.mono ?_); rintro e w1 ⟨v, rfl, hm, hx⟩; have HM1 := Lib.hid hm; have HX := Lib.hid hx; clear hm hx))
          go_ret
          exact ⟨_, rfl, ((mv0 w xb).put1 _ _).then1 HM1.out, by rw [HY.out]; exact HX.out⟩
      by_cases hb : s[k] = 96
      · have HY : Hid (q = graveO D (pcH h) (LL s n)) := Lib.hid (by rw [HQ.out, hb]; rfl)
        have HL := Lib.hid (sgrave_any M1.out (show (pcH h).op.length ≤ D from hd) hD n hns hs)
        have t9 : decide ((9 : Int) ≤ (s[k].toNat : Int)) = true := by rw [hb]; rfl
        have t13 : decide ((s[k].toNat : Int) ≤ 13) = false := by rw [hb]; rfl
        have t32 : ((s[k].toNat : Int) == 32) = false := by rw [hb]; rfl
        have t34 : ((s[k].toNat : Int) == 34) = false := by rw [hb]; rfl
        have t39 : ((s[k].toNat : Int) == 39) = false := by rw [hb]; rfl
        have t96 : ((s[k].toNat : Int) == 96) = true := by rw [hb]; rfl
        clear hb hbk hin hn m HQ hpart
        go_enter Tryz.func24, Tryz.ntmps24
        go_wp2_with (first
          | (go_at_call 34; (with_reducible refine (HI.out _).mono ?_); rintro e w1 ⟨rfl, rfl⟩)
          | (go_at_call 39; (with_reducible refine HL.out.mono ?_); rintro e w1 ⟨v, rfl, hm, hx⟩; have HM1 := Lib.hid hm; have HX := Lib.hid hx; clear hm hx))
        go_ret
        exact ⟨_, rfl, ((mv0 w xb).put1 _ _).then1 HM1.out, by rw [HY.out]; exact HX.out⟩
      by_cases hb : s[k] = 47
      · have HY : Hid (q = slashO h (LL s n)) := Lib.hid (by rw [HQ.out, hb]; rfl)
        have HL := Lib.hid (sslash_any m k hk hs hp)
        rw [← hn] at HL
        have t9 : decide ((9 : Int) ≤ (s[k].toNat : Int)) = true := by rw [hb]; rfl
        have t13 : decide ((s[k].toNat : Int) ≤ 13) = false := by rw [hb]; rfl
        have t32 : ((s[k].toNat : Int) == 32) = false := by rw [hb]; rfl
        have t34 : ((s[k].toNat : Int) == 34) = false := by rw [hb]; rfl
        have t39 : ((s[k].toNat : Int) == 39) = false := by rw [hb]; rfl
        have t96 : ((s[k].toNat : Int) == 96) = false := by rw [hb]; rfl
        have t47 : ((s[k].toNat : Int) == 47) = true := by rw [hb]; rfl
        clear hb hbk hin hn m HQ hpart
        go_enter Tryz.func24, Tryz.ntmps24
        go_wp2_with (first
          | (go_at_call 34; (with_reducible refine (HI.out _).mono ?_); rintro e w1 ⟨rfl, rfl⟩)
          | (go_at_call 40; (with_reducible refine HL.out.mono ?_); rintro e w1 ⟨v, rfl, hm, hx⟩; have HM1 := Lib.hid hm; have HX := Lib.hid hx; clear hm hx))
        go_ret
        exact ⟨_, rfl, HM1.out, by rw [HY.out]; exact HX.out⟩
      by_cases hb : s[k] = 60
      · have HZ : Hid (q = if h.pc == 0 then lessO h 1 (LL s n) else signO D h s[k] (LL s n)) := Lib.hid (by rw [HQ.out, hb, next_less])
        have HHS : Hid (∀ W, Calls Tryz.prog 42 #[.string ⟨#[123, 125, 40, 41, 91, 93, 59, 44, 60, 62, 61, 33, 43, 45, 42, 37, 38, 124, 94, 126, 63, 58, 46]⟩, .int .u8 (s[k].toNat : Int)] W fun e w' => e = .returned (.bool true) ∧ W = w') := Lib.hid (fun W => by
          have h1 := HH.out W
          rw [show sgnH s[k] = true by rw [hb]; rfl] at h1
          exact h1)
        have t9 : decide ((9 : Int) ≤ (s[k].toNat : Int)) = true := by rw [hb]; rfl
        have t13 : decide ((s[k].toNat : Int) ≤ 13) = false := by rw [hb]; rfl
        have t32 : ((s[k].toNat : Int) == 32) = false := by rw [hb]; rfl
        have t34 : ((s[k].toNat : Int) == 34) = false := by rw [hb]; rfl
        have t39 : ((s[k].toNat : Int) == 39) = false := by rw [hb]; rfl
        have t96 : ((s[k].toNat : Int) == 96) = false := by rw [hb]; rfl
        have t47 : ((s[k].toNat : Int) == 47) = false := by rw [hb]; rfl
        have t60 : ((s[k].toNat : Int) == 60) = true := by rw [hb]; rfl
        have HL1 := Lib.hid (sless_any m k hk hs)
        have HL2 := Lib.hid (ssign_any m hd hD k hk hs hp he)
        rw [← hn] at HL1 HL2
        clear hb hbk hin hn m HQ hpart HH
        have HH := HHS
        cases hpc : (h.pc == 0) with
        | true =>
          have t0 : (((h.pc : Nat) : Int) == 0) = true := by rw [beq_iff_eq] at hpc ⊢; omega
          have HY : Hid (q = lessO h 1 (LL s n)) := Lib.hid (by rw [HZ.out, hpc]; rfl)
          have HL := HL1
          clear hpc HZ HL2 M1
          go_enter Tryz.func24, Tryz.ntmps24
          go_wp2_with (first
            | (go_at_call 34; (with_reducible refine (HI.out _).mono ?_); rintro e w1 ⟨rfl, rfl⟩)
            | (go_at_call 41; (with_reducible refine HL.out.mono ?_); rintro e w1 ⟨v, rfl, hm, hx⟩; have HM1 := Lib.hid hm; have HX := Lib.hid hx; clear hm hx))
          go_ret
          exact ⟨_, rfl, HM1.out, by rw [HY.out]; exact HX.out⟩
        | false =>
          have t0 : (((h.pc : Nat) : Int) == 0) = false := by rw [beq_eq_false_iff_ne] at hpc ⊢; omega
          have HY : Hid (q = signO D h s[k] (LL s n)) := Lib.hid (by rw [HZ.out, hpc]; rfl)
          have HL := HL2
          clear hpc HZ HL1 M1
          go_enter Tryz.func24, Tryz.ntmps24
          go_wp2_with (first
            | (go_at_call 34; (with_reducible refine (HI.out _).mono ?_); rintro e w1 ⟨rfl, rfl⟩)
            | (go_at_call 42; (with_reducible refine (HH.out _).mono ?_); rintro e w1 ⟨rfl, rfl⟩)
            | (go_at_call 43; (with_reducible refine HL.out.mono ?_); rintro e w1 ⟨v, rfl, hm, hx⟩; have HM1 := Lib.hid hm; have HX := Lib.hid hx; clear hm hx))
          go_ret
          exact ⟨_, rfl, HM1.out, by rw [HY.out]; exact HX.out⟩
      rename_i h34 h39 h96 h47
      have HZ : Hid (q = if sgnH s[k] then signO D h s[k] (LL s n) else .bad h (s[k] :: LL s n)) := Lib.hid (by rw [HQ.out, next_rest hbk hin h34 h39 h96 h47 hb])
      have t34 : ((s[k].toNat : Int) == 34) = false := iE (x := 34) rfl h34
      have t39 : ((s[k].toNat : Int) == 39) = false := iE (x := 39) rfl h39
      have t96 : ((s[k].toNat : Int) == 96) = false := iE (x := 96) rfl h96
      have t47 : ((s[k].toNat : Int) == 47) = false := iE (x := 47) rfl h47
      have t60 : ((s[k].toNat : Int) == 60) = false := iE (x := 60) rfl hb
      have HL := Lib.hid (ssign_any m hd hD k hk hs hp he)
      rw [← hn] at HL
      clear hb h34 h39 h96 h47 hbk hin hn m HQ M1
      cases hsg : sgnH s[k] with
      | true =>
        rw [hsg] at HH
        have HY : Hid (q = signO D h s[k] (LL s n)) := Lib.hid (by rw [HZ.out, hsg]; rfl)
        clear hsg HZ
        rcases hpart with ⟨t1, t2, t3⟩ | ⟨t1, t3⟩
        all_goals
          go_enter Tryz.func24, Tryz.ntmps24
          go_wp2_with (first
            | (go_at_call 34; (with_reducible refine (HI.out _).mono ?_); rintro e w1 ⟨rfl, rfl⟩)
            | (go_at_call 42; (with_reducible refine (HH.out _).mono ?_); rintro e w1 ⟨rfl, rfl⟩)
            | (go_at_call 43; (with_reducible refine HL.out.mono ?_); rintro e w1 ⟨v, rfl, hm, hx⟩; have HM1 := Lib.hid hm; have HX := Lib.hid hx; clear hm hx))
          go_ret
          exact ⟨_, rfl, HM1.out, by rw [HY.out]; exact HX.out⟩
      | false =>
        rw [hsg] at HH
        have HY : Hid (q = .bad h (s[k] :: LL s n)) := Lib.hid (by rw [HZ.out, hsg]; rfl)
        clear hsg HZ HL
        rcases hpart with ⟨t1, t2, t3⟩ | ⟨t1, t3⟩
        all_goals
          go_enter Tryz.func24, Tryz.ntmps24
          go_wp2_with (first
            | (go_at_call 34; (with_reducible refine (HI.out _).mono ?_); rintro e w1 ⟨rfl, rfl⟩)
            | (go_at_call 42; (with_reducible refine (HH.out _).mono ?_); rintro e w1 ⟨rfl, rfl⟩)
            | (go_at_call 37; (with_reducible refine (HA.out _).mono ?_); rintro e w1 ⟨rfl, hm, hx⟩; have HM1 := Lib.hid hm; have HX := Lib.hid hx; clear hm hx))
          go_ret
          exact ⟨_, rfl, HM1.out, by rw [HY.out]; exact ⟨rfl, k, _, HX.out⟩⟩
end Go.Proofs.YtbojbkpplejdmaaGreat
