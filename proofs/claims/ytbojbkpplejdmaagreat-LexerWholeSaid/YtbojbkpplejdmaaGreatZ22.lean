/-
  What package json's New, Whole, Valid and lives answer. Conditions: the texts are no longer than a length can be.
  What package lexer's machine is (six cells, and the two machines behind the bytes that came), and what its behindByte, atEnd, Verdict, Reason, At and Seen answer. Conditions: the texts are no longer than a length can be.
  What package lexer's take, New and End do with a machine of layer 29. Conditions: the texts are no longer than a length can be; the machine and its two machines are three blocks.
-/
import Derived.Test.YtbojbkpplejdmaaGreatZ10
import Derived.Test.YtbojbkpplejdmaaGreatZ19
import Derived.Test.YtbojbkpplejdmaaGreatZ14
import Derived.Test.YtbojbkpplejdmaaGreatZ13
import Derived.Test.YtbojbkpplejdmaaGreatZ16
namespace Go.Proofs.YtbojbkpplejdmaaGreat
open Go.RowKit

set_option maxHeartbeats 1000000 in
theorem new_bad (n : Int) (w : World) (h : n < 0 ∨ 200 < n) :
    Calls Tryz.prog 20 #[.int .i64 n] w fun e w' => e = .returned (.tuple #[.pointer none, .int .i64 1]) ∧ w = w' := by
  have hc : decide (n < 0) = true ∨ (decide (n < 0) = false ∧ decide ((200 : Int) < n) = true) := by
    rw [decide_eq_true_iff, decide_eq_false_iff_not, decide_eq_true_iff]
    omega
  clear h
  rcases hc with h0 | ⟨h0, h1⟩
  all_goals
    go_enter Tryz.func20, Tryz.ntmps20
    go_wp2
    go_ret2
    exact ⟨rfl, rfl⟩
def zeroE : List Value := List.replicate 200 (.int .u8 0)
theorem Tryz.zeroMachine (w : World) : (zeroValue 61).run Tryz.prog w = .ok (.agg (mcC 0 0 0 0 0 0 ⟨#[]⟩ 0 zeroE)) w := by kernel_rfl
theorem zero_ne : (mcC 0 0 0 0 0 0 ⟨#[]⟩ 0 zeroE = #[]) = False := by
  rw [eq_iff_iff, iff_false]
  intro h
  have := congrArg Array.size h
  simp [mcC] at this
theorem zero_set (x : Int) : (mcC 0 0 0 0 0 0 ⟨#[]⟩ 0 zeroE).setIfInBounds 0 (.int .i64 x) = mcC x 0 0 0 0 0 ⟨#[]⟩ 0 zeroE := by
  unfold mcC
  rw [List.setIfInBounds_toArray]
  rfl
set_option maxHeartbeats 1000000 in
theorem new_ok (n : Nat) (w : World) (h : n ≤ 200) :
    Calls Tryz.prog 20 #[.int .i64 (n : Nat)] w fun e w' => e = .returned (.tuple #[mptr w.heap.size, .int .i64 0]) ∧ Below w.heap.size w w' ∧ MacB w' w.heap.size n 0 [] := by
  have h0 : decide (((n : Nat) : Int) < 0) = false := by rw [decide_eq_false_iff_not]; omega
  have h1 : decide ((200 : Int) < ((n : Nat) : Int)) = false := by rw [decide_eq_false_iff_not]; omega
  have HN := Lib.hid h
  have hz := Tryz.zeroMachine w
  have hne := zero_ne
  have hset := zero_set n
  have HB := Lib.hid (Blk.new w 61 (mcC n 0 0 0 0 0 ⟨#[]⟩ 0 zeroE))
  clear h
  generalize mcC 0 0 0 0 0 0 ⟨#[]⟩ 0 zeroE = Z at *
  go_enter Tryz.func20, Tryz.ntmps20
  go_wp2
  go_ret2
  refine ⟨rfl, (Below.refl _ _).alloc (Nat.le_refl _) _, 0, 0, 0, 0, ⟨#[]⟩, 0, zeroE, HB.out, ?_, Nat.zero_le _, HN.out, ?_, rfl, trivial, rfl⟩
  · exact List.length_replicate ..
  · exact rfl

end Go.Proofs.YtbojbkpplejdmaaGreat
namespace Go.Proofs.YtbojbkpplejdmaaGreat
open Go.RowKit

/-- The machine's cells. -/
def mxC (db sb : Nat) (sn tk vd : Int) (rs : ByteArray) : Array Value := #[mptr db, mptr sb, .int .i64 sn, .int .i64 tk, .int .i64 vd, .string rs]
def Mx (w : World) (mb db sb : Nat) (sn tk vd : Int) (rs : ByteArray) : Prop := Blk w mb 50 (mxC db sb sn tk vd rs)
section
variable {w : World} {mb db sb : Nat} {sn tk vd : Int} {rs : ByteArray}
theorem Mx.c0 (m : Mx w mb db sb sn tk vd rs) : w.cell? ⟨mb, 0, none⟩ = some (mptr db) := Blk.cell m 0
theorem Mx.c1 (m : Mx w mb db sb sn tk vd rs) : w.cell? ⟨mb, 1, none⟩ = some (mptr sb) := Blk.cell m 1
theorem Mx.c2 (m : Mx w mb db sb sn tk vd rs) : w.cell? ⟨mb, 2, none⟩ = some (.int .i64 sn) := Blk.cell m 2
theorem Mx.c3 (m : Mx w mb db sb sn tk vd rs) : w.cell? ⟨mb, 3, none⟩ = some (.int .i64 tk) := Blk.cell m 3
theorem Mx.c4 (m : Mx w mb db sb sn tk vd rs) : w.cell? ⟨mb, 4, none⟩ = some (.int .i64 vd) := Blk.cell m 4
theorem Mx.c5 (m : Mx w mb db sb sn tk vd rs) : w.cell? ⟨mb, 5, none⟩ = some (.string rs) := Blk.cell m 5
theorem Mx.fr (m : Mx w mb db sb sn tk vd rs) (i : Nat) : w.frozen? ⟨mb, i, none⟩ = false := Blk.frozen m i
theorem Mx.s2 (m : Mx w mb db sb sn tk vd rs) (x : Int) : Mx (w.setCell ⟨mb, 2, none⟩ (.int .i64 x)) mb db sb x tk vd rs := Blk.set_ m 2 (.int .i64 x)
theorem Mx.s3 (m : Mx w mb db sb sn tk vd rs) (x : Int) : Mx (w.setCell ⟨mb, 3, none⟩ (.int .i64 x)) mb db sb sn x vd rs := Blk.set_ m 3 (.int .i64 x)
theorem Mx.s4 (m : Mx w mb db sb sn tk vd rs) (x : Int) : Mx (w.setCell ⟨mb, 4, none⟩ (.int .i64 x)) mb db sb sn tk x rs := Blk.set_ m 4 (.int .i64 x)
theorem Mx.s5 (m : Mx w mb db sb sn tk vd rs) (x : ByteArray) : Mx (w.setCell ⟨mb, 5, none⟩ (.string x)) mb db sb sn tk vd x := Blk.set_ m 5 (.string x)
end
theorem mxl_eq_nil (p : Addr) (w : World) : (binOp .eql 29 (.pointer (some p)) (.pointer none)).run Tryz.prog w = .ok (.bool false) w := by kernel_rfl
theorem mxl_eq_nilptr (w : World) : (binOp .eql 29 (.pointer none) (.pointer none)).run Tryz.prog w = .ok (.bool true) w := by kernel_rfl
theorem mxl_neq_nil (p : Addr) (w : World) : (binOp .neq 29 (.pointer (some p)) (.pointer none)).run Tryz.prog w = .ok (.bool true) w := by kernel_rfl
theorem mxl_neq_nilptr (w : World) : (binOp .neq 29 (.pointer none) (.pointer none)).run Tryz.prog w = .ok (.bool false) w := by kernel_rfl

/-- Both machines behind the bytes that came. -/
structure TwoX (w : World) (db sb D : Nat) (T : ByteArray) : Prop where
  js : MacB w db D (T.size : Nat) T.data.toList
  hs : MacBH w sb D (T.size : Nat) T.data.toList
theorem TwoX.same {w w' : World} {db sb D : Nat} {T : ByteArray} (t : TwoX w db sb D T) (e1 : w'.heap[db]? = w.heap[db]?) (e2 : w'.heap[sb]? = w.heap[sb]?) : TwoX w' db sb D T := ⟨t.js.same e1, t.hs.same e2⟩

/-- What is told of both machines. -/
theorem TwoX.tells {w : World} {db sb D : Nat} {T : ByteArray} (t : TwoX w db sb D T) :
    Hid (Calls Tryz.prog 31 #[mptr db] w fun e w' => e = .returned (.int .i64 (whoJ D T).1) ∧ w = w') ∧
    Hid (Calls Tryz.prog 30 #[mptr db] w fun e w' => e = .returned (.bool (!T.data.toList.all whiB)) ∧ w = w') ∧
    Hid (Calls Tryz.prog 32 #[mptr sb] w fun e w' => e = .returned (.int .i64 (staH (tolH D T))) ∧ w = w') ∧
    Hid (Calls Tryz.prog 52 #[mptr sb] w fun e w' => e = .returned (.int .i64 ((tolH D T).2.2.2.2 : Nat)) ∧ w = w') := by
  obtain ⟨pl, sp, tn, lf, rs, dp, E, h1, _, _, h3, _, h5⟩ := t.js.told
  obtain ⟨pl', h, r, g1, g2, _, g3⟩ := t.hs.told
  refine ⟨Lib.hid ?_, Lib.hid ?_, Lib.hid ?_, Lib.hid ?_⟩
  · rw [← h3]; exact jstate_any h1
  · rw [← h5]; exact begun_any h1
  · show Calls _ _ _ _ fun e w' => e = .returned (.int .i64 (staH (telH (runH D .z newH T.data.toList)))) ∧ _
    rw [← g2]
    exact hstate_any g1.mac g1.lenB
  · have he := hends_any g1.mac
    rw [g3, ends_of] at he
    exact he
/-- What is told behind a byte, by its ways. -/
theorem vrd_two (D : Nat) (T : ByteArray) :
    (((whoJ D T).1 == 3) = true ∧ vrdB D T.data.toList = some 0)
    ∨ (((whoJ D T).1 == 3) = false ∧ (staH (tolH D T) == 0) = true ∧ vrdB D T.data.toList = some 1)
    ∨ (((whoJ D T).1 == 3) = false ∧ (staH (tolH D T) == 0) = false ∧ ((whoJ D T).1 == 0) = true ∧ decide ((0 : Int) < ((tolH D T).2.2.2.2 : Nat)) = true ∧ vrdB D T.data.toList = some 2)
    ∨ (((whoJ D T).1 == 3) = false ∧ (staH (tolH D T) == 0) = false ∧ ((whoJ D T).1 == 0) = true ∧ decide ((0 : Int) < ((tolH D T).2.2.2.2 : Nat)) = false ∧ vrdB D T.data.toList = none)
    ∨ (((whoJ D T).1 == 3) = false ∧ (staH (tolH D T) == 0) = false ∧ ((whoJ D T).1 == 0) = false ∧ vrdB D T.data.toList = none) := by
  have e : (staH (tolH D T) == 0) = (tolH D T).1.isSome := by
    rw [said_state]
    cases (tolH D T).1.isSome with
    | true => rfl
    | false => cases (tolH D T).2.1 || !(tolH D T).2.2.1.isEmpty <;> rfl
  rw [vrd_doc, e]
  have hd : decide ((0 : Int) < ((tolH D T).2.2.2.2 : Nat)) = decide (0 < (tolH D T).2.2.2.2) := by rw [decide_eq_decide]; omega
  rw [hd]
  cases h3 : ((whoJ D T).1 == 3) with
  | true => exact Or.inl ⟨rfl, rfl⟩
  | false =>
    cases (tolH D T).1.isSome with
    | true => exact Or.inr (Or.inl ⟨rfl, rfl, rfl⟩)
    | false =>
      cases h0 : ((whoJ D T).1 == 0) with
      | false => exact Or.inr (Or.inr (Or.inr (Or.inr ⟨rfl, rfl, rfl, rfl⟩)))
      | true =>
        cases decide (0 < (tolH D T).2.2.2.2) with
        | true => exact Or.inr (Or.inr (Or.inl ⟨rfl, rfl, rfl, rfl, rfl⟩))
        | false => exact Or.inr (Or.inr (Or.inr (Or.inl ⟨rfl, rfl, rfl, rfl, rfl⟩)))
/-- A verdict, and why, of what may be known. -/
def vdO : Option Nat → Int
  | none => 0
  | some c => vdV c
def rsO : Option Nat → ByteArray
  | none => ⟨#[]⟩
  | some c => rsV c

set_option maxHeartbeats 4000000 in
set_option maxRecDepth 10000 in
theorem xbehind_any {w : World} {mb db sb D : Nat} {sn tk vd : Int} {rs : ByteArray} {T : ByteArray} (m : Mx w mb db sb sn tk vd rs) (t : TwoX w db sb D T) :
    Calls Tryz.prog 29 #[mptr mb] w fun e w' => e = .returned (.tuple #[.int .i64 (vdO (vrdB D T.data.toList)), .string (rsO (vrdB D T.data.toList))]) ∧ w = w' := by
  have c0 := m.c0
  have c1 := m.c1
  obtain ⟨HS, _, HH, HE⟩ := t.tells
  have hv := vrd_two D T
  obtain ⟨q, hq⟩ : ∃ q, q = vrdB D T.data.toList := ⟨_, rfl⟩
  rw [← hq] at hv ⊢
  clear hq m t
  generalize (whoJ D T).1 = a at *
  generalize staH (tolH D T) = b at *
  generalize (((tolH D T).2.2.2.2 : Nat) : Int) = n at *
  rcases hv with ⟨v1, rfl⟩ | ⟨v1, v2, rfl⟩ | ⟨v1, v2, v3, v4, rfl⟩ | ⟨v1, v2, v3, v4, rfl⟩ | ⟨v1, v2, v3, rfl⟩
  all_goals
    go_enter Tryz.func29, Tryz.ntmps29
    go_wp2_with (first
      | (go_at_call 31; (with_reducible refine HS.out.mono ?_); rintro e w1 ⟨rfl, rfl⟩)
      | (go_at_call 32; (with_reducible refine HH.out.mono ?_); rintro e w1 ⟨rfl, rfl⟩)
      | (go_at_call 52; (with_reducible refine HE.out.mono ?_); rintro e w1 ⟨rfl, rfl⟩))
    go_ret2
    exact ⟨rfl, rfl⟩

set_option maxHeartbeats 4000000 in
set_option maxRecDepth 10000 in
theorem xend_any {w : World} {mb db sb D : Nat} {sn tk vd : Int} {rs : ByteArray} {T : ByteArray} (m : Mx w mb db sb sn tk vd rs) (t : TwoX w db sb D T) :
    Calls Tryz.prog 23 #[mptr mb] w fun e w' => e = .returned (.tuple #[.int .i64 (vdV (endV D T)), .string (rsV (endV D T))]) ∧ w = w' := by
  have c0 := m.c0
  have c1 := m.c1
  obtain ⟨HS, HG, HH, _⟩ := t.tells
  obtain ⟨q, hq⟩ : ∃ q, q = endV D T := ⟨_, rfl⟩
  rw [← hq]
  have hv : (T.data.toList.all whiB = true ∧ q = 3) ∨ (T.data.toList.all whiB = false ∧ ((whoJ D T).1 != 0) = true ∧ q = 4) ∨ (T.data.toList.all whiB = false ∧ ((whoJ D T).1 != 0) = false ∧ (staH (tolH D T) == 2) = true ∧ q = 5) ∨ (T.data.toList.all whiB = false ∧ ((whoJ D T).1 != 0) = false ∧ (staH (tolH D T) == 2) = false ∧ q = 6) := by
    rw [hq]
    unfold endV
    cases T.data.toList.all whiB <;> cases ((whoJ D T).1 != 0) <;> cases (staH (tolH D T) == 2) <;> simp
  clear hq m t
  generalize (whoJ D T).1 = a at *
  generalize staH (tolH D T) = b at *
  generalize T.data.toList.all whiB = n at *
  rcases hv with ⟨rfl, rfl⟩ | ⟨rfl, v2, rfl⟩ | ⟨rfl, v2, v3, rfl⟩ | ⟨rfl, v2, v3, rfl⟩
  all_goals
    go_enter Tryz.func23, Tryz.ntmps23
    go_wp2_with (first
      | (go_at_call 30; (with_reducible refine HG.out.mono ?_); rintro e w1 ⟨rfl, rfl⟩)
      | (go_at_call 31; (with_reducible refine HS.out.mono ?_); rintro e w1 ⟨rfl, rfl⟩)
      | (go_at_call 32; (with_reducible refine HH.out.mono ?_); rintro e w1 ⟨rfl, rfl⟩))
    go_ret2
    exact ⟨rfl, rfl⟩

set_option maxHeartbeats 400000 in
theorem xverdict_any {w : World} {mb db sb : Nat} {sn tk vd : Int} {rs : ByteArray} (m : Mx w mb db sb sn tk vd rs) :
    Calls Tryz.prog 11 #[mptr mb] w fun e w' => e = .returned (.int .i64 vd) ∧ w = w' := by
  have c4 := m.c4
  clear m
  go_enter Tryz.func11, Tryz.ntmps11
  go_wp2
  go_ret
  exact ⟨rfl, rfl⟩
set_option maxHeartbeats 400000 in
theorem xverdict_nil (w : World) :
    Calls Tryz.prog 11 #[.pointer none] w fun e w' => e = .returned (.int .i64 2) ∧ w = w' := by
  go_enter Tryz.func11, Tryz.ntmps11
  go_wp2
  go_ret
  exact ⟨rfl, rfl⟩
set_option maxHeartbeats 400000 in
theorem xreason_any {w : World} {mb db sb : Nat} {sn tk vd : Int} {rs : ByteArray} (m : Mx w mb db sb sn tk vd rs) :
    Calls Tryz.prog 12 #[mptr mb] w fun e w' => e = .returned (.string rs) ∧ w = w' := by
  have c5 := m.c5
  clear m
  go_enter Tryz.func12, Tryz.ntmps12
  go_wp2
  go_ret
  exact ⟨rfl, rfl⟩
set_option maxHeartbeats 400000 in
theorem xreason_nil (w : World) :
    Calls Tryz.prog 12 #[.pointer none] w fun e w' => e = .returned (.string ⟨#[110, 111, 110, 101]⟩) ∧ w = w' := by
  go_enter Tryz.func12, Tryz.ntmps12
  go_wp2
  go_ret
  exact ⟨rfl, rfl⟩
set_option maxHeartbeats 400000 in
theorem xat_any {w : World} {mb db sb : Nat} {sn tk vd : Int} {rs : ByteArray} (m : Mx w mb db sb sn tk vd rs) :
    Calls Tryz.prog 13 #[mptr mb] w fun e w' => e = .returned (.int .i64 (if vd == 0 then -1 else tk)) ∧ w = w' := by
  have c3 := m.c3
  have c4 := m.c4
  clear m
  cases h0 : (vd == 0)
  all_goals
    go_enter Tryz.func13, Tryz.ntmps13
    go_wp2
    go_ret
    exact ⟨rfl, rfl⟩
set_option maxHeartbeats 400000 in
theorem xat_nil (w : World) :
    Calls Tryz.prog 13 #[.pointer none] w fun e w' => e = .returned (.int .i64 (-1)) ∧ w = w' := by
  go_enter Tryz.func13, Tryz.ntmps13
  go_wp2
  go_ret
  exact ⟨rfl, rfl⟩
set_option maxHeartbeats 400000 in
theorem xseen_any {w : World} {mb db sb : Nat} {sn tk vd : Int} {rs : ByteArray} (m : Mx w mb db sb sn tk vd rs) :
    Calls Tryz.prog 14 #[mptr mb] w fun e w' => e = .returned (.int .i64 sn) ∧ w = w' := by
  have c2 := m.c2
  clear m
  go_enter Tryz.func14, Tryz.ntmps14
  go_wp2
  go_ret
  exact ⟨rfl, rfl⟩
set_option maxHeartbeats 400000 in
theorem xseen_nil (w : World) :
    Calls Tryz.prog 14 #[.pointer none] w fun e w' => e = .returned (.int .i64 0) ∧ w = w' := by
  go_enter Tryz.func14, Tryz.ntmps14
  go_wp2
  go_ret
  exact ⟨rfl, rfl⟩
set_option maxHeartbeats 400000 in
theorem xfeed_nil (s : ByteArray) (w : World) :
    Calls Tryz.prog 10 #[.pointer none, .string s] w fun e w' => e = .returned (.int .i64 2) ∧ w = w' := by
  go_enter Tryz.func10, Tryz.ntmps10
  go_wp2
  go_ret
  exact ⟨rfl, rfl⟩
set_option maxHeartbeats 400000 in
theorem xend_nil (w : World) :
    Calls Tryz.prog 15 #[.pointer none] w fun e w' => e = .returned (.int .i64 2) ∧ w = w' := by
  go_enter Tryz.func15, Tryz.ntmps15
  go_wp2
  go_ret
  exact ⟨rfl, rfl⟩
end Go.Proofs.YtbojbkpplejdmaaGreat
namespace Go.Proofs.YtbojbkpplejdmaaGreat
open Go.RowKit

theorem Mx.mv {w w' : World} {mb db sb : Nat} {sn tk vd : Int} {rs : ByteArray} (m : Mx w mb db sb sn tk vd rs) {r : List Nat} (h : Mv w.heap.size r w w') (hr : mb ∉ r) : Mx w' mb db sb sn tk vd rs := Blk.mv m h (Blk.lt m) hr
theorem MacBH.block {w : World} {mb D : Nat} {sn : Int} {l : List UInt8} (h : MacBH w mb D sn l) : mb < w.heap.size := by
  obtain ⟨pl, h', r, g1, _⟩ := h.told
  exact Blk.lt g1.mac
/-- Three blocks. -/
def Apart (mb db sb : Nat) : Prop := mb ≠ db ∧ mb ≠ sb ∧ db ≠ sb
theorem mv_into {w w' : World} {r R : List Nat} (h : Mv w.heap.size r w w') (hr : ∀ x ∈ r, x ∈ R) : Mv w.heap.size R w w' := h.mono (Nat.le_refl _) (fun x hx => Or.inl (hr x hx))
theorem mv_then {w w1 w2 : World} {r R : List Nat} (h1 : Mv w.heap.size R w w1) (h2 : Mv w1.heap.size r w1 w2) (hr : ∀ x ∈ r, x ∈ R) : Mv w.heap.size R w w2 := h1.trans (h2.mono h1.size (fun x hx => Or.inl (hr x hx)))
theorem mv_put {w w' : World} {mb : Nat} {R : List Nat} (h : Mv w.heap.size R w w') (hm : mb ∈ R) (o : Nat) (x : Value) : Mv w.heap.size R w (w'.setCell ⟨mb, o, none⟩ x) := h.setCell (p := ⟨mb, o, none⟩) (Or.inl hm) x
theorem TwoX.put {w : World} {db sb D mb : Nat} {T : ByteArray} (t : TwoX w db sb D T) (ha : Apart mb db sb) (o : Nat) (x : Value) : TwoX (w.setCell ⟨mb, o, none⟩ x) db sb D T :=
  t.same (Below.heap_setCell w ⟨mb, o, none⟩ x db (fun e => ha.1 e.symm)) (Below.heap_setCell w ⟨mb, o, none⟩ x sb (fun e => ha.2.1 e.symm))

set_option maxHeartbeats 4000000 in
set_option maxRecDepth 10000 in
theorem xtake_any {w : World} {mb db sb D : Nat} {sn : Int} {T : ByteArray} (x : ByteArray) (m : Mx w mb db sb sn (T.size : Nat) 0 ⟨#[]⟩) (t : TwoX w db sb D T) (ha : Apart mb db sb) (hx : x.size = 1) (hz : T.size + 1 ≤ 1152921504606846976) :
    Calls Tryz.prog 22 #[mptr mb, .string x] w fun e w' => e = .returned (.tuple #[]) ∧ Mv w.heap.size [mb, db, sb] w w' ∧ Mx w' mb db sb sn ((T.size : Int) + 1) (vdO (vrdB D (T ++ x).data.toList)) (rsO (vrdB D (T ++ x).data.toList)) ∧ TwoX w' db sb D (T ++ x) := by
  have c0 := m.c0
  have hT62 : T.size ≤ 4611686018427387904 := by omega
  have hdb := t.js.block
  have hsb := t.hs.block
  obtain ⟨a1, a2, a3⟩ := id ha
  have HF := Lib.hid (feed_any x t.js (by omega))
  have HK : ∀ w1, Mv w.heap.size [db] w w1 → MacB w1 db D ((T ++ x).size : Nat) (T ++ x).data.toList → Hid (Mx w1 mb db sb sn (T.size : Nat) 0 ⟨#[]⟩) ∧ Hid (Calls Tryz.prog 28 #[mptr sb, .string x] w1 fun e w2 => e = .returned (.int .i64 (staH (tolH D (T ++ x)))) ∧ Hid (Mx w2 mb db sb sn (T.size : Nat) 0 ⟨#[]⟩) ∧ Hid (TwoX w2 db sb D (T ++ x)) ∧ Hid (Mv w.heap.size [mb, db, sb] w w2)) := fun w1 h1 h2 => by
    have m1 := m.mv h1 (by simpa using a1)
    have s1 := t.hs.same (h1.block sb hsb (by simpa using a3.symm))
    refine ⟨Lib.hid m1, Lib.hid ?_⟩
    refine (hfeed_any x s1 (by omega)).mono ?_
    rintro e w2 ⟨rfl, h3, h4⟩
    refine ⟨rfl, Lib.hid (m1.mv h3 (by simpa using a2)), Lib.hid ⟨h2.same (h3.block db (Nat.lt_of_lt_of_le hdb h1.size) (by simpa using a3)), h4⟩, Lib.hid ?_⟩
    exact mv_then (mv_into h1 (by simp)) h3 (by simp)
  have HK2 := Lib.hid HK
  have HBH : ∀ w2, Mx w2 mb db sb sn (T.size : Nat) 0 ⟨#[]⟩ → TwoX w2 db sb D (T ++ x) → Hid (Calls Tryz.prog 29 #[mptr mb] (w2.setCell ⟨mb, 3, none⟩ (.int .i64 ((T.size : Int) + 1))) fun e w' => e = .returned (.tuple #[.int .i64 (vdO (vrdB D (T ++ x).data.toList)), .string (rsO (vrdB D (T ++ x).data.toList))]) ∧ w2.setCell ⟨mb, 3, none⟩ (.int .i64 ((T.size : Int) + 1)) = w') := fun w2 m2 t2 =>
    Lib.hid (xbehind_any (m2.s3 _) (t2.put ha _ _))
  have HB2 := Lib.hid HBH
  have HA := Lib.hid ha
  clear m t HK HBH ha
  generalize vdO (vrdB D (T ++ x).data.toList) = vd at *
  generalize rsO (vrdB D (T ++ x).data.toList) = rs at *
  go_enter Tryz.func22, Tryz.ntmps22
  go_wp2_with (first
    | (go_at_call 27; (with_reducible refine HF.out.mono ?_); rintro e w1 ⟨rfl, h1, h2⟩; obtain ⟨M1, HS⟩ := HK2.out w1 h1 h2; clear h1 h2; have c1 := M1.out.c1)
    | (go_at_call 28; (with_reducible refine HS.out.mono ?_); rintro e w2 ⟨rfl, M2, T2, V2⟩; have HBW := HB2.out w2 M2.out T2.out; have d0 := M2.out.c0; have d3 := M2.out.c3; have d4 := M2.out.c4; have d5 := M2.out.c5; have z3 := M2.out.fr 3; have z4 := M2.out.fr 4; have z5 := M2.out.fr 5)
    | (go_at_call 29; (with_reducible refine HBW.out.mono ?_); rintro e w3 ⟨rfl, rfl⟩))
  go_end0
  exact ⟨rfl, mv_put (mv_put (mv_put V2.out (by simp) _ _) (by simp) _ _) (by simp) _ _, ((M2.out.s3 _).s4 _).s5 _, ((T2.out.put HA.out _ _).put HA.out _ _).put HA.out _ _⟩

set_option maxHeartbeats 1000000 in
theorem xnew_bad (n : Int) (w : World) (h : n < 0 ∨ 200 < n) :
    Calls Tryz.prog 9 #[.int .i64 n] w fun e w' => e = .returned (.tuple #[.pointer none, .int .i64 1]) ∧ w = w' := by
  have hc : decide (n < 0) = true ∨ (decide (n < 0) = false ∧ decide ((200 : Int) < n) = true) := by
    rw [decide_eq_true_iff, decide_eq_false_iff_not, decide_eq_true_iff]
    omega
  clear h
  rcases hc with h0 | ⟨h0, h1⟩
  all_goals
    go_enter Tryz.func9, Tryz.ntmps9
    go_wp2
    go_ret2
    exact ⟨rfl, rfl⟩
theorem Tryz.zeroMxl (w : World) : (zeroValue 50).run Tryz.prog w = .ok (.agg #[.pointer none, .pointer none, .int .i64 0, .int .i64 0, .int .i64 0, .string ⟨#[]⟩]) w := by kernel_rfl
/-- A machine to which nothing came. -/
def FreshX (w w' : World) (D : Nat) (v : Value) : Prop := ∃ mb db sb : Nat, v = mptr mb ∧ Apart mb db sb ∧ w.heap.size ≤ mb ∧ w.heap.size ≤ db ∧ w.heap.size ≤ sb ∧ Below w.heap.size w w' ∧ Mx w' mb db sb 0 0 0 ⟨#[]⟩ ∧ TwoX w' db sb D ⟨#[]⟩
set_option maxHeartbeats 1000000 in
theorem xnew_ok (n : Nat) (w : World) (h : n ≤ 200) :
    Calls Tryz.prog 9 #[.int .i64 (n : Nat)] w fun e w' => ∃ v, e = .returned (.tuple #[v, .int .i64 0]) ∧ FreshX w w' n v := by
  have h0 : decide (((n : Nat) : Int) < 0) = false := by rw [decide_eq_false_iff_not]; omega
  have h1 : decide ((200 : Int) < ((n : Nat) : Int)) = false := by rw [decide_eq_false_iff_not]; omega
  have hz := Tryz.zeroMxl
  have HJ := Lib.hid (new_ok n w h)
  have HH := Lib.hid (fun W => hnew_ok n W h)
  clear h
  go_enter Tryz.func9, Tryz.ntmps9
  go_wp2_with (first
    | (go_at_call 20; (with_reducible refine HJ.out.mono ?_); rintro e w1 ⟨rfl, hb, hm⟩; have B1 := Lib.hid hb; have M1 := Lib.hid hm; clear hb hm)
    | (go_at_call 21; (with_reducible refine (HH.out _).mono ?_); rintro e w2 ⟨rfl, hb, hm⟩; have B2 := Lib.hid hb; have M2 := Lib.hid hm; clear hb hm))
  go_ret2
  have k1 := M1.out.block
  have k2 := M2.out.block
  have k3 := B1.out.size
  have k4 := B2.out.size
  refine ⟨_, rfl, w2.heap.size, w.heap.size, w1.heap.size, rfl, ⟨by omega, by omega, by omega⟩, by omega, by omega, by omega, ?_, ?_, ?_⟩
  · exact (below_on B1.out B2.out).alloc (by omega) _
  · exact Blk.new _ _ _
  · exact ⟨(M1.out.same (B2.out.block _ k1)).same (Below.heap_alloc _ _ _ (by omega)), M2.out.same (Below.heap_alloc _ _ _ k2)⟩

theorem vdV_ne (c : Nat) : (vdV c == 0) = false := by
  match c with
  | 0 => rfl
  | 1 => rfl
  | 2 => rfl
  | 3 => rfl
  | 4 => rfl
  | 5 => rfl
  | n + 6 => rfl
set_option maxHeartbeats 1000000 in
theorem xstop_told {w : World} {mb db sb c : Nat} {sn tk : Int} (m : Mx w mb db sb sn tk (vdV c) (rsV c)) :
    Calls Tryz.prog 15 #[mptr mb] w fun e w' => e = .returned (.int .i64 (vdV c)) ∧ w = w' := by
  have c4 := m.c4
  have t0 := vdV_ne c
  clear m
  generalize vdV c = v at *
  go_enter Tryz.func15, Tryz.ntmps15
  go_wp2
  go_ret
  exact ⟨rfl, rfl⟩
set_option maxHeartbeats 1000000 in
theorem xstop_wait {w : World} {mb db sb D : Nat} {sn : Int} {T : ByteArray} (m : Mx w mb db sb sn (T.size : Nat) 0 ⟨#[]⟩) (t : TwoX w db sb D T) :
    Calls Tryz.prog 15 #[mptr mb] w fun e w' => e = .returned (.int .i64 (vdV (endV D T))) ∧ Mv w.heap.size [mb] w w' ∧ Mx w' mb db sb sn (T.size : Nat) (vdV (endV D T)) (rsV (endV D T)) := by
  have c4 := m.c4
  have c5 := m.c5
  have z4 := m.fr 4
  have z5 := m.fr 5
  have HE := Lib.hid (xend_any m t)
  have M := Lib.hid m
  clear m t
  generalize vdV (endV D T) = v at *
  generalize rsV (endV D T) = r at *
  go_enter Tryz.func15, Tryz.ntmps15
  go_wp2_with (go_at_call 23; (with_reducible refine HE.out.mono ?_); rintro e w1 ⟨rfl, rfl⟩)
  go_ret
  exact ⟨rfl, ((mv0 w mb).put1 _ _).put1 _ _, (M.out.s4 v).s5 r⟩
end Go.Proofs.YtbojbkpplejdmaaGreat
