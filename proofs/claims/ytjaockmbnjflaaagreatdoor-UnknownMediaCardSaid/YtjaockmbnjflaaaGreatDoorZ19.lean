/-
  What package mp4's Is and Brands answer, and what eachBrand hands to a function value. Condition: the text takes at most 2^47 - 4096 bytes.
  What Few and lives of layer 6's statements answer. Condition: texts are as long as a length can be.
  The law MaskFirst returns true for any text and patterns. Conditions: texts are as long as a length can be; what the slice's reading gives.
-/
import Derived.Test.YtjaockmbnjflaaaGreatDoorZ18
import Derived.Test.YtjaockmbnjflaaaGreatDoorZ8
import Derived.Test.YtjaockmbnjflaaaGreatDoorZ9
import Derived.OwnWalk
import Derived.Laws.OwnMore
import Derived.Outline
import Derived.Test.YtjaockmbnjflaaaGreatDoorZ7
import Derived.Test.YtjaockmbnjflaaaGreatDoorZ5
import Derived.Test.YtjaockmbnjflaaaGreatDoorZ13
import Derived.StillTailTactics
import Derived.Laws.AppendOwn
namespace Go.Proofs.YtjaockmbnjflaaaGreatDoor
open Go.RowKit

/-- What is handed to a function value that keeps J while it is so, and leaves Jx where it is not. -/
theorem eachBrand_any (g : FuncId) (p : Addr) (s : ByteArray) (w : World) (hs : s.size ≤ 140737488351232) (J Jx : Nat → World → Prop)
    (hJ : ∀ k W W', J k W → Below W.heap.size W W' → J k W')
    (hen : ∀ (x : ByteArray) (w : World), (callFunc g #[.string x, .pointer (some p)]).run Tryz.prog w = .ok (.enter g #[.string x, .pointer (some p)]) w)
    (hf : ∀ k W, k < namN s → J k W → Calls Tryz.prog g #[.string (namT s k), .pointer (some p)] W fun e W' => (e = .returned (.bool true) ∧ J (k + 1) W') ∨ (e = .returned (.bool false) ∧ Jx (k + 1) W'))
    (h0 : J 0 w) :
    Calls Tryz.prog 65 #[.string s, .func (.func g) #[] #[.pointer (some p)]] w fun e w' => e = .returned (.tuple #[]) ∧ (J (namN s) w' ∨ ∃ k, k ≤ namN s ∧ Jx k w') := by
  have HH := Lib.hid (fun W => mp4Head_any s W (by omega))
  have HJ := Lib.hid hJ
  have HF := Lib.hid hf
  have H0 := Lib.hid h0
  clear hJ hf h0
  cases hh : filmH s
  · have HN := Lib.hid (namN_none hh)
    rw [hh] at HH
    clear hh
    go_enter Tryz.func65, Tryz.ntmps65
    go_wp2_with (go_at_call 88; refine (HH.out _).mono ?_; rintro e w1 ⟨rfl, hb⟩)
    refine bodyPost_ret (results_none rfl _ _ _) rfl ?_
    exact ⟨rfl, .inl (by rw [HN.out]; exact HJ.out _ _ _ H0.out hb)⟩
  · have hn1 := namN_some hh
    have hsz := (filmH_all hh).1
    have hfs := (filmH_all hh).2.1
    have HM := Lib.hid (fun j (hj : 1 ≤ j) => namN_more hh hj)
    have HS := Lib.hid (fun W => mp4Size_any s W (by omega))
    rw [show sizN s = fourB s 0 from if_pos (by omega)] at HS
    have HT0 : Hid (namT s 0 = s.extract 8 12) := rfl
    have HP := Lib.hid (fun j (hj : j < namN s) => namP_end hj)
    rw [hh] at HH
    have HF0 := Lib.hid (fun W (h : J 0 W) => HF.out 0 W hn1 h)
    rw [HT0.out] at HF0
    clear hh HT0
    generalize fourB s 0 = n at *
    go_enter Tryz.func65, Tryz.ntmps65
    go_wp2_with (go_at_call 88; refine (HH.out _).mono ?_; rintro e w1 ⟨rfl, hb⟩; have HJ1 := Lib.hid (HJ.out _ _ _ H0.out hb); clear hb)
    refine (HF0.out _ HJ1.out).mono ?_
    rintro e w2 (⟨rfl, h2⟩ | ⟨rfl, h2⟩)
    · have HJ2 := Lib.hid h2
      clear h2
      go_wp2_with (go_at_call 89; refine (HS.out _).mono ?_; rintro e w3 ⟨rfl, hb⟩; have HJ3 := Lib.hid (HJ.out _ _ _ HJ2.out hb); clear hb)
      go_loopw [6] (fun i wr => ∃ k : Nat, 1 ≤ k ∧ k ≤ namN s ∧ i = .int .i64 ((12 + 4 * k : Nat) : Int) ∧ J k wr) (fun i _ => n + 16 - (intOf i).toNat)
      case atStart => exact ⟨1, by omega, hn1, rfl, HJ3.out⟩
      case round =>
        obtain ⟨k, hk1, hk, rfl, hj⟩ := hrel
        have HK := Lib.hid hj
        clear hj
        by_cases hlt : k < namN s
        · have hkn := (HM.out k hk1).1 hlt
          have hpe := HP.out k hlt
          have hpk : namP k = 12 + 4 * k := by unfold namP; rw [if_neg (by omega)]
          have HFK := Lib.hid (fun W (h : J k W) => HF.out k W hlt h)
          have HTK : Hid (namT s k = s.extract (12 + 4 * k) (12 + 4 * k + 4)) := by unfold namT; rw [hpk]; exact rfl
          rw [hpk] at hpe
          rw [HTK.out] at HFK
          clear hpk HTK
          obtain ⟨m, hm⟩ : ∃ m, m = 12 + 4 * k := ⟨_, rfl⟩
          have HMM := Lib.hid hm
          rw [← hm] at hkn hpe HFK ⊢
          have hm1 : m ≤ 140737488351232 := by omega
          clear hm
          go_wp2_with fail
          refine (HFK.out _ HK.out).mono ?_
          rintro e w4 (⟨rfl, h4⟩ | ⟨rfl, h4⟩)
          · have HJ4 := Lib.hid h4
            clear h4
            go_wp2
            go_roundw
            case rel => exact ⟨k + 1, by omega, by omega, by have := HMM.out; go_num, HJ4.out⟩
            case measure => simp [intOf]; omega
          · go_wp2
            refine bodyPost_ret (results_none rfl _ _ _) rfl ?_
            exact ⟨rfl, .inr ⟨_, hlt, h4⟩⟩
        · obtain rfl : k = namN s := by omega
          have hkn : ¬(12 + 4 * namN s < n) := fun h => hlt ((HM.out _ hk1).2 h)
          obtain ⟨m, hm⟩ : ∃ m, m = 12 + 4 * namN s := ⟨_, rfl⟩
          rw [← hm] at hkn ⊢
          clear hm
          go_wp2
          go_end0
          exact ⟨rfl, .inl HK.out⟩
    · go_wp2
      refine bodyPost_ret (results_none rfl _ _ _) rfl ?_
      exact ⟨rfl, .inr ⟨_, hn1, h2⟩⟩

end Go.Proofs.YtjaockmbnjflaaaGreatDoor
namespace Go.Proofs.YtjaockmbnjflaaaGreatDoor
open Go.RowKit

theorem PatsIn.one (w : World) (p : Pat) : PatsIn (w.alloc (.cells #[.string p.b, .string p.m, .string p.k, .string p.t] 38)) w.heap.size (fun _ => p) 1 := by
  have h := Blk.new w 38 #[.string p.b, .string p.m, .string p.k, .string p.t]
  refine ⟨by simp, fun i hi => ?_⟩
  obtain rfl : i = 0 := by omega
  exact ⟨h.cell 0, h.cell 1, h.cell 2, h.cell 3⟩

end Go.Proofs.YtjaockmbnjflaaaGreatDoor
namespace Go.Proofs.YtjaockmbnjflaaaGreatDoor
open Go.RowKit

theorem own_below {w w' : World} {base : Nat} {e : TypeId} {size n : Nat} {v : Value} {xs : List Value} (h : w.ownsRow base e size v n xs) (hb : Below w.heap.size w w') : w'.ownsRow base e size v n xs := by
  refine ⟨h.1, ?_⟩
  rcases h.2 with h2 | ⟨g, cap, cur, e1, e2, e3, e4⟩
  · exact .inl h2
  · exact .inr ⟨g, cap, cur, e1, e2, (hb.block g (h.lt g (by rw [e1]; rfl)).2).trans e3, e4⟩

/-- The cells of the first k of some patterns. -/
def patL (ps : Nat → Pat) : Nat → List Value
  | 0 => []
  | k + 1 => patL ps k ++ [.string (ps k).b, .string (ps k).m, .string (ps k).k, .string (ps k).t]
theorem patL_len (ps : Nat → Pat) : ∀ k, (patL ps k).length = k * 4
  | 0 => rfl
  | k + 1 => by rw [patL, List.length_append, patL_len ps k]; simp; omega
theorem patL_at (ps : Nat → Pat) : ∀ (k i : Nat), i < k → (patL ps k)[i * 4]? = some (.string (ps i).b) ∧ (patL ps k)[i * 4 + 1]? = some (.string (ps i).m) ∧ (patL ps k)[i * 4 + 2]? = some (.string (ps i).k) ∧ (patL ps k)[i * 4 + 3]? = some (.string (ps i).t)
  | 0, i, h => absurd h (by omega)
  | k + 1, i, h => by
    have hl := patL_len ps k
    rw [patL]
    by_cases e : i = k
    · subst e
      refine ⟨?_, ?_, ?_, ?_⟩ <;> (rw [List.getElem?_append_right (by omega), hl]; simp [Nat.add_sub_cancel_left])
    · have := patL_at ps k i (by omega)
      refine ⟨?_, ?_, ?_, ?_⟩ <;> rw [List.getElem?_append_left (by omega)]
      · exact this.1
      · exact this.2.1
      · exact this.2.2.1
      · exact this.2.2.2
theorem PatsIn.own {w : World} {base g k cap : Nat} {ps : Nat → Pat} (h : w.ownsRow base 38 4 (.slice (some ⟨g, 0, none⟩) k cap) k (patL ps k)) : PatsIn w g ps k :=
  ⟨(h.lt g rfl).2, fun i hi => by
    have := patL_at ps k i hi
    exact ⟨(h.cellAt _ (by omega)).trans this.1, (h.cellAt _ (by omega)).trans this.2.1, (h.cellAt _ (by omega)).trans this.2.2.1, (h.cellAt _ (by omega)).trans this.2.2.2⟩⟩
theorem Tryz.infoPat : (Tryz.prog.info? 38).map (fun i => (i.zero, i.size, i.bytes)) = some (some (.agg #[.string ⟨#[]⟩, .string ⟨#[]⟩, .string ⟨#[]⟩, .string ⟨#[]⟩]), 4, 64) := by kernel_rfl

end Go.Proofs.YtjaockmbnjflaaaGreatDoor
