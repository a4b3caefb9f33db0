/-
  What the document's Good, Same and Serial of layer 10 answer of types. Conditions: texts are as long as a mebibyte, and parameters as many.
-/
import Derived.Test.YtmepnfkgfbbkiaaMr
import Derived.Test.YtmepnfkgfbbkiaaMh
namespace Go.Proofs.Ytmepnfkgfbbkiaa
open Go.RowKit

/-- The worlds in which a type lies in the block that came first. -/
def MimAt (w : World) (cs : Array Value) (W : World) : Prop := Below w.heap.size w W ∧ Blk W w.heap.size 24 cs
theorem MimAt.drew {w W : World} {cs : Array Value} (h : MimAt w cs W) : MimAt w cs W.drew := ⟨h.1.drew, h.2⟩
theorem MimAt.step {w W W' : World} {cs : Array Value} (h : MimAt w cs W) (hb : Below W.heap.size W W') : MimAt w cs W' := ⟨below_on h.1 hb, h.2.below hb h.2.lt⟩
theorem MimAt.next {w : World} {cs : Array Value} {x : Wld (MimAt w cs)} {W' : World} (hb : Below x.val.heap.size x.val W') : MimAt w cs W' := x.ok.step hb
theorem MimAt.same {w : World} {cs : Array Value} {x : Wld (MimAt w cs)} {W' : World} (hb : x.val = W') : MimAt w cs W' := hb ▸ x.ok

set_option maxHeartbeats 2000000 in
set_option maxRecDepth 100000 in
theorem rgood_any (t u : ByteArray) (A : Option Addr) (ps : List Prm) (c : Nat) (w : World) (h : MimIn w t u A ps) :
    Calls Try.prog 15 #[mimV t u A ps.length c] w fun e w' => e = .returned (.bool (goodM t u ps)) ∧ Below w.heap.size w w' := by
  have HN1 := Lib.hid (fun W => rsmall_any t W h.t)
  have HN2 := Lib.hid (fun W => rsmall_any u W h.u)
  have hn := h.n
  obtain ⟨w0, hw0⟩ : ∃ w0, w0 = w.alloc (.cells #[.string t, .string u, .slice A ps.length c] 24) := ⟨_, rfl⟩
  have HX0 := Lib.hid (show MimAt w #[.string t, .string u, .slice A ps.length c] w0 from ⟨by rw [hw0]; exact (Below.refl w.heap.size w).alloc (Nat.le_refl _) _, by rw [hw0]; exact Blk.new _ _ _⟩)
  have HS := Lib.hid h
  obtain ⟨R, hR⟩ : ∃ R, R = goodM t u ps := ⟨_, rfl⟩
  rw [← hR]
  have HR := Lib.hid hR
  obtain ⟨G, hG⟩ : ∃ G, G = goodL [] ps := ⟨_, rfl⟩
  have HG := Lib.hid hG
  clear hR hG
  go_enter Try.func15, Try.ntmps15
  go_wp2_with fail
  rw [← hw0]
  clear hw0
  go_loopw [3] (fun i wr => ∃ k : Nat, k ≤ ps.length ∧ i = .int .i64 k ∧ goodL (ps.take k) (ps.drop k) = G ∧ MimAt w #[.string t, .string u, .slice A ps.length c] wr) (fun i _ => ps.length - (intOf i).toNat)
  case atStart => exact ⟨0, Nat.zero_le _, rfl, HG.out.symm, HX0.out⟩
  case round =>
    obtain ⟨k, hk, rfl, hgo, hx⟩ := hrel
    have HX := Lib.hid hx
    have c2 := HX.out.2.cell 2
    clear hx HX0
    by_cases hlt : k < ps.length
    · obtain ⟨g, rfl, hg1, hc0, hc1⟩ := HS.out.lie k hlt
      rw [goodL_step hlt] at hgo
      have hal := HS.out.all.at_ hlt
      have inst : Nonempty (Wld (MimAt w #[.string t, .string u, .slice (some ⟨g, 0, none⟩) ps.length c])) := ⟨⟨_, HX.out⟩⟩
      have f0 : ∀ x : Wld (MimAt w #[.string t, .string u, .slice (some ⟨g, 0, none⟩) ps.length c]), x.val.cell? ⟨w.heap.size, 0, none⟩ = some (.string t) := fun x => x.ok.2.cell 0
      have f1 : ∀ x : Wld (MimAt w #[.string t, .string u, .slice (some ⟨g, 0, none⟩) ps.length c]), x.val.cell? ⟨w.heap.size, 1, none⟩ = some (.string u) := fun x => x.ok.2.cell 1
      have f2 : ∀ x : Wld (MimAt w #[.string t, .string u, .slice (some ⟨g, 0, none⟩) ps.length c]), x.val.cell? ⟨w.heap.size, 2, none⟩ = some (.slice (some ⟨g, 0, none⟩) ps.length c) := fun x => x.ok.2.cell 2
      have g0 : ∀ x : Wld (MimAt w #[.string t, .string u, .slice (some ⟨g, 0, none⟩) ps.length c]), x.val.cell? ⟨g, k * 2, none⟩ = some (.string ps[k].n) := fun x => (x.ok.1.cell (p := ⟨g, k * 2, none⟩) hg1).trans hc0
      have g1 : ∀ x : Wld (MimAt w #[.string t, .string u, .slice (some ⟨g, 0, none⟩) ps.length c]), x.val.cell? ⟨g, k * 2 + 1, none⟩ = some (.string ps[k].v) := fun x => (x.ok.1.cell (p := ⟨g, k * 2 + 1, none⟩) hg1).trans hc1
      have HNA := Lib.hid (fun W => rsmall_any ps[k].n W hal.1)
      have HVA := Lib.hid (fun W => rQuoted_any ps[k].v W (by omega))
      have HAA := Lib.hid (fun (x : Wld (MimAt w #[.string t, .string u, .slice (some ⟨g, 0, none⟩) ps.length c])) => rAt_any t u (some ⟨g, 0, none⟩) ps c ps[k].n x.val (HS.out.lie.below x.ok.1) hn)
      have hself := atN_self hlt
      have hpr : prmB ps[k] = (nameB ps[k].n && allB quoB ps[k].v) := rfl
      rw [hpr] at hgo
      clear hc0 hc1 hpr
      obtain ⟨r, hr⟩ : ∃ r, r = atI ps ps[k].n := ⟨_, rfl⟩
      rw [← hr] at HAA hself
      clear hr
      generalize seenB (ps.take k) ps[k].n = sn at *
      generalize ps[k] = q at *
      obtain ⟨qn, qv⟩ := q
      simp only at HNA HVA HAA g0 g1 hgo hal
      cases h1 : nameB qn
      · rw [h1] at HNA hgo
        simp only [Bool.false_and] at hgo
        have HF := Lib.hid (show R = false from by rw [HR.out]; unfold goodM; rw [← HG.out, ← hgo]; simp)
        clear hgo hself h1 HVA HAA
        go_wp2_with fail
        refine wp_region_class (MimAt w #[.string t, .string u, .slice (some ⟨g, 0, none⟩) ps.length c]) (by kernel_rfl) (by kernel_rfl) HX.out.drew ?_
        repeat (go_big_quiet_step (first
          | (go_at_call 21; exact Calls.cls (HNA.out _) fun _ h => MimAt.next h)))
        refine wpQuiet_nil ?_
        intro w3 hX3
        have HX3 := Lib.hid hX3
        clear hX3
        go_wp2
        go_ret
        exact ⟨by rw [HF.out]; rfl, HX3.out.1⟩
      · rw [h1] at HNA hgo
        simp only [Bool.true_and] at hgo
        cases h2 : allB quoB qv
        · rw [h2] at HVA hgo
          simp only [Bool.false_and] at hgo
          have HF := Lib.hid (show R = false from by rw [HR.out]; unfold goodM; rw [← HG.out, ← hgo]; simp)
          clear hgo hself h1 h2 HAA
          go_wp2_with fail
          refine wp_region_class (MimAt w #[.string t, .string u, .slice (some ⟨g, 0, none⟩) ps.length c]) (by kernel_rfl) (by kernel_rfl) HX.out.drew ?_
          repeat (go_big_quiet_step (first
              | (go_at_call 21; exact Calls.cls (HNA.out _) fun _ h => MimAt.next h)
              | (go_at_call 22; exact Calls.cls (HVA.out _) fun _ h => MimAt.same h)))
          refine wpQuiet_nil ?_
          intro w3 hX3
          have HX3 := Lib.hid hX3
          clear hX3
          go_wp2
          go_ret
          exact ⟨by rw [HF.out]; rfl, HX3.out.1⟩
        · rw [h2] at HVA hgo
          simp only [Bool.true_and] at hgo
          cases h3 : sn
          · rw [h3] at hself hgo
            have d : (r != (k : Int)) = false := by rw [bne]; rw [hself]; rfl
            simp only [Bool.not_false, Bool.true_and] at hgo
            have HGG := Lib.hid hgo
            clear hgo hself h1 h2 h3
            go_wp2_with fail
            refine wp_region_class (MimAt w #[.string t, .string u, .slice (some ⟨g, 0, none⟩) ps.length c]) (by kernel_rfl) (by kernel_rfl) HX.out.drew ?_
            repeat (go_big_quiet_step (first
                | (go_at_call 21; exact Calls.cls (HNA.out _) fun _ h => MimAt.next h)
                | (go_at_call 22; exact Calls.cls (HVA.out _) fun _ h => MimAt.same h)
                | (go_at_call 14; exact Calls.cls (HAA.out _) fun _ h => MimAt.next h)))
            refine wpQuiet_nil ?_
            intro w3 hX3
            have HX3 := Lib.hid hX3
            clear hX3
            go_wp2
            go_roundw
            case rel => exact ⟨k + 1, by omega, by go_num, HGG.out, HX3.out⟩
            case measure => simp [intOf]; omega
          · rw [h3] at hself hgo
            have d : (r != (k : Int)) = true := by rw [bne]; rw [hself]; rfl
            simp only [Bool.not_true, Bool.false_and] at hgo
            have HF := Lib.hid (show R = false from by rw [HR.out]; unfold goodM; rw [← HG.out, ← hgo]; simp)
            clear hgo hself h1 h2 h3
            go_wp2_with fail
            refine wp_region_class (MimAt w #[.string t, .string u, .slice (some ⟨g, 0, none⟩) ps.length c]) (by kernel_rfl) (by kernel_rfl) HX.out.drew ?_
            repeat (go_big_quiet_step (first
                | (go_at_call 21; exact Calls.cls (HNA.out _) fun _ h => MimAt.next h)
                | (go_at_call 22; exact Calls.cls (HVA.out _) fun _ h => MimAt.same h)
                | (go_at_call 14; exact Calls.cls (HAA.out _) fun _ h => MimAt.next h)))
            refine wpQuiet_nil ?_
            intro w3 hX3
            have HX3 := Lib.hid hX3
            clear hX3
            go_wp2
            go_ret
            exact ⟨by rw [HF.out]; rfl, HX3.out.1⟩
    · obtain rfl : k = ps.length := by omega
      rw [goodL_all] at hgo
      have HF := Lib.hid (show R = (nameB t && nameB u) from by rw [HR.out]; unfold goodM; rw [← HG.out, ← hgo]; simp)
      have c0 := HX.out.2.cell 0
      have c1 := HX.out.2.cell 1
      clear hgo
      cases h1 : nameB t
      · rw [h1] at HN1 HF
        go_wp2_with (go_at_call 21; (with_reducible refine (HN1.out _).mono ?_); rintro e w5 ⟨rfl, hb5⟩; have HB5 := Lib.hid hb5; clear hb5)
        go_ret
        exact ⟨by rw [HF.out]; rfl, (HX.out.step HB5.out).1⟩
      · rw [h1] at HN1 HF
        cases h2 : nameB u
        all_goals
          rw [h2] at HN2 HF
          go_wp2_with fail
          refine (HN1.out _).mono ?_
          rintro e w5 ⟨rfl, hb5⟩
          have HX5 := Lib.hid (HX.out.step hb5)
          clear hb5 c0 c1 c2
          have c1 := HX5.out.2.cell 1
          go_wp2_with fail
          refine (HN2.out _).mono ?_
          rintro e w6 ⟨rfl, hb6⟩
          have HX6 := Lib.hid (HX5.out.step hb6)
          clear hb6 c1
          go_wp2
          go_ret
          exact ⟨by rw [HF.out]; rfl, HX6.out.1⟩

end Go.Proofs.Ytmepnfkgfbbkiaa
