/-
  What Needs of the document's own answers of a table of patterns. Conditions: the text is not longer than memory; the slice lies in a block of its own; the patterns are good.
-/
import Derived.Test.YtnidokhlhgkjcaaIe
import Derived.Test.YtnidokhlhgkjcaaCls
namespace Go.Proofs.Ytnidokhlhgkjcaa
open Go.RowKit

/-- A world behind w: what w had is as it was. -/
def Aft (w W : World) : Prop := Below w.heap.size w W
theorem Aft.drew {w W : World} (h : Aft w W) : Aft w W.drew := Below.drew h
theorem Aft.step {w W W' : World} (h : Aft w W) (hb : Below W.heap.size W W') : Aft w W' := Below.trans h (hb.mono h.size)
theorem Aft.next {w : World} {x : Wld (Aft w)} {W' : World} (hb : Below x.val.heap.size x.val W') : Aft w W' := x.ok.step hb

theorem good_size {b m : ByteArray} (h : goodP b m = true) : 0 < b.size ∧ b.size ≤ 64 ∧ m.size = b.size := by
  unfold goodP at h
  simp only [Bool.and_eq_true, decide_eq_true_eq] at h
  omega
theorem mat_parts {s : ByteArray} {p : Pat} (h : goodP p.b p.m = true) : matP s p = (fitB (restS s p.k) p.b p.m && decide (p.b.size ≤ (restS s p.k).size)) := by
  unfold matP matB
  rw [h, Bool.true_and, Bool.and_comm]
theorem opn_parts {s : ByteArray} {p : Pat} (h : goodP p.b p.m = true) : opnP s p = (fitB (restS s p.k) p.b p.m && !decide (p.b.size ≤ (restS s p.k).size)) := by
  unfold opnP opnB
  rw [h, Bool.true_and, Bool.and_comm]
  congr 1
  rw [Bool.eq_iff_iff]
  simp
theorem low_open {s : ByteArray} {ps : Nat → Pat} {k : Nat} (h : opnP s (ps k) = true) : lowN s ps (k + 1) = if lowN s ps k = 0 ∨ lackN s (ps k) < lowN s ps k then lackN s (ps k) else lowN s ps k := by
  rw [lowN]
  simp [h]
theorem low_shut {s : ByteArray} {ps : Nat → Pat} {k : Nat} (h : opnP s (ps k) = false) : lowN s ps (k + 1) = lowN s ps k := by
  rw [lowN]
  simp [h]
theorem lack_int {s : ByteArray} {p : Pat} (h : opnP s p = true) : (lackN s p : Int) = (p.b.size : Int) + (begN p.k s : Nat) - (s.size : Int) := by
  have h1 := opn_lack h
  have h2 := restS_size s p.k
  have h3 := begN_le p.k s
  unfold lackN at h1 ⊢
  omega

set_option maxHeartbeats 2000000 in
set_option maxRecDepth 100000 in
theorem rNeeds_any (g n c : Nat) (s : ByteArray) (ps : Nat → Pat) (r : Int) (w : World) (hp : PatsIn w g ps n) (hok : ∀ i, i < n → (ps i).ok) (hgd : ∀ i, i < n → goodP (ps i).b (ps i).m = true) (hs : s.size ≤ 140737488351232) (hn : n ≤ 9223372036854775807) (hr : IsFirst s ps n r) :
    Calls Try.prog 10 #[.string s, .slice (some ⟨g, 0, none⟩) n c] w fun e w' => e = .returned (.int .i64 (needN s ps n r : Nat)) ∧ Below w.heap.size w w' := by
  have HP := Lib.hid hp
  have HR := Lib.hid hr
  clear hp hr
  go_enter Try.func10, Try.ntmps10
  go_wp2
  go_loopw [5, 6] (fun l i wr => ∃ k : Nat, k ≤ n ∧ i = .int .i64 k ∧ l = .int .i64 (lowN s ps k : Nat) ∧ (∀ j, j < k → matP s (ps j) = false) ∧ Aft w wr) (fun _ i _ => n - (intOf i).toNat)
  case atStart => exact ⟨0, by omega, rfl, rfl, fun j h => absurd h (by omega), Below.refl _ _⟩
  case round =>
    obtain ⟨k, hk, rfl, rfl, hno, hw⟩ := hrel
    have HN := Lib.hid hno
    have HW := Lib.hid hw
    clear hno hw
    by_cases hlt : k < n
    · have hg := hgd k hlt
      obtain ⟨hb1, hb64, hms⟩ := good_size hg
      have hks := (hok k hlt).2.2
      have hs' : s.size ≤ 9223372036854775807 := by omega
      have hbs : (ps k).b.size ≤ 9223372036854775807 := by omega
      have HM := Lib.hid (mat_parts (s := s) hg)
      have HO := Lib.hid (opn_parts (s := s) hg)
      have HBG := Lib.hid (fun W => refBegins_any s (ps k).b (ps k).m (ps k).k (ps k).t W hs' hks)
      have hbl := begN_le (ps k).k s
      obtain ⟨c0, c1, c2, c3⟩ := (HP.out.below HW.out HP.out.1 (Nat.le_refl _)).2 k hlt
      have f0 : ∀ x : Wld (Aft w), x.val.cell? ⟨g, k * 4, none⟩ = some (.string (ps k).b) := fun x => ((HP.out.below x.ok HP.out.1 (Nat.le_refl _)).2 k hlt).1
      have f1 : ∀ x : Wld (Aft w), x.val.cell? ⟨g, k * 4 + 1, none⟩ = some (.string (ps k).m) := fun x => ((HP.out.below x.ok HP.out.1 (Nat.le_refl _)).2 k hlt).2.1
      have f2 : ∀ x : Wld (Aft w), x.val.cell? ⟨g, k * 4 + 2, none⟩ = some (.string (ps k).k) := fun x => ((HP.out.below x.ok HP.out.1 (Nat.le_refl _)).2 k hlt).2.2.1
      have f3 : ∀ x : Wld (Aft w), x.val.cell? ⟨g, k * 4 + 3, none⟩ = some (.string (ps k).t) := fun x => ((HP.out.below x.ok HP.out.1 (Nat.le_refl _)).2 k hlt).2.2.2
      have inst : Nonempty (Wld (Aft w)) := ⟨⟨_, HW.out⟩⟩
      cases hf : fitB (restS s (ps k).k) (ps k).b (ps k).m
      · have HI := Lib.hid (fun W => refIs_any s (ps k).b (ps k).m (ps k).k (ps k).t W hs' hbs hks hms _ _ hf rfl)
        have HM2 := Lib.hid (show matP s (ps k) = false from by rw [HM.out, hf]; rfl)
        have HL := Lib.hid (low_shut (show opnP s (ps k) = false from by rw [HO.out, hf]; rfl))
        clear hf hg HM HO
        go_wp2_with (go_at_call 25; refine (HI.out _).mono ?_; rintro e w1 ⟨rfl, b1⟩; have HW := Lib.hid (HW.out.step b1); clear b1)
        refine wp_region_class (Aft w) (by kernel_rfl) (by kernel_rfl) HW.out.drew ?_
        repeat (go_big_quiet_step ((go_at_call 26; exact Calls.cls (HBG.out _) fun _ h => Aft.next h)))
        refine wpQuiet_nil ?_
        intro w2 h2
        have HW := Lib.hid h2
        clear h2
        go_wp2
        go_roundw
        case rel => exact ⟨k + 1, by omega, by go_num, by rw [HL.out], fun j h => if e : j = k then by subst e; exact HM2.out else HN.out j (by omega), HW.out⟩
        case measure => simp [intOf]; omega
      · cases hd : decide ((ps k).b.size ≤ (restS s (ps k).k).size)
        · have HI := Lib.hid (fun W => refIs_any s (ps k).b (ps k).m (ps k).k (ps k).t W hs' hbs hks hms _ _ hf hd)
          have HM2 := Lib.hid (show matP s (ps k) = false from by rw [HM.out, hf, hd]; rfl)
          have ho : opnP s (ps k) = true := by rw [HO.out, hf, hd]; rfl
          have HL := Lib.hid (low_open ho)
          have hl := lack_int ho
          have HLI := Lib.hid hl
          clear hf hd hg HM HO ho
          obtain ⟨lo, hlo⟩ : ∃ lo, lo = lowN s ps k := ⟨_, rfl⟩
          obtain ⟨la, hla⟩ : ∃ la, la = lackN s (ps k) := ⟨_, rfl⟩
          rw [← hlo, ← hla] at HL
          rw [← hla] at hl HLI
          rw [← hlo]
          clear hlo hla
          by_cases h1 : lo = 0
          · subst h1
            have HL2 := Lib.hid (show lowN s ps (k + 1) = la from by rw [HL.out, if_pos (.inl rfl)])
            go_wp2_with (go_at_call 25; refine (HI.out _).mono ?_; rintro e w1 ⟨rfl, b1⟩; have HW := Lib.hid (HW.out.step b1); clear b1)
            refine wp_region_class (Aft w) (by kernel_rfl) (by kernel_rfl) HW.out.drew ?_
            repeat (go_big_quiet_step ((go_at_call 26; exact Calls.cls (HBG.out _) fun _ h => Aft.next h)))
            refine wpQuiet_nil ?_
            intro w2 h2
            have HW := Lib.hid h2
            clear h2
            go_wp2
            go_roundw
            case rel => exact ⟨k + 1, by omega, by go_num, by rw [HL2.out, HLI.out], fun j h => if e : j = k then by subst e; exact HM2.out else HN.out j (by omega), HW.out⟩
            case measure => simp [intOf]; omega
          · have d1 : ((lo : Int) == 0) = false := by rw [beq_eq_false_iff_ne]; omega
            by_cases h2 : la < lo
            · have HL2 := Lib.hid (show lowN s ps (k + 1) = la from by rw [HL.out, if_pos (.inr h2)])
              go_wp2_with (go_at_call 25; refine (HI.out _).mono ?_; rintro e w1 ⟨rfl, b1⟩; have HW := Lib.hid (HW.out.step b1); clear b1)
              refine wp_region_class (Aft w) (by kernel_rfl) (by kernel_rfl) HW.out.drew ?_
              repeat (go_big_quiet_step ((go_at_call 26; exact Calls.cls (HBG.out _) fun _ h => Aft.next h)))
              refine wpQuiet_nil ?_
              intro w2 h2
              have HW := Lib.hid h2
              clear h2
              go_wp2
              go_roundw
              case rel => exact ⟨k + 1, by omega, by go_num, by rw [HL2.out, HLI.out], fun j h => if e : j = k then by subst e; exact HM2.out else HN.out j (by omega), HW.out⟩
              case measure => simp [intOf]; omega
            · have HL2 := Lib.hid (show lowN s ps (k + 1) = lo from by rw [HL.out, if_neg (fun h => h.elim h1 h2)])
              go_wp2_with (go_at_call 25; refine (HI.out _).mono ?_; rintro e w1 ⟨rfl, b1⟩; have HW := Lib.hid (HW.out.step b1); clear b1)
              refine wp_region_class (Aft w) (by kernel_rfl) (by kernel_rfl) HW.out.drew ?_
              repeat (go_big_quiet_step ((go_at_call 26; exact Calls.cls (HBG.out _) fun _ h => Aft.next h)))
              refine wpQuiet_nil ?_
              intro w2 h2
              have HW := Lib.hid h2
              clear h2
              go_wp2
              go_roundw
              case rel => exact ⟨k + 1, by omega, by go_num, by rw [HL2.out], fun j h => if e : j = k then by subst e; exact HM2.out else HN.out j (by omega), HW.out⟩
              case measure => simp [intOf]; omega
        · have HI := Lib.hid (fun W => refIs_any s (ps k).b (ps k).m (ps k).k (ps k).t W hs' hbs hks hms _ _ hf hd)
          have HM2 := Lib.hid (show needN s ps n r = 0 from by
            have hm : matP s (ps k) = true := by rw [HM.out, hf, hd]; rfl
            unfold needN
            rw [HR.out.at_ hlt hm HN.out, if_pos (by omega)])
          clear hf hd hg HM HO
          go_wp2_with (go_at_call 25; refine (HI.out _).mono ?_; rintro e w1 ⟨rfl, b1⟩; have HW := Lib.hid (HW.out.step b1); clear b1)
          go_ret
          exact ⟨by rw [HM2.out]; rfl, HW.out⟩
    · obtain rfl : k = n := by omega
      have HE := Lib.hid (show needN s ps k r = lowN s ps k from by unfold needN; rw [HR.out.no HN.out]; rfl)
      go_wp2
      go_ret
      exact ⟨by rw [HE.out]; rfl, HW.out⟩

end Go.Proofs.Ytnidokhlhgkjcaa

