/-
  How many bytes a frame has: what package mp3 answers. No condition.
-/
import Derived.Test.YtmjkolkmpnadpaaPd
import Derived.Test.YtmjkolkmpnadpaaCls
import Derived.Test.YtmjkolkmpnadpaaIg
namespace Go.Proofs.Ytmjkolkmpnadpaa
open Go.RowKit

/-- A frame's cells. -/
abbrev frmC5 (f : Frm) : Array Value := #[.int .i64 f.ver, .int .i64 f.lay, .int .i64 f.rate, .int .i64 f.freq, .bool f.pad]
/-- A world that came of w, in which a frame lies in block g. -/
def FrmAt (w : World) (g : Nat) (f : Frm) (W : World) : Prop := Below w.heap.size w W ∧ Blk W g 24 (frmC5 f)
theorem FrmAt.drew {w W : World} {g : Nat} {f : Frm} (h : FrmAt w g f W) : FrmAt w g f W.drew := ⟨h.1.drew, h.2⟩
theorem FrmAt.step {w W W' : World} {g : Nat} {f : Frm} (h : FrmAt w g f W) (hb : Below W.heap.size W W') : FrmAt w g f W' := ⟨h.1.trans (hb.mono h.1.size), h.2.below hb h.2.lt⟩
theorem FrmAt.next {w : World} {g : Nat} {f : Frm} {x : Wld (FrmAt w g f)} {W' : World} (hb : Below x.val.heap.size x.val W') : FrmAt w g f W' := x.ok.step hb
theorem FrmAt.same {w : World} {g : Nat} {f : Frm} {x : Wld (FrmAt w g f)} {W' : World} (hb : x.val = W') : FrmAt w g f W' := hb ▸ x.ok
theorem FrmAt.new (w : World) (f : Frm) : FrmAt w w.heap.size f (w.alloc (.cells (frmC5 f) 24)) := ⟨(Below.refl w.heap.size w).alloc (Nat.le_refl _) _, Blk.new _ _ _⟩

theorem szF_parts {v l r q : Int} {p : Bool} (h : gdB ⟨v, l, r, q, p⟩ = true) : 0 ≤ r ∧ r ≤ 320000 ∧ 32000 ≤ q ∧ q ≤ 48000 ∧ 0 ≤ v ∧ v < 4 := by
  obtain ⟨a, b, _, c, d, e, f⟩ := gdB_all h
  exact ⟨c, d, e, f, a, b⟩

set_option maxHeartbeats 2000000 in
theorem size_parts (v l r q : Int) (p : Bool) (w : World) :
    Calls Try.prog 11 #[frmV ⟨v, l, r, q, p⟩] w fun e w' => e = .returned (.int .i64 (szF ⟨v, l, r, q, p⟩ : Nat)) ∧ Below w.heap.size w w' := by
  obtain ⟨d, hd⟩ : ∃ d : Nat, d = szF ⟨v, l, r, q, p⟩ := ⟨_, rfl⟩
  rw [← hd]
  have HD := Lib.hid hd
  clear hd
  have HG := Lib.hid (good_any ⟨v, l, r, q, p⟩)
  have HX := Lib.hid (FrmAt.new w ⟨v, l, r, q, p⟩)
  cases hg : gdB ⟨v, l, r, q, p⟩
  · rw [hg] at HG
    rw [szF_no hg] at HD
    clear hg
    go_enter Try.func11, Try.ntmps11
    go_wp2_with (go_at_call 10; (with_reducible refine (HG.out _).mono ?_); rintro e w1 ⟨rfl, hb⟩; have HX1 := Lib.hid (HX.out.step hb); clear hb)
    go_ret
    exact ⟨by rw [HD.out]; first | done | rfl, HX1.out.1⟩
  · obtain ⟨hr0, hr1, hq0, hq1, hv0, hv4⟩ := szF_parts hg
    have HL := Lib.hid (fun W => length_parts v l r q p W ⟨hv0, hv4⟩)
    rw [hg] at HG
    have HD2 := Lib.hid (HD.out.trans (szF_yes hg))
    clear hg HD
    obtain ⟨rn, rfl⟩ : ∃ n : Nat, r = n := ⟨r.toNat, by omega⟩
    obtain ⟨qn, rfl⟩ : ∃ n : Nat, q = n := ⟨q.toNat, by omega⟩
    have hlen : lenN v = 1152 ∨ lenN v = 576 := by unfold lenN; split <;> simp
    have hb1 : rn * (lenN v / 8) ≤ 46080000 := Nat.le_trans (Nat.mul_le_mul (by omega : rn ≤ 320000) (lenN_le v)) (by decide)
    simp only [Int.toNat_natCast] at HD2
    obtain ⟨m, hm, hm2⟩ : ∃ m : Nat, lenN v = 8 * m ∧ (m = 144 ∨ m = 72) := by
      rcases hlen with h | h
      · exact ⟨144, h, .inl rfl⟩
      · exact ⟨72, h, .inr rfl⟩
    rw [hm] at HL HD2 hb1
    rw [show 8 * m / 8 = m from by omega] at HD2 hb1
    clear hm hlen
    obtain ⟨k, hk⟩ : ∃ k, k = rn * m / qn := ⟨_, rfl⟩
    have hk1 : k ≤ 46080000 := by rw [hk]; exact Nat.le_trans (Nat.div_le_self _ _) hb1
    rw [← hk] at HD2
    have g1 : (rn : Int) * m ≤ 46080000 := by rw [← Int.natCast_mul]; omega
    have g0 : 0 ≤ (rn : Int) * m := by rw [← Int.natCast_mul]; omega
    have gd : ((rn : Int) * m).tdiv qn = k := by rw [← Int.natCast_mul, hk]; exact Int.ofNat_tdiv _ _
    have hm3 : m ≤ 144 := by omega
    clear hk hb1 hm2
    have f0 : ∀ x : Wld (FrmAt w w.heap.size ⟨v, l, rn, qn, p⟩), x.val.cell? ⟨w.heap.size, 0, none⟩ = some (.int .i64 v) := fun x => x.ok.2.cell 0
    have f1 : ∀ x : Wld (FrmAt w w.heap.size ⟨v, l, rn, qn, p⟩), x.val.cell? ⟨w.heap.size, 1, none⟩ = some (.int .i64 l) := fun x => x.ok.2.cell 1
    have f2 : ∀ x : Wld (FrmAt w w.heap.size ⟨v, l, rn, qn, p⟩), x.val.cell? ⟨w.heap.size, 2, none⟩ = some (.int .i64 rn) := fun x => x.ok.2.cell 2
    have f3 : ∀ x : Wld (FrmAt w w.heap.size ⟨v, l, rn, qn, p⟩), x.val.cell? ⟨w.heap.size, 3, none⟩ = some (.int .i64 qn) := fun x => x.ok.2.cell 3
    have f4 : ∀ x : Wld (FrmAt w w.heap.size ⟨v, l, rn, qn, p⟩), x.val.cell? ⟨w.heap.size, 4, none⟩ = some (.bool p) := fun x => x.ok.2.cell 4
    have inst : Nonempty (Wld (FrmAt w w.heap.size ⟨v, l, rn, qn, p⟩)) := ⟨⟨_, HX.out⟩⟩
    go_enter Try.func11, Try.ntmps11
    go_wp2_with (go_at_call 10; (with_reducible refine (HG.out _).mono ?_); rintro e w1 ⟨rfl, hb⟩; have HX1 := Lib.hid (HX.out.step hb); clear hb)
    refine wp_region_class (FrmAt w w.heap.size ⟨v, l, rn, qn, p⟩) (by kernel_rfl) (by kernel_rfl) HX1.out.drew ?_
    repeat (go_big_quiet_step ((go_at_call 28; exact Calls.cls (HL.out _) fun _ h => FrmAt.next h)))
    refine wpQuiet_nil ?_
    intro w2 h2
    have HX2 := Lib.hid h2
    clear h2 f0 f1 f2 f3 f4 inst
    have e4 := HX2.out.2.cell 4
    cases p
    · have HD3 : Hid (d = k) := Lib.hid HD2.out
      go_wp2
      go_ret
      exact ⟨by rw [HD3.out]; first | done | rfl, HX2.out.1⟩
    · have HD3 : Hid (d = k + 1) := Lib.hid HD2.out
      go_wp2
      go_ret
      exact ⟨by rw [HD3.out]; first | done | rfl, HX2.out.1⟩
theorem size_any (f : Frm) (w : World) :
    Calls Try.prog 11 #[frmV f] w fun e w' => e = .returned (.int .i64 (szF f : Nat)) ∧ Below w.heap.size w w' := size_parts _ _ _ _ _ w

end Go.Proofs.Ytmjkolkmpnadpaa
