/-
  What Clean, isBad and isNamed of package header answer, and the document's Fine. Conditions: a name is as long as a length can be, a value has less than 4294967281 bytes.
  What read of package header answers of a line. Condition: the line is shorter than a mebibyte, and not empty.
  Slices of headers that came in, and pieces of them. No condition.
-/
import Derived.Test.YtjikahflbhgniaaZ8
import Derived.Test.YtjikahflbhgniaaZ11
import Derived.Test.YtjikahflbhgniaaZ6
import Derived.Test.YtjikahflbhgniaaZ5
import Derived.Test.YtjikahflbhgniaaZ4
import Derived.Test.YtjikahflbhgniaaZ3
import Derived.Deep.RegionHeld3
import Derived.Deep.RegionWith
import Derived.Test.YtjikahflbhgniaaZ9
namespace Go.Proofs.Ytjikahflbhgniaa
open Go.RowKit

abbrev hdrV (p : Prm) : Value := .agg #[.string p.n, .string p.v]

/-- A world behind w in which a header lies in the block behind w's. -/
def HdAt (w : World) (cs : Array Value) (W : World) : Prop := Below w.heap.size w W ∧ Blk W w.heap.size 53 cs
theorem HdAt.drew {w W : World} {cs : Array Value} (h : HdAt w cs W) : HdAt w cs W.drew := ⟨h.1.drew, h.2⟩
theorem HdAt.next {w : World} {cs : Array Value} {x : Wld (HdAt w cs)} {W' : World} (hb : Below x.val.heap.size x.val W') : HdAt w cs W' := ⟨x.ok.1.trans (hb.mono x.ok.1.size), x.ok.2.below hb x.ok.2.lt⟩
theorem HdAt.same {w : World} {cs : Array Value} {x : Wld (HdAt w cs)} {W' : World} (h : x.val = W') : HdAt w cs W' := h ▸ x.ok
theorem HdAt.new (w : World) (cs : Array Value) : HdAt w cs (w.alloc (.cells cs 53)) := ⟨(Below.refl _ _).alloc (Nat.le_refl _) _, Blk.new _ _ _⟩

theorem eqL_comm (a b : ByteArray) : (a.toList == b.toList) = (b.toList == a.toList) := by
  rw [Bool.eq_iff_iff, beq_iff_eq, beq_iff_eq]
  exact eq_comm

set_option maxHeartbeats 400000 in
theorem clean_any (s : ByteArray) (w : World) (hs : s.size ≤ 9223372036854775807) :
    Calls Try.prog 21 #[.string s] w fun e w' => e = .returned (.string (trimP whiB s)) ∧ w = w' := by
  have HT := Lib.hid (fun W => trim_any s W hs)
  generalize trimP whiB s = t at *
  go_enter Try.func21, Try.ntmps21
  go_wp2_with (go_at_call 43; (with_reducible refine (HT.out _).mono ?_); rintro e w1 ⟨rfl, rfl⟩)
  go_ret
  exact ⟨rfl, rfl⟩

set_option maxHeartbeats 2000000 in
set_option maxRecDepth 100000 in
theorem isBad_any (n v : ByteArray) (w : World) (hn : n.size ≤ 9223372036854775807) (hv : v.size < 4294967281) :
    Calls Try.prog 33 #[.agg #[.string n, .string v]] w fun e w' => e = .returned (.bool (!hdrB ⟨n, v⟩)) ∧ Below w.heap.size w w' := by
  have HA := Lib.hid (fun W => all_Tok n W hn)
  have HC := Lib.hid (fun W => clean_any v W (by omega))
  have HX := Lib.hid (show ∀ W, Calls Try.prog 56 #[.string v, .string ⟨#[0, 10, 13]⟩] W fun e w' => e = .returned (.bool (ctlS v)) ∧ Below W.heap.size W w' from fun W => containsAny_any v W hv)
  have HV : Hid (hdrB ⟨n, v⟩ = (!(n.toList == [] || !allB tokB n) && ((v.toList == (trimP whiB v).toList) && (!ctlS v && decide (v.size ≤ 8192))))) := Lib.hid (by
    unfold hdrB needB eqS
    rw [eqL_comm (trimP whiB v)])
  obtain ⟨b, hb⟩ : ∃ b, b = hdrB ⟨n, v⟩ := ⟨_, rfl⟩
  rw [← hb] at HV ⊢
  have hd : decide ((8192 : Int) < (v.size : Int)) = !decide (v.size ≤ 8192) := by
    rw [Bool.eq_iff_iff]; simp; omega
  generalize trimP whiB v = t at *
  clear hb
  have HD0 := Lib.hid (HdAt.new w #[.string n, .string v])
  obtain ⟨w0, hw0⟩ : ∃ w0, w0 = w.alloc (.cells #[.string n, .string v] 53) := ⟨_, rfl⟩
  rw [← hw0] at HD0
  have c0 := HD0.out.2.cell 0
  have f1 : ∀ x : Wld (HdAt w #[.string n, .string v]), x.val.cell? ⟨w.heap.size, 1, none⟩ = some (.string v) := fun x => x.ok.2.cell 1
  have inst : Nonempty (Wld (HdAt w #[.string n, .string v])) := ⟨⟨_, HD0.out⟩⟩
  cases h0 : (n.toList == [])
  · cases h1 : allB tokB n
    · rw [h0, h1] at HV
      rw [h1] at HA
      clear h1
      go_enter Try.func33, Try.ntmps33
      go_wp2_with fail
      rw [← hw0]
      clear hw0
      go_wp2_with (go_at_call 54; (with_reducible refine (HA.out _).mono ?_); rintro e w1 ⟨rfl, b1⟩; have HB1 := Lib.hid (HD0.out.1.trans (b1.mono HD0.out.1.size)); clear b1)
      go_ret
      exact ⟨by rw [HV.out]; rfl, HB1.out⟩
    · rw [h0, h1] at HV
      rw [h1] at HA
      clear h1
      cases h2 : (v.toList == t.toList)
      · rw [h2] at HV
        have h2' : (v.toList != t.toList) = true := by rw [bne, h2]; rfl
        go_enter Try.func33, Try.ntmps33
        go_wp2_with fail
        rw [← hw0]
        clear hw0
        go_wp2_with (go_at_call 54; (with_reducible refine (HA.out _).mono ?_); rintro e w1 ⟨rfl, b1⟩; have HD1 := Lib.hid (show HdAt w #[.string n, .string v] w1 from ⟨HD0.out.1.trans (b1.mono HD0.out.1.size), HD0.out.2.below b1 HD0.out.2.lt⟩); clear b1)
        refine wp_region_class (HdAt w #[.string n, .string v]) (by kernel_rfl) (by kernel_rfl) HD1.out.drew ?_
        repeat (go_big_quiet_step ((go_at_call 21; exact Calls.cls (HC.out _) fun _ h => HdAt.same h)))
        refine wpQuiet_nil ?_
        intro w2 h2
        have HD2 := Lib.hid h2
        clear h2
        go_wp2
        go_ret
        exact ⟨by rw [HV.out]; rfl, HD2.out.1⟩
      · rw [h2] at HV
        cases h3 : ctlS v
        all_goals
          rw [h3] at HV HX
          clear h3
          have h2' : (v.toList != t.toList) = false := by rw [bne, h2]; rfl
          go_enter Try.func33, Try.ntmps33
          go_wp2_with fail
          rw [← hw0]
          clear hw0
          go_wp2_with (go_at_call 54; (with_reducible refine (HA.out _).mono ?_); rintro e w1 ⟨rfl, b1⟩; have HD1 := Lib.hid (show HdAt w #[.string n, .string v] w1 from ⟨HD0.out.1.trans (b1.mono HD0.out.1.size), HD0.out.2.below b1 HD0.out.2.lt⟩); clear b1)
          refine wp_region_class (HdAt w #[.string n, .string v]) (by kernel_rfl) (by kernel_rfl) HD1.out.drew ?_
          repeat (go_big_quiet_step (first | (go_at_call 21; exact Calls.cls (HC.out _) fun _ h => HdAt.same h) | (go_at_call 56; exact Calls.cls (HX.out _) fun _ h => HdAt.next h)))
          refine wpQuiet_nil ?_
          intro w2 h2
          have HD2 := Lib.hid h2
          have c1 := h2.2.cell 1
          clear h2
          go_wp2
          go_ret
          exact ⟨by rw [HV.out]; first | rfl | (simp [hd]; done), HD2.out.1⟩
  · rw [h0] at HV
    go_enter Try.func33, Try.ntmps33
    go_wp2_with fail
    rw [← hw0]
    clear hw0
    go_wp2
    go_ret
    exact ⟨by rw [HV.out]; rfl, HD0.out.1⟩

theorem ctlR_has (b : UInt8) : hasB ⟨#[0, 13, 10]⟩ b = ctlB b := by
  have := bytes_all (p := fun b => hasB ⟨#[0, 13, 10]⟩ b == ctlB b) (by kernel_rfl) b
  simpa using this

set_option maxHeartbeats 2000000 in
set_option maxRecDepth 100000 in
theorem fine_any (n v : ByteArray) (w : World) (hn : n.size ≤ 9223372036854775807) (hv : v.size ≤ 9223372036854775807) :
    Calls Try.prog 34 #[.agg #[.string n, .string v]] w fun e w' => e = .returned (.bool (hdrB ⟨n, v⟩)) ∧ Below w.heap.size w w' := by
  have HT := Lib.hid (fun W => rToken_any n W hn)
  have HC := Lib.hid (fun W => refTrim_any v W hv)
  have HH := Lib.hid (fun b W => show Calls Try.prog 57 #[.string ⟨#[0, 13, 10]⟩, .int .u8 (b.toNat : Int)] W fun e w' => e = .returned (.bool (ctlB b)) ∧ W = w' from by rw [← ctlR_has b]; exact has_any _ b W (by decide))
  have HV : Hid (hdrB ⟨n, v⟩ = (!needB n && (((trimP whiB v).toList == v.toList) && (!ctlS v && decide (v.size < 8193))))) := Lib.hid (by
    unfold hdrB eqS
    rw [show decide (v.size < 8193) = decide (v.size ≤ 8192) from by rw [decide_eq_decide]; omega])
  obtain ⟨b, hb⟩ : ∃ b, b = hdrB ⟨n, v⟩ := ⟨_, rfl⟩
  rw [← hb] at HV ⊢
  obtain ⟨z, hz⟩ : ∃ z, decide (v.size < 8193) = z := ⟨_, rfl⟩
  rw [hz] at HV
  generalize trimP whiB v = t at *
  generalize needB n = nb at *
  clear hb
  have HD0 := Lib.hid (HdAt.new w #[.string n, .string v])
  obtain ⟨w0, hw0⟩ : ∃ w0, w0 = w.alloc (.cells #[.string n, .string v] 53) := ⟨_, rfl⟩
  rw [← hw0] at HD0
  have c0 := HD0.out.2.cell 0
  have c1 := HD0.out.2.cell 1
  go_enter Try.func34, Try.ntmps34
  go_wp2_with fail
  rw [← hw0]
  clear hw0
  go_loop [3] (fun i => ∃ k : Nat, k ≤ v.size ∧ i = .int .i64 k ∧ Hid (∀ j (hj : j < v.size), j < k → ctlB (v[j]'hj) = false)) (fun i => v.size - (intOf i).toNat)
  case atStart => exact ⟨0, by omega, rfl, fun j _ h => absurd h (by omega)⟩
  case round =>
    obtain ⟨k, hk, rfl, HN⟩ := hrel
    by_cases hlt : k < v.size
    · obtain ⟨x, hx⟩ : ∃ x : UInt8, v[k]'hlt = x := ⟨_, rfl⟩
      have HX := Lib.hid hx
      have HHX := Lib.hid (fun W => HH.out x W)
      cases hc : ctlB x
      · rw [hc] at HHX
        have HN1 := Lib.hid (show ∀ j (hj : j < v.size), j < k + 1 → ctlB (v[j]'hj) = false from fun j hj h => by
          by_cases e : j = k
          · subst e; rw [HX.out]; exact hc
          · exact HN.out j hj (by omega))
        clear hc
        go_wp2_with (go_at_call 57; (with_reducible refine (HHX.out _).mono ?_); rintro e w1 ⟨rfl, rfl⟩)
        go_round
        case rel => exact ⟨k + 1, by omega, by go_num, HN1⟩
        case measure => simp [intOf]; omega
      · rw [hc] at HHX
        have HW := Lib.hid (ctlS_yes hlt (by rw [HX.out]; exact hc))
        clear hc
        go_wp2_with (go_at_call 57; (with_reducible refine (HHX.out _).mono ?_); rintro e w1 ⟨rfl, rfl⟩)
        go_ret
        exact ⟨by rw [HV.out, HW.out]; simp, HD0.out.1⟩
    · obtain rfl : k = v.size := by omega
      have HW := Lib.hid (ctlS_not fun j hj => HN.out j hj hj)
      rw [HW.out] at HV
      clear HW HN
      cases nb
      · cases h2 : (t.toList == v.toList)
        all_goals
          rw [h2] at HV
          go_wp2_with fail
          go_quiet ((first | (go_at_call 58; exact Calls.quiet_of_same ((HT.out _).mono fun _ _ h => ⟨h.1, h.2.symm⟩)) | (go_at_call 22; exact Calls.quiet_of_same ((HC.out _).mono fun _ _ h => ⟨h.1, h.2.symm⟩))))
          go_wp2
          go_ret
          exact ⟨by rw [HV.out]; first | rfl | (rw [← hz]; simp; done) | (rw [← hz]; simp; omega), Below.drewN' HD0.out.1 _⟩
      · go_wp2_with fail
        go_quiet ((first | (go_at_call 58; exact Calls.quiet_of_same ((HT.out _).mono fun _ _ h => ⟨h.1, h.2.symm⟩)) | (go_at_call 22; exact Calls.quiet_of_same ((HC.out _).mono fun _ _ h => ⟨h.1, h.2.symm⟩))))
        go_wp2
        go_ret
        exact ⟨by rw [HV.out]; simp, Below.drewN' HD0.out.1 _⟩

end Go.Proofs.Ytjikahflbhgniaa
namespace Go.Proofs.Ytjikahflbhgniaa
open Go.RowKit

theorem no58_not : no58 = notB 58 := by
  funext b
  rfl
theorem no10_not : no10 = notB 10 := by
  funext b
  rfl

/-- What a line is read as. -/
def ReadIs (t : ByteArray) (w : World) (e : Ending) (w' : World) : Prop := ∃ p ok, e = .returned (.tuple #[.agg #[.string p.n, .string p.v], .bool ok]) ∧ (ok = true → hdrO t = some (some p)) ∧ (ok = false → hdrO t = none) ∧ Below w.heap.size w w'

set_option maxHeartbeats 2000000 in
set_option maxRecDepth 100000 in
theorem read_no (t : ByteArray) (w : World) (ht : t.size ≤ 1048576) (hne : t.size ≠ 0) (hc : ¬ scan no58 t 0 < t.size) :
    Calls Try.prog 50 #[.string t] w (ReadIs t w) := by
  have HO := Lib.hid (hdrO_none hne (by have := scan_le no58 t 0 (by omega); omega))
  have HC := Lib.hid (fun W => cutAt_no 58 t W (by rw [← no58_not]; exact hc))
  have HT := Lib.hid (fun W => clean_any ⟨#[]⟩ W (by decide))
  obtain ⟨v, hv⟩ : ∃ v, v = trimP whiB ⟨#[]⟩ := ⟨_, rfl⟩
  rw [← hv] at HT
  clear hc hv
  have HB0 := Lib.hid (((Below.refl w.heap.size w).alloc (Nat.le_refl _) (.cells #[.string ⟨#[]⟩, .string ⟨#[]⟩] 53)))
  show Calls Try.prog 50 #[.string t] w fun e w' => ∃ p ok, e = .returned (.tuple #[.agg #[.string p.n, .string p.v], .bool ok]) ∧ (ok = true → hdrO t = some (some p)) ∧ (ok = false → hdrO t = none) ∧ Below w.heap.size w w'
  go_enter Try.func50, Try.ntmps50
  go_wp2_with (first
    | (go_at_call 68; (with_reducible refine (HC.out _).mono ?_); rintro x w1 ⟨rfl, q, rfl⟩)
    | (go_at_call 21; (with_reducible refine (HT.out _).mono ?_); rintro x w1 ⟨rfl, rfl⟩))
  go_region
  go_wp2
  have hb := ((((Blk.new w 53 #[.string ⟨#[]⟩, .string ⟨#[]⟩]).drewN q).set_ 0 (.string t)).set_ 1 (.string v)).alloc (.cells #[.string t, .string v] 53)
  have hB := (((Below.drewN' HB0.out q).setCell (p := ⟨w.heap.size, 0, none⟩) (Nat.le_refl _) (.string t)).setCell (p := ⟨w.heap.size, 1, none⟩) (Nat.le_refl _) (.string v)).alloc (by simp) (.cells #[.string t, .string v] 53)
  generalize ((((w.alloc (.cells #[.string ⟨#[]⟩, .string ⟨#[]⟩] 53)).drewN q).setCell ⟨w.heap.size, 0, none⟩ (.string t)).setCell ⟨w.heap.size, 1, none⟩ (.string v)).alloc (.cells #[.string t, .string v] 53) = W at *
  have d0 := hb.cell 0
  have d1 := hb.cell 1
  exact bodyPost_ret (v := .tuple #[.agg #[.string t, .string v], .bool false]) (by simp [results, Try.results50, go_sem, d0, d1]) rfl ⟨⟨t, v⟩, false, rfl, (fun h => by cases h), (fun _ => HO.out), hB.drew⟩

set_option maxHeartbeats 4000000 in
set_option maxRecDepth 100000 in
theorem read_yes (t : ByteArray) (w : World) (c : Nat) (ht : t.size ≤ 1048576) (hne : t.size ≠ 0) (hc : scan no58 t 0 = c) (hlt : c < t.size) :
    Calls Try.prog 50 #[.string t] w (ReadIs t w) := by
  have HC := Lib.hid (fun W => cutAt_yes 58 t c W (by omega) (by rw [← no58_not]; exact hc) hlt)
  obtain ⟨n, hn⟩ : ∃ n, t.extract 0 c = n := ⟨_, rfl⟩
  obtain ⟨u, hu⟩ : ∃ u, t.extract (c + 1) t.size = u := ⟨_, rfl⟩
  have hns : n.size ≤ t.size := by rw [← hn]; simp; omega
  have hus : u.size ≤ t.size := by rw [← hu]; simp
  have HT := Lib.hid (fun W => clean_any u W (by omega))
  have hvs := trimP_size whiB u
  obtain ⟨v, hv⟩ : ∃ v, trimP whiB u = v := ⟨_, rfl⟩
  have HY := Lib.hid (fun h => hdrO_good (x := n) (y := v) hne hc (by omega) hn (by rw [hu]; exact hv) h)
  have HN := Lib.hid (fun h => hdrO_bad (x := n) (y := v) hne hc (by omega) hn (by rw [hu]; exact hv) h)
  rw [hn, hu] at HC
  rw [hv] at HT hvs
  have HBD := Lib.hid (fun W => isBad_any n v W (by omega) (by omega))
  obtain ⟨b, hb⟩ : ∃ b, hdrB ⟨n, v⟩ = b := ⟨_, rfl⟩
  rw [hb] at HY HN HBD
  clear hc hn hu hv hb
  have HB0 := Lib.hid (((Below.refl w.heap.size w).alloc (Nat.le_refl _) (.cells #[.string ⟨#[]⟩, .string ⟨#[]⟩] 53)))
  show Calls Try.prog 50 #[.string t] w fun e w' => ∃ p ok, e = .returned (.tuple #[.agg #[.string p.n, .string p.v], .bool ok]) ∧ (ok = true → hdrO t = some (some p)) ∧ (ok = false → hdrO t = none) ∧ Below w.heap.size w w'
  go_enter Try.func50, Try.ntmps50
  go_wp2_with (first
    | (go_at_call 68; (with_reducible refine (HC.out _).mono ?_); rintro x w1 ⟨rfl, q, rfl⟩)
    | (go_at_call 21; (with_reducible refine (HT.out _).mono ?_); rintro x w1 ⟨rfl, rfl⟩))
  have hR := ((Blk.new w 53 #[.string ⟨#[]⟩, .string ⟨#[]⟩]).drewN q).alloc (.cells #[.string n, .string v] 53)
  have hX := Blk.new ((w.alloc (.cells #[.string ⟨#[]⟩, .string ⟨#[]⟩] 53)).drewN q) 53 #[.string n, .string v]
  have hB := (Below.drewN' HB0.out q).alloc (by simp) (.cells #[.string n, .string v] 53)
  rw [show ((w.alloc (.cells #[.string ⟨#[]⟩, .string ⟨#[]⟩] 53)).drewN q).heap.size = w.heap.size + 1 from by simp [World.drewN]] at hX
  have HR := Lib.hid hR
  have HX := Lib.hid hX
  have HB := Lib.hid hB
  clear hR hX hB
  generalize ((w.alloc (.cells #[.string ⟨#[]⟩, .string ⟨#[]⟩] 53)).drewN q).alloc (.cells #[.string n, .string v] 53) = W at *
  have x0 := HX.out.cell 0
  have x1 := HX.out.cell 1
  have r0 := HR.out.cell 0
  have r1 := HR.out.cell 1
  have y0 := HR.out.frozen 0
  have y1 := HR.out.frozen 1
  go_region_held3 (fun w' => w'.cell? ⟨w.heap.size + 1, 0, none⟩ = some (.string n) ∧ w'.cell? ⟨w.heap.size + 1, 1, none⟩ = some (.string v))
    (first | go_keep | exact ⟨HX3.out.cell 0, HX3.out.cell 1⟩)
    (first
      | (go_at_call 33; (with_reducible refine (HBD.out _).mono ?_); rintro x w3 ⟨rfl, b3⟩
         have HX3 := Lib.hid (Blk.below (w := _) (by exact HX.out) b3 (by exact HX.out.lt))
         have HR3 := Lib.hid (Blk.below (w := _) (by exact HR.out) b3 (by exact HR.out.lt))
         have HB3 := Lib.hid (below_on (w := _) (by first | exact HB.out | exact HB.out.drew) b3)
         have r0 := HR3.out.cell 0
         have r1 := HR3.out.cell 1
         have y0 := HR3.out.frozen 0
         have y1 := HR3.out.frozen 1
         clear b3))
  go_wp2
  have hb := (HR3.out.set_ 0 (.string n)).set_ 1 (.string v)
  have hB := (HB3.out.setCell (p := ⟨w.heap.size, 0, none⟩) (Nat.le_refl _) (.string n)).setCell (p := ⟨w.heap.size, 1, none⟩) (Nat.le_refl _) (.string v)
  generalize (w3.setCell ⟨w.heap.size, 0, none⟩ (.string n)).setCell ⟨w.heap.size, 1, none⟩ (.string v) = W4 at *
  have d0 := hb.cell 0
  have d1 := hb.cell 1
  exact bodyPost_ret (v := .tuple #[.agg #[.string n, .string v], .bool b]) (by simp [results, Try.results50, go_sem, d0, d1]) rfl ⟨⟨n, v⟩, b, rfl, HY.out, HN.out, hB⟩

theorem read_any (t : ByteArray) (w : World) (ht : t.size ≤ 1048576) (hne : t.size ≠ 0) : Calls Try.prog 50 #[.string t] w (ReadIs t w) := by
  by_cases h : scan no58 t 0 < t.size
  · exact read_yes t w _ ht hne rfl h
  · exact read_no t w ht hne h

end Go.Proofs.Ytjikahflbhgniaa
namespace Go.Proofs.Ytjikahflbhgniaa
open Go.RowKit

/-- The list that a slice holds. -/
def lstP (lp : Nat → Prm) (n : Nat) : List Prm := (List.range n).map lp
theorem lstP_len (lp : Nat → Prm) (n : Nat) : (lstP lp n).length = n := by simp [lstP]
theorem lstP_at (lp : Nat → Prm) {n i : Nat} (h : i < (lstP lp n).length) : (lstP lp n)[i] = lp i := by simp [lstP]
theorem lstP_take (lp : Nat → Prm) {n k : Nat} (h : k ≤ n) : (lstP lp n).take k = lstP lp k := by
  unfold lstP
  rw [← List.map_take, List.take_range, Nat.min_eq_left h]
theorem lstP_drop (lp : Nat → Prm) (n k : Nat) : (lstP lp n).drop k = lstP (fun i => lp (k + i)) (n - k) := by
  apply List.ext_getElem
  · rw [List.length_drop, lstP_len, lstP_len]
  · intro i h1 h2
    rw [List.getElem_drop, lstP_at, lstP_at]
theorem lstP_get (l : List Prm) (d : Prm) : lstP (fun i => l.getD i d) l.length = l := by
  apply List.ext_getElem
  · rw [lstP_len]
  · intro i h1 h2
    rw [lstP_at, List.getD_eq_getElem?_getD, List.getElem?_eq_getElem h2]
    rfl
theorem add_add22 (a : Addr) (i j : Nat) : (a.add i).add j = a.add (i + j) := by
  unfold Addr.add
  by_cases hi : i = 0
  · subst hi; simp
  · by_cases hj : j = 0
    · subst hj; simp [hi]
    · rw [if_neg hi, if_neg hj, if_neg (by omega)]
      simp [Nat.add_assoc]
theorem came_head {w : World} {A : Option Addr} {n k : Nat} {lp : Nat → Prm} (h : Came w A n lp) (hk : k ≤ n) : Came w A k lp := fun i hi => h i (by omega)
theorem came_tail {w : World} {a : Addr} {n k : Nat} {lp : Nat → Prm} (h : Came w (some a) n lp) : Came w (some (a.add (k * 2))) (n - k) (fun i => lp (k + i)) := fun i hi => by
  obtain ⟨a', e, hl, h0, h1, h2⟩ := h (k + i) (by omega)
  cases e
  refine ⟨_, rfl, by rw [madd_block]; exact hl, ?_, ?_, h2⟩
  · rw [add_add22, show k * 2 + i * 2 = (k + i) * 2 by omega]; exact h0
  · rw [add_add22, show k * 2 + i * 2 = (k + i) * 2 by omega]; exact h1

end Go.Proofs.Ytjikahflbhgniaa
