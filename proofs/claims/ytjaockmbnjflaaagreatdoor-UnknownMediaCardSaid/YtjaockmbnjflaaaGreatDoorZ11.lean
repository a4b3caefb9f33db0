/-
  What the document's skip, Html and Xml of layer 20 answer. Condition: the text is not longer than memory.
  What strings.Repeat of the library does at this translation: at least two copies of a text that is not empty.
  What exact and webp of package image answer. Condition: the text has at most 14 bytes.
-/
import Derived.Test.YtjaockmbnjflaaaGreatDoorZ10
import Derived.Test.YtjaockmbnjflaaaGreatDoorZ3
import Derived.Test.YtjaockmbnjflaaaGreatDoorZ7
import Derived.LoopTactic
import Derived.Shelf.Strings.Builder1
import Derived.Shelf.Strings.Builder2
import Derived.Shelf.Strings.BuilderF
import Derived.Shelf.Strings.Prefix
import Derived.Shelf.Bits.Mul64
import Derived.Shelf.Strings.Repeat
import Derived.Test.YtjaockmbnjflaaaGreatDoorRows
import Derived.WalkKit
import Derived.Test.YtjaockmbnjflaaaGreatDoorZ6
import Derived.BigQuiet
import Derived.Deep.QuietTactic
import Derived.OwnWalk
namespace Go.Proofs.YtjaockmbnjflaaaGreatDoor
open Go.RowKit

theorem tail_next (s : ByteArray) {k : Nat} (h : k < s.size) : (s.extract k s.size).extract 1 (s.extract k s.size).size = s.extract (k + 1) s.size := by
  have hz : (s.extract k s.size).size = s.size - k := by simp
  rw [hz, ByteArray.extract_extract]
  congr 1
  omega
theorem tail_first (s : ByteArray) {k : Nat} (h : k < s.size) (h2 : 0 < (s.extract k s.size).size) : (s.extract k s.size)[0]'h2 = s[k] := by
  simp [ByteArray.getElem_extract]

set_option maxHeartbeats 1000000 in
theorem rskip_any (s : ByteArray) (w : World) (hs : s.size ≤ 140737488351232) :
    Calls Tryz.prog 39 #[.string s] w fun e w' => e = .returned (.string (restS s blk5)) ∧ w = w' := by
  obtain ⟨v, hv⟩ : ∃ v, v = restS s blk5 := ⟨_, rfl⟩
  rw [← hv]
  have HV := Lib.hid hv
  clear hv
  go_enter Tryz.func39, Tryz.ntmps39
  go_wp2
  go_loop [0] (fun i => ∃ (k : Nat) (x : ByteArray), k ≤ s.size ∧ i = .string x ∧ x = s.extract k s.size ∧ ∀ j (hj : j < s.size), j < k → hasB blk5 s[j] = true) (fun i => (match i with | .string x => x.size | _ => 0))
  case atStart => exact ⟨0, s, by omega, rfl, ByteArray.extract_zero_size.symm, fun j _ h => absurd h (by omega)⟩
  case round =>
    obtain ⟨k, x, hk, rfl, hx, hno⟩ := hrel
    have HN := Lib.hid hno
    have HX := Lib.hid hx
    have hz : x.size = s.size - k := by rw [hx]; simp
    clear hno
    by_cases hlt : k < s.size
    · have h0 : 0 < x.size := by omega
      have HF : Hid (x[0]'h0 = s[k]) := Lib.hid (by subst hx; exact tail_first s hlt h0)
      have HT : Hid (x.extract 1 x.size = s.extract (k + 1) s.size) := Lib.hid (by subst hx; exact tail_next s hlt)
      have HC := Lib.hid (fun W => has_any ⟨#[9, 10, 12, 13, 32]⟩ (x[0]'h0) W (by decide))
      clear hx hz
      cases hh : hasB ⟨#[9, 10, 12, 13, 32]⟩ (x[0]'h0)
      · have HR : Hid (v = x) := Lib.hid (by
          rw [HV.out]
          have e : begN blk5 s = k := begN_at HN.out hlt (by rw [← HF.out]; exact hh)
          unfold restS
          rw [e, HX.out])
        rw [hh] at HC
        clear hh
        go_wp2_with (go_at_call 63; (with_reducible refine (HC.out _).mono ?_); rintro e w1 ⟨rfl, rfl⟩)
        go_ret
        exact ⟨by rw [HR.out]; first | done | rfl, rfl⟩
      · have HH := Lib.hid hh
        rw [hh] at HC
        clear hh
        go_wp2_with (go_at_call 63; (with_reducible refine (HC.out _).mono ?_); rintro e w1 ⟨rfl, rfl⟩)
        go_round
        case rel => exact ⟨k + 1, _, by omega, rfl, HT.out, fun j hj h => if e : j = k then by subst e; rw [← HF.out]; exact HH.out else HN.out j hj (by omega)⟩
        case measure => simp; omega
    · have h0 : x.size = 0 := by omega
      have HR : Hid (v = x) := Lib.hid (by
        rw [HV.out]
        have e : begN blk5 s = s.size := begN_all fun j hj => HN.out j hj (by omega)
        have e2 : k = s.size := by omega
        unfold restS
        rw [e, HX.out, e2])
      have d0 : decide (0 < x.size) = false := by rw [h0]; rfl
      clear hx hz
      go_wp2
      go_ret
      exact ⟨by rw [HR.out]; first | done | rfl, rfl⟩

set_option maxHeartbeats 400000 in
theorem rxml_any (s : ByteArray) (w : World) (hs : s.size ≤ 140737488351232) :
    Calls Tryz.prog 14 #[.string s] w fun e w' => e = .returned (.bool (xmlB s)) ∧ w = w' := by
  have hz := rest_size s blk5
  have HR := Lib.hid (fun W => rskip_any s W hs)
  have HP := Lib.hid (fun W => prefix_any (restS s blk5) xmlS W (by omega) (by decide))
  have HV : Hid (xmlB s = prefB (restS s blk5) xmlS) := Lib.hid rfl
  generalize xmlB s = v at *
  generalize restS s blk5 = u at *
  generalize prefB u xmlS = o at *
  go_enter Tryz.func14, Tryz.ntmps14
  go_wp2_with (first
    | (go_at_call 39; (with_reducible refine (HR.out _).mono ?_); rintro e w1 ⟨rfl, rfl⟩)
    | (go_at_call 29; (with_reducible refine (HP.out _).mono ?_); rintro e w1 ⟨rfl, rfl⟩))
  go_ret
  exact ⟨by rw [HV.out]; first | done | rfl, rfl⟩

/-- The worlds in which the tags lie in block g, and nothing that was there has turned. -/
def TgsAt (w : World) (g : Nat) (W : World) : Prop := Below w.heap.size w W ∧ TagsIn W g
section
variable {w W W' : World} {g : Nat}
theorem TgsAt.drew (x : TgsAt w g W) : TgsAt w g W.drew := ⟨x.1.drew, x.2⟩
theorem TgsAt.step (x : TgsAt w g W) (hb : Below W.heap.size W W') : TgsAt w g W' := ⟨x.1.trans (hb.mono x.1.size), x.2.below hb⟩
theorem TgsAt.next {x : Wld (TgsAt w g)} (hb : Below x.val.heap.size x.val W') : TgsAt w g W' := x.ok.step hb
end

theorem low_lt (t : ByteArray) : lowS (ltS t) = ⟨#[60]⟩ ++ lowS t := by
  apply ByteArray.ext
  show ((ltS t).data.map lowB) = (⟨#[60]⟩ ++ lowS t : ByteArray).data
  unfold ltS
  rw [ByteArray.data_append, ByteArray.data_append, Array.map_append]
  exact congrArg (fun z => z ++ t.data.map lowB) (show (⟨#[60]⟩ : ByteArray).data.map lowB = (⟨#[60]⟩ : ByteArray).data from by kernel_rfl)

set_option maxHeartbeats 4000000 in
set_option maxRecDepth 100000 in
theorem rhtml_any (s : ByteArray) (w : World) (hs : s.size ≤ 140737488351232) :
    Calls Tryz.prog 12 #[.string s] w fun e w' => e = .returned (.bool (htmB s)) ∧ Below w.heap.size w w' := by
  have hz := rest_size s blk5
  have HR := Lib.hid (fun W => rskip_any s W hs)
  have HV : Hid (htmB s = (prefB (restS s blk5) comS || tagsL.any (tagU (restS s blk5)))) := Lib.hid rfl
  have HP := Lib.hid (fun W => prefix_any (restS s blk5) comS W (by omega) (by decide))
  generalize htmB s = v at *
  generalize restS s blk5 = u at *
  have hu : u.size ≤ 140737488351232 := by omega
  clear hz hs
  have HB := Lib.hid (Below.refl w.heap.size w)
  cases hp : prefB u comS
  · rw [hp, Bool.false_or] at HV
    rw [hp] at HP
    clear hp
    go_enter Tryz.func12, Tryz.ntmps12
    go_wp2_with (first
      | (go_at_call 39; (with_reducible refine (HR.out _).mono ?_); rintro e w1 ⟨rfl, rfl⟩)
      | (go_at_call 29; (with_reducible refine (HP.out _).mono ?_); rintro e w1 ⟨rfl, rfl⟩)
      | (go_at_call 20; refine (rtags_any _).mono ?_; rintro e w1 ⟨g, rfl, hg, ht, b1⟩; have HB := Lib.hid (HB.out.trans (b1.mono HB.out.size)); have HG := Lib.hid ht; clear b1 ht hg))
    go_loopw [4] (fun i wr => ∃ k : Nat, k ≤ 16 ∧ i = .int .i64 k ∧ (tagsL.take k).any (tagU u) = false ∧ TgsAt w g wr) (fun i _ => 16 - (intOf i).toNat)
    case atStart => exact ⟨0, by omega, rfl, rfl, HB.out, HG.out⟩
    case round =>
      obtain ⟨k, hk, rfl, hno, hg⟩ := hrel
      have HN := Lib.hid hno
      have HX := Lib.hid hg
      clear hno hg
      by_cases hlt : k < 16
      · have c0 := HX.out.2.2 k hlt
        have inst : Nonempty (Wld (TgsAt w g)) := ⟨⟨_, HX.out⟩⟩
        have f0 : ∀ x : Wld (TgsAt w g), x.val.cell? ⟨g, k, none⟩ = some (.string (tagsL[k]'hlt)) := fun x => x.ok.2.2 k hlt
        obtain ⟨t, ht⟩ : ∃ t, t = tagsL[k]'hlt := ⟨_, rfl⟩
        have h13 : t.size ≤ 13 := by rw [ht]; exact tags_few _ (List.getElem_mem _)
        have HNY : Hid (tagU u t = false → (tagsL.take (k + 1)).any (tagU u) = false) := Lib.hid (fun h => any_none u hlt HN.out (by rw [← ht]; exact h))
        have HYY : Hid (tagU u t = true → tagsL.any (tagU u) = true) := Lib.hid (fun h => any_one u hlt (by rw [← ht]; exact h))
        obtain ⟨n, hn⟩ : ∃ n, n = t.size + 1 := ⟨_, rfl⟩
        have hni : (t.size : Int) + 1 = (n : Int) := by omega
        have HL1 := Lib.hid (fun W => refLowerS_any (u.extract 0 n) W (by simp; omega))
        have HL2 := Lib.hid (fun W => refLowerS_any t W (by omega))
        have HQ : Hid (tagU u t = (decide (n < u.size) && (((lowS (u.extract 0 n)).toList == (⟨#[60]⟩ ++ lowS t : ByteArray).toList) && (u[n]!.toNat == 32 || u[n]!.toNat == 62)))) := Lib.hid (by unfold tagU; rw [low_lt, hn])
        rw [← ht] at c0 f0
        have ha : (lowS (u.extract 0 n)).size ≤ n := by rw [lowS_size]; simp; omega
        have hc : (lowS t).size ≤ 13 := by rw [lowS_size]; exact h13
        generalize lowS (u.extract 0 n) = a at *
        generalize lowS t = c at *
        generalize tagU u t = q at *
        clear ht hn
        by_cases h1 : n < u.size
        · have d1 : decide ((n : Int) < (u.size : Int)) = true := by rw [decide_eq_true_eq]; omega
          have hbn : u[n]! = u[n] := getElem!_pos u n h1
          rw [decide_eq_true h1, Bool.true_and, hbn] at HQ
          clear hbn
          cases d2 : (a.toList == (⟨#[60]⟩ ++ c : ByteArray).toList)
          · rw [d2] at HQ
            have HZ := Lib.hid (HNY.out (by rw [HQ.out]; rfl))
            clear HNY HYY HQ
            go_wp2_with fail
            refine wp_region_class (TgsAt w g) (by kernel_rfl) (by kernel_rfl) HX.out.drew ?_
            repeat (go_big_quiet_step (first
              | (go_at_call 40; with_reducible exact Calls.cls (HL1.out _) fun _ h => TgsAt.next h)
              | (go_at_call 40; with_reducible exact Calls.cls (HL2.out _) fun _ h => TgsAt.next h)))
            refine wpQuiet_nil ?_
            intro w3 h3
            have HX := Lib.hid h3
            clear h3
            go_wp2
            go_roundw
            case rel => exact ⟨k + 1, by omega, by go_num, HZ.out, HX.out⟩
            case measure => simp [intOf]; omega
          · rw [d2, Bool.true_and] at HQ
            by_cases e3 : u[n].toNat = 32
            · have d3 : ((u[n].toNat : Int) == 32) = true := by rw [beq_iff_eq]; omega
              have HZ := Lib.hid (HYY.out (by rw [HQ.out, e3]; rfl))
              clear HNY HYY HQ e3
              go_wp2_with fail
              refine wp_region_class (TgsAt w g) (by kernel_rfl) (by kernel_rfl) HX.out.drew ?_
              repeat (go_big_quiet_step (first
                | (go_at_call 40; with_reducible exact Calls.cls (HL1.out _) fun _ h => TgsAt.next h)
                | (go_at_call 40; with_reducible exact Calls.cls (HL2.out _) fun _ h => TgsAt.next h)))
              refine wpQuiet_nil ?_
              intro w3 h3
              have HX := Lib.hid h3
              clear h3
              go_wp2
              go_ret
              exact ⟨by rw [HV.out, HZ.out]; first | done | rfl, HX.out.1⟩
            · have d3 : ((u[n].toNat : Int) == 32) = false := by rw [beq_eq_false_iff_ne]; omega
              by_cases e4 : u[n].toNat = 62
              · have d4 : ((u[n].toNat : Int) == 62) = true := by rw [beq_iff_eq]; omega
                have HZ := Lib.hid (HYY.out (by rw [HQ.out, e4]; rfl))
                clear HNY HYY HQ e3 e4
                go_wp2_with fail
                refine wp_region_class (TgsAt w g) (by kernel_rfl) (by kernel_rfl) HX.out.drew ?_
                repeat (go_big_quiet_step (first
                  | (go_at_call 40; with_reducible exact Calls.cls (HL1.out _) fun _ h => TgsAt.next h)
                  | (go_at_call 40; with_reducible exact Calls.cls (HL2.out _) fun _ h => TgsAt.next h)))
                refine wpQuiet_nil ?_
                intro w3 h3
                have HX := Lib.hid h3
                clear h3
                go_wp2
                go_ret
                exact ⟨by rw [HV.out, HZ.out]; first | done | rfl, HX.out.1⟩
              · have d4 : ((u[n].toNat : Int) == 62) = false := by rw [beq_eq_false_iff_ne]; omega
                have HZ := Lib.hid (HNY.out (by rw [HQ.out, Bool.or_eq_false_iff, beq_eq_false_iff_ne, beq_eq_false_iff_ne]; exact ⟨e3, e4⟩))
                clear HNY HYY HQ e3 e4
                go_wp2_with fail
                refine wp_region_class (TgsAt w g) (by kernel_rfl) (by kernel_rfl) HX.out.drew ?_
                repeat (go_big_quiet_step (first
                  | (go_at_call 40; with_reducible exact Calls.cls (HL1.out _) fun _ h => TgsAt.next h)
                  | (go_at_call 40; with_reducible exact Calls.cls (HL2.out _) fun _ h => TgsAt.next h)))
                refine wpQuiet_nil ?_
                intro w3 h3
                have HX := Lib.hid h3
                clear h3
                go_wp2
                go_roundw
                case rel => exact ⟨k + 1, by omega, by go_num, HZ.out, HX.out⟩
                case measure => simp [intOf]; omega
        · have d1 : decide ((n : Int) < (u.size : Int)) = false := by rw [decide_eq_false_iff_not]; omega
          rw [decide_eq_false h1] at HQ
          have HZ := Lib.hid (HNY.out (by rw [HQ.out]; rfl))
          clear HNY HYY HQ
          go_wp2_with fail
          refine wp_region_class (TgsAt w g) (by kernel_rfl) (by kernel_rfl) HX.out.drew ?_
          repeat (go_big_quiet_step (first
            | (go_at_call 40; with_reducible exact Calls.cls (HL1.out _) fun _ h => TgsAt.next h)
            | (go_at_call 40; with_reducible exact Calls.cls (HL2.out _) fun _ h => TgsAt.next h)))
          refine wpQuiet_nil ?_
          intro w3 h3
          have HX := Lib.hid h3
          clear h3
          go_wp2
          go_roundw
          case rel => exact ⟨k + 1, by omega, by go_num, HZ.out, HX.out⟩
          case measure => simp [intOf]; omega
      · obtain rfl : k = 16 := by omega
        have HX2 := Lib.hid (any_all u rfl HN.out)
        go_wp2
        go_ret
        exact ⟨by rw [HV.out, HX2.out]; first | done | rfl, HX.out.1⟩
  · rw [hp, Bool.true_or] at HV
    rw [hp] at HP
    clear hp
    go_enter Tryz.func12, Tryz.ntmps12
    go_wp2_with (first
      | (go_at_call 39; (with_reducible refine (HR.out _).mono ?_); rintro e w1 ⟨rfl, rfl⟩)
      | (go_at_call 29; (with_reducible refine (HP.out _).mono ?_); rintro e w1 ⟨rfl, rfl⟩)
      | (go_at_call 20; refine (rtags_any _).mono ?_; rintro e w1 ⟨g, rfl, hg, ht, b1⟩; have HB := Lib.hid (HB.out.trans (b1.mono HB.out.size)); clear b1 ht hg))
    go_ret
    exact ⟨by rw [HV.out]; first | done | rfl, HB.out⟩

end Go.Proofs.YtjaockmbnjflaaaGreatDoor
namespace Go.Proofs.YtjaockmbnjflaaaGreatDoor
open Go.RowKit Go.Shelf

def lays105_ren : Go.Shelf.Ren := ⟨fun | 105 => 78 | 212 => 100 | 99 => 35 | 165 => 101 | 166 => 102 | 170 => 103 | 169 => 104 | 263 => 121 | 264 => 122 | 206 => 58 | 240 => 123 | 241 => 124 | 276 => 137 | 277 => 138 | n => n, fun | 9 => 9 | 3 => 3 | 4 => 4 | 20 => 20 | 0 => 0 | 46 => 69 | 109 => 76 | 5 => 5 | 72 => 80 | 76 => 84 | 51 => 94 | 146 => 102 | 53 => 97 | 148 => 104 | 70 => 78 | 37 => 50 | 75 => 83 | 127 => 106 | 164 => 123 | 80 => 87 | n => n, fun | n => n⟩

theorem lays105 : Go.Proofs.Lays.n105 Tryz.prog lays105_ren := {
  mixed := by kernel_rfl
  f99 := Tryz.func35.trans (congrArg some (by kernel_rfl))
  f105 := Tryz.func78.trans (congrArg some (by kernel_rfl))
  f165 := Tryz.func101.trans (congrArg some (by kernel_rfl))
  f166 := Tryz.func102.trans (congrArg some (by kernel_rfl))
  f169 := Tryz.func104.trans (congrArg some (by kernel_rfl))
  f170 := Tryz.func103.trans (congrArg some (by kernel_rfl))
  f206 := Tryz.func58.trans (congrArg some (by kernel_rfl))
  f212 := Tryz.func100.trans (congrArg some (by kernel_rfl))
  f240 := Tryz.func123.trans (congrArg some (by kernel_rfl))
  f241 := Tryz.func124.trans (congrArg some (by kernel_rfl))
  f263 := Tryz.func121.trans (congrArg some (by kernel_rfl))
  f264 := Tryz.func122.trans (congrArg some (by kernel_rfl))
  f276 := Tryz.func137.trans (congrArg some (by kernel_rfl))
  f277 := Tryz.func138.trans (congrArg some (by kernel_rfl))
  t0 := Tryz.underlying0
  a0 := Tryz.isAgg0
  z0 := Tryz.sizeOf0
  v0 := Tryz.zeroValue0
  t3 := Tryz.underlying3
  a3 := Tryz.isAgg3
  z3 := Tryz.sizeOf3
  v3 := Tryz.zeroValue3
  t4 := Tryz.underlying4
  a4 := Tryz.isAgg4
  z4 := Tryz.sizeOf4
  v4 := Tryz.zeroValue4
  t5 := Tryz.underlying5
  a5 := Tryz.isAgg5
  z5 := Tryz.sizeOf5
  v5 := Tryz.zeroValue5
  t9 := Tryz.underlying9
  a9 := Tryz.isAgg9
  z9 := Tryz.sizeOf9
  v9 := Tryz.zeroValue9
  t20 := Tryz.underlying20
  a20 := Tryz.isAgg20
  z20 := Tryz.sizeOf20
  v20 := Tryz.zeroValue20
  t37 := Tryz.underlying50
  a37 := Tryz.isAgg50
  z37 := Tryz.sizeOf50
  v37 := Tryz.zeroValue50
  t46 := Tryz.underlying69
  a46 := Tryz.isAgg69
  z46 := Tryz.sizeOf69
  v46 := Tryz.zeroValue69
  t51 := Tryz.underlying94
  a51 := Tryz.isAgg94
  z51 := Tryz.sizeOf94
  v51 := Tryz.zeroValue94
  t53 := Tryz.underlying97
  a53 := Tryz.isAgg97
  z53 := Tryz.sizeOf97
  v53 := Tryz.zeroValue97
  t70 := Tryz.underlying78
  a70 := Tryz.isAgg78
  z70 := Tryz.sizeOf78
  v70 := Tryz.zeroValue78
  t72 := Tryz.underlying80
  a72 := Tryz.isAgg80
  z72 := Tryz.sizeOf80
  v72 := Tryz.zeroValue80
  t75 := Tryz.underlying83
  a75 := Tryz.isAgg83
  z75 := Tryz.sizeOf83
  v75 := Tryz.zeroValue83
  t76 := Tryz.underlying84
  a76 := Tryz.isAgg84
  z76 := Tryz.sizeOf84
  v76 := Tryz.zeroValue84
  t109 := Tryz.underlying76
  a109 := Tryz.isAgg76
  z109 := Tryz.sizeOf76
  v109 := Tryz.zeroValue76
  t127 := Tryz.underlying106
  a127 := Tryz.isAgg106
  z127 := Tryz.sizeOf106
  v127 := Tryz.zeroValue106
  t146 := Tryz.underlying102
  a146 := Tryz.isAgg102
  z146 := Tryz.sizeOf102
  v146 := Tryz.zeroValue102
  t148 := Tryz.underlying104
  a148 := Tryz.isAgg104
  z148 := Tryz.sizeOf104
  v148 := Tryz.zeroValue104
  t164 := Tryz.underlying123
  a164 := Tryz.isAgg123
  z164 := Tryz.sizeOf123
  v164 := Tryz.zeroValue123 }

theorem Builder_Extra_105 : Builder.Extra Tryz.prog lays105_ren := {
  sizeBuilder := by kernel_rfl
  liesBuilder := by kernel_rfl
  t5 := Tryz.underlying5
  a5 := Tryz.isAgg5
  z5 := Tryz.sizeOf5
  v5 := Tryz.zeroValue5
  infoByte := by kernel_rfl
  cellsByte := by kernel_rfl
  sizeByte := by kernel_rfl
  neB5 := by decide }

open Go.RowKit Go.Lib in
theorem strings_Repeat_main (s : ByteArray) (c : Nat) (w : World) (hc2 : 2 ≤ c) (hc : c ≤ 9223372036854775807) (hlen : s.size * c ≤ 140737488355328) (h0 : 0 < s.size) :
    Calls Tryz.prog 78 #[.string s, .int .i64 c] w fun e w' => e = .returned (.string ⟨(Lib.repeatL s.data.toList c).toArray⟩) ∧ Below w.heap.size w w' := Any.strings_Repeat_main lays105 Builder_Extra_105 s c w hc2 hc hlen h0

/-- Any number of copies, of which a memory may hold all. -/
theorem strings_Repeat_some (s : ByteArray) (c : Nat) (w : World) (hc : c ≤ 9223372036854775807) (hlen : s.size * c ≤ 140737488355328) :
    Calls Tryz.prog 78 #[.string s, .int .i64 c] w fun e w' => e = .returned (.string ⟨(Go.Lib.repeatL s.data.toList c).toArray⟩) ∧ Below w.heap.size w w' := Any.strings_Repeat lays105 Builder_Extra_105 s c w hc hlen

end Go.Proofs.YtjaockmbnjflaaaGreatDoor
namespace Go.Proofs.YtjaockmbnjflaaaGreatDoor
open Go.RowKit

/-- The mask of the longest pattern. -/
abbrev ffS : ByteArray := ⟨#[255, 255, 255, 255, 255, 255, 255, 255, 255, 255, 255, 255, 255, 255]⟩

set_option maxHeartbeats 400000 in
theorem exact_any (t k : ByteArray) (w : World) (ht : t.size ≤ 14) :
    Calls Tryz.prog 107 #[.string t, .string k] w fun e w' => e = .returned (patV t (ffS.extract 0 t.size) ⟨#[]⟩ k) ∧ Below w.heap.size w w' := by
  have hsz : ffS.size = 14 := rfl
  have g1 : (t.size : Int) ≤ 14 := by omega
  go_enter Tryz.func107, Tryz.ntmps107
  go_wp2
  exact bodyPost_ret (v := patV t (ffS.extract 0 t.size) ⟨#[]⟩ k) (by simp [results, Tryz.results107, go_sem]) rfl ⟨rfl, (Below.refl w.heap.size w).alloc (Nat.le_refl _) _⟩

set_option maxHeartbeats 1000000 in
theorem webp_any (w : World) :
    Calls Tryz.prog 108 #[] w fun e w' => e = .returned (patV (imgP 5).b (imgP 5).m ⟨#[]⟩ (imgP 5).t) ∧ Below w.heap.size w w' := by
  have hm : (imgP 5).m = ffS.extract 0 4 ++ ⟨#[0, 0, 0, 0]⟩ ++ ffS.extract 0 6 := by kernel_rfl
  rw [hm]
  clear hm
  go_enter Tryz.func108, Tryz.ntmps108
  go_wp2
  go_region
  go_wp2
  exact bodyPost_ret (v := patV (imgP 5).b (ffS.extract 0 4 ++ ⟨#[0, 0, 0, 0]⟩ ++ ffS.extract 0 6) ⟨#[]⟩ (imgP 5).t) (by simp [results, Tryz.results108, go_sem, imgP]) rfl ⟨rfl, ((Below.refl w.heap.size w).alloc (Nat.le_refl _) _).drew⟩

end Go.Proofs.YtjaockmbnjflaaaGreatDoor
