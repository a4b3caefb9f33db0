/-
  What the document's own Parts of layer 9 answers. Condition: a number's text of a million bytes at most.
-/
import Derived.Test.YthiclminkbnibaaDoorJf
import Derived.RegionTactic
import Derived.BigRegion
import Derived.StillTailTactics
import Derived.Deep.CutBlock
namespace Go.Proofs.YthiclminkbnibaaDoor
open Go.RowKit

abbrev numc (ng : Bool) (D : ByteArray) (x : Int) : Array Value := #[.bool ng, .string D, .int .i64 x]

/-- The memory in which the document's parts lie: what is answered, and what is reckoned. -/
structure NumW (w : World) (ng : Bool) (D : ByteArray) (x : Int) (wr : World) : Prop where
  res : Blk wr w.heap.size 31 (numc false ⟨#[]⟩ 0)
  num : Blk wr (w.heap.size + 1) 31 (numc ng D x)
  below : Below w.heap.size w wr
theorem NumW.cells {w wr : World} {ng : Bool} {D : ByteArray} {x : Int} (h : NumW w ng D x wr) :
    wr.cell? ⟨w.heap.size + 1, 0, none⟩ = some (.bool ng) ∧ wr.cell? ⟨w.heap.size + 1, 1, none⟩ = some (.string D) ∧ wr.cell? ⟨w.heap.size + 1, 2, none⟩ = some (.int .i64 x) ∧
      wr.frozen? ⟨w.heap.size + 1, 0, none⟩ = false ∧ wr.frozen? ⟨w.heap.size + 1, 1, none⟩ = false ∧ wr.frozen? ⟨w.heap.size + 1, 2, none⟩ = false :=
  ⟨h.num.cell 0, h.num.cell 1, h.num.cell 2, h.num.frozen 0, h.num.frozen 1, h.num.frozen 2⟩
theorem NumW.setX {w wr : World} {ng : Bool} {D : ByteArray} {x : Int} (h : NumW w ng D x wr) (y : Int) : NumW w ng D y (wr.setCell ⟨w.heap.size + 1, 2, none⟩ (.int .i64 y)) :=
  ⟨h.res.far (by simp) _, h.num.set_ 2 _, h.below.setCell (p := ⟨w.heap.size + 1, 2, none⟩) (by simp) _⟩
theorem NumW.setD {w wr : World} {ng : Bool} {D : ByteArray} {x : Int} (h : NumW w ng D x wr) (E : ByteArray) : NumW w ng E x (wr.setCell ⟨w.heap.size + 1, 1, none⟩ (.string E)) :=
  ⟨h.res.far (by simp) _, h.num.set_ 1 _, h.below.setCell (p := ⟨w.heap.size + 1, 1, none⟩) (by simp) _⟩
theorem NumW.drewN {w wr : World} {ng : Bool} {D : ByteArray} {x : Int} (h : NumW w ng D x wr) (n : Nat) : NumW w ng D x (wr.drewN n) := ⟨h.res, h.num, Below.drewN' h.below n⟩
theorem NumW.drew {w wr : World} {ng : Bool} {D : ByteArray} {x : Int} (h : NumW w ng D x wr) : NumW w ng D x wr.drew := h.drewN 1

theorem acc_at {s : ByteArray} {i j k : Nat} (h : Behind s i) (hj : j = i + k) (hk : k < (aL s.data.toList).length) :
    ∃ hlt : j < s.size, notE s[j] = true ∧ (dotB s[j] = true ∧ accP s (k + 1) = true ∧ accX s (k + 1) = accX s k ∧ accD s (k + 1) = accD s k ∨
      dotB s[j] = false ∧ accP s (k + 1) = accP s k ∧ accX s (k + 1) = (if accP s k = true then accX s k - 1 else accX s k) ∧ accD s (k + 1) = if accD s k = [] ∧ s[j] = 48 then [] else accD s k ++ [s[j]]) := by
  subst hj
  exact acc_step h hk

theorem stop_at {s : ByteArray} {i j : Nat} (h : Behind s i) (hj : j = i + (aL s.data.toList).length) (hlt : j < s.size) : notE s[j] = false := by
  subst hj
  exact h.stop hlt

theorem pwZ_le (z : List UInt8) : -1099511627776 ≤ pwZ 1099511627776 z ∧ pwZ 1099511627776 z ≤ 1099511627776 := by
  unfold pwZ
  have h1 := pwN_le 1099511627776 (mL z)
  have h2 := pwN_le 1099511627776 (Lib.trimPrefix z [43])
  split <;> omega

theorem NumW.fin {w wr : World} {ng : Bool} {D : ByteArray} {x : Int} (h : NumW w ng D x wr) :
    Below w.heap.size w (((wr.setCell ⟨w.heap.size, 0, none⟩ (.bool ng)).setCell ⟨w.heap.size, 1, none⟩ (.string D)).setCell ⟨w.heap.size, 2, none⟩ (.int .i64 x)) :=
  ((h.below.setCell (p := ⟨w.heap.size, 0, none⟩) (Nat.le_refl _) _).setCell (p := ⟨w.heap.size, 1, none⟩) (Nat.le_refl _) _).setCell (p := ⟨w.heap.size, 2, none⟩) (Nat.le_refl _) _
theorem snoc_facts (E : List UInt8) (b : UInt8) : ∃ Y : ByteArray, Y = bs (E ++ [b]) ∧ Y.size = E.length + 1 ∧ ∃ h : E.length < Y.size, Y[E.length] = b ∧ Y.extract 0 E.length = bs E := by
  have hlen : (bs (E ++ [b])).size = E.length + 1 := by rw [bs_size]; simp
  refine ⟨_, rfl, hlen, by omega, ?_, bs_ext (by rw [Lib.extract_data, bs_list, bs_list]; simp)⟩
  have h1 := Lib.data_getElem? (bs (E ++ [b])) E.length (by omega)
  rw [bs_list] at h1
  simp at h1
  exact h1.symm

/-- How many digits lie in a block of the document's parts. -/
def digLen (w : World) (b : Nat) : Nat := match w.cell? ⟨b, 1, none⟩ with
  | some (.string s) => s.size
  | _ => 0
theorem digLen_of {w wr : World} {ng : Bool} {D : ByteArray} {x : Int} (h : NumW w ng D x wr) : digLen wr (w.heap.size + 1) = D.size := by
  unfold digLen
  rw [h.cells.2.1]
theorem snoc_or (D : List UInt8) : D = [] ∨ ∃ E b, D = E ++ [b] := by
  rcases List.eq_nil_or_concat D with h | ⟨E, b, h⟩
  · exact .inl h
  · exact .inr ⟨E, b, by rw [h, List.concat_eq_append]⟩

set_option maxHeartbeats 8000000 in
set_option maxRecDepth 100000 in
theorem refParts_any (s : ByteArray) (w : World) (hs : s.size ≤ 1000000) (h : isB s = true) :
    Calls Tryd.prog 14 #[.string s] w fun e w' => e = .returned (.agg #[.bool (negL s.data.toList), .string (bs (dL s.data.toList)), .int .i64 (expL s.data.toList)]) ∧ Below w.heap.size w w' := by
  have hN := numT_of h
  have h0 : 0 < s.size := by
    have h1 := List.length_pos_iff.2 hN.some
    rw [← Lib.size_eq] at h1
    exact h1
  have HNG := Lib.hid (neg_at h0)
  have HBY := Lib.hid (behind_yes h0)
  have HBN := Lib.hid (@behind_no s)
  obtain ⟨ng, hng⟩ : ∃ ng, ng = negL s.data.toList := ⟨_, rfl⟩
  obtain ⟨rD, hrD⟩ : ∃ r, r = dL s.data.toList := ⟨_, rfl⟩
  obtain ⟨rX, hrX⟩ : ∃ r, r = expL s.data.toList := ⟨_, rfl⟩
  rw [← hng, ← hrD, ← hrX]
  have HRD := Lib.hid hrD
  have HRX := Lib.hid hrX
  rw [← hng] at HNG HBY HBN
  have HN := Lib.hid hN
  clear hng hrD hrX hN h
  go_enter Tryd.func14, Tryd.ntmps14
  go_upto_if 9 with fail
  go_cut [5] from 9 to 10 (fun s5 wx => ∃ i : Nat, i ≤ s.size ∧ s5 = .int .i64 i ∧ Hid (Behind s i) ∧ Hid (NumW w ng ⟨#[]⟩ 0 wx))
  case first =>
    have HW0 : NumW w false ⟨#[]⟩ 0 ((w.alloc (.cells (numc false ⟨#[]⟩ 0) 31)).alloc (.cells (numc false ⟨#[]⟩ 0) 31)) :=
      ⟨(Blk.new w _ _).alloc _, by simpa using Blk.new (w.alloc (.cells (numc false ⟨#[]⟩ 0) 31)) _ _, ((Below.refl _ _).alloc (Nat.le_refl _) _).alloc (by simp) _⟩
    cases hb : ng
    · have f : ((s[0].toNat : Int) == 45) = false := by rw [← HNG.out]; exact hb
      have HA := Lib.hid (HBN.out hb)
      subst hb
      have HW := Lib.hid HW0
      clear HW0
      go_wp2
      go_meet
      exact ⟨0, by omega, rfl, HA, HW⟩
    · have f : ((s[0].toNat : Int) == 45) = true := by rw [← HNG.out]; exact hb
      have HA := Lib.hid (HBY.out hb)
      subst hb
      have HW : Hid (NumW w true ⟨#[]⟩ 0 ((w.alloc (.cells (numc false ⟨#[]⟩ 0) 31)).alloc (.cells (numc true ⟨#[]⟩ 0) 31))) :=
        ⟨(Blk.new w _ _).alloc _, by simpa using Blk.new (w.alloc (.cells (numc false ⟨#[]⟩ 0) 31)) _ _, ((Below.refl _ _).alloc (Nat.le_refl _) _).alloc (by simp) _⟩
      clear HW0
      go_wp2
      go_meet
      exact ⟨1, h0, rfl, HA, HW⟩
  case rest =>
    obtain ⟨i, hi, rfl, HB, HW⟩ := hcut
    clear HBY HBN HNG
    have hal := HB.out.alen
    have HAE := Lib.hid (acc_end HN.out)
    go_upto_block 0 with fail
    obtain ⟨na, hna⟩ : ∃ na, na = (aL s.data.toList).length := ⟨_, rfl⟩
    rw [← hna] at hal
    have HNA := Lib.hid hna
    clear hna
    go_cut [4, 5] from 11 to 55 (fun _ s5 wx => s5 = .int .i64 ((i + na : Nat) : Int) ∧ Hid (NumW w ng (bs (accD s na)) (accX s na) wx))
    case first =>
      go_wp2
      go_loopw [4, 5] (fun p v wr => ∃ k : Nat, k ≤ na ∧ p = .bool (accP s k) ∧ v = .int .i64 ((i + k : Nat) : Int) ∧ Hid (NumW w ng (bs (accD s k)) (accX s k) wr)) (fun _ v _ => s.size - (intOf v).toNat)
      case atStart => exact ⟨0, Nat.zero_le _, rfl, rfl, HW⟩
      case round =>
        obtain ⟨k, hk, rfl, rfl, HK⟩ := hrel
        clear HW
        obtain ⟨c0, c1, c2, z0, z1, z2⟩ := HK.out.cells
        by_cases hlt : k < na
        · obtain ⟨j, hj⟩ : ∃ j, j = i + k := ⟨_, rfl⟩
          obtain ⟨hl, he, hst⟩ := acc_at HB.out hj (by rw [← HNA.out]; exact hlt)
          obtain ⟨n1, n2⟩ := notE_yes he
          have HJN := Lib.hid (show i + (k + 1) = j + 1 by omega)
          rw [← hj]
          clear hj he
          have f101 : ((s[j].toNat : Int) == 101) = false := beqF n1
          have f69 : ((s[j].toNat : Int) == 69) = false := beqF n2
          have g101 : ((s[j].toNat : Int) != 101) = true := by unfold bne; rw [f101]; rfl
          have g69 : ((s[j].toNat : Int) != 69) = true := by unfold bne; rw [f69]; rfl
          have e1 : decide ((j : Int) < (s.size : Int)) = true := decide_eq_true (by omega)
          clear n1 n2
          rcases hst with ⟨hd, p1, p2, p3⟩ | ⟨hd, p1, p2, p3⟩
          · have f46 : ((s[j].toNat : Int) == 46) = true := beqT (dotB_yes hd)
            have HK2 : Hid (NumW w ng (bs (accD s (k + 1))) (accX s (k + 1)) wr) := by rw [p2, p3]; exact HK
            have HP := Lib.hid p1
            clear hd p1 p2 p3
            go_wp2
            go_roundw
            case rel => exact ⟨k + 1, by omega, by rw [HP.out], by rw [HJN.out]; go_num, HK2⟩
            case measure => simp [intOf]; omega
          · have f46 : ((s[j].toNat : Int) == 46) = false := beqF (dotB_no hd)
            have hal2 := acc_le s k
            have hsz := bs_size (accD s k)
            have hext : s.extract j (j + 1) = bs [s[j]] := bs_ext (by
              rw [Lib.extract_data, bs_list, show j + 1 - j = 1 by omega, drop_cons s j hl]
              rfl)
            have HX := Lib.hid p2
            have HP := Lib.hid p1
            clear p1 p2 hd
            have g1 : IntKind.i64.wrap ((j : Int) + 1) = (j : Int) + 1 := IntWalk.i64_in _ (by omega)
            have g2 : 0 ≤ (j : Int) + 1 := by omega
            have g3 : ((j : Int) + 1).toNat = j + 1 := by omega
            have g4 : (j : Int) + 1 ≤ (s.size : Int) := by omega
            have g5 : (j : Int) ≤ (j : Int) + 1 := by omega
            cases hp : accP s k <;> rw [hp] at HP HX
            · clear hp
              by_cases hD : accD s k = []
              · by_cases h48 : s[j] = 48
                · have HK3 : Hid (∀ x wr', NumW w ng ⟨#[]⟩ x wr' → x = accX s (k + 1) → NumW w ng (bs (accD s (k + 1))) (accX s (k + 1)) wr') := fun x wr' h1 h2 => by
                    rw [p3, if_pos ⟨hD, h48⟩, ← h2]
                    exact h1
                  have f48 : ((s[j].toNat : Int) == 48) = true := by rw [h48]; rfl
                  have k48 : ((s[j].toNat : Int) != 48) = false := by unfold bne; rw [f48]; rfl
                  rw [hD] at c1 HK
                  have ez0 : bs [] = ⟨#[]⟩ := rfl
                  rw [ez0] at c1 HK
                  clear p3 hD h48 ez0 hext hsz
                  have HX2 : Hid (accX s k = accX s (k + 1)) := by have := HX.out; rw [if_neg (by decide)] at this; exact this.symm
                  have HK4 := HK
                  clear HX HK
                  go_wp2
                  go_roundw
                  case rel => exact ⟨k + 1, by omega, by rw [HP.out], by rw [HJN.out]; go_num, HK3.out _ _ HK4.out HX2.out⟩
                  case measure => simp [intOf]; omega
                · have HK3 : Hid (∀ x wr', NumW w ng (⟨#[]⟩ ++ s.extract j (j + 1)) x wr' → x = accX s (k + 1) → NumW w ng (bs (accD s (k + 1))) (accX s (k + 1)) wr') := fun x wr' h1 h2 => by
                    rw [p3, if_neg (fun h => h48 h.2), ← h2, hD]
                    rw [hext] at h1
                    exact h1
                  have f48 : ((s[j].toNat : Int) == 48) = false := beqF fun e => h48 (UInt8.toNat_inj.1 e)
                  have k48 : ((s[j].toNat : Int) != 48) = true := by unfold bne; rw [f48]; rfl
                  rw [hD] at c1 HK
                  have ez0 : bs [] = ⟨#[]⟩ := rfl
                  rw [ez0] at c1 HK
                  clear p3 hD h48 ez0 hext hsz
                  have HX2 : Hid (accX s k = accX s (k + 1)) := by have := HX.out; rw [if_neg (by decide)] at this; exact this.symm
                  have HK4 := HK
                  clear HX HK
                  go_wp2
                  go_region
                  go_wp2
                  go_roundw
                  case rel => exact ⟨k + 1, by omega, by rw [HP.out], by rw [HJN.out]; go_num, HK3.out _ _ ((HK4.out).setD _).drew HX2.out⟩
                  case measure => simp [intOf]; omega
              · have HK3 : Hid (∀ x wr', NumW w ng (bs (accD s k) ++ s.extract j (j + 1)) x wr' → x = accX s (k + 1) → NumW w ng (bs (accD s (k + 1))) (accX s (k + 1)) wr') := fun x wr' h1 h2 => by
                  rw [p3, if_neg (fun h => hD h.1), ← h2]
                  rw [hext, bs_append] at h1
                  exact h1
                have e5 : ((bs (accD s k)).toList == []) = false := by
                  rw [Lib.toList_data, bs_list]
                  simpa using hD
                have e6 : (bs (accD s k)).toList.isEmpty = false := by
                  rw [Lib.toList_data, bs_list]
                  simpa using hD
                have e7 : (bs (accD s k)).size ≤ 1000000 := by rw [hsz]; omega
                clear p3 hD hext hsz
                generalize bs (accD s k) = D at *
                have HX2 : Hid (accX s k = accX s (k + 1)) := by have := HX.out; rw [if_neg (by decide)] at this; exact this.symm
                have HK4 := HK
                clear HX HK
                go_wp2
                go_region
                go_wp2
                go_roundw
                case rel => exact ⟨k + 1, by omega, by rw [HP.out], by rw [HJN.out]; go_num, HK3.out _ _ ((HK4.out).setD _).drew HX2.out⟩
                case measure => simp [intOf]; omega
            · clear hp
              by_cases hD : accD s k = []
              · by_cases h48 : s[j] = 48
                · have HK3 : Hid (∀ x wr', NumW w ng ⟨#[]⟩ x wr' → x = accX s (k + 1) → NumW w ng (bs (accD s (k + 1))) (accX s (k + 1)) wr') := fun x wr' h1 h2 => by
                    rw [p3, if_pos ⟨hD, h48⟩, ← h2]
                    exact h1
                  have f48 : ((s[j].toNat : Int) == 48) = true := by rw [h48]; rfl
                  have k48 : ((s[j].toNat : Int) != 48) = false := by unfold bne; rw [f48]; rfl
                  rw [hD] at c1 HK
                  have ez0 : bs [] = ⟨#[]⟩ := rfl
                  rw [ez0] at c1 HK
                  clear p3 hD h48 ez0 hext hsz
                  have HX2 : Hid (accX s k - 1 = accX s (k + 1)) := by have := HX.out; rw [if_pos rfl] at this; exact this.symm
                  have HK4 := Lib.hid (HK.out.setX (accX s k - 1))
                  clear HX HK
                  go_wp2
                  go_roundw
                  case rel => exact ⟨k + 1, by omega, by rw [HP.out], by rw [HJN.out]; go_num, HK3.out _ _ HK4.out HX2.out⟩
                  case measure => simp [intOf]; omega
                · have HK3 : Hid (∀ x wr', NumW w ng (⟨#[]⟩ ++ s.extract j (j + 1)) x wr' → x = accX s (k + 1) → NumW w ng (bs (accD s (k + 1))) (accX s (k + 1)) wr') := fun x wr' h1 h2 => by
                    rw [p3, if_neg (fun h => h48 h.2), ← h2, hD]
                    rw [hext] at h1
                    exact h1
                  have f48 : ((s[j].toNat : Int) == 48) = false := beqF fun e => h48 (UInt8.toNat_inj.1 e)
                  have k48 : ((s[j].toNat : Int) != 48) = true := by unfold bne; rw [f48]; rfl
                  rw [hD] at c1 HK
                  have ez0 : bs [] = ⟨#[]⟩ := rfl
                  rw [ez0] at c1 HK
                  clear p3 hD h48 ez0 hext hsz
                  have HX2 : Hid (accX s k - 1 = accX s (k + 1)) := by have := HX.out; rw [if_pos rfl] at this; exact this.symm
                  have HK4 := Lib.hid (HK.out.setX (accX s k - 1))
                  clear HX HK
                  go_wp2
                  go_region
                  go_wp2
                  go_roundw
                  case rel => exact ⟨k + 1, by omega, by rw [HP.out], by rw [HJN.out]; go_num, HK3.out _ _ ((HK4.out).setD _).drew HX2.out⟩
                  case measure => simp [intOf]; omega
              · have HK3 : Hid (∀ x wr', NumW w ng (bs (accD s k) ++ s.extract j (j + 1)) x wr' → x = accX s (k + 1) → NumW w ng (bs (accD s (k + 1))) (accX s (k + 1)) wr') := fun x wr' h1 h2 => by
                  rw [p3, if_neg (fun h => hD h.1), ← h2]
                  rw [hext, bs_append] at h1
                  exact h1
                have e5 : ((bs (accD s k)).toList == []) = false := by
                  rw [Lib.toList_data, bs_list]
                  simpa using hD
                have e6 : (bs (accD s k)).toList.isEmpty = false := by
                  rw [Lib.toList_data, bs_list]
                  simpa using hD
                have e7 : (bs (accD s k)).size ≤ 1000000 := by rw [hsz]; omega
                clear p3 hD hext hsz
                generalize bs (accD s k) = D at *
                have HX2 : Hid (accX s k - 1 = accX s (k + 1)) := by have := HX.out; rw [if_pos rfl] at this; exact this.symm
                have HK4 := Lib.hid (HK.out.setX (accX s k - 1))
                clear HX HK
                go_wp2
                go_region
                go_wp2
                go_roundw
                case rel => exact ⟨k + 1, by omega, by rw [HP.out], by rw [HJN.out]; go_num, HK3.out _ _ ((HK4.out).setD _).drew HX2.out⟩
                case measure => simp [intOf]; omega
        · obtain rfl : k = na := by omega
          by_cases he : i + k = s.size
          · rw [he]
            have e1 : decide ((s.size : Int) < (s.size : Int)) = false := decide_eq_false (by omega)
            go_wp2
            go_meet
            exact ⟨by rw [he], HK⟩
          · obtain ⟨j, hj⟩ : ∃ j, j = i + k := ⟨_, rfl⟩
            have hl : j < s.size := by omega
            have hst := stop_at HB.out (j := j) (by rw [← HNA.out]; exact hj) hl
            have HJ := Lib.hid hj
            rw [← hj]
            have e1 : decide ((j : Int) < (s.size : Int)) = true := decide_eq_true (by omega)
            clear hj he
            rcases notE_no hst with h1 | h1
            · have f101 : ((s[j].toNat : Int) == 101) = true := beqT h1
              have g101 : ((s[j].toNat : Int) != 101) = false := by unfold bne; rw [f101]; rfl
              clear h1 hst
              go_wp2
              go_meet
              exact ⟨by rw [HJ.out], HK⟩
            · have f101 : ((s[j].toNat : Int) == 101) = false := beqF (by rw [h1]; decide)
              have g101 : ((s[j].toNat : Int) != 101) = true := by unfold bne; rw [f101]; rfl
              have f69 : ((s[j].toNat : Int) == 69) = true := beqT h1
              have g69 : ((s[j].toNat : Int) != 69) = false := by unfold bne; rw [f69]; rfl
              clear h1 hst
              go_wp2
              go_meet
              exact ⟨by rw [HJ.out], HK⟩
    case rest =>
      obtain ⟨rfl, HK⟩ := hcut
      have HM := Lib.hid (HB.out.more)
      have HR := Lib.hid (HB.out.rest)
      have HK2 : Hid (NumW w ng (bs (gL s.data.toList)) (-((bL (aL s.data.toList)).length : Int)) wc) := by
        have := HK.out
        rw [HNA.out, HAE.out.1, HAE.out.2] at this
        exact this
      rw [← HNA.out] at HM HR
      have hbl : (bL (aL s.data.toList)).length ≤ 1000000 := by
        have h1 := bL_len (aL s.data.toList)
        have h2 := aL_len s.data.toList
        rw [← Lib.size_eq] at h2
        omega
      have hgl : (gL s.data.toList).length ≤ 1000000 := by
        have h1 := gL_len s.data.toList
        have h2 := ub_len (aL s.data.toList)
        have h3 := aL_len s.data.toList
        rw [← Lib.size_eq] at h3
        omega
      have hpw := pwZ_le (zL s.data.toList)
      clear HK HW HAE
      obtain ⟨j, hj⟩ : ∃ j, j = i + na := ⟨_, rfl⟩
      rw [← hj] at HM HR hal
      rw [← hj]
      clear hj HNA HB hi
      go_upto_if 59 with fail
      go_cut [4] from 56 to 68 (fun _ wx => Hid (NumW w ng (bs (gL s.data.toList)) (-((bL (aL s.data.toList)).length : Int) + pwZ 1099511627776 (zL s.data.toList)) wx))
      case first =>
        by_cases hlt : j < s.size
        · have hw := HM.out.1 hlt
          have HPW := Lib.hid fun W => refPower_any HN.out hw W (by rw [← Lib.size_eq]; exact hs)
          have hx := HR.out
          have g1 : IntKind.i64.wrap ((j : Int) + 1) = (j : Int) + 1 := IntWalk.i64_in _ (by omega)
          have g2 : 0 ≤ (j : Int) + 1 := by omega
          have g3 : ((j : Int) + 1).toNat = j + 1 := by omega
          have g4 : (j : Int) + 1 ≤ (s.size : Int) := by omega
          clear HM HR hw HN
          obtain ⟨c0, c1, c2, z0, z1, z2⟩ := HK2.out.cells
          generalize bs (zL s.data.toList) = Z at *
          generalize pwZ 1099511627776 (zL s.data.toList) = pw at *
          generalize (bL (aL s.data.toList)).length = nb at *
          generalize bs (gL s.data.toList) = G at *
          have g5 : IntKind.i64.wrap (-(nb : Int) + pw) = -(nb : Int) + pw := IntWalk.i64_in _ (by omega)
          have HK3 := Lib.hid (HK2.out.setX (-(nb : Int) + pw))
          clear HRD HRX
          go_wp2
          go_region_with (go_at_call 31; (with_reducible refine (HPW.out _).mono ?_); rintro e w' ⟨rfl, rfl⟩)
          all_goals (go_wp2; go_meet; exact HK3.out.drew)
        · have hw : wL s.data.toList = [] := Classical.byContradiction fun h => hlt (HM.out.2 h)
          have HK3 : Hid (NumW w ng (bs (gL s.data.toList)) (-((bL (aL s.data.toList)).length : Int) + pwZ 1099511627776 (zL s.data.toList)) wc) := by
            have := HK2.out
            rw [(no_e hw).2]
            rw [show pwZ 1099511627776 [] = 0 from rfl, Int.add_zero]
            exact this
          clear hw HM HR HK2
          have e1 : decide ((j : Int) < (s.size : Int)) = false := decide_eq_false (by omega)
          have e2 : decide (j < s.size) = false := decide_eq_false hlt
          go_wp2
          go_meet
          exact HK3
      case rest =>
        have HK := Lib.hid hcut
        clear hcut HK2 HM HR
        have HRX2 : Hid (dL s.data.toList ≠ [] → rX = cla9 (-((bL (aL s.data.toList)).length : Int) + pwZ 1099511627776 (zL s.data.toList) + (gL s.data.toList).length - (dL s.data.toList).length)) := fun hd => by
          rw [HRX.out]
          unfold expL
          rw [if_neg hd, ← raw_same (by rw [← Lib.size_eq]; exact hs)]
          unfold rawX
          congr 1
          omega
        have HRX0 : Hid (dL s.data.toList = [] → rX = 0) := fun hd => by
          rw [HRX.out]
          unfold expL
          rw [if_pos hd]
        have HDL : Hid (Lib.trimRightB (gL s.data.toList) 48 = rD) := HRD.out.symm
        rw [← HRD.out] at HRX2 HRX0
        clear HRX HRD HN
        generalize pwZ 1099511627776 (zL s.data.toList) = pw at *
        generalize (bL (aL s.data.toList)).length = nb at *
        generalize gL s.data.toList = G at *
        go_wp2
        go_loopw [72] (fun _ wr => ∃ (D : List UInt8) (x : Int), D.length ≤ G.length ∧ x = -(nb : Int) + pw + G.length - D.length ∧ Hid (Lib.trimRightB D 48 = rD) ∧ Hid (NumW w ng (bs D) x wr)) (fun _ wr => digLen wr (w.heap.size + 1))
        case atStart => exact ⟨G, -(nb : Int) + pw, Nat.le_refl _, by omega, HDL, HK⟩
        case round =>
          obtain ⟨D, x, hD, hx, HT, HW⟩ := hrel
          clear HK HDL
          obtain ⟨c0, c1, c2, z0, z1, z2⟩ := HW.out.cells
          have hsz := bs_size D
          rcases snoc_or D with rfl | ⟨E, b, rfl⟩
          · have hr : rD = [] := HT.out.symm
            have hx0 := HRX0.out hr
            subst hr
            subst hx0
            have ez0 : bs [] = ⟨#[]⟩ := rfl
            rw [ez0] at HW c1
            have r0 := HW.out.res.cell 0
            have r1 := HW.out.res.cell 1
            have r2 := HW.out.res.cell 2
            have y0 := HW.out.res.frozen 0
            have y1 := HW.out.res.frozen 1
            have y2 := HW.out.res.frozen 2
            simp at r0 r1 r2
            clear HRX0 HRX2 HT hsz
            have HF := Lib.hid (((HW.out.setX 0).fin))
            go_wp2
            exact bodyPost_ret (v := .agg #[.bool ng, .string ⟨#[]⟩, .int .i64 0]) (by simp [results, Tryd.results14, go_sem, r0, r1, r2]) rfl ⟨rfl, HF.out⟩
          · obtain ⟨Y, hY, hlen, hlt, hat, hex⟩ := snoc_facts E b
            have hEl : E.length + 1 ≤ G.length := by simpa using hD
            rw [← hY] at HW c1
            have HY := Lib.hid hY
            clear hsz hD hY
            by_cases h48 : b = 48
            · subst h48
              go_wp2
              go_region
              have HW2 := Lib.hid ((HW.out.setD (bs E)).setX (-(nb : Int) + pw + G.length - (E.length + 1) + 1)).drew
              have HT2 : Hid (Lib.trimRightB E 48 = rD) := by rw [← HT.out, trimR_nought]; exact rfl
              have HS := Lib.hid hlen
              go_wp2
              go_roundw
              case rel => exact ⟨E, _, by omega, by omega, HT2, HW2⟩
              case measure => rw [digLen_of HW2.out, digLen_of HW.out, HS.out, bs_size]; omega
            · have f48 : ((b.toNat : Int) == 48) = false := beqF fun e => h48 (UInt8.toNat_inj.1 e)
              have hr : rD = E ++ [b] := by
                have := HT.out
                rw [trimR_other E h48] at this
                exact this.symm
              have HYR : Hid (Y = bs rD) := by rw [hr]; exact HY.out
              have HRX := Lib.hid (HRX2.out (by rw [hr]; simp))
              rw [hr, List.length_append, show ((E.length + [b].length : Nat) : Int) = (E.length : Int) + 1 from rfl] at HRX
              have hx' : x = -(nb : Int) + pw + G.length - ((E.length : Int) + 1) := by rw [hx, List.length_append]; rfl
              rw [← hx'] at HRX
              have hxb : -3000000000000 ≤ x ∧ x ≤ 3000000000000 := by omega
              clear h48 hr HT HRX2 HRX0 hx hx'
              have e5 : (Y.toList == []) = false := by
                rw [beq_eq_false_iff_ne, Lib.toList_data]
                intro h
                have := congrArg List.length h
                rw [← Lib.size_eq, hlen] at this
                simp at this
              have r0 := HW.out.res.cell 0
              have r1 := HW.out.res.cell 1
              have r2 := HW.out.res.cell 2
              have y0 := HW.out.res.frozen 0
              have y1 := HW.out.res.frozen 1
              have y2 := HW.out.res.frozen 2
              simp at r0 r1 r2
              subst hat
              by_cases h1 : 9999 < x
              · have HV : Hid (rX = 9999) := by
                  rw [HRX.out]
                  unfold cla9
                  rw [if_neg (by omega), if_pos h1]
                  exact rfl
                have HF := Lib.hid (((HW.out.setX 9999).fin))
                have d1 : decide ((9999 : Int) < x) = true := decide_eq_true h1
                clear HRX h1
                go_wp2
                exact bodyPost_ret (v := .agg #[.bool ng, .string Y, .int .i64 9999]) (by simp [results, Tryd.results14, go_sem, r0, r1, r2]) rfl ⟨by rw [HV.out, HYR.out], HF.out⟩
              · by_cases h2 : x < -9999
                · have HV : Hid (rX = -9999) := by
                    rw [HRX.out]
                    unfold cla9
                    rw [if_pos h2]
                    exact rfl
                  have HF := Lib.hid (((HW.out.setX (-9999)).fin))
                  have d1 : decide ((9999 : Int) < x) = false := decide_eq_false h1
                  have d2 : decide (x < -9999) = true := decide_eq_true h2
                  clear HRX h1 h2
                  go_wp2
                  exact bodyPost_ret (v := .agg #[.bool ng, .string Y, .int .i64 (-9999)]) (by simp [results, Tryd.results14, go_sem, r0, r1, r2]) rfl ⟨by rw [HV.out, HYR.out], HF.out⟩
                · have HV : Hid (rX = x) := by
                    rw [HRX.out]
                    unfold cla9
                    rw [if_neg h2, if_neg h1]
                    exact rfl
                  have HF := Lib.hid (HW.out.fin)
                  have d1 : decide ((9999 : Int) < x) = false := decide_eq_false h1
                  have d2 : decide (x < -9999) = false := decide_eq_false h2
                  clear HRX h1 h2
                  go_wp2
                  exact bodyPost_ret (v := .agg #[.bool ng, .string Y, .int .i64 x]) (by simp [results, Tryd.results14, go_sem, r0, r1, r2]) rfl ⟨by rw [HV.out, HYR.out], HF.out⟩

end Go.Proofs.YthiclminkbnibaaDoor
