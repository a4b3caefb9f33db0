/-
  Plain facts on layer 26: a long text of one letter is a place, or too long (what UrlLong asks for). No condition.
  The law UrlLong. Condition: the library's variable and tables lie as its text lays them.
-/
import Derived.Test.YtagbndkfbnlpoaaGreatDoorZ9
import Derived.Test.YtagbndkfbnlpoaaGreatDoorZ23
import Derived.Lib.SlBytesConst
import Derived.Lib.SmallJoins
import Derived.ArgAppend
import Derived.Deep.Onto
import Derived.LoopTactic
namespace Go.Proofs.YtagbndkfbnlpoaaGreatDoor

/-- A slash and so many letters x; the place of which it is the path. -/
def lonP (m : Nat) : ByteArray := ⟨(47 :: List.replicate m 120).toArray⟩
def lonU (m : Nat) : Plc := ⟨⟨#[104, 116, 116, 112]⟩, ⟨#[97]⟩, 0, lonP m, ⟨#[]⟩⟩
def lonL (m : Nat) : List UInt8 := [104, 116, 116, 112, 58, 47, 47, 97, 47] ++ List.replicate m 120
theorem lonP_list (m : Nat) : (lonP m).data.toList = 47 :: List.replicate m 120 := rfl
theorem pq_xs : ∀ m, pqL (List.replicate m 120) = List.replicate m 120
  | 0 => rfl
  | m + 1 => by
    rw [List.replicate_succ, pqL_esc, pq_xs m]
    · rfl
    · cases m with
      | zero => rfl
      | succ m => cases m <;> rfl
theorem lon_pq (m : Nat) : pqS (lonP m) = lonP m := by
  apply ByteArray.ext
  apply Array.toList_inj.1
  rw [pqS_list, lonP_list, pqL_esc, pq_xs]
  · rfl
  · cases m with
    | zero => rfl
    | succ m => cases m <;> rfl
theorem pts_xs (m : Nat) : ptsL (List.replicate (m + 1) 120) 0 = 0 := by
  rw [List.replicate_succ]
  cases m with
  | zero => rfl
  | succ m => cases m <;> rfl
theorem lon_dot (m : Nat) : dotS (lonP (m + 1)) = lonP (m + 1) := by
  apply ByteArray.ext
  apply Array.toList_inj.1
  rw [dotS_list, lonP_list, dotL, if_pos (show ((47 : UInt8) == 47) = true from rfl), slsL_last _ (fun b hb => by rw [List.eq_of_mem_replicate hb]; rfl), dotF, if_neg (by rw [pts_xs]; decide), dotF]
  simp [joiL]
theorem lon_47 : nonB #[63, 35] 47 = true := by kernel_rfl
theorem lon_120 : nonB #[63, 35] 120 = true := by kernel_rfl
theorem led_120 : ledB 120 = false := by kernel_rfl
theorem led_32 : ledB 32 = true := by kernel_rfl
theorem lon_rest : (ownP ⟨#[104, 116, 116, 112]⟩ != 0 && namB ⟨#[97]⟩ && decide ((0 : Int) ≤ 0) && decide ((0 : Int) ≤ 65535) && (0 : Int) != ownP ⟨#[104, 116, 116, 112]⟩ && true && qryB ⟨#[]⟩) = true := by kernel_rfl
theorem lon_good (m : Nat) : goodU (lonU (m + 1)) = true := by
  have h : pthB (lonP (m + 1)) = true := by
    unfold pthB
    rw [lon_dot, lon_pq, beq_self_eq_true]
    have h1 : ((lonP (m + 1)).toList == []) = false := by rw [Lib.toList_data, lonP_list]; rfl
    have h2 : allB (nonB #[63, 35]) (lonP (m + 1)) = true := allB_yes fun j hj => by
      have hm : (lonP (m + 1))[j] ∈ (lonP (m + 1)).data.toList := List.getElem_mem (l := (lonP (m + 1)).data.toList) (by simpa using hj)
      rw [lonP_list] at hm
      rcases List.mem_cons.1 hm with e | e
      · rw [e]; exact lon_47
      · rw [List.eq_of_mem_replicate e]; exact lon_120
    rw [h1, h2]
    rfl
  unfold goodU
  show (ownP ⟨#[104, 116, 116, 112]⟩ != 0 && namB ⟨#[97]⟩ && decide ((0 : Int) ≤ 0) && decide ((0 : Int) ≤ 65535) && (0 : Int) != ownP ⟨#[104, 116, 116, 112]⟩ && pthB (lonP (m + 1)) && qryB ⟨#[]⟩) = true
  rw [h]
  exact lon_rest
theorem lon_tex (m : Nat) : (texU (lonU m)).data.toList = lonL m := by
  rw [texU_list, prtS_list]
  simp [lonU, lonP, lonL]

/-- A text with one byte that is let go at each end. -/
theorem trim_one {p : UInt8 → Bool} {s : ByteArray} {b c : UInt8} {l : List UInt8} (hl : s.data.toList = b :: (l ++ [c])) (hb : p b = true) (hc : p c = true) (h : ∀ x ∈ l, p x = false) (h0 : l ≠ []) : trimP p s = ⟨l.toArray⟩ := by
  have h1 : scan p s 0 = 1 := by
    have e : scan p s 0 = ([b] : List UInt8).length := scan_head (l2 := [b]) (l3 := l ++ [c]) hl (fun x hx => by rw [List.mem_singleton.1 hx]; exact hb) fun x q e => by
      cases l with
      | nil => exact absurd rfl h0
      | cons y l =>
        obtain ⟨rfl, _⟩ := List.cons.inj e
        exact h _ (List.mem_cons_self ..)
    exact e
  have e2 : s.extract 1 s.size = ⟨(l ++ [c]).toArray⟩ := ext_back (l1 := [b]) (l2 := l ++ [c]) hl
  unfold trimP
  rw [h1, e2]
  generalize ht : (⟨(l ++ [c]).toArray⟩ : ByteArray) = t
  have hlt : t.data.toList = l ++ [c] := by rw [← ht]
  have hz : t.size = l.length + 1 := by rw [size_of hlt]; simp
  obtain ⟨q, y, hy⟩ : ∃ q y, l = q ++ [y] := ⟨l.dropLast, l.getLast h0, (List.dropLast_concat_getLast _).symm⟩
  have hzl : l.length = q.length + 1 := by rw [hy]; simp
  have at_of : ∀ (i : Nat) (hi : i < t.size) (x : UInt8), (l ++ [c])[i]? = some x → t[i] = x := fun i hi x e => by
    have e3 : t[i] = t.data.toList[i]'(by simpa using hi) := rfl
    rw [e3]
    have : ∀ (m : List UInt8) (hh : i < m.length), m = l ++ [c] → m[i] = x := fun m hh em => by
      subst em
      rw [List.getElem?_eq_getElem hh] at e
      exact Option.some.inj e
    exact this _ _ hlt
  have b1 : backN p t t.size = q.length + 1 := by
    rw [hz, backN_step (by omega) (by rw [at_of l.length (by omega) c (by simp)]; exact hc), hzl]
    refine backN_stop (by omega) ?_
    rw [at_of q.length (by omega) y (by rw [hy]; simp)]
    exact h y (by rw [hy]; simp)
  unfold cutP
  rw [b1, ← hzl]
  exact ext_head hlt

theorem lon_led (m : Nat) : ∀ x ∈ lonL m, ledB x = false := fun x hx => by
  unfold lonL at hx
  rcases List.mem_append.1 hx with hx | hx
  · have : ([104, 116, 116, 112, 58, 47, 47, 97, 47] : List UInt8).all (fun x => !ledB x) = true := by kernel_rfl
    have := List.all_eq_true.1 this x hx
    simpa using this
  · rw [List.eq_of_mem_replicate hx]; exact led_120
theorem lon_trim {s : ByteArray} {m : Nat} (hl : s.data.toList = 32 :: (lonL m ++ [32])) : trimP ledB s = ⟨(lonL m).toArray⟩ :=
  trim_one hl led_32 led_32 (lon_led m) (by simp [lonL])
theorem lon_size (m : Nat) : (⟨(lonL m).toArray⟩ : ByteArray).size = 9 + m := by
  show (lonL m).toArray.size = _
  simp [lonL]
  omega
theorem lon_url {s : ByteArray} {m : Nat} (hl : s.data.toList = 32 :: (lonL (m + 1) ++ [32])) : urlO s = if 8192 < 9 + (m + 1) then .error 6 else .ok (lonU (m + 1)) := by
  have ht := lon_trim hl
  by_cases hm : 8192 < 9 + (m + 1)
  · rw [if_pos hm]
    unfold urlO
    simp only [ht]
    rw [if_pos (by rw [lon_size]; exact hm)]
  · rw [if_neg hm]
    have e : (⟨(lonL (m + 1)).toArray⟩ : ByteArray) = texU (lonU (m + 1)) := arr_of (lon_tex (m + 1))
    have h2 := tex_url (lon_good m) (by rw [← e, lon_size]; omega)
    have t2 : trimP ledB (texU (lonU (m + 1))) = texU (lonU (m + 1)) := trim_self fun b hb => lon_led (m + 1) b (by rw [← lon_tex]; exact hb)
    unfold urlO at h2 ⊢
    simp only [t2] at h2
    simp only [ht, e]
    exact h2

end Go.Proofs.YtagbndkfbnlpoaaGreatDoor
namespace Go.Proofs.YtagbndkfbnlpoaaGreatDoor
open Go.RowKit

def lonV (k : Nat) : List Value := (lonL k).map fun b => .int .u8 (b.toNat : Int)
def lonC : Array Value := #[.int .u8 104, .int .u8 116, .int .u8 116, .int .u8 112, .int .u8 58, .int .u8 47, .int .u8 47, .int .u8 97, .int .u8 47]
theorem lonV_succ (k : Nat) : lonV (k + 1) = lonV k ++ [.int .u8 120] := by
  unfold lonV lonL
  rw [List.replicate_succ', List.map_append, List.map_append, List.map_append, List.append_assoc]
  rfl
theorem lonL_len (k : Nat) : (lonL k).length = 9 + k := by simp [lonL]; omega
theorem lonV_at {n j : Nat} (h : j < 9 + n) : (lonV n)[j]? = some (.int .u8 (((lonL n)[j]'(by rw [lonL_len]; exact h)).toNat : Int)) := by
  unfold lonV
  rw [List.getElem?_map, List.getElem?_eq_getElem (by rw [lonL_len]; exact h)]
  rfl
theorem lon_drewN {w : World} {base n : Nat} {v : Value} {xs : List Value} (h : w.ownsRow base 5 1 v n xs) (j : Nat) : (w.drewN j).ownsRow base 5 1 v n xs := h
theorem lon_back {n : Nat} {v : Value} {W : World} {base : Nat} (h : W.ownsRow base 5 1 v (9 + n) (lonV n)) :
    (convert 38 9 v).run Tryz.prog W = .ok (.string ⟨(lonL n).toArray⟩) W := by
  have h' := h
  rcases h.2 with ⟨_, h0⟩ | ⟨g, cap, cur, rfl, _⟩
  · exact absurd h0 (by omega)
  · have := run_convert_bytes_back (P := Tryz.prog) W 38 9 5 ⟨g, 0, none⟩ cap (lonL n) Tryz.underlying38 Tryz.underlying5 Tryz.underlying9 (fun j hj => by
      have hj' : j < 9 + n := by rw [lonL_len] at hj; exact hj
      have e : (⟨g, 0, none⟩ : Addr).add j = ⟨g, j, none⟩ := by cases j <;> simp [Addr.add]
      rw [e, h'.cellAt j (by omega), lonV_at hj'])
    rw [lonL_len] at this
    simpa using this

set_option maxRecDepth 100000 in
set_option maxHeartbeats 4000000 in
theorem ulong_walk (n m : Nat) (hm : m = 8170 + n % 40) (a b p q x : ByteArray) (e k : Int) (w : World)
    (hx : x = (⟨#[32]⟩ ++ ⟨(lonL m).toArray⟩) ++ ⟨#[32]⟩)
    (HP : Hid (∀ W, Below w.heap.size w W → Calls Tryz.prog 7 #[.string x] W fun y w' => y = .returned (.tuple #[urV a b k p q, .int .i64 e]) ∧ Below W.heap.size W w'))
    (HE : Hid (decide (8192 < ((9 + m : Nat) : Int)) = true → a = ⟨#[]⟩ ∧ b = ⟨#[]⟩ ∧ k = 0 ∧ p = ⟨#[]⟩ ∧ q = ⟨#[]⟩ ∧ e = 6))
    (HO : Hid (decide (8192 < ((9 + m : Nat) : Int)) = false → e = 0 ∧ p.size = 1 + m))
    (HLV : Hid (∀ W, Below w.heap.size w W → Calls Tryz.prog 10 #[] W fun y w' => y = .returned (.bool true) ∧ Below W.heap.size W w')) :
    Calls Tryz.prog 5 #[.int .u16 n] w fun e w' => e = .returned (.bool true) ∧ Below w.heap.size w w' := by
  obtain ⟨i0, hi, hz0, hz1, hz2⟩ := info_parts Tryz.info5
  have hbc := fun (w : World) => Lib.run_convert_bytes_const (P := Tryz.prog) w 38 5 #[.int .u8 104, .int .u8 116, .int .u8 116, .int .u8 112, .int .u8 58, .int .u8 47, .int .u8 47, .int .u8 97, .int .u8 47] 9 9 Tryz.underlying38 Tryz.underlying5
  obtain ⟨r, hr⟩ : ∃ r : Nat, r = n % 40 := ⟨_, rfl⟩
  have hmi : (n : Int) % 40 = (r : Int) := by omega
  have hmj : (8170 : Int) + (r : Int) = (m : Int) := by omega
  have hr1 : (r : Int) < 40 := by omega
  have hr0 : (0 : Int) ≤ (r : Int) := by omega
  have hm2 : m < 8210 := by omega
  have hm0 : 8170 ≤ m := by omega
  clear hm hr
  go_enter Tryz.func5, Tryz.ntmps5
  go_wp2_with fail
  go_loopw [3, 4] (fun v i wr => ∃ k : Nat, k ≤ m ∧ i = .int .i64 k ∧ ((k = 0 ∧ v = .slice (some ⟨w.heap.size, 0, none⟩) 9 9 ∧ wr.heap[w.heap.size]? = some (.cells lonC 5 (9, 10))) ∨ wr.ownsRow w.heap.size 5 1 v (9 + k) (lonV k)) ∧ Below w.heap.size w wr) (fun _ i _ => m - (intOf i).toNat)
  case atStart => exact ⟨0, Nat.zero_le _, rfl, Or.inl ⟨rfl, rfl, by show (w.heap.push _)[w.heap.size]? = _; exact Array.getElem?_push_size⟩, (Below.refl _ _).alloc (Nat.le_refl _) _⟩
  case round =>
    obtain ⟨j, hk, rfl, hown, hW⟩ := hrel
    have HW := Lib.hid hW
    clear hW
    rcases hown with ⟨h0, rfl, hblk⟩ | hown
    · subst h0
      have hlt0 : w.heap.size < wr.heap.size := (Array.getElem?_eq_some_iff.1 hblk).1
      have HK := Lib.hid (fun o => (Below.heap_alloc wr o _ hlt0).trans hblk)
      clear hblk
      have hlt : 0 < m := by omega
      go_wp2_with (at_builtin; refine wpList_append_grows _ rfl _ _ 38 rfl 5 i0 (.int .u8 0) 1 1 Tryz.underlying38 hi hz0 hz1 hz2 rfl (by decide) (some ⟨w.heap.size, 0, none⟩) 9 9 (lonV 0) rfl (fun h => by cases h) rfl ?olds ⟨wr.heap.size, 0, none⟩ 1 1 [.int .u8 120] rfl rfl ?_ ?_ ?_ ?_ ?_ ?_)
      case olds =>
        intro b hb j u hj
        cases hb
        have e : (⟨w.heap.size, 0, none⟩ : Addr).add j = ⟨w.heap.size, j, none⟩ := by cases j <;> simp [Addr.add]
        rw [e, Joins.cell_of_block (HK.out _)]
        have e2 : lonV 0 = lonC.toList := rfl
        rw [e2] at hj
        simpa using hj
      · intro j u hj
        match j, hj with
        | 0, hj => simp at hj; subst hj; simp [Addr.add]
      · intro u hu; simp at hu; subst hu; rfl
      · decide
      · unfold maxLen; omega
      · omega
      · intro v' w1 hown' hgrow
        have hown2 : w1.ownsRow (wr.heap.size + 1) 5 1 v' (9 + (0 + 1)) (lonV (0 + 1)) := by rw [lonV_succ]; simpa using hown'
        have hsz := HW.out.size
        have HO2 := Lib.hid (hown2.mono (show w.heap.size ≤ wr.heap.size + 1 by omega))
        have HG := Lib.hid (Below.grown (HW.out.alloc hsz _) hgrow (by simp; omega) (fun g hg => by cases hg))
        clear hown2 hown' hgrow
        go_wp2
        go_roundw
        case rel => exact ⟨0 + 1, by omega, by go_num, Or.inr HO2.out, HG.out⟩
        case measure => simp [intOf]; omega
    · have HO1 := Lib.hid hown
      clear hown
      by_cases hlt : j < m
      · have HX := Lib.hid (lonV_succ j)
        go_wp2_with (at_builtin; refine wpList_append_own _ rfl _ _ 38 rfl w.heap.size 5 i0 (.int .u8 0) 1 1 Tryz.underlying38 hi hz0 hz1 hz2 rfl (by decide) _ _ _ rfl (HO1.out.alloc _) ⟨wr.heap.size, 0, none⟩ 1 1 [.int .u8 120] rfl rfl ?_ ?_ ?_ ?_ ?_ ?_)
        · intro j u hj
          match j, hj with
          | 0, hj => simp at hj; subst hj; simp [Addr.add]
        · intro u hu; simp at hu; subst hu; rfl
        · unfold maxLen; omega
        · omega
        · have := HW.out.size; simp; omega
        · intro v' w1 hown' hgrow _
          have hown2 : w1.ownsRow w.heap.size 5 1 v' (9 + (j + 1)) (lonV (j + 1)) := by rw [HX.out]; exact hown'
          have HO2 := Lib.hid hown2
          have HG := Lib.hid (Below.grown (HW.out.alloc (by have := HW.out.size; omega) _) hgrow (by have := HW.out.size; simp; omega) (fun g hg => (HO1.out.lt g hg).1))
          clear hown2 hown' hgrow
          go_wp2
          go_roundw
          case rel => exact ⟨j + 1, by omega, by go_num, Or.inr HO2.out, HG.out⟩
          case measure => simp [intOf]; omega
      · obtain rfl : j = m := by omega
        have hback := lon_back HO1.out
        rcases HO1.out.2 with ⟨_, h0⟩ | ⟨g, cap, cur, rfl, _⟩
        · exact absurd h0 (by omega)
        clear HO1 hi hz0 hz1 hz2
        have hLs : (⟨(lonL j).toArray⟩ : ByteArray).size ≤ 9000 := by rw [lon_size]; omega
        generalize (⟨(lonL j).toArray⟩ : ByteArray) = L at *
        obtain ⟨N, hN⟩ : ∃ N, N = 9 + j := ⟨_, rfl⟩
        rw [← hN] at hback HE HO
        rw [← hN]
        have HN := Lib.hid hN
        clear hN
        go_wp2_with fail
        rw [← hx]
        refine (HP.out _ HW.out).mono ?_
        rintro y w1 ⟨rfl, b1⟩
        obtain ⟨w2, hw2⟩ : ∃ w2, w2 = w1.alloc (urC a b k p q) := ⟨_, rfl⟩
        have HB2 := Lib.hid (show Below w.heap.size w w2 from by rw [hw2]; exact (below_on HW.out b1).alloc (below_on HW.out b1).size _)
        have HZ2 := Lib.hid (show Blk w2 w1.heap.size 24 (urA a b k p q) from by rw [hw2]; exact Blk.new w1 _ _)
        clear b1 HP
        go_upto_region 7 with fail
        rw [← hw2]
        clear hw2
        cases hd : decide (8192 < (N : Int))
        · obtain ⟨rfl, hps⟩ := HO.out hd
          have hNj := HN.out
          have hln : ((p.size : Int) == (N : Int) - 8) = true := by rw [beq_iff_eq]; omega
          have hl8 : (8 : Int) ≤ (N : Int) := by omega
          have hl9 : (N : Int) ≤ 9000 := by omega
          clear hNj HE HO hps
          obtain ⟨e0, e1, e2, e3, e4⟩ := url_keep HZ2.out
          go_wp2_with fail
          refine (HLV.out _ HB2.out).mono ?_
          rintro y w6 ⟨rfl, b6⟩
          have HB6 := Lib.hid (below_on HB2.out b6)
          clear b6
          go_wp2
          go_ret
          exact ⟨rfl, HB6.out⟩
        · obtain ⟨rfl, rfl, rfl, rfl, rfl, rfl⟩ := HE.out hd
          clear HE HO HN
          obtain ⟨e0, e1, e2, e3, e4⟩ := url_keep HZ2.out
          go_wp2_with fail
          refine (HLV.out _ HB2.out).mono ?_
          rintro y w6 ⟨rfl, b6⟩
          have HB6 := Lib.hid (below_on HB2.out b6)
          clear b6
          go_wp2
          go_ret
          exact ⟨rfl, HB6.out⟩

theorem ulong_any (n : Nat) (_hn : n < 65536) (w : World) (hl : Lib3 w) :
    Calls Tryz.prog 5 #[.int .u16 n] w fun e w' => e = .returned (.bool true) ∧ Below w.heap.size w w' := by
  obtain ⟨m, hm⟩ : ∃ m : Nat, m = 8170 + n % 40 := ⟨_, rfl⟩
  obtain ⟨x, hx⟩ : ∃ x : ByteArray, x = (⟨#[32]⟩ ++ ⟨(lonL m).toArray⟩) ++ ⟨#[32]⟩ := ⟨_, rfl⟩
  have hm2 : m < 8210 := by omega
  have hls := lon_size m
  have hxs : x.size ≤ 9000 := by
    rw [hx, ByteArray.size_append, ByteArray.size_append, hls]
    have h1 : (⟨#[32]⟩ : ByteArray).size = 1 := rfl
    rw [h1]
    omega
  have HP := fun W (hW : Below w.heap.size w W) => parse26_any x W (by omega) (hl.stays hW).m (hl.stays hW).u
  have HLV := fun W (hW : Below w.heap.size w W) => lives26_any W (hl.stays hW)
  obtain ⟨m1, hm1⟩ : ∃ m1, m = m1 + 1 := ⟨m - 1, by omega⟩
  have hu := lon_url (s := x) (m := m1) (by
    rw [hx, hm1]
    simp [ByteArray.data_append])
  rw [← hm1] at hu
  simp only [plc_two] at HP
  by_cases hb : 8192 < 9 + m
  · rw [if_pos hb] at hu
    rw [hu] at HP
    exact ulong_walk n m hm _ _ _ _ x _ _ w hx (Lib.hid HP) (Lib.hid fun _ => ⟨rfl, rfl, rfl, rfl, rfl, rfl⟩) (Lib.hid fun h => by have := of_decide_eq_false h; omega) (Lib.hid HLV)
  · rw [if_neg hb] at hu
    rw [hu] at HP
    refine ulong_walk n m hm _ _ _ _ x _ _ w hx (Lib.hid HP) (Lib.hid fun h => by have := of_decide_eq_true h; omega) (Lib.hid fun h => ⟨rfl, ?_⟩) (Lib.hid HLV)
    show (lonP m).data.size = 1 + m
    simp [lonP]
    omega

end Go.Proofs.YtagbndkfbnlpoaaGreatDoor
