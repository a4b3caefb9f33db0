/-
  What Cut of the library answers at one byte; plain facts on a text's lines. Condition: the text is as long as a length can be.
  What ContainsAny of the library answers of any text and the bytes 0, 10 and 13. Condition: the text has less than 4294967281 bytes.
  What Same and Serial of package mime answer of types. Condition: texts are as long as a mebibyte, and parameters as many.
-/
import Derived.Test.YtjikahflbhgniaaZ1
import Derived.Test.YtjikahflbhgniaaZ7
import Derived.Test.YtjikahflbhgniaaZ2
import Derived.BigQuiet
import Derived.IntWalk
import Derived.Test.YtjikahflbhgniaaZ3
import Derived.Laws.RangeAny
import Derived.Laws.Runes
import Derived.Lib.OthersKept
import Derived.Deep.LoopGhost
import Derived.Test.YtjikahflbhgniaaZ6
import Derived.StillTailTactics
import Derived.Deep.RegionWith
namespace Go.Proofs.Ytjikahflbhgniaa
open Go.RowKit

def notB (c : UInt8) (b : UInt8) : Bool := b != c
theorem idx_run (c : UInt8) : ∀ l : List UInt8, Lib.indexByte l c = if (l.takeWhile (notB c)).length < l.length then ((l.takeWhile (notB c)).length : Int) else -1
  | [] => rfl
  | b :: l => by
    have ih := idx_run c l
    have hle := (List.takeWhile_sublist (l := l) (notB c)).length_le
    rw [Lib.indexByte, List.takeWhile_cons]
    by_cases h : b = c
    · have h2 : notB c b = false := by unfold notB; simp [h]
      rw [if_pos (by simp [h]), h2]
      simp
    · have h2 : notB c b = true := by unfold notB; simpa using h
      rw [if_neg (by simp [h]), h2]
      simp only [if_true, List.length_cons]
      by_cases h3 : (l.takeWhile (notB c)).length < l.length
      · have e : Lib.indexByte l c = ((l.takeWhile (notB c)).length : Int) := by rw [ih, if_pos h3]
        rw [e, if_neg (by simp), if_pos (by omega)]
        push_cast
        rfl
      · have e : Lib.indexByte l c = -1 := by rw [ih, if_neg h3]
        rw [e, if_pos (by rfl), if_neg (by omega)]
theorem idx_scan (s : ByteArray) (c : UInt8) : Lib.indexByte s.data.toList c = if scan (notB c) s 0 < s.size then (scan (notB c) s 0 : Int) else -1 := by
  rw [idx_run]
  unfold scan
  rw [List.drop_zero, Nat.zero_add, Lib.size_eq]

set_option maxHeartbeats 1000000 in
theorem lcut_yes (c : UInt8) (s : ByteArray) (e : Nat) (w : World) (hs : s.size ≤ 9223372036854775806) (he : scan (notB c) s 0 = e) (hlt : e < s.size) :
    Calls Try.prog 83 #[.string s, .string ⟨#[c]⟩] w fun x w' => x = .returned (.tuple #[.string (s.extract 0 e), .string (s.extract (e + 1) s.size), .bool true]) ∧ ∃ n, w' = w.drewN n := by
  have HI := Lib.hid (fun W => stringslite_Index_one s c W)
  rw [idx_scan, he, if_pos hlt] at HI
  clear he
  have w1 : IntKind.i64.wrap ((e : Int) + 1) = (e : Int) + 1 := IntWalk.i64_in _ (by omega)
  have w2 : (0 : Int) ≤ (e : Int) + 1 := by omega
  have w3 : ((e : Int) + 1).toNat = e + 1 := by omega
  have w4 : e + 1 ≤ s.size := hlt
  have w5 : e ≤ s.size := by omega
  have w6 : (e : Int) + 1 ≤ (s.size : Int) := by omega
  have hz : (⟨#[c]⟩ : ByteArray).size = 1 := rfl
  obtain ⟨t, ht⟩ : ∃ t : ByteArray, t = ⟨#[c]⟩ := ⟨_, rfl⟩
  rw [← ht] at HI hz ⊢
  clear ht
  go_enter Try.func83, Try.ntmps83
  go_wp2_with (go_at_call 96; (with_reducible refine (HI.out _).mono ?_); rintro x w1 ⟨rfl, hw⟩; rw [hw])
  go_quiet (fail)
  go_wp2
  exact bodyPost_ret (v := .tuple #[.string (s.extract 0 e), .string (s.extract (e + 1) s.size), .bool true]) (by simp [results, Try.results83, go_sem]) rfl ⟨rfl, _, rfl⟩

set_option maxHeartbeats 1000000 in
theorem lcut_no (c : UInt8) (s : ByteArray) (w : World) (he : ¬ scan (notB c) s 0 < s.size) :
    Calls Try.prog 83 #[.string s, .string ⟨#[c]⟩] w fun x w' => x = .returned (.tuple #[.string s, .string ⟨#[]⟩, .bool false]) ∧ ∃ n, w' = w.drewN n := by
  have HI := Lib.hid (fun W => stringslite_Index_one s c W)
  rw [idx_scan, if_neg he] at HI
  clear he
  go_enter Try.func83, Try.ntmps83
  go_wp2_with (go_at_call 96; (with_reducible refine (HI.out _).mono ?_); rintro x w1 ⟨rfl, hw⟩; rw [hw])
  exact bodyPost_ret (v := .tuple #[.string s, .string ⟨#[]⟩, .bool false]) (by simp [results, Try.results83, go_sem]) rfl ⟨rfl, 0, rfl⟩

theorem cutAt_yes (c : UInt8) (s : ByteArray) (e : Nat) (w : World) (hs : s.size ≤ 9223372036854775806) (he : scan (notB c) s 0 = e) (hlt : e < s.size) :
    Calls Try.prog 68 #[.string s, .string ⟨#[c]⟩] w fun x w' => x = .returned (.tuple #[.string (s.extract 0 e), .string (s.extract (e + 1) s.size), .bool true]) ∧ ∃ n, w' = w.drewN n := by
  have HC := Lib.hid (lcut_yes c s e w hs he hlt)
  obtain ⟨t, ht⟩ : ∃ t : ByteArray, t = ⟨#[c]⟩ := ⟨_, rfl⟩
  rw [← ht] at HC ⊢
  obtain ⟨a, ha⟩ : ∃ a, a = s.extract 0 e := ⟨_, rfl⟩
  obtain ⟨b, hb⟩ : ∃ b, b = s.extract (e + 1) s.size := ⟨_, rfl⟩
  rw [← ha, ← hb] at HC ⊢
  clear ht ha hb he
  go_enter Try.func68, Try.ntmps68
  go_wp2_with fail
  refine HC.out.mono ?_
  rintro x w1 ⟨rfl, q, rfl⟩
  go_wp2
  exact bodyPost_ret (v := .tuple #[.string a, .string b, .bool true]) (by simp [results, Try.results68, go_sem]) rfl ⟨rfl, _, rfl⟩
theorem cutAt_no (c : UInt8) (s : ByteArray) (w : World) (he : ¬ scan (notB c) s 0 < s.size) :
    Calls Try.prog 68 #[.string s, .string ⟨#[c]⟩] w fun x w' => x = .returned (.tuple #[.string s, .string ⟨#[]⟩, .bool false]) ∧ ∃ n, w' = w.drewN n := by
  have HC := Lib.hid (lcut_no c s w he)
  obtain ⟨t, ht⟩ : ∃ t : ByteArray, t = ⟨#[c]⟩ := ⟨_, rfl⟩
  rw [← ht] at HC ⊢
  clear ht he
  go_enter Try.func68, Try.ntmps68
  go_wp2_with fail
  refine HC.out.mono ?_
  rintro x w1 ⟨rfl, q, rfl⟩
  go_wp2
  exact bodyPost_ret (v := .tuple #[.string s, .string ⟨#[]⟩, .bool false]) (by simp [results, Try.results68, go_sem]) rfl ⟨rfl, _, rfl⟩

/-- Without a 13 at the end. -/
theorem cr13_trim (t : ByteArray) : (⟨(Lib.trimSuffix t.data.toList [13]).toArray⟩ : ByteArray) = cr13 t := by
  rcases List.eq_nil_or_concat t.data.toList with e | ⟨a, b, e⟩
  · have ht : t = ⟨#[]⟩ := by
      apply ByteArray.ext
      apply Array.toList_inj.1
      rw [e]
    have h0 : (⟨(Lib.trimSuffix (⟨#[]⟩ : ByteArray).data.toList [13]).toArray⟩ : ByteArray) = cr13 ⟨#[]⟩ := by kernel_rfl
    rw [ht]
    exact h0
  · unfold Lib.trimSuffix Lib.hasSuffix cr13
    rw [List.concat_eq_append] at e
    have hz : t.size = a.length + 1 := by rw [Lib.size_eq, e]; simp
    have hk : a.length < t.size := by omega
    have hb : t[a.length]! = b := by
      rw [getElem!_pos t a.length hk]
      have h2 : t.data.toList.drop a.length = b :: [] := by rw [e]; simp
      obtain ⟨_, e2⟩ := at_run h2
      exact e2
    rw [hz, Nat.add_sub_cancel, hb, e]
    by_cases h : b = 13
    · subst h
      rw [if_pos (by simp), if_pos ⟨by omega, rfl⟩]
      apply ByteArray.ext
      apply Array.toList_inj.1
      rw [bytes_extract, e]
      simp
    · rw [if_neg (by rw [List.isSuffixOf_iff_suffix]; intro hs; obtain ⟨u, hu⟩ := hs; have := List.append_inj_right' hu rfl; simp at this; exact h this.symm), if_neg (fun hh => h hh.2)]
      apply ByteArray.ext
      apply Array.toList_inj.1
      rw [e]
theorem suf_scan {p : UInt8 → Bool} {s : ByteArray} {k : Nat} (_hk : k ≤ s.size) : k + scan p (s.extract k s.size) 0 = scan p s k := by
  unfold scan
  rw [List.drop_zero, Nat.zero_add, bytes_extract]
  rw [List.take_of_length_le (by rw [← Lib.size_eq]; exact Nat.le_refl _)]
theorem suf_size {s : ByteArray} {k : Nat} (_hk : k ≤ s.size) : (s.extract k s.size).size = s.size - k := by simp
theorem suf_ext {s : ByteArray} {k i j : Nat} (_hj : k + j ≤ s.size) : (s.extract k s.size).extract i j = s.extract (k + i) (k + j) := by
  apply ByteArray.ext
  apply Array.toList_inj.1
  rw [bytes_extract, bytes_extract, bytes_extract, List.take_of_length_le (l := s.data.toList) (by rw [← Lib.size_eq]; exact Nat.le_refl _), List.take_drop, List.drop_drop]

end Go.Proofs.Ytjikahflbhgniaa
namespace Go.Proofs.Ytjikahflbhgniaa
open Go.RowKit

/-- A byte that is none of ASCII's: what is read there is a rune, and lies in bytes that are none either. -/
theorem decode_span (s : ByteArray) (pos : Nat) (h : pos < s.size) (ha : 128 ≤ (s[pos]'h).toNat) :
    pos + (Utf8.decode s pos).2 ≤ s.size ∧ ∀ j, pos ≤ j → j < pos + (Utf8.decode s pos).2 → ∃ hj : j < s.size, 128 ≤ (s[j]'hj).toNat := by
  have hn : ¬ (s[pos]'h).toNat < 128 := by omega
  have key : ∀ k, pos + k < s.size → (s.get! (pos + k)).toNat / 64 = 2 → ∃ hj : pos + k < s.size, 128 ≤ (s[pos + k]'hj).toNat := fun k hk e => ⟨hk, by
    have := get_at s (pos + k) hk
    rw [Nat.add_zero] at this
    rw [← this]
    omega⟩
  have k0 : ∃ hj : pos + 0 < s.size, 128 ≤ (s[pos + 0]'hj).toNat := ⟨h, ha⟩
  have fin : ∀ d, d ≠ 0 → (∀ k, k < d → ∃ hj : pos + k < s.size, 128 ≤ (s[pos + k]'hj).toNat) → pos + d ≤ s.size ∧ ∀ j, pos ≤ j → j < pos + d → ∃ hj : j < s.size, 128 ≤ (s[j]'hj).toNat := fun d hd hk => by
    refine ⟨by obtain ⟨hj, _⟩ := hk (d - 1) (by omega); omega, fun j h1 h2 => ?_⟩
    obtain ⟨k, rfl⟩ : ∃ k, j = pos + k := ⟨j - pos, by omega⟩
    exact hk k (by omega)
  have one : ∀ k, k < 1 → ∃ hj : pos + k < s.size, 128 ≤ (s[pos + k]'hj).toNat := fun k hk => by
    obtain rfl : k = 0 := by omega
    exact k0
  simp only [Utf8.decode, get_at s pos h, hn, if_false]
  split
  · rename_i h2
    simp only [Bool.and_eq_true, decide_eq_true_eq, beq_iff_eq] at h2
    split
    · exact fin 2 (by decide) fun k hk => by
        match k, hk with
        | 0, _ => exact k0
        | 1, _ => exact key 1 h2.2.1 h2.2.2
    · exact fin 1 (by decide) one
  · split
    · rename_i h2
      simp only [Bool.and_eq_true, decide_eq_true_eq, beq_iff_eq] at h2
      split
      · exact fin 3 (by decide) fun k hk => by
          match k, hk with
          | 0, _ => exact k0
          | 1, _ => exact key 1 h2.1.2.1 h2.1.2.2
          | 2, _ => exact key 2 h2.2.1 h2.2.2
      · exact fin 1 (by decide) one
    · split
      · rename_i h2
        simp only [Bool.and_eq_true, decide_eq_true_eq, beq_iff_eq] at h2
        split
        · exact fin 4 (by decide) fun k hk => by
            match k, hk with
            | 0, _ => exact k0
            | 1, _ => exact key 1 h2.1.1.2.1 h2.1.1.2.2
            | 2, _ => exact key 2 h2.1.2.1 h2.1.2.2
            | 3, _ => exact key 3 h2.2.1 h2.2.2
        · exact fin 1 (by decide) one
      · exact fin 1 (by decide) one
theorem decode_valid (s : ByteArray) (pos : Nat) (h : pos < s.size) (ha : 128 ≤ (s[pos]'h).toNat) : Utf8.valid ((Utf8.decode s pos).1 : Int) = true := by
  have hn : ¬ (s[pos]'h).toNat < 128 := by omega
  have he : Utf8.valid ((65533 : Nat) : Int) = true := by kernel_rfl
  have hb : (s.get! (pos + 1)).toNat < 256 := (s.get! (pos + 1)).toNat_lt
  have h0 : (s[pos]'h).toNat < 256 := (s[pos]'h).toNat_lt
  simp only [Utf8.decode, get_at s pos h, hn, if_false]
  split
  · split
    · show Utf8.valid ((_ : Nat) : Int) = true
      simp only [Utf8.valid, Bool.or_eq_true, Bool.and_eq_true, decide_eq_true_eq]
      left
      omega
    · exact he
  · split
    · split
      · rename_i h2
        simp only [Bool.and_eq_true] at h2
        exact h2.2
      · exact he
    · split
      · split
        · rename_i h2
          simp only [Bool.and_eq_true] at h2
          exact h2.2
        · exact he
      · exact he

set_option maxHeartbeats 400000 in
theorem validRune_any (c : Int) (w : World) (h : Utf8.valid c = true) :
    Calls Try.prog 100 #[.int .i32 c] w fun e w' => e = .returned (.bool true) ∧ w = w' := by
  rw [validRune_eq] at h
  unfold validRune at h
  rw [decide_eq_true_eq] at h
  rcases h with ⟨h1, h2⟩ | ⟨h1, h2⟩
  · have g1 : decide (0 ≤ c) = true := by simpa using h1
    have g2 : decide (c < 55296) = true := by simpa using h2
    go_enter Try.func100, Try.ntmps100
    go_wp2
    go_ret
    exact ⟨rfl, rfl⟩
  · have g1 : decide (0 ≤ c) = true := by simp; omega
    have g2 : decide (c < 55296) = false := by simp; omega
    have g3 : decide (57343 < c) = true := by simpa using h1
    have g4 : decide (c ≤ 1114111) = true := by simpa using h2
    go_enter Try.func100, Try.ntmps100
    go_wp2
    go_ret
    exact ⟨rfl, rfl⟩

set_option maxHeartbeats 1000000 in
set_option maxRecDepth 100000 in
theorem indexRune_err (t : ByteArray) (w : World) (ht : ∀ i (h : i < t.size), (t[i]'h).toNat < 128) (_hs : t.size ≤ 100) :
    Calls Try.prog 89 #[.string t, .int .i32 65533] w fun e w' => e = .returned (.int .i64 (-1)) ∧ Below w.heap.size w w' := by
  have HT := Lib.hid ht
  have HB := Lib.hid fun i => (Below.refl w.heap.size w).alloc (Nat.le_refl _) (.stringIter t i)
  clear ht
  go_enter Try.func89, Try.ntmps89
  go_wp2
  go_loopg [5, 6] t.size (fun g _ _ wx => ∃ i : Nat, i + g = t.size ∧ wx = w.iter t i)
  case atStart => exact ⟨0, by omega, rfl⟩
  case round =>
    obtain ⟨i, hig, rfl⟩ := hrel
    cases gk with
    | zero =>
      obtain rfl : i = t.size := by omega
      have hnx := run_next_end (P := Try.prog) w t t.size
      go_wp2
      go_ret
      exact ⟨rfl, HB.out _⟩
    | succ g =>
      have hi : i < t.size := by omega
      obtain ⟨x, hx⟩ : ∃ x : UInt8, t[i]'hi = x := ⟨_, rfl⟩
      have hx128 : x.toNat < 128 := by rw [← hx]; exact HT.out i hi
      have hnx := fun ty => run_next_ascii (P := Try.prog) w t i ty hi (by rw [hx]; exact hx128)
      rw [hx] at hnx
      clear hx
      have hne : ((x.toNat : Int) == 65533) = false := by simp; omega
      go_wp2
      go_roundg g
      case measure => omega
      case rel => exact ⟨i + 1, by omega, rfl⟩

set_option maxHeartbeats 2000000 in
set_option maxRecDepth 100000 in
theorem indexRune_far (t : ByteArray) (c : Int) (w : World) (ht : ∀ b ∈ t.data.toList, b.toNat < 128) (_hs : t.size ≤ 100) (h1 : 128 ≤ c) (hv : Utf8.valid c = true) (hne : c ≠ 65533) :
    Calls Try.prog 89 #[.string t, .int .i32 c] w fun e w' => e = .returned (.int .i64 (-1)) ∧ Below w.heap.size w w' := by
  obtain ⟨e2, e4, el⟩ := encode_facts c hv h1
  have HV := Lib.hid fun W => validRune_any c W hv
  have g0 : decide (0 ≤ c) = true := by simp; omega
  have g1 : decide (c < 128) = false := by simp; omega
  have g2 : (c == 65533) = false := by simpa using hne
  obtain ⟨rs, hrs⟩ : ∃ rs, Utf8.encode c = rs := ⟨_, rfl⟩
  rw [hrs] at e2 e4 el
  clear hv h1 hne
  obtain ⟨k, hk⟩ : ∃ k, rs.size = k + 1 := ⟨rs.size - 1, by omega⟩
  have hkl : k < rs.size := by omega
  obtain ⟨x, hx⟩ : ∃ x : UInt8, rs[k]'hkl = x := ⟨_, rfl⟩
  have hx128 : 128 ≤ x.toNat := by
    rw [← hx]
    have := el (by omega)
    simp only [hk, Nat.add_sub_cancel] at this
    exact this
  have hkz : ((rs.size : Int) - 1) = (k : Int) := by omega
  have HI := Lib.hid fun a W => (indexByte_any (t.extract a t.size) x W)
  have HF := Lib.hid fun a => firstIdx_ascii t a t.size x ht hx128
  have HT := Lib.hid ht
  clear ht el hk
  go_enter Try.func89, Try.ntmps89
  go_wp2_with (go_at_call 100; (with_reducible refine (HV.out _).mono ?_); rintro e w1 ⟨rfl, rfl⟩)
  go_step3
  go_wp2
  go_loop [9] (fun i => i = .int .i64 (k : Nat)) (fun _ => 0)
  case atStart => rfl
  case round =>
    obtain rfl := hrel
    by_cases hlt : k < t.size
    · obtain ⟨y, hy⟩ : ∃ y : UInt8, t[k]'hlt = y := ⟨_, rfl⟩
      have hyx : ((y.toNat : Int) != (x.toNat : Int)) = true := by
        have := HT.out y (by rw [← hy]; exact Array.getElem_mem_toList (xs := t.data) hlt)
        simp
        omega
      have HI1 := Lib.hid fun W => HI.out (k + 1) W
      have HF1 := HF.out (k + 1)
      rw [HF1] at HI1
      clear HF1 HI HF
      have w1 : IntKind.i64.wrap ((k : Int) + 1) = (k : Int) + 1 := IntWalk.i64_in _ (by omega)
      have w2 : (0 : Int) ≤ (k : Int) + 1 := by omega
      have w3 : ((k : Int) + 1).toNat = k + 1 := by omega
      have w4 : k + 1 ≤ t.size := hlt
      have w5 : ((k : Int) + 1 ≤ (t.size : Int)) := by omega
      go_wp2_with fail
      go_step3
      go_wp2_with fail
      go_quiet (fail)
      go_wp2_with fail
      generalize HE : World.drewN w _ = W1
      have HD1 : Hid (Below w.heap.size w W1) := by rw [← HE]; exact Below.drewN' (Below.refl _ _) _
      clear HE
      go_quiet ((go_at_call 75; exact Calls.quiet_of_same ((HI1.out _).mono fun _ _ h => ⟨h.1, h.2.symm⟩)))
      go_wp2
      show bodyPost Try.prog Try.f89 (fun e w' => e = Ending.returned (Value.int IntKind.i64 (-1)) ∧ Below w.heap.size w w') Exit.ret _ _
      go_ret
      exact ⟨rfl, Below.drewN' HD1.out _⟩
    · go_wp2
      go_ret
      exact ⟨rfl, Below.refl _ _⟩

theorem indexRune_any (t : ByteArray) (c : Int) (w : World) (ht : ∀ b ∈ t.data.toList, b.toNat < 128) (hs : t.size ≤ 100) (h1 : 128 ≤ c) (hv : Utf8.valid c = true) :
    Calls Try.prog 89 #[.string t, .int .i32 c] w fun e w' => e = .returned (.int .i64 (-1)) ∧ Below w.heap.size w w' := by
  by_cases hne : c = 65533
  · rw [hne]
    exact indexRune_err t w (fun i h => ht _ (Array.getElem_mem_toList (xs := t.data) h)) hs
  · exact indexRune_far t c w ht hs h1 hv hne

/-- The three bytes. -/
def ctlT : ByteArray := ⟨#[0, 10, 13]⟩
theorem ctlT_small : ∀ b ∈ ctlT.data.toList, b.toNat < 128 := by
  intro b hb
  have : (ctlT.data.toList.all fun b => decide (b.toNat < 128)) = true := by kernel_rfl
  rw [List.all_eq_true] at this
  simpa using this b hb
theorem ctlT_has (b : UInt8) : ctlT.data.toList.contains b = ctlB b := by
  have := bytes_all (p := fun b => ctlT.data.toList.contains b == ctlB b) (by kernel_rfl) b
  simpa using this
theorem ctlT_idx (b : UInt8) : decide (0 ≤ Lib.indexByte ctlT.data.toList b) = ctlB b := by
  have := bytes_all (p := fun b => decide (0 ≤ Lib.indexByte ctlT.data.toList b) == ctlB b) (by kernel_rfl) b
  simpa using this
theorem indexAny_any : ∀ l t : List UInt8, decide (0 ≤ Lib.indexAny l t) = l.any fun b => t.contains b
  | [], _ => by simp [Lib.indexAny]
  | b :: l, t => by
    have ih := indexAny_any l t
    have hg := Lib.indexAny_ge t l
    rw [Lib.indexAny, List.any_cons]
    cases hb : t.contains b
    · rw [Bool.false_or, ← ih, if_neg (by simp)]
      split
      · rename_i h
        rw [beq_iff_eq] at h
        rw [h]
      · rename_i h
        rw [beq_iff_eq] at h
        rw [decide_eq_decide]
        omega
    · simp
theorem ctlS_idx (s : ByteArray) : decide (0 ≤ Lib.indexAny s.data.toList ctlT.data.toList) = ctlS s := by
  rw [indexAny_any]
  unfold ctlS
  congr 1
  funext b
  exact ctlT_has b
theorem ctlS_not {s : ByteArray} (h : ∀ j (hj : j < s.size), ctlB (s[j]'hj) = false) : ctlS s = false := by
  unfold ctlS
  rw [List.any_eq_false]
  intro b hb
  obtain ⟨j, hj, rfl⟩ := List.getElem_of_mem hb
  have h2 := h j (by simpa using hj)
  rw [Bool.not_eq_true]
  exact h2
theorem ctlS_yes {s : ByteArray} {j : Nat} (hj : j < s.size) (h : ctlB (s[j]'hj) = true) : ctlS s = true := by
  unfold ctlS
  rw [List.any_eq_true]
  exact ⟨s[j], Array.getElem_mem_toList (xs := s.data) hj, h⟩
theorem ctlB_far {b : UInt8} (h : 128 ≤ b.toNat) : ctlB b = false := by
  unfold ctlB
  simp
  omega

theorem useSet_any (n : Int) (w : World) :
    Calls Try.prog 90 #[.int .i64 n] w fun e w' => e = .returned (.bool (decide (8 < n))) ∧ w = w' := (strings_shouldUseASCIISet n w).mono fun _ _ h => ⟨h.1, h.2.symm⟩
theorem runeAscii_any (s : ByteArray) (r : Int) (w : World) (h0 : 0 ≤ r) (h1 : r < 128) :
    Calls Try.prog 89 #[.string s, .int .i32 r] w fun e w' => e = .returned (.int .i64 (Lib.indexByte s.data.toList r.toNat.toUInt8)) ∧ w = w' := (strings_IndexRune_ascii s r w h0 h1).mono fun _ _ h => ⟨h.1, h.2.symm⟩

/-- What a search answers: a number that is not below 0 just if one of the three is there. -/
def FoundC (s : ByteArray) (w : World) (e : Ending) (w' : World) : Prop := ∃ r : Int, e = .returned (.int .i64 r) ∧ decide (0 ≤ r) = ctlS s ∧ Below w.heap.size w w'

set_option maxHeartbeats 4000000 in
set_option maxRecDepth 100000 in
theorem indexAny_short (s : ByteArray) (w : World) (h8 : s.size ≤ 8) :
    Calls Try.prog 76 #[.string s, .string ctlT] w (FoundC s w) := by
  obtain ⟨t, ht⟩ : ∃ t, t = ctlT := ⟨_, rfl⟩
  have HTS := Lib.hid (show ∀ b ∈ t.data.toList, b.toNat < 128 from by rw [ht]; exact ctlT_small)
  have HTI := Lib.hid (show ∀ b, decide (0 ≤ Lib.indexByte t.data.toList b) = ctlB b from by rw [ht]; exact ctlT_idx)
  have hemp : t.toList.isEmpty = false := by rw [ht]; kernel_rfl
  have hn1 : ((t.size : Int) == 1) = false := by rw [ht]; kernel_rfl
  have hts : t.size ≤ 100 := by rw [ht]; decide
  rw [← ht]
  clear ht
  have h8z : decide ((8 : Int) < (s.size : Int)) = false := decide_eq_false (by omega)
  have HU := Lib.hid fun W => useSet_any (s.size : Int) W
  rw [h8z] at HU
  clear h8z
  have HB0 : Hid (Below w.heap.size w (w.iter s 0)) := (Below.refl w.heap.size w).alloc (Nat.le_refl _) _
  have HI0 : Hid ((w.iter s 0).heap[w.heap.size]? = some (.stringIter s 0)) := World.iter_heap w s 0
  go_enter Try.func76, Try.ntmps76
  go_wp2_with (go_at_call 90; (with_reducible refine (HU.out _).mono ?_); rintro e w1 ⟨rfl, rfl⟩)
  go_loopg [9, 10] s.size (fun g _ _ wr => ∃ i : Nat, i + g = s.size ∧ Hid (wr.heap[w.heap.size]? = some (.stringIter s i)) ∧ Hid (Below w.heap.size w wr) ∧ Hid (∀ j (hj : j < s.size), j < i → ctlB (s[j]'hj) = false))
  case atStart => exact ⟨0, by omega, HI0, HB0, fun j _ h => absurd h (by omega)⟩
  case round =>
    obtain ⟨i, hig, HI, HB, HN⟩ := hrel
    have hwx : w.heap.size < wr.heap.size := (Array.getElem?_eq_some_iff.1 HI.out).1
    cases gk with
    | zero =>
      obtain rfl : i = s.size := by omega
      have HV := Lib.hid (ctlS_not fun j hj => HN.out j hj hj)
      have hnx := fun ty => Lib.run_next_end_at (P := Try.prog) wr w.heap.size s s.size ty HI.out (Nat.lt_irrefl _)
      go_wp2
      go_ret
      exact ⟨-1, rfl, by rw [HV.out]; rfl, HB.out⟩
    | succ g =>
      have hi : i < s.size := by omega
      obtain ⟨x, hx⟩ : ∃ x : UInt8, s[i]'hi = x := ⟨_, rfl⟩
      by_cases hx128 : x.toNat < 128
      · have hnx := fun ty => Lib.run_next_ascii_at (P := Try.prog) wr w.heap.size s i ty HI.out hi (by rw [hx]; exact hx128)
        rw [hx] at hnx
        obtain ⟨W1, hW1⟩ : ∃ W1, W1 = wr.iterAt w.heap.size s (i + 1) := ⟨_, rfl⟩
        have HI1 := Lib.hid (show W1.heap[w.heap.size]? = some (.stringIter s (i + 1)) from by rw [hW1]; exact Lib.iterAt_heap _ _ _ _ _ HI.out)
        have HB1 := Lib.hid (show Below w.heap.size w W1 from by rw [hW1]; exact Lib.below_iterAt HB.out (Nat.le_refl _) _ _)
        rw [← hW1] at hnx
        have HX := Lib.hid hx
        clear hx hW1
        have HR := Lib.hid fun W => runeAscii_any t (x.toNat : Int) W (by omega) (by omega)
        rw [show ((x.toNat : Int)).toNat.toUInt8 = x by simp] at HR
        have hq := HTI.out x
        obtain ⟨r, hr⟩ : ∃ r, r = Lib.indexByte t.data.toList x := ⟨_, rfl⟩
        rw [← hr] at HR hq
        clear hr
        cases hc : ctlB x
        · rw [hc] at hq
          have HN1 := Lib.hid (show ∀ j (hj : j < s.size), j < i + 1 → ctlB (s[j]'hj) = false from fun j hj h => by
            by_cases e : j = i
            · subst e; rw [HX.out]; exact hc
            · exact HN.out j hj (by omega))
          clear hc
          go_wp2_with (go_at_call 89; (with_reducible refine (HR.out _).mono ?_); rintro e w1 ⟨rfl, rfl⟩)
          go_roundg g
          case measure => omega
          case rel => exact ⟨i + 1, by omega, HI1, HB1, HN1⟩
        · rw [hc] at hq
          have HV := Lib.hid (ctlS_yes hi (by rw [HX.out]; exact hc))
          clear hc
          go_wp2_with (go_at_call 89; (with_reducible refine (HR.out _).mono ?_); rintro e w1 ⟨rfl, rfl⟩)
          go_ret
          exact ⟨i, rfl, by rw [HV.out]; simp, HB1.out⟩
      · have ha : 128 ≤ (s[i]'hi).toNat := by rw [hx]; omega
        have hnx := fun ty => Lib.run_next_any_at (P := Try.prog) wr w.heap.size s i ty HI.out hi
        have hval := decode_valid s i hi ha
        have hhi := decode_high s i hi ha
        obtain ⟨hsp, hfar⟩ := decode_span s i hi ha
        obtain ⟨c, hc⟩ : ∃ c, c = (Utf8.decode s i).1 := ⟨_, rfl⟩
        obtain ⟨d, hd⟩ : ∃ d, d = (Utf8.decode s i).2 := ⟨_, rfl⟩
        rw [← hc] at hnx hval hhi
        rw [← hd] at hnx hsp hfar hhi
        obtain ⟨W1, hW1⟩ : ∃ W1, W1 = wr.iterAt w.heap.size s (i + d) := ⟨_, rfl⟩
        have HI1 := Lib.hid (show W1.heap[w.heap.size]? = some (.stringIter s (i + d)) from by rw [hW1]; exact Lib.iterAt_heap _ _ _ _ _ HI.out)
        have HB1 := Lib.hid (show Below w.heap.size w W1 from by rw [hW1]; exact Lib.below_iterAt HB.out (Nat.le_refl _) _ _)
        rw [← hW1] at hnx
        have hW1s : w.heap.size < W1.heap.size := (Array.getElem?_eq_some_iff.1 HI1.out).1
        have HN1 := Lib.hid (show ∀ j (hj : j < s.size), j < i + d → ctlB (s[j]'hj) = false from fun j hj h => by
          by_cases e : j < i
          · exact HN.out j hj e
          · obtain ⟨_, h2⟩ := hfar j (by omega) h
            exact ctlB_far h2)
        have HR := Lib.hid fun W => indexRune_any t (c : Int) W HTS.out hts (by omega) hval
        have hd1 := hhi.2
        clear hx hW1 hc hd hfar hval hhi ha
        go_wp2_with (go_at_call 89; (with_reducible refine (HR.out _).mono ?_); rintro e w2 ⟨rfl, b2⟩; have HI2 := Lib.hid ((b2.block w.heap.size hW1s).trans HI1.out); have HB2 := Lib.hid (HB1.out.trans (b2.mono (Nat.le_of_lt hW1s))); clear b2)
        go_roundg (g + 1 - d)
        case measure => omega
        case rel => exact ⟨i + d, by omega, HI2, HB2, HN1⟩

theorem Try.asciiSet : (Try.prog.info? 111).map (fun i => (i.zero, i.size)) = some (some (.agg (Array.replicate 256 (.bool false))), 256) := by kernel_rfl

theorem indexAny_found (s : ByteArray) (w : World) (hs : s.size < 4294967281) :
    Calls Try.prog 76 #[.string s, .string ctlT] w (FoundC s w) := by
  by_cases h8 : s.size ≤ 8
  · exact indexAny_short s w h8
  · refine (strings_IndexAny_long (zero_of_info Try.asciiSet).1 s ctlT w (by decide) (by omega) hs (by decide) (fun j b h => ctlT_small b (List.mem_of_getElem? h))).mono ?_
    rintro e w' ⟨rfl, rfl⟩
    exact ⟨_, rfl, ctlS_idx s, ((Below.refl _ _).alloc (Nat.le_refl _) _).alloc (by simp) _⟩

set_option maxHeartbeats 400000 in
theorem containsAny_any (s : ByteArray) (w : World) (hs : s.size < 4294967281) :
    Calls Try.prog 56 #[.string s, .string ctlT] w fun e w' => e = .returned (.bool (ctlS s)) ∧ Below w.heap.size w w' := by
  have HC := Lib.hid (indexAny_found s w hs)
  generalize ctlT = t at *
  go_enter Try.func56, Try.ntmps56
  go_wp2_with fail
  refine HC.out.mono ?_
  rintro e w1 ⟨r, rfl, hr, b1⟩
  have HR := Lib.hid hr
  have HB := Lib.hid b1
  clear hr b1
  go_wp2
  go_ret
  exact ⟨by rw [← HR.out]; rfl, HB.out⟩

end Go.Proofs.Ytjikahflbhgniaa
namespace Go.Proofs.Ytjikahflbhgniaa
open Go.RowKit Go.Maps

theorem below_on {a w w' : World} (h : Below a.heap.size a w) (hb : Below w.heap.size w w') : Below a.heap.size a w' := h.trans (hb.mono h.size)

end Go.Proofs.Ytjikahflbhgniaa
