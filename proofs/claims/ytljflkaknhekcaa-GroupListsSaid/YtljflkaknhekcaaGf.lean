/-
  Plain facts on groups of types: whether a text is one of some, whether it ends with another; what each group is of a type's two names. No condition.
-/
import Derived.Test.YtljflkaknhekcaaMim
namespace Go.Proofs.Ytljflkaknhekcaa

/-- A type's two names as one text. -/
def gEss (t u : ByteArray) : ByteArray := ⟨(essL t u).toArray⟩
theorem gEss_list (t u : ByteArray) : (gEss t u).toList = essL t u := by rw [Lib.toList_data]; rfl
/-- One of some texts. -/
def gIn (x : ByteArray) (L : List (List UInt8)) : Bool := L.any fun l => x.toList == l
theorem gIn_iff {x : ByteArray} {L : List (List UInt8)} : gIn x L = true ↔ x.toList ∈ L := by
  unfold gIn
  rw [List.any_eq_true]
  exact ⟨fun ⟨l, h, e⟩ => (beq_iff_eq.1 e) ▸ h, fun h => ⟨_, h, beq_self_eq_true _⟩⟩
theorem gIn_nil (x : ByteArray) : gIn x [] = false := rfl
theorem gIn_cons (x : ByteArray) (l : List UInt8) (L : List (List UInt8)) : gIn x (l :: L) = (x.toList == l || gIn x L) := rfl
theorem gIn_same {x : ByteArray} {L M : List (List UInt8)} (h1 : L.all (fun l => M.contains l) = true) (h2 : M.all (fun l => L.contains l) = true) : gIn x L = gIn x M := by
  rw [Bool.eq_iff_iff, gIn_iff, gIn_iff]
  rw [List.all_eq_true] at h1 h2
  exact ⟨fun h => by simpa using h1 _ h, fun h => by simpa using h2 _ h⟩
/-- Ends with. -/
def gEnd (s e : ByteArray) : Bool := decide (e.size ≤ s.size) && ((s.extract (s.size - e.size) s.size).toList == e.toList)
theorem gEnd_suf {s e : ByteArray} (h : gEnd s e = true) : e.toList.isSuffixOf s.toList = true := by
  unfold gEnd at h
  rw [Bool.and_eq_true, decide_eq_true_iff, beq_iff_eq] at h
  obtain ⟨_, h2⟩ := h
  rw [List.isSuffixOf_iff_suffix, ← h2, Lib.toList_data, Lib.toList_data]
  have e1 : (s.extract (s.size - e.size) s.size).data.toList = s.data.toList.drop (s.size - e.size) := by
    have e : s.data.toList.take s.size = s.data.toList := List.take_of_length_le (by show s.data.toList.length ≤ s.data.size; simp)
    rw [bytes_extract, e]
  rw [e1]
  exact List.drop_suffix _ _
theorem gEnd_ess {t u e : ByteArray} (h : gEnd u e = true) : e.toList.isSuffixOf (gEss t u).toList = true := by
  have h1 := gEnd_suf h
  rw [List.isSuffixOf_iff_suffix] at h1 ⊢
  rw [gEss_list]
  rw [Lib.toList_data, Lib.toList_data] at *
  obtain ⟨p, hp⟩ := h1
  exact ⟨t.data.toList ++ 47 :: p, by unfold essL; rw [← hp]; simp⟩
abbrev gJsonL : List (List UInt8) := [[97, 112, 112, 108, 105, 99, 97, 116, 105, 111, 110, 47, 106, 115, 111, 110], [116, 101, 120, 116, 47, 106, 115, 111, 110]]
abbrev gXmlL : List (List UInt8) := [[116, 101, 120, 116, 47, 120, 109, 108], [97, 112, 112, 108, 105, 99, 97, 116, 105, 111, 110, 47, 120, 109, 108]]
abbrev gXmlD : List (List UInt8) := [[97, 112, 112, 108, 105, 99, 97, 116, 105, 111, 110, 47, 120, 109, 108], [116, 101, 120, 116, 47, 120, 109, 108]]
abbrev gScriptL : List (List UInt8) := [[97, 112, 112, 108, 105, 99, 97, 116, 105, 111, 110, 47, 101, 99, 109, 97, 115, 99, 114, 105, 112, 116], [97, 112, 112, 108, 105, 99, 97, 116, 105, 111, 110, 47, 106, 97, 118, 97, 115, 99, 114, 105, 112, 116], [97, 112, 112, 108, 105, 99, 97, 116, 105, 111, 110, 47, 120, 45, 101, 99, 109, 97, 115, 99, 114, 105, 112, 116], [97, 112, 112, 108, 105, 99, 97, 116, 105, 111, 110, 47, 120, 45, 106, 97, 118, 97, 115, 99, 114, 105, 112, 116], [116, 101, 120, 116, 47, 101, 99, 109, 97, 115, 99, 114, 105, 112, 116], [116, 101, 120, 116, 47, 106, 97, 118, 97, 115, 99, 114, 105, 112, 116], [116, 101, 120, 116, 47, 120, 45, 101, 99, 109, 97, 115, 99, 114, 105, 112, 116], [116, 101, 120, 116, 47, 120, 45, 106, 97, 118, 97, 115, 99, 114, 105, 112, 116], [116, 101, 120, 116, 47, 106, 97, 118, 97, 115, 99, 114, 105, 112, 116, 49, 46, 48], [116, 101, 120, 116, 47, 106, 97, 118, 97, 115, 99, 114, 105, 112, 116, 49, 46, 49], [116, 101, 120, 116, 47, 106, 97, 118, 97, 115, 99, 114, 105, 112, 116, 49, 46, 50], [116, 101, 120, 116, 47, 106, 97, 118, 97, 115, 99, 114, 105, 112, 116, 49, 46, 51], [116, 101, 120, 116, 47, 106, 97, 118, 97, 115, 99, 114, 105, 112, 116, 49, 46, 52], [116, 101, 120, 116, 47, 106, 97, 118, 97, 115, 99, 114, 105, 112, 116, 49, 46, 53], [116, 101, 120, 116, 47, 106, 115, 99, 114, 105, 112, 116], [116, 101, 120, 116, 47, 108, 105, 118, 101, 115, 99, 114, 105, 112, 116]]
abbrev gScriptD : List (List UInt8) := [[97, 112, 112, 108, 105, 99, 97, 116, 105, 111, 110, 47, 101, 99, 109, 97, 115, 99, 114, 105, 112, 116], [97, 112, 112, 108, 105, 99, 97, 116, 105, 111, 110, 47, 106, 97, 118, 97, 115, 99, 114, 105, 112, 116], [97, 112, 112, 108, 105, 99, 97, 116, 105, 111, 110, 47, 120, 45, 101, 99, 109, 97, 115, 99, 114, 105, 112, 116], [97, 112, 112, 108, 105, 99, 97, 116, 105, 111, 110, 47, 120, 45, 106, 97, 118, 97, 115, 99, 114, 105, 112, 116], [116, 101, 120, 116, 47, 101, 99, 109, 97, 115, 99, 114, 105, 112, 116], [116, 101, 120, 116, 47, 106, 97, 118, 97, 115, 99, 114, 105, 112, 116], [116, 101, 120, 116, 47, 106, 97, 118, 97, 115, 99, 114, 105, 112, 116, 49, 46, 48], [116, 101, 120, 116, 47, 106, 97, 118, 97, 115, 99, 114, 105, 112, 116, 49, 46, 49], [116, 101, 120, 116, 47, 106, 97, 118, 97, 115, 99, 114, 105, 112, 116, 49, 46, 50], [116, 101, 120, 116, 47, 106, 97, 118, 97, 115, 99, 114, 105, 112, 116, 49, 46, 51], [116, 101, 120, 116, 47, 106, 97, 118, 97, 115, 99, 114, 105, 112, 116, 49, 46, 52], [116, 101, 120, 116, 47, 106, 97, 118, 97, 115, 99, 114, 105, 112, 116, 49, 46, 53], [116, 101, 120, 116, 47, 106, 115, 99, 114, 105, 112, 116], [116, 101, 120, 116, 47, 108, 105, 118, 101, 115, 99, 114, 105, 112, 116], [116, 101, 120, 116, 47, 120, 45, 101, 99, 109, 97, 115, 99, 114, 105, 112, 116], [116, 101, 120, 116, 47, 120, 45, 106, 97, 118, 97, 115, 99, 114, 105, 112, 116]]
abbrev gFontL : List (List UInt8) := [[97, 112, 112, 108, 105, 99, 97, 116, 105, 111, 110, 47, 102, 111, 110, 116, 45, 99, 102, 102], [97, 112, 112, 108, 105, 99, 97, 116, 105, 111, 110, 47, 102, 111, 110, 116, 45, 111, 102, 102], [97, 112, 112, 108, 105, 99, 97, 116, 105, 111, 110, 47, 102, 111, 110, 116, 45, 115, 102, 110, 116], [97, 112, 112, 108, 105, 99, 97, 116, 105, 111, 110, 47, 102, 111, 110, 116, 45, 116, 116, 102], [97, 112, 112, 108, 105, 99, 97, 116, 105, 111, 110, 47, 102, 111, 110, 116, 45, 119, 111, 102, 102], [97, 112, 112, 108, 105, 99, 97, 116, 105, 111, 110, 47, 118, 110, 100, 46, 109, 115, 45, 102, 111, 110, 116, 111, 98, 106, 101, 99, 116], [97, 112, 112, 108, 105, 99, 97, 116, 105, 111, 110, 47, 118, 110, 100, 46, 109, 115, 45, 111, 112, 101, 110, 116, 121, 112, 101]]
abbrev gArchL : List (List UInt8) := [[97, 112, 112, 108, 105, 99, 97, 116, 105, 111, 110, 47, 120, 45, 114, 97, 114, 45, 99, 111, 109, 112, 114, 101, 115, 115, 101, 100], [97, 112, 112, 108, 105, 99, 97, 116, 105, 111, 110, 47, 122, 105, 112], [97, 112, 112, 108, 105, 99, 97, 116, 105, 111, 110, 47, 120, 45, 103, 122, 105, 112]]
abbrev gNeverL : List (List UInt8) := [[97, 112, 112, 108, 105, 99, 97, 116, 105, 111, 110, 47, 100, 97, 115, 104, 43, 120, 109, 108], [97, 112, 112, 108, 105, 99, 97, 116, 105, 111, 110, 47, 103, 122, 105, 112], [97, 112, 112, 108, 105, 99, 97, 116, 105, 111, 110, 47, 109, 115, 101, 120, 99, 101, 108], [97, 112, 112, 108, 105, 99, 97, 116, 105, 111, 110, 47, 109, 115, 112, 111, 119, 101, 114, 112, 111, 105, 110, 116], [97, 112, 112, 108, 105, 99, 97, 116, 105, 111, 110, 47, 109, 115, 119, 111, 114, 100], [97, 112, 112, 108, 105, 99, 97, 116, 105, 111, 110, 47, 112, 100, 102], [97, 112, 112, 108, 105, 99, 97, 116, 105, 111, 110, 47, 120, 45, 103, 122, 105, 112], [97, 112, 112, 108, 105, 99, 97, 116, 105, 111, 110, 47, 120, 45, 112, 114, 111, 116, 111, 98, 117, 102], [97, 112, 112, 108, 105, 99, 97, 116, 105, 111, 110, 47, 122, 105, 112], [97, 112, 112, 108, 105, 99, 97, 116, 105, 111, 110, 47, 118, 110, 100, 46, 97, 112, 112, 108, 101, 46, 109, 112, 101, 103, 117, 114, 108], [97, 112, 112, 108, 105, 99, 97, 116, 105, 111, 110, 47, 118, 110, 100, 46, 109, 115, 45, 101, 120, 99, 101, 108], [97, 112, 112, 108, 105, 99, 97, 116, 105, 111, 110, 47, 118, 110, 100, 46, 109, 115, 45, 112, 111, 119, 101, 114, 112, 111, 105, 110, 116], [97, 112, 112, 108, 105, 99, 97, 116, 105, 111, 110, 47, 118, 110, 100, 46, 109, 115, 45, 119, 111, 114, 100], [97, 112, 112, 108, 105, 99, 97, 116, 105, 111, 110, 47, 118, 110, 100, 46, 111, 112, 101, 110, 120, 109, 108, 102, 111, 114, 109, 97, 116, 115, 45, 111, 102, 102, 105, 99, 101, 100, 111, 99, 117, 109, 101, 110, 116, 46, 119, 111, 114, 100, 112, 114, 111, 99, 101, 115, 115, 105, 110, 103, 109, 108, 46, 100, 111, 99, 117, 109, 101, 110, 116], [97, 117, 100, 105, 111, 47, 109, 112, 101, 103, 117, 114, 108], [116, 101, 120, 116, 47, 99, 115, 118], [116, 101, 120, 116, 47, 101, 118, 101, 110, 116, 45, 115, 116, 114, 101, 97, 109], [116, 101, 120, 116, 47, 118, 116, 116], [109, 117, 108, 116, 105, 112, 97, 114, 116, 47, 98, 121, 116, 101, 114, 97, 110, 103, 101, 115], [109, 117, 108, 116, 105, 112, 97, 114, 116, 47, 115, 105, 103, 110, 101, 100]]
abbrev gSafeL : List (List UInt8) := [[116, 101, 120, 116, 47, 99, 115, 115], [105, 109, 97, 103, 101, 47, 115, 118, 103, 43, 120, 109, 108]]
abbrev gWordsL : List (List UInt8) := [[106, 115, 111, 110], [120, 109, 108], [104, 116, 109, 108], [115, 99, 114, 105, 112, 116], [105, 109, 97, 103, 101], [109, 101, 100, 105, 97], [102, 111, 110, 116], [122, 105, 112], [97, 114, 99, 104, 105, 118, 101], [115, 99, 114, 105, 112, 116, 97, 98, 108, 101], [115, 97, 102, 101], [110, 101, 118, 101, 114], [108, 105, 115, 116, 101, 100]]
abbrev gJsonE : ByteArray := ⟨#[43, 106, 115, 111, 110]⟩
abbrev gXmlE : ByteArray := ⟨#[43, 120, 109, 108]⟩
abbrev gZipE : ByteArray := ⟨#[43, 122, 105, 112]⟩
abbrev gSvg : List UInt8 := [105, 109, 97, 103, 101, 47, 115, 118, 103, 43, 120, 109, 108]
abbrev gHtm : List UInt8 := [116, 101, 120, 116, 47, 104, 116, 109, 108]
abbrev gPdf : List UInt8 := [97, 112, 112, 108, 105, 99, 97, 116, 105, 111, 110, 47, 112, 100, 102]
abbrev gOgg : List UInt8 := [97, 112, 112, 108, 105, 99, 97, 116, 105, 111, 110, 47, 111, 103, 103]
abbrev gZipT : List UInt8 := [97, 112, 112, 108, 105, 99, 97, 116, 105, 111, 110, 47, 122, 105, 112]
abbrev gImg : List UInt8 := [105, 109, 97, 103, 101]
abbrev gAud : List UInt8 := [97, 117, 100, 105, 111]
abbrev gVid : List UInt8 := [118, 105, 100, 101, 111]
abbrev gFnt : List UInt8 := [102, 111, 110, 116]
/-- What each group is. -/
def jsonG (t u : ByteArray) : Bool := gIn (gEss t u) gJsonL || gEnd u gJsonE
def xmlG (t u : ByteArray) : Bool := gIn (gEss t u) gXmlL || gEnd u gXmlE
def htmlG (t u : ByteArray) : Bool := (gEss t u).toList == gHtm
def scriptG (t u : ByteArray) : Bool := gIn (gEss t u) gScriptL
def imageG (t : ByteArray) : Bool := t.toList == gImg
def mediaG (t u : ByteArray) : Bool := t.toList == gAud || t.toList == gVid || (gEss t u).toList == gOgg
def fontG (t u : ByteArray) : Bool := gIn (gEss t u) gFontL || t.toList == gFnt
def zipG (t u : ByteArray) : Bool := (gEss t u).toList == gZipT || gEnd u gZipE
def archG (t u : ByteArray) : Bool := gIn (gEss t u) gArchL
def scrbG (t u : ByteArray) : Bool := xmlG t u || htmlG t u || (gEss t u).toList == gPdf
def safeG (t u : ByteArray) : Bool := gIn (gEss t u) gSafeL || scriptG t u
def neverG (t u : ByteArray) : Bool := gIn (gEss t u) gNeverL
def listG (t u : ByteArray) : Bool := !((gEss t u).toList == gSvg) && (htmlG t u || jsonG t u || xmlG t u)
def wordsG (t u : ByteArray) : List Bool := [jsonG t u, xmlG t u, htmlG t u, scriptG t u, imageG t, mediaG t u, fontG t u, zipG t u, archG t u, scrbG t u, safeG t u, neverG t u, listG t u]

theorem xmlG_doc (x : ByteArray) : gIn x gXmlD = gIn x gXmlL := gIn_same (by decide) (by decide)
theorem scriptG_doc (x : ByteArray) : gIn x gScriptD = gIn x gScriptL := gIn_same (by kernel_rfl) (by kernel_rfl)
theorem html_ess {t u : ByteArray} (h : htmlG t u = true) : (gEss t u).toList = gHtm := by unfold htmlG at h; rwa [beq_iff_eq] at h
theorem html_in {t u : ByteArray} (h : htmlG t u = true) (L : List (List UInt8)) : gIn (gEss t u) L = L.contains gHtm := by
  unfold gIn
  rw [html_ess h]
  induction L with
  | nil => rfl
  | cons a L ih => rw [List.any_cons, List.contains_cons, ih]
/-- A text that is one of some that end not so ends not so. -/
theorem gIn_end {t u e : ByteArray} {L : List (List UInt8)} (hi : gIn (gEss t u) L = true) (hL : L.all (fun l => !e.toList.isSuffixOf l) = true) : gEnd u e = false := by
  cases h : gEnd u e
  · rfl
  · have h1 := gEnd_ess (t := t) h
    rw [gIn_iff] at hi
    have h2 := (List.all_eq_true.1 hL) _ hi
    rw [h1] at h2
    exact absurd h2 (by decide)
theorem gIn_far {x : ByteArray} {L M : List (List UInt8)} (hi : gIn x L = true) (hL : L.all (fun l => !M.contains l) = true) : gIn x M = false := by
  cases h : gIn x M
  · rfl
  · rw [gIn_iff] at hi h
    have h2 := (List.all_eq_true.1 hL) _ hi
    rw [show M.contains (x.toList) = true from by simpa using h] at h2
    exact absurd h2 (by decide)
theorem gIn_one (x : ByteArray) (l : List UInt8) : (x.toList == l) = gIn x [l] := by simp [gIn]
/-- What is HTML is listed, has scripts, and is not safe. -/
theorem html_all {t u : ByteArray} (h : htmlG t u = true) : listG t u = true ∧ scrbG t u = true ∧ safeG t u = false := by
  have e := html_ess h
  refine ⟨?_, ?_, ?_⟩
  · unfold listG; rw [h, e]; rfl
  · unfold scrbG; rw [h]; simp
  · unfold safeG scriptG; rw [html_in h, html_in h]; kernel_rfl
abbrev gSafeA : List (List UInt8) := [[116, 101, 120, 116, 47, 99, 115, 115]] ++ gScriptL
/-- Nothing is safe and listed. -/
theorem safe_not {t u : ByteArray} (h : safeG t u = true) : listG t u = false := by
  unfold listG
  cases hs : ((gEss t u).toList == gSvg)
  · have hi : gIn (gEss t u) gSafeA = true := by
      unfold safeG scriptG at h
      rw [gIn_iff]
      rw [Bool.or_eq_true, gIn_iff, gIn_iff] at h
      rcases h with h | h
      · rw [List.mem_cons, List.mem_cons] at h
        rcases h with h | h | h
        · rw [h]; exact List.mem_append_left _ List.mem_cons_self
        · rw [beq_eq_false_iff_ne] at hs; exact absurd h hs
        · cases h
      · exact List.mem_append_right _ h
    unfold htmlG jsonG xmlG
    rw [gIn_one, gIn_far hi (M := [gHtm]) (by kernel_rfl), gIn_far hi (M := gJsonL) (by kernel_rfl), gIn_far hi (M := gXmlL) (by kernel_rfl), gIn_end hi (e := gJsonE) (by kernel_rfl), gIn_end hi (e := gXmlE) (by kernel_rfl)]
    rfl
  · rfl
/-- The document's Listed. -/
theorem listG_doc (t u : ByteArray) : (htmlG t u || jsonG t u || xmlG t u && !((gEss t u).toList == gSvg)) = listG t u := by
  unfold listG
  cases hs : ((gEss t u).toList == gSvg)
  · cases htmlG t u <;> cases jsonG t u <;> cases xmlG t u <;> rfl
  · have hi : gIn (gEss t u) [gSvg] = true := by rw [← gIn_one]; exact hs
    have h1 : htmlG t u = false := by unfold htmlG; rw [gIn_one, gIn_far hi (M := [gHtm]) (by kernel_rfl)]
    have h2 : jsonG t u = false := by unfold jsonG; rw [gIn_far hi (M := gJsonL) (by kernel_rfl), gIn_end hi (e := gJsonE) (by kernel_rfl)]; rfl
    rw [h1, h2]
    simp

end Go.Proofs.Ytljflkaknhekcaa
