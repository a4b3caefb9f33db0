/-
  What Grow and Concat of the library do with headers. Condition: there are some headers in all, and no more than a mebibyte.
  What Set of package header answers. Condition: texts are shorter than a mebibyte, headers less than that.
  What the document's Sort of headers answers. Condition: texts are shorter than a mebibyte, headers no more than that.
-/
import Derived.Test.YtighgoefmccagaaGreatZ23
import Derived.Lib.AppendZeros
import Derived.IntWalk
import Derived.Deep.RegionHeld3
import Derived.Deep.RegionWith
import Derived.Deep.DeepCutAuto
import Derived.Test.YtighgoefmccagaaGreatZ24
import Derived.Test.YtighgoefmccagaaGreatZ10
import Derived.Test.YtighgoefmccagaaGreatZ5
import GoSem.Op.String
import Derived.BigRegion
namespace Go.Proofs.YtighgoefmccagaaGreat
open Go.RowKit

theorem prmL_app (a b : List Prm) : prmL (a ++ b) = prmL a ++ prmL b := by simp [prmL]

end Go.Proofs.YtighgoefmccagaaGreat
namespace Go.Proofs.YtighgoefmccagaaGreat
open Go.RowKit

theorem HdIn.one {W : World} {b : Nat} {p : Prm} (h : Blk W b 41 #[.string p.n, .string p.v]) : HdIn W (some ⟨b, 0, none⟩) [p] := fun i hi => by
  obtain rfl : i = 0 := by simpa using hi
  exact ⟨_, rfl, h.lt, h.cell 0, h.cell 1⟩
theorem HdIn.nil (W : World) (A : Option Addr) : HdIn W A [] := fun i h => absurd h (by simp)
end Go.Proofs.YtighgoefmccagaaGreat
namespace Go.Proofs.YtighgoefmccagaaGreat
open Go.RowKit

/-- append to a row of headers of the call's own, as a step of a region that draws. -/
theorem stepH_append {ops : Array Oper} {o : Oper} {a : Act} {w : World} {K : Act → World → Prop} {Q : Exit → Act → World → Prop} {E : Prop} (hgd : o.guard = none) (s x : Operand)
    (ho : o.op = .call { callee := .builtin .append, args := #[s, x], argTypes := #[22, 22] })
    (base : Nat) (v : Value) (n : Nat) (xs : List Value) (hs : a.eval s = v) (hown : w.ownsRow base 41 2 v n xs)
    (ad : Addr) (m c : Nat) (news : List Value) (hx : a.eval x = .slice (some ad) m c) (hl : news.length = m * 2) (hnews : ∀ j u, news[j]? = some u → w.cell? (ad.add j) = some u) (h1 : ∀ u ∈ news, u.oneCell' = true)
    (hb : n + m ≤ 4194304) (hbase : base ≤ w.heap.size)
    (h : ∀ v' w', w'.ownsRow base 41 2 v' (n + m) (xs ++ news) → w.grownBy w' v.ownBlock → K (a.put o.dst v') w') : if Region.wanted o (yielded ops a.tmps) = true then Oper.wp Tryz.prog o a w K Q else E := by
  rw [if_pos (by simp [Region.wanted, hgd])]
  obtain ⟨i0, hi, hz0, hz1, hz2⟩ := info_parts Tryz.infoHdr
  exact wp_append_own w s x 22 ho base 41 i0 _ 2 32 Tryz.underlying22 hi hz0 hz1 hz2 rfl (by decide) v n xs hs hown ad m c news hx hl hnews h1 (by unfold maxLen; omega) (by omega) hbase (fun v' w' h2 h3 _ => h v' w' h2 h3)
end Go.Proofs.YtighgoefmccagaaGreat
