/- A new text in the table, and what of other memory stays. What the program's NoteText answers. -/
import Derived.Test.YtppfhepipadepaaGreatDoorJn2
namespace Go.Proofs.YtppfhepipadepaaGreatDoor
open Go.RowKit Go.Maps Go.WideMaps

theorem TwG.chg {w w' : World} {base p lo hi : Nat} {l : List (Int × Int)} (h : TwG w base p l) (hc : Chg w w' lo hi) (hh : hi ≤ base) : TwG w' base p l := by
  obtain ⟨iv, B, hp, hbp, hbB, ho, ht⟩ := h
  refine ⟨iv, B, hc.keep hp (.inr (by omega)), hbp, hbB, hc.row ho (fun k hk => .inr (by have := (ho.lt k hk).1; omega)), ?_⟩
  obtain ⟨D, hD, hat⟩ := ht
  obtain ⟨es, ck, hes, rest⟩ := hD
  exact ⟨D, ⟨es, ck, (hc.block B (lt_of_block hes) (.inr (by omega))).trans hes, rest⟩, hat⟩

end Go.Proofs.YtppfhepipadepaaGreatDoor

namespace Go.Proofs.YtppfhepipadepaaGreatDoor
open Go.RowKit Go.Maps Go.WideMaps

theorem k4 {W : World} {b c : Nat} {v0 v1 v2 v3 : Value} (h : c ≠ b) : ((((W.setCell ⟨b, 0, none⟩ v0).setCell ⟨b, 1, none⟩ v1).setCell ⟨b, 2, none⟩ v2).setCell ⟨b, 3, none⟩ v3).heap[c]? = W.heap[c]? :=
  (Below.heap_setCell _ ⟨b, 3, none⟩ _ c h).trans ((Below.heap_setCell _ ⟨b, 2, none⟩ _ c h).trans ((Below.heap_setCell _ ⟨b, 1, none⟩ _ c h).trans (Below.heap_setCell _ ⟨b, 0, none⟩ _ c h)))

end Go.Proofs.YtppfhepipadepaaGreatDoor
