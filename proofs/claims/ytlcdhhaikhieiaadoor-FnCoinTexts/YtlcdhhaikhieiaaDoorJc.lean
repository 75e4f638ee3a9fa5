/- What the law on blocks draws: a block, a height, a text. -/
import Derived.Test.YtlcdhhaikhieiaaDoorJb
import Derived.Test.YtlcdhhaikhieiaaDoorX2
namespace Go.Proofs.YtlcdhhaikhieiaaDoor
open Go.RowKit Go.Shelf Go.Maps Go.WideMaps

theorem BAt.below {w w' : World} {a : Option Addr} {n : Nat} {l : List Int} (h : BAt w a n l) (hb : Below w.heap.size w w') : BAt w' a n l := by
  refine ⟨h.1, ?_⟩
  rcases h.2 with h0 | ⟨b, off, rfl, hl, hc⟩
  · exact .inl h0
  · exact .inr ⟨b, off, rfl, Nat.lt_of_lt_of_le hl hb.size, fun j hj => (hb.cell (p := ⟨b, off + j, none⟩) hl).trans (hc j hj)⟩

end Go.Proofs.YtlcdhhaikhieiaaDoor
