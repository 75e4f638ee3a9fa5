/- Choices of the call's own: marks in them; results with a voter: compared, marked, held; a struct in a box of its own. -/
import Derived.Test.YtdnjckeajfbmfaaZa
import Derived.Test.YtdnjckeajfbmfaaTxA
import Derived.Lib.QuietBelow
import Derived.Test.YtdnjckeajfbmfaaEa
import Derived.Test.YtdnjckeajfbmfaaTxS
import Derived.Test.YtdnjckeajfbmfaaITx
import Derived.Test.YtdnjckeajfbmfaaIdOf
import Derived.OneCell
import Derived.Maps.OwnSet
import Derived.Maps.Range
import Derived.Test.YtdnjckeajfbmfaaSignsOf
namespace Go.Proofs.Ytdnjckeajfbmfaa
open Go.RowKit Go.Maps Go.WideMaps


/-- A struct in a block of its own, all old memory below as it was. -/
structure BxC (w v : World) (cs : Array Value) (t : TypeId) : Prop where
  box : v.heap[w.heap.size]? = some (.cells cs t (0, 0))
  bel : Below w.heap.size w v
section
variable {w v v' : World} {cs : Array Value} {t : TypeId}
theorem BxC.start : BxC w (w.alloc (.cells cs t)) cs t := ⟨heap_alloc_new _ _, below_box _⟩
theorem BxC.step (h : BxC w v cs t) (hb : Below v.heap.size v v') : BxC w v' cs t := ⟨(keepb h.box hb).out, h.bel.trans (hb.mono h.bel.size)⟩
theorem BxC.lt (h : BxC w v cs t) : w.heap.size < v.heap.size := lt_of_block h.box
end
theorem keep3V {v v' : World} {P : Nat} {c0 c1 c2 : Value} (hl : P < v.heap.size) (hb : Below v.heap.size v v') (h : v.cell? ⟨P, 0, none⟩ = some c0 ∧ v.cell? ⟨P, 1, none⟩ = some c1 ∧ v.cell? ⟨P, 2, none⟩ = some c2) : v'.cell? ⟨P, 0, none⟩ = some c0 ∧ v'.cell? ⟨P, 1, none⟩ = some c1 ∧ v'.cell? ⟨P, 2, none⟩ = some c2 :=
  ⟨(hb.cell (p := ⟨P, 0, none⟩) hl).trans h.1, (hb.cell (p := ⟨P, 1, none⟩) hl).trans h.2.1, (hb.cell (p := ⟨P, 2, none⟩) hl).trans h.2.2⟩
theorem row_capsV {w : World} {base n c g z : Nat} {xs : List Value} {e : TypeId} (h : w.ownsRow base e z (.slice (some ⟨g, 0, none⟩) n c) n xs) : n ≤ c ∧ c ≤ maxLen := by
  rcases id h.2 with ⟨e, _⟩ | ⟨g', c', cur, e, _, _, k1, k2, _⟩
  · cases e
  · simp at e
    obtain ⟨rfl, rfl⟩ := e
    exact ⟨k1, k2⟩

end Go.Proofs.Ytdnjckeajfbmfaa
