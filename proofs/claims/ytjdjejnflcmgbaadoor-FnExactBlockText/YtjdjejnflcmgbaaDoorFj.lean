/- A block in memory of its own. -/
import Derived.Test.YtjdjejnflcmgbaaDoorFe
namespace Go.Proofs.YtjdjejnflcmgbaaDoor
open Go.RowKit Go.Maps Go.WideMaps

/-- A block (of a chain) in a block (of memory) of its own, all old memory below as it was. -/
structure BBx (w v : World) (p h m : Int) (a : Option Addr) (n c : Nat) (t : TypeId) : Prop where
  box : v.heap[w.heap.size]? = some (.cells #[.int .i64 p, .int .i64 h, .int .i64 m, .slice a n c] t (0, 0))
  bel : Below w.heap.size w v
section
variable {w v v' : World} {p h m : Int} {a : Option Addr} {n c : Nat} {t : TypeId} {l : List Int}
theorem BBx.start : BBx w (w.alloc (.cells #[.int .i64 p, .int .i64 h, .int .i64 m, .slice a n c] t)) p h m a n c t := ⟨heap_alloc_new _ _, below_box _⟩
theorem BBx.step (H : BBx w v p h m a n c t) (hb : Below v.heap.size v v') : BBx w v' p h m a n c t := ⟨(keepb H.box hb).out, H.bel.trans (hb.mono H.bel.size)⟩
theorem BBx.at (H : BBx w v p h m a n c t) (hI : IAt w a n l) : IAt v a n l := hI.below H.bel (Nat.le_refl _)
theorem BBx.lt (H : BBx w v p h m a n c t) : w.heap.size < v.heap.size := lt_of_block H.box
end
theorem keepB {v v' : World} {P : Nat} {c0 c1 c2 c3 : Value} (hl : P < v.heap.size) (hb : Below v.heap.size v v') (h : v.cell? ⟨P, 0, none⟩ = some c0 ∧ v.cell? ⟨P, 1, none⟩ = some c1 ∧ v.cell? ⟨P, 2, none⟩ = some c2 ∧ v.cell? ⟨P, 3, none⟩ = some c3) : v'.cell? ⟨P, 0, none⟩ = some c0 ∧ v'.cell? ⟨P, 1, none⟩ = some c1 ∧ v'.cell? ⟨P, 2, none⟩ = some c2 ∧ v'.cell? ⟨P, 3, none⟩ = some c3 :=
  ⟨(hb.cell (p := ⟨P, 0, none⟩) hl).trans h.1, (hb.cell (p := ⟨P, 1, none⟩) hl).trans h.2.1, (hb.cell (p := ⟨P, 2, none⟩) hl).trans h.2.2.1, (hb.cell (p := ⟨P, 3, none⟩) hl).trans h.2.2.2⟩

end Go.Proofs.YtjdjejnflcmgbaaDoor
