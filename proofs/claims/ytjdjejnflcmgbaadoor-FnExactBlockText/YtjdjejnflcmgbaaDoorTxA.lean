/- Refs that come in: their size is told, they are copied, two lists are compared. Outs that come in: their size is told, they are copied, two lists are compared. Outs and transactions that come in are copied into new memory. Lists of outs that come in are copied into new memory. Transactions that come in: two are compared, their size is told, they are copied. Transactions that come in are copied into new memory. -/
import Derived.Test.YtjdjejnflcmgbaaDoorRu
import Derived.Test.YtjdjejnflcmgbaaDoorCp
namespace Go.Proofs.YtjdjejnflcmgbaaDoor
open Go.RowKit Go.Maps

end Go.Proofs.YtjdjejnflcmgbaaDoor

namespace Go.Proofs.YtjdjejnflcmgbaaDoor
open Go.RowKit Go.Maps

end Go.Proofs.YtjdjejnflcmgbaaDoor

namespace Go.Proofs.YtjdjejnflcmgbaaDoor
open Go.RowKit Go.Maps Go.WideMaps

theorem res4 {w w2 : World} {b B : Nat} {c0 c1 c2 c3 : Value} {t : TypeId} (h : w.heap[b]? = some (.cells #[c0, c1, c2, c3] t (0, 0))) (hb : Below B w w2) (hB : b < B) :
    (w2.cell? ⟨b, 0, none⟩ = some c0 ∧ w2.cell? ⟨b, 1, none⟩ = some c1 ∧ w2.cell? ⟨b, 2, none⟩ = some c2 ∧ w2.cell? ⟨b, 3, none⟩ = some c3 ∧ w2.frozen? ⟨b, 0, none⟩ = false ∧ w2.frozen? ⟨b, 1, none⟩ = false ∧ w2.frozen? ⟨b, 2, none⟩ = false ∧ w2.frozen? ⟨b, 3, none⟩ = false) ∧ Hid (w2.heap[b]? = some (.cells #[c0, c1, c2, c3] t (0, 0))) := by
  have h2 := (hb.block b hB).trans h
  exact ⟨cells4 h2, h2⟩

end Go.Proofs.YtjdjejnflcmgbaaDoor

namespace Go.Proofs.YtjdjejnflcmgbaaDoor
open Go.RowKit Go.Maps Go.WideMaps

end Go.Proofs.YtjdjejnflcmgbaaDoor

namespace Go.Proofs.YtjdjejnflcmgbaaDoor
open Go.RowKit Go.Maps Go.WideMaps

end Go.Proofs.YtjdjejnflcmgbaaDoor

namespace Go.Proofs.YtjdjejnflcmgbaaDoor
open Go.RowKit Go.Maps Go.WideMaps


end Go.Proofs.YtjdjejnflcmgbaaDoor
