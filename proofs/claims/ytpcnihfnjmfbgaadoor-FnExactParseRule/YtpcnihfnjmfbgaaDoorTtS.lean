/- The specification's text of a transaction: blanks swapped for underscores. -/
import Derived.Test.YtpcnihfnjmfbgaaDoorRtT
import Derived.Lib.ConvBytes
namespace Go.Proofs.YtpcnihfnjmfbgaaDoor
open Go.RowKit Go.Shelf Go.Maps Go.WideMaps

theorem bytes_below (w : World) (e : TypeId) (s : ByteArray) : Below w.heap.size w (Lib.bytesWorld w e s) :=
  ⟨rfl, rfl, rfl, by rw [Lib.bytesWorld_size]; omega, fun k hk => Lib.bytesWorld_at_old w e s k hk⟩
end Go.Proofs.YtpcnihfnjmfbgaaDoor
