/- The draws: numbers that the bytes of a code make. -/
import Derived.Test.YtppfhepipadepaaGreatDoorJn1
import Derived.Test.YtppfhepipadepaaGreatDoorINt
namespace Go.Proofs.YtppfhepipadepaaGreatDoor
open Go.RowKit Go.Maps Go.WideMaps


/-- The words that are drawn. -/
def words : List ByteArray := [⟨#[97]⟩, ⟨#[98]⟩, ⟨#[99, 99]⟩, ⟨#[120, 32, 121]⟩, ⟨#[112, 97, 121, 32, 49]⟩]

end Go.Proofs.YtppfhepipadepaaGreatDoor
