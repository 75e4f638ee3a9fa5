/- The draws: numbers that the bytes of a code make. -/
import Derived.Test.YtjnlooiknhgobaaGreatDoorX1
import Derived.Test.YtjnlooiknhgobaaGreatDoorINt
namespace Go.Proofs.YtjnlooiknhgobaaGreatDoor
open Go.RowKit Go.Maps Go.WideMaps


/-- The words that are drawn. -/
def words : List ByteArray := [⟨#[97]⟩, ⟨#[98]⟩, ⟨#[99, 99]⟩, ⟨#[120, 32, 121]⟩, ⟨#[112, 97, 121, 32, 49]⟩]

end Go.Proofs.YtjnlooiknhgobaaGreatDoor
