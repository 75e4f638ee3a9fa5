/- A number read: what it comes to, and the specification's. -/
import Derived.Test.YtobmongmmnldpaaDoorRtT
namespace Go.Proofs.YtobmongmmnldpaaDoor
open Go.RowKit Go.Shelf Go.Maps Go.WideMaps

def isDg (b : UInt8) : Bool := decide (48 ≤ b.toNat ∧ b.toNat ≤ 57)
theorem dg_le {b : UInt8} (h : isDg b = true) : 48 ≤ b.toNat ∧ b.toNat ≤ 57 := by simpa [isDg] using h
end Go.Proofs.YtobmongmmnldpaaDoor
