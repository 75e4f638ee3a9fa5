/- Members of the call's own: rows of them, marks in them; the program's bench. -/
import Derived.Test.YtpcgkgjmcnncdaaEa
import Derived.Test.YtpcgkgjmcnncdaaTxS
import Derived.Test.YtpcgkgjmcnncdaaITx
import Derived.Test.YtpcgkgjmcnncdaaCm
import Derived.Test.YtpcgkgjmcnncdaaRu
import Derived.Test.YtpcgkgjmcnncdaaMk
import Derived.Test.YtpcgkgjmcnncdaaIdOf
import Derived.Deep.RegionLaw
import Derived.Maps.OwnSet
import Derived.Maps.Range
import Derived.Test.YtpcgkgjmcnncdaaSignsOf
namespace Go.Proofs.Ytpcgkgjmcnncdaa
open Go.RowKit Go.Maps Go.WideMaps

/-- A row of the call's own, blocks from 'lo' to 'hi'. -/
structure OwnR (w : World) (lo hi : Nat) (t : TypeId) (z : Nat) (v : Value) (n : Nat) (xs : List Value) : Prop where
  r : w.ownsRow lo t z v n xs
  tb : ∀ b, v.ownBlock = some b → b < hi
theorem OwnR.chg {w w' : World} {lo hi n z : Nat} {t : TypeId} {v : Value} {xs : List Value} (h : OwnR w lo hi t z v n xs) {lo' hi' : Nat} (hc : Chg w w' lo' hi') (hd : hi ≤ lo' ∨ hi' ≤ lo) : OwnR w' lo hi t z v n xs :=
  ⟨hc.row h.r (fun k hk => by have := h.tb k hk; have := (h.r.lt k hk).1; omega), h.tb⟩
theorem OwnR.below {w w' : World} {lo hi n z : Nat} {t : TypeId} {v : Value} {xs : List Value} (h : OwnR w lo hi t z v n xs) (hb : Below w.heap.size w w') : OwnR w' lo hi t z v n xs :=
  h.chg (Chg.of_below hb hi hi) (.inl (Nat.le_refl _))
theorem OwnR.of {w : World} {lo n z : Nat} {t : TypeId} {v : Value} {xs : List Value} (h : w.ownsRow lo t z v n xs) : OwnR w lo w.heap.size t z v n xs := ⟨h, fun b hb => (h.lt b hb).2⟩
theorem mat_row {w : World} {base n c : Nat} {a : Option Addr} {ms : List Mb} {t : TypeId} (h : w.ownsRow base t 3 (.slice a n c) n (mcells ms)) (hn : ms.length = n) : MAt w a n ms := by
  rcases h.2 with ⟨e, e0⟩ | ⟨g, cap, cur, e, _⟩
  · exact ⟨hn, .inl e0⟩
  · cases e; exact MAt.owned h hn
end Go.Proofs.Ytpcgkgjmcnncdaa
