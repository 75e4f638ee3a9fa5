/- What the laws' own helpers do with a ledger that came in: its size is told, it is copied into new memory, two are compared. The laws' own copies and comparisons of ledgers. The laws' own copies and comparisons of signatures and of whole ledgers. The laws' own copies, sizes and comparisons of whole ledgers. -/
import Derived.Test.YtapicejadjeejaaBase
import Derived.Deep.QuietTactic
import Derived.BigQuiet
import Derived.Lib.SmallJoins
import Derived.Deep.RegionHeld3
namespace Go.Proofs.Ytapicejadjeejaa
open Go.RowKit Go.Maps

end Go.Proofs.Ytapicejadjeejaa

namespace Go.Proofs.Ytapicejadjeejaa
open Go.RowKit Go.Maps

end Go.Proofs.Ytapicejadjeejaa

namespace Go.Proofs.Ytapicejadjeejaa
open Go.RowKit Go.Maps

end Go.Proofs.Ytapicejadjeejaa

namespace Go.Proofs.Ytapicejadjeejaa
open Go.RowKit Go.Maps

/-- What is known of a ledger that came in: its texts and its signatures. -/
structure LedAt (w : World) (ta : Option Addr) (n : Nat) (ga : Option Addr) (m : Nat) (ss : List ByteArray) (gs : List (Int × Int)) : Prop where
  s : SAt w ta n ss
  g : GAt w ga m gs

theorem LedAt.below {w w' : World} {ta ga : Option Addr} {n m : Nat} {ss : List ByteArray} {gs : List (Int × Int)} (h : LedAt w ta n ga m ss gs) {B : Nat} (hb : Below B w w') (hB : w.heap.size ≤ B) : LedAt w' ta n ga m ss gs :=
  ⟨h.s.below hb hB, h.g.below hb hB⟩

theorem below_box {w : World} (o : Obj) : Below w.heap.size w (w.alloc o) := (Below.refl _ _).alloc (Nat.le_refl _) _
theorem below_box2 {w : World} (o o' : Obj) : Below w.heap.size w ((w.alloc o).alloc o') := (below_box o).alloc (by simp) _
theorem block_at2 {w : World} {o o' : Obj} : ((w.alloc o).alloc o').heap[w.heap.size]? = some o := (Below.heap_alloc _ _ _ (by simp)).trans (heap_alloc_new w o)

/-- A ledger's copy: two slices of new memory. -/
def OwnL (w : World) (base n m : Nat) (ss : List ByteArray) (gs : List (Int × Int)) (g0 k0 g1 k1 : Nat) : Prop :=
  w.ownsRow base 9 1 (.slice (some ⟨g0, 0, none⟩) n k0) n (ss.map Value.string) ∧ w.ownsRow base 53 2 (.slice (some ⟨g1, 0, none⟩) m k1) m (gcells gs)

theorem OwnL.led {w : World} {base n m : Nat} {ss : List ByteArray} {gs : List (Int × Int)} {g0 k0 g1 k1 : Nat} (h : OwnL w base n m ss gs g0 k0 g1 k1) (hn : ss.length = n) (hm : gs.length = m) : LedAt w (some ⟨g0, 0, none⟩) n (some ⟨g1, 0, none⟩) m ss gs :=
  ⟨SAt.owned h.1 hn, GAt.owned h.2 hm⟩

theorem OwnL.below {w w' : World} {base n m : Nat} {ss : List ByteArray} {gs : List (Int × Int)} {g0 k0 g1 k1 : Nat} (h : OwnL w base n m ss gs g0 k0 g1 k1) (hb : Below w.heap.size w w') : OwnL w' base n m ss gs g0 k0 g1 k1 := by
  have hg : w.grownBy w' none := ⟨hb.os, hb.tape, hb.output, hb.size, fun k hk _ => hb.block k hk⟩
  exact ⟨h.1.kept hg (by simp [Value.ownBlock]), h.2.kept hg (by simp [Value.ownBlock])⟩

theorem OwnL.caps {w : World} {base n m : Nat} {ss : List ByteArray} {gs : List (Int × Int)} {g0 k0 g1 k1 : Nat} (h : OwnL w base n m ss gs g0 k0 g1 k1) : n ≤ k0 ∧ m ≤ k1 ∧ k0 ≤ maxLen ∧ k1 ≤ maxLen := by
  rcases h.1.2 with ⟨e, _⟩ | ⟨_, _, _, e, _, _, h1, h2, _⟩
  · cases e
  rcases h.2.2 with ⟨e', _⟩ | ⟨_, _, _, e', _, _, h3, h4, _⟩
  · cases e'
  simp at e e'
  omega

end Go.Proofs.Ytapicejadjeejaa
