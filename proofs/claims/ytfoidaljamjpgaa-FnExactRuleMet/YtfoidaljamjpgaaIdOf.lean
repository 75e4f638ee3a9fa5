/- What IdOf and TextOf and HasSign answer: the specification's and the program's. The law on IdOf answers true, whatever ledger and text come in, and writes nothing that was there. -/
import Derived.Test.YtfoidaljamjpgaaFa
namespace Go.Proofs.Ytfoidaljamjpgaa
open Go.RowKit Go.Maps Go.WideMaps

theorem numG_tw {w : World} {base p : Nat} {l : List (Int × Int)} {a b : Int} (ha : (Lit.int .i64 a).wf = true) (hb : (Lit.int .i64 b).wf = true) (h : TwG w base p l) :
    Calls Try.prog 56 #[.pointer (some ⟨p, 0, none⟩), .agg #[.int .i64 a, .int .i64 b]] w fun e w' => e = .returned (.int .i64 (num l (a, b) : Nat)) ∧ Below w.heap.size w w' := by
  obtain ⟨iv, B, hp, hbp, hbB, ho, ht⟩ := h
  exact numG_any p B l a b w ha hb (lt_of_block hp) (by unfold World.cell?; rw [hp]; rfl) ht

end Go.Proofs.Ytfoidaljamjpgaa

namespace Go.Proofs.Ytfoidaljamjpgaa
open Go.RowKit Go.Maps Go.WideMaps

theorem keepb {v v' : World} {b : Nat} {o : Obj} (h : v.heap[b]? = some o) (hb : Below v.heap.size v v') : Hid (v'.heap[b]? = some o) := (hb.block b (lt_of_block h)).trans h
theorem cells2 {v : World} {b : Nat} {a0 a1 : Value} {t : TypeId} (h : v.heap[b]? = some (.cells #[a0, a1] t (0, 0))) : v.cell? ⟨b, 0, none⟩ = some a0 ∧ v.cell? ⟨b, 1, none⟩ = some a1 := ⟨by unfold World.cell?; rw [h]; rfl, by unfold World.cell?; rw [h]; rfl⟩

end Go.Proofs.Ytfoidaljamjpgaa
