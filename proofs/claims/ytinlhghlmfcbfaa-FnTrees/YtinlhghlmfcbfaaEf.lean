/- The program's and the specification's KeysOf. -/
import Derived.Test.YtinlhghlmfcbfaaEe
namespace Go.Proofs.Ytinlhghlmfcbfaa
open Go.RowKit Go.Maps Go.WideMaps

def OutIs (w w' : World) (e : Ending) (cd : Int) (ks : List Int) : Prop :=
  ∃ va vc, e = .returned (.agg #[.int .i64 cd, .slice va ks.length vc]) ∧ w'.ownsRow w.heap.size 2 1 (.slice va ks.length vc) ks.length (ints ks) ∧ Below w.heap.size w w'
theorem outi_code {w W : World} {R : Nat} {cd : Int} (hR : w.heap.size ≤ R) (hb : Below w.heap.size w W) : OutIs w ((W.setCell ⟨R, 0, none⟩ (.int .i64 cd)).setCell ⟨R, 1, none⟩ (.slice none 0 0)) (.returned (.agg #[.int .i64 cd, .slice none 0 0])) cd [] :=
  ⟨none, 0, rfl, ⟨rfl, .inl ⟨rfl, rfl⟩⟩, (hb.setCell (p := ⟨R, 0, none⟩) hR _).setCell (p := ⟨R, 1, none⟩) hR _⟩
theorem outi_ints {w W : World} {R lo n : Nat} {ks : List Int} {va : Option Addr} {vc : Nat} (hn : ks.length = n) (hR : w.heap.size ≤ R) (hlo : R < lo) (hb : Below w.heap.size w W) (hO : W.ownsRow lo 2 1 (.slice va n vc) n (ints ks)) :
    OutIs w ((W.setCell ⟨R, 0, none⟩ (.int .i64 0)).setCell ⟨R, 1, none⟩ (.slice va n vc)) (.returned (.agg #[.int .i64 0, .slice va n vc])) 0 ks := by
  subst hn
  exact ⟨va, vc, rfl, Joins.ownsRow_le (ownsRow_setCell_below (ownsRow_setCell_below hO (a := ⟨R, 0, none⟩) hlo _) (a := ⟨R, 1, none⟩) hlo _) (by omega), (hb.setCell (p := ⟨R, 0, none⟩) hR _).setCell (p := ⟨R, 1, none⟩) hR _⟩

end Go.Proofs.Ytinlhghlmfcbfaa
