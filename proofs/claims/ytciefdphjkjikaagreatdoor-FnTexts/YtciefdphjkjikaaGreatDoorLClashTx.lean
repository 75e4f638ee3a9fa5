/- The law on ClashTx answers true, whatever two transactions come in, and writes nothing that was there: where the program's ClashTx keeps its contract. -/
import Derived.Test.YtciefdphjkjikaaGreatDoorJn3
import Derived.Test.YtciefdphjkjikaaGreatDoorJn4
namespace Go.Proofs.YtciefdphjkjikaaGreatDoor
open Go.RowKit Go.Maps Go.WideMaps

/-- What the program's ClashTx owes. -/
def IClashTx : Prop := ∀ (n c m d n' c' m' d' : Nat) (ia oa ib ob : Option Addr) (k f k' f' : Int) (rs rs' : List (Int × Int)) (os os' : List Ou) (w : World), n ≤ 1048576 → m ≤ 1048576 → n ≤ c → c ≤ maxLen → (∀ j, j < m → (os.getD j O0).l.length ≤ 1048576) → TxAt w ia n oa m rs os → n' ≤ 1048576 → m' ≤ 1048576 → n' ≤ c' → c' ≤ maxLen → (∀ j, j < m' → (os'.getD j O0).l.length ≤ 1048576) → TxAt w ib n' ob m' rs' os' →
  ((Lit.int .i64 k).wf = true ∧ (Lit.int .i64 f).wf = true ∧ FineR rs ∧ FineO os) → ((Lit.int .i64 k').wf = true ∧ (Lit.int .i64 f').wf = true ∧ FineR rs' ∧ FineO os') →
  Calls Tryz.prog 15 #[.agg #[.int .i64 k, .int .i64 f, .slice ia n c, .slice oa m d], .agg #[.int .i64 k', .int .i64 f', .slice ib n' c', .slice ob m' d']] w fun e w' => e = .returned (.bool (clashR k f rs os k' f' rs' os')) ∧ Below w.heap.size w w'

end Go.Proofs.YtciefdphjkjikaaGreatDoor
