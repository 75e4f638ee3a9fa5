/- A transaction of the call's own: its refs' row and its outs; marks are written into it. -/
import Derived.Test.YtciefdphjkjikaaGreatDoorDx
import Derived.Test.YtciefdphjkjikaaGreatDoorJn2
namespace Go.Proofs.YtciefdphjkjikaaGreatDoor
open Go.RowKit Go.Maps Go.WideMaps

structure TOwn (w : World) (lo mid hi n m g0 c0 g1 c1 : Nat) (rs : List (Int × Int)) (os : List Ou) (kv : Nat → Value) : Prop where
  r : w.ownsRow lo 65 2 (.slice (some ⟨g0, 0, none⟩) n c0) n (gcells rs)
  rt : g0 < mid
  o : OOwn w mid hi (.slice (some ⟨g1, 0, none⟩) m c1) m (fun j => os.getD j O0) kv
  lm : lo ≤ mid
  mh : mid ≤ hi
section
variable {w w' : World} {lo mid hi n m g0 c0 g1 c1 : Nat} {rs : List (Int × Int)} {os : List Ou} {kv : Nat → Value}
theorem TOwn.chg (h : TOwn w lo mid hi n m g0 c0 g1 c1 rs os kv) {lo' hi' : Nat} (hc : Chg w w' lo' hi') (hd : hi ≤ lo' ∨ hi' ≤ lo) : TOwn w' lo mid hi n m g0 c0 g1 c1 rs os kv := by
  have h1 := h.lm
  have h2 := h.mh
  have h3 := h.rt
  refine ⟨hc.row h.r fun k hk => ?_, h.rt, h.o.chg hc (by omega), h1, h2⟩
  have a := (h.r.lt k hk).1
  have e : g0 = k := by simpa [Value.ownBlock] using hk
  omega
theorem TOwn.below (h : TOwn w lo mid hi n m g0 c0 g1 c1 rs os kv) (hb : Below w.heap.size w w') : TOwn w' lo mid hi n m g0 c0 g1 c1 rs os kv := h.chg (Chg.of_below hb hi hi) (.inl (Nat.le_refl _))
theorem TOwn.at (h : TOwn w lo mid hi n m g0 c0 g1 c1 rs os kv) (hn : rs.length = n) (hm : os.length = m) (hl : ∀ j, j < m → (os.getD j O0).l.length ≤ 1048576) : TxAt w (some ⟨g0, 0, none⟩) n (some ⟨g1, 0, none⟩) m rs os := ⟨GAt.owned h.r hn, h.o.at hm hl⟩
theorem TOwn.rlt (h : TOwn w lo mid hi n m g0 c0 g1 c1 rs os kv) : g0 < w.heap.size := (h.r.lt g0 rfl).2
theorem Chg.wide {lo' hi' : Nat} (h : Chg w w' lo hi) (h1 : lo' ≤ lo) (h2 : hi ≤ hi') : Chg w w' lo' hi' := ⟨h.os, h.tape, h.output, h.size, fun b hb hd => h.block b hb (by omega)⟩
end

end Go.Proofs.YtciefdphjkjikaaGreatDoor
