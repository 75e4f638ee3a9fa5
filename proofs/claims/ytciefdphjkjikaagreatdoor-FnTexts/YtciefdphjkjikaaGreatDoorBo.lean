/- A transaction's result: alike, marked, held; with no transaction in it too. -/
import Derived.Test.YtciefdphjkjikaaGreatDoorDx
import Derived.Test.YtciefdphjkjikaaGreatDoorBl
import Derived.Test.YtciefdphjkjikaaGreatDoorJn1
import Derived.Test.YtciefdphjkjikaaGreatDoorAm
namespace Go.Proofs.YtciefdphjkjikaaGreatDoor
open Go.RowKit Go.Shelf Go.Maps Go.WideMaps

/-- A transaction's two lists, as values, in memory of its own: the refs' cells are zs, the outs are f. -/
structure TGen (w : World) (lo mid hi : Nat) (v0 : Value) (n : Nat) (v1 : Value) (m : Nat) (zs : List Value) (f : Nat → Ou) (kv : Nat → Value) : Prop where
  r : w.ownsRow lo 65 2 v0 n zs
  rt : ∀ b, v0.ownBlock = some b → b < mid
  o : OOwn w mid hi v1 m f kv
  lm : lo ≤ mid
  mh : mid ≤ hi
section
variable {w w' : World} {lo mid hi n m : Nat} {v0 v1 : Value} {zs : List Value} {f : Nat → Ou} {kv : Nat → Value}
theorem TGen.chg (h : TGen w lo mid hi v0 n v1 m zs f kv) {lo' hi' : Nat} (hc : Chg w w' lo' hi') (hd : hi ≤ lo' ∨ hi' ≤ lo) : TGen w' lo mid hi v0 n v1 m zs f kv := by
  have h1 := h.lm
  have h2 := h.mh
  refine ⟨hc.row h.r fun k hk => ?_, h.rt, h.o.chg hc (by omega), h1, h2⟩
  have a := (h.r.lt k hk).1
  have e := h.rt k hk
  omega
theorem TGen.below (h : TGen w lo mid hi v0 n v1 m zs f kv) (hb : Below w.heap.size w w') : TGen w' lo mid hi v0 n v1 m zs f kv := h.chg (Chg.of_below hb hi hi) (.inl (Nat.le_refl _))
end

/-- What a text's transaction is, field by field; zero where there is none. -/
def pcd (t : List UInt8) : Int := match parT t with | some _ => 0 | none => 5
def pTx (t : List UInt8) : TxV := match parT t with | some x => x | none => ⟨0, 0, [], []⟩
/-- A result that holds what the text tells. -/
theorem OutPt.res {w w' : World} {e : Ending} {t : List UInt8} (h : OutPt w w' e t) :
    ∃ a0 c0 a1 c1, e = .returned (.agg #[.int .i64 (pcd t), .int .i64 (pTx t).k, .int .i64 (pTx t).f, .slice a0 (pTx t).rs.length c0, .slice a1 (pTx t).os.length c1]) ∧ Hid (∃ mid kv, TGen w' w.heap.size mid w'.heap.size (.slice a0 (pTx t).rs.length c0) (pTx t).rs.length (.slice a1 (pTx t).os.length c1) (pTx t).os.length (gcells (pTx t).rs) (fun j => (pTx t).os.getD j O0) kv) ∧ Hid (Below w.heap.size w w') := by
  obtain ⟨hb, h | h⟩ := h
  · obtain ⟨x, g0, c0, g1, c1, lo, mid, hi, kv, hx, e1, hT, h1, h2⟩ := h
    have hp : pTx t = x := by unfold pTx; rw [hx]
    have hc : pcd t = 0 := by unfold pcd; rw [hx]
    rw [hp, hc]
    refine ⟨_, c0, _, c1, e1, ⟨mid, kv, Joins.ownsRow_le hT.r h1, fun b hb => ?_, ?_, Nat.le_trans h1 hT.lm, Nat.le_trans hT.mh h2⟩, hb⟩
    · have e2 : g0 = b := by simpa [Value.ownBlock] using hb
      have := hT.rt
      omega
    · exact hT.o.up h2
  · obtain ⟨hx, e1⟩ := h
    have hp : pTx t = ⟨0, 0, [], []⟩ := by unfold pTx; rw [hx]
    have hc : pcd t = 5 := by unfold pcd; rw [hx]
    rw [hp, hc]
    exact ⟨none, 0, none, 0, e1, ⟨w.heap.size, fun _ => .slice none 0 0, World.ownsRow_nil _ _ _ _, fun b q => (by cases q), OOwn.none, Nat.le_refl _, hb.size⟩, hb⟩

theorem TGen.at {w : World} {lo mid hi n m c0 c1 : Nat} {a0 a1 : Option Addr} {rs : List (Int × Int)} {os : List Ou} {kv : Nat → Value} (h : TGen w lo mid hi (.slice a0 n c0) n (.slice a1 m c1) m (gcells rs) (fun j => os.getD j O0) kv) (hn : rs.length = n) (hm : os.length = m) (hl : ∀ o ∈ os, o.l.length ≤ 3) : TxAt w a0 n a1 m rs os :=
  ⟨GAt.owned2 h.r hn, h.o.at2 hm hl⟩

end Go.Proofs.YtciefdphjkjikaaGreatDoor
