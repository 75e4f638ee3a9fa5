/- A transaction's answer among other memory: marked, held. -/
import Derived.Test.YtppfhepipadepaaGreatDoorBp
namespace Go.Proofs.YtppfhepipadepaaGreatDoor
open Go.RowKit Go.Shelf Go.Maps Go.WideMaps

/-- A transaction's two lists between two bounds. -/
def TLie (w : World) (lo hi : Nat) (a0 : Option Addr) (n c0 : Nat) (a1 : Option Addr) (m c1 : Nat) (zs : List Value) (g : Nat → Ou) : Prop := ∃ mid kv, TGen w lo mid hi (.slice a0 n c0) n (.slice a1 m c1) m zs g kv
section
variable {w w' : World} {lo hi n c0 m c1 : Nat} {a0 a1 : Option Addr} {zs : List Value} {g : Nat → Ou} {rs : List (Int × Int)} {os : List Ou}
theorem TLie.below (h : TLie w lo hi a0 n c0 a1 m c1 zs g) (hb : Below w.heap.size w w') : TLie w' lo hi a0 n c0 a1 m c1 zs g := by
  obtain ⟨mid, kv, hT⟩ := h
  exact ⟨mid, kv, hT.below hb⟩
theorem TLie.chg (h : TLie w lo hi a0 n c0 a1 m c1 zs g) {lo' hi' : Nat} (hc : Chg w w' lo' hi') (hd : hi ≤ lo' ∨ hi' ≤ lo) : TLie w' lo hi a0 n c0 a1 m c1 zs g := by
  obtain ⟨mid, kv, hT⟩ := h
  exact ⟨mid, kv, hT.chg hc hd⟩
theorem TLie.at (h : TLie w lo hi a0 n c0 a1 m c1 (gcells rs) (fun j => os.getD j O0)) (hn : rs.length = n) (hm : os.length = m) (hl : ∀ o ∈ os, o.l.length ≤ 3) : TxAt w a0 n a1 m rs os := by
  obtain ⟨mid, kv, hT⟩ := h
  exact hT.at hn hm hl
theorem TNew.lie {B : Nat} (h : TNew w B a0 n c0 a1 m c1 rs os) : TLie w B w.heap.size a0 n c0 a1 m c1 (gcells rs) (fun j => os.getD j O0) := h
theorem mk_oneT {f : Nat} {v : Value} {K : Nat} {P : World → Prop} (h : Calls Tryz.prog f #[v, .int .i64 ((1 : Nat) : Int)] w fun e w' => e = .returned (.int .i64 (K : Nat)) ∧ P w') : Calls Tryz.prog f #[v, .int .i64 1] w fun e w' => e = .returned (.int .i64 (K : Nat)) ∧ P w' := h
end
theorem markTxR_lie (cd k f : Int) (a0 a1 : Option Addr) (n m c0 c1 lo hi K2 : Nat) (zs : List Value) (g : Nat → Ou) (w : World) (hK2 : K2 = kOu (1 + 2 * n) g m) (hn : n ≤ 1048576) (hm : m ≤ 1048576) (hl : ∀ j, j < m → (g j).l.length ≤ 1048576) (hhi : hi ≤ w.heap.size) (h : TLie w lo hi a0 n c0 a1 m c1 zs g) :
    Calls Tryz.prog 11 #[.agg #[.int .i64 cd, .int .i64 k, .int .i64 f, .slice a0 n c0, .slice a1 m c1], .int .i64 1] w fun e w' => e = .returned (.int .i64 (K2 : Nat)) ∧ TLie w' lo hi a0 n c0 a1 m c1 (mkG 1 n) (mkOuF (1 + 2 * n) g) ∧ Chg w w' lo hi := by
  obtain ⟨mid, kv, hT⟩ := h
  exact mk_oneT ((markTxR_any cd k f a0 a1 n m c0 c1 lo mid hi 1 K2 zs g kv w hK2 (by omega) hm hl hhi hT).mono fun e w' ⟨h1, h2, h3⟩ => ⟨h1, ⟨mid, kv, h2⟩, h3⟩)
theorem heldTxR_lie (cd k f : Int) (a0 a1 : Option Addr) (n m c0 c1 lo hi K2 : Nat) (g : Nat → Ou) (w : World) (hK2 : K2 = kOu (1 + 2 * n) g m) (hn : n ≤ 1048576) (hm : m ≤ 1048576) (hl : ∀ j, j < m → (g j).l.length ≤ 1048576) (h : TLie w lo hi a0 n c0 a1 m c1 (mkG 1 n) (mkOuF (1 + 2 * n) g)) :
    Calls Tryz.prog 12 #[.agg #[.int .i64 cd, .int .i64 k, .int .i64 f, .slice a0 n c0, .slice a1 m c1], .int .i64 1] w fun e w' => e = .returned (.int .i64 (K2 : Nat)) ∧ Below w.heap.size w w' := by
  obtain ⟨mid, kv, hT⟩ := h
  exact mk_oneT (heldTxR_any cd k f a0 a1 n m c0 c1 lo mid hi 1 K2 g kv w hK2 (by omega) hm hl hT)

end Go.Proofs.YtppfhepipadepaaGreatDoor
