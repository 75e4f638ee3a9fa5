/- A transaction is taken back in the program's purse. -/
import Derived.Test.YtagokfoimokniaaGreatDoorQe
namespace Go.Proofs.YtagokfoimokniaaGreatDoor
open Go.RowKit Go.Maps Go.WideMaps

def IsMap (w : World) (B : Nat) : Prop := ∃ es cl, w.heap[B]? = some (.map es cl)
theorem Pu.isMap {w : World} {lo B : Nat} {ps : List (Co × Value)} (h : Pu w lo B ps) : IsMap w B := by
  obtain ⟨D, ⟨es, cl, hb, _⟩, _⟩ := h.map
  exact ⟨es, cl, hb⟩
theorem own_map {w : World} {base size n B : Nat} {e : TypeId} {v : Value} {xs : List Value} (h : w.ownsRow base e size v n xs) (hB : IsMap w B) : ∀ k, v.ownBlock = some k → k < B ∨ B + 1 ≤ k := fun k hk => by
  obtain ⟨es, cl, hb⟩ := hB
  rcases h.2 with ⟨e1, _⟩ | ⟨g, cp, cur, e1, _, hh, _⟩
  · rw [e1] at hk; cases hk
  · rw [e1] at hk
    have : g = k := by simpa [Value.ownBlock] using hk
    have hne : k ≠ B := fun e2 => by rw [this, e2, hb] at hh; cases hh
    omega
theorem COwn.turn {w w' : World} {lo hi n B : Nat} {v : Value} {f : Nat → Co} {kv : Nat → Value} (h : COwn w lo hi v n f kv) (hB : IsMap w B) (hc : Chg w w' B (B + 1)) : COwn w' lo hi v n f kv := by
  obtain ⟨xs, h1, h2⟩ := h.row
  exact ⟨⟨xs, hc.row h1 (own_map h1 hB), h2⟩, h.top, fun j hj => ⟨hc.row (h.keys j hj).1 (own_map (h.keys j hj).1 hB), (h.keys j hj).2⟩, h.apart⟩
theorem Pu.turn {w w' : World} {lo B B2 : Nat} {qs : List (Co × Value)} (h : Pu w lo B2 qs) (hB : IsMap w B) (hne : B2 ≠ B) (hc : Chg w w' B (B + 1)) : Pu w' lo B2 qs := by
  have hlt := h.lt
  obtain ⟨D, ⟨es, cl, hb, F, hs, hD⟩, hsz, hat⟩ := h.map
  exact ⟨⟨D, ⟨es, cl, (hc.block B2 hlt (by omega)).trans hb, F, hs, hD⟩, hsz, hat⟩, fun x hx => hc.row (h.rows x hx) (own_map (h.rows x hx) hB), h.base, h.apart, h.refs, h.wfs⟩
theorem rise_inj {cs : List Co} (h : RiseC cs) {a b : Co} (ha : a ∈ cs) (hb : b ∈ cs) (e : (a.p, a.q) = (b.p, b.q)) : a = b :=
  Classical.byContradiction fun hne => pair_of (R := fun x y : Co => (x.p, x.q) ≠ (y.p, y.q)) (fun _ _ h => h.symm) (rise_ne h) a ha b hb hne e
theorem takeC_snoc {ms : List Co} {j : Nat} {o : Co} (hj : j < ms.length) (ho : o = ms.getD j C0) : ms.take (j + 1) = ms.take j ++ [o] := by
  rw [List.take_add_one, ho, List.getD, List.getElem?_eq_getElem hj]; rfl

end Go.Proofs.YtagokfoimokniaaGreatDoor
