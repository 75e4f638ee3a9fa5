/- Coins and outs that are drawn for a law. -/
import Derived.Test.YtdfijlcjmllplaaOm
import Derived.Test.YtdfijlcjmllplaaCc
import Derived.Test.YtdfijlcjmllplaaJb
namespace Go.Proofs.Ytdfijlcjmllplaa
open Go.RowKit Go.Shelf Go.Maps Go.WideMaps

/-- Outs that can be read, whatever is drawn behind them. -/
structure DbO (w v V : World) (SB : Nat) (ca : Option Addr) (cn cc t : Nat) (va : Option Addr) (os : List Ou) : Prop where
  src : Src w V SB ca cn cc t
  chg : Chg v V SB (SB + 1)
  rd : ∀ V', Chg V V' SB (SB + 1) → OAt V' va os.length os
  len : os.length ≤ 5 ∧ ∀ j, j < os.length → (os.getD j O0).l.length ≤ 4
  ord : SB < v.heap.size
section
variable {w v V V' : World} {SB cn cc t t' hi vc g : Nat} {ca va : Option Addr} {os : List Ou}
theorem DbO.draw (h : DbO w v V SB ca cn cc t va os) (hS : Src w V' SB ca cn cc t') (hc : Chg V V' SB (SB + 1)) : DbO w v V' SB ca cn cc t' va os :=
  ⟨hS, h.chg.trans hc, fun V2 h2 => h.rd V2 (hc.trans h2), h.len, h.ord⟩
theorem DbO.step (h : DbO w v V SB ca cn cc t va os) (hb : Below V.heap.size V V') : DbO w v V' SB ca cn cc t va os := h.draw (h.src.step hb) (Chg.of_below hb _ _)
theorem DbO.at (h : DbO w v V SB ca cn cc t va os) : OAt V va os.length os := h.rd V (Chg.refl _ _ _)
theorem oown_at {w : World} {lo hi n c : Nat} {a : Option Addr} {os : List Ou} {kv : Nat → Value} (h : OOwn w lo hi (.slice a n c) n (fun j => os.getD j O0) kv) (hn : os.length = n) (hl : ∀ j, j < n → (os.getD j O0).l.length ≤ 4) : OAt w a n os := by
  obtain ⟨xs, h1, _⟩ := h.row
  rcases h1.2 with ⟨q, q0⟩ | ⟨g, cap, cur, q, _⟩
  · exact ⟨hn, .inl q0⟩
  · cases q
    exact h.at hn fun j hj => by have := hl j hj; omega
theorem DoS.db (h : DoS w v V SB ca cn cc t hi va vc os) (h3 : os.length ≤ 3) : DbO w v V SB ca cn cc t va os :=
  ⟨h.src, h.chg, fun V' hc => (by
    obtain ⟨kv, hk⟩ := h.own
    exact oown_at (hk.chg hc (.inr h.ord.1)) rfl fun j hj => (by have := h.keys j hj; omega)), ⟨(by omega), fun j hj => (by have := h.keys j hj; omega)⟩, h.ord.1⟩
/-- An out more, of whatever rule. -/
theorem DoS.bent (h : DoS w v V SB ca cn cc t hi va vc os) (h3 : os.length ≤ 3) {B kc : Nat} {ka : Option Addr} {r x y : Int} {l : List Int} (hhi : hi ≤ B) (hvB : v.heap.size ≤ B) (hr : V.ownsRow B 2 1 (.slice ka l.length kc) l.length (ints l)) (hl : l.length ≤ 4) :
    ∃ g cap w5, (Builtin.append_ #[25, 25] 25 #[.slice va os.length vc, .slice (some ⟨V.heap.size, 0, none⟩) 1 1]).run Try.prog (V.alloc (.cells #[.int .i64 r, .slice ka l.length kc, .int .i64 x, .int .i64 y] 36)) = .ok (.slice (some ⟨g, 0, none⟩) (os.length + 1) cap) w5 ∧
      Hid (DbO w v w5 SB ca cn cc t (some ⟨g, 0, none⟩) (os ++ [⟨r, l, x, y⟩])) := by
  have hs := h.step (below_box (.cells #[.int .i64 r, .slice ka l.length kc, .int .i64 x, .int .i64 y] 36))
  obtain ⟨kv, hk⟩ := hs.own
  have hX := heap_alloc_new V (.cells #[.int .i64 r, .slice ka l.length kc, .int .i64 x, .int .i64 y] 36)
  have hsz : v.heap.size ≤ (V.alloc (.cells #[.int .i64 r, .slice ka l.length kc, .int .i64 x, .int .i64 y] 36)).heap.size := hs.chg.size
  obtain ⟨g, cap, w5, hrun, hO, hg⟩ := out_added (f := fun i => (os ++ [(⟨r, l, x, y⟩ : Ou)]).getD i O0) (o := ⟨r, l, x, y⟩) ((hk.up hs.ord.2).ext (fun j hj => by
    rw [List.getD, List.getD, List.getElem?_append_left hj])) hX rfl (Joins.ownsRow_le (hr.alloc _) hvB) (fun i hi' b hb e => by
      have h1 := (hk.keys i hi').2 b hb
      have h2 := (hr.lt b e).1
      omega) (by omega) hsz (by simp [List.getD])
  refine ⟨g, cap, w5, hrun, ?_⟩
  obtain ⟨xs, hrow, _⟩ := hk.row
  obtain ⟨q1, q2⟩ := hs.grow hg (fun k e => (hrow.lt k e).1)
  have hlen : (os ++ [(⟨r, l, x, y⟩ : Ou)]).length = os.length + 1 := by simp
  have hl4 : ∀ j, j < (os ++ [(⟨r, l, x, y⟩ : Ou)]).length → ((os ++ [(⟨r, l, x, y⟩ : Ou)]).getD j O0).l.length ≤ 4 := fun j hj => by
    by_cases e : j < os.length
    · rw [show (os ++ [(⟨r, l, x, y⟩ : Ou)]).getD j O0 = os.getD j O0 by rw [List.getD, List.getD, List.getElem?_append_left e]]
      have := h.keys j e; omega
    · obtain rfl : j = os.length := by omega
      rw [show (os ++ [(⟨r, l, x, y⟩ : Ou)]).getD os.length O0 = ⟨r, l, x, y⟩ by simp [List.getD]]
      exact hl
  refine ⟨q1, q2, fun V' hc => ?_, ⟨by omega, hl4⟩, h.ord.1⟩
  rw [hlen]
  exact oown_at (hO.chg hc (.inr h.ord.1)) hlen fun j hj => hl4 j (by omega)
end
theorem repO {n j : Nat} (h : j < n) : (List.replicate n O0).getD j O0 = O0 := by
  rw [List.getD_eq_getElem?_getD, List.getElem?_replicate, if_pos h]; rfl
/-- Five outs of none. -/
theorem made5 {w v V V' : World} {SB cn cc t g : Nat} {ca : Option Addr} (hS : Src w V SB ca cn cc t) (hc : Chg v V SB (SB + 1)) (ho : SB < v.heap.size) (hrow : V'.ownsRow V.heap.size 36 4 (.slice (some ⟨g, 0, none⟩) 5 5) 5 (madeCells (Value.agg #[.int .i64 0, .slice none 0 0, .int .i64 0, .int .i64 0]).cells (5 * 4)).toList) (hb : Below V.heap.size V V') : DbO w v V' SB ca cn cc t (some ⟨g, 0, none⟩) (List.replicate 5 O0) := by
  have hvs := hc.size
  refine ⟨hS.step hb, hc.trans (Chg.of_below hb _ _), fun V2 h2 => ?_, ⟨by simp, fun j hj => ?_⟩, ho⟩
  · have hrow2 := h2.row hrow (fun k e => by have := (hrow.lt k e).1; omega)
    rw [List.length_replicate]
    refine ⟨by simp, .inr ⟨g, 0, rfl, (hrow2.lt g rfl).2, fun j hj => ?_⟩⟩
    rw [repO hj]
    have hm : ∀ i, i < 4 → (madeCells (Value.agg #[.int .i64 0, .slice none 0 0, .int .i64 0, .int .i64 0]).cells (5 * 4)).toList[j * 4 + i]? = some (#[Value.int .i64 0, .slice none 0 0, .int .i64 0, .int .i64 0][i]!) := fun i hi => by
      have e1 : (Value.agg #[.int .i64 0, .slice none 0 0, .int .i64 0, .int .i64 0]).cells = #[Value.int .i64 0, .slice none 0 0, .int .i64 0, .int .i64 0] := rfl
      rw [e1]
      have e2 : (j * 4 + i) % 4 = i := by omega
      have e3 : j * 4 + i < 20 := by omega
      simp [madeCells, e2, e3]
    refine ⟨none, 0, 0, ?_, ?_, ?_, ?_, Nat.zero_le _, ⟨rfl, .inl rfl⟩⟩
    · exact (by rw [Nat.zero_add]; exact (hrow2.cellAt _ (by omega)).trans (hm 0 (by omega)))
    · exact (by rw [Nat.zero_add]; exact (hrow2.cellAt _ (by omega)).trans (hm 1 (by omega)))
    · exact (by rw [Nat.zero_add]; exact (hrow2.cellAt _ (by omega)).trans (hm 2 (by omega)))
    · exact (by rw [Nat.zero_add]; exact (hrow2.cellAt _ (by omega)).trans (hm 3 (by omega)))
  · rw [repO (by rwa [List.length_replicate] at hj)]; exact Nat.zero_le _

theorem iatP6 (V : World) (a b c d e f : Int) : IAt (V.alloc (.cells #[.int .i64 a, .int .i64 b, .int .i64 c, .int .i64 d, .int .i64 e, .int .i64 f] 2)) (some ⟨V.heap.size, 0, none⟩) 6 [a, b, c, d, e, f] :=
  ⟨rfl, .inr ⟨V.heap.size, 0, rfl, by simp, fun j hj => by
    have h := heap_alloc_new V (.cells #[.int .i64 a, .int .i64 b, .int .i64 c, .int .i64 d, .int .i64 e, .int .i64 f] 2)
    match j, hj with
    | 0, _ => unfold World.cell?; rw [h]; rfl
    | 1, _ => unfold World.cell?; rw [h]; rfl
    | 2, _ => unfold World.cell?; rw [h]; rfl
    | 3, _ => unfold World.cell?; rw [h]; rfl
    | 4, _ => unfold World.cell?; rw [h]; rfl
    | 5, _ => unfold World.cell?; rw [h]; rfl⟩⟩

/-- What was drawn for PutCoins. -/
def OutPc (w w' : World) (e : Ending) : Prop :=
  ∃ (cs : List Co) (os : List Ou) (va oa : Option Addr) (n vc m oc : Nat) (t h : Int) (mn : Bool), e = .returned (.tuple #[.slice va n vc, .int .i64 t, .slice oa m oc, .int .i64 h, .bool mn]) ∧ n = cs.length ∧ m = os.length ∧ (0 ≤ t ∧ t ≤ 61) ∧ (0 ≤ h ∧ h ≤ 1000) ∧ Hid (CAt w' va n cs ∧ n ≤ 43 ∧ (∀ j, j < n → (cs.getD j C0).l.length ≤ 3) ∧ OAt w' oa m os ∧ m ≤ 5 ∧ (∀ j, j < m → (os.getD j O0).l.length ≤ 4)) ∧ Hid (Below w.heap.size w w')

end Go.Proofs.Ytdfijlcjmllplaa
