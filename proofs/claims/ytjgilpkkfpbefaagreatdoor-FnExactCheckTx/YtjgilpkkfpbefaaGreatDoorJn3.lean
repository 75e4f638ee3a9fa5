/- A ledger that comes in as a law's argument, read as data, gives its texts and its signatures. A rule that comes in as a law's argument, read as data, gives its keys and its two numbers. A transaction that comes in as a law's argument, read as data, gives its numbers, its refs and its outs. The law on TxFault answers true, whatever transaction comes in, and writes nothing that was there: where the program's TxFault keeps its contract. The program's fault of a transaction: kinds, refs, outs. The program's fault of a transaction: its parts and the whole. The program's TxFault keeps its contract. The program's order of refs: two numbers compared, the first that is not 0, two refs compared. The program's purse: a map from refs to coins, each with keys of its own. The program fills its purse with coins. A coin is taken out of the purse. Marks in coins are read back; the results that hold coins. Lists of coins that come in are copied into memory of their own: the row, and each one's keys. The program's CoinAt. -/
import Derived.Test.YtjgilpkkfpbefaaGreatDoorRows
import Derived.Test.YtjgilpkkfpbefaaGreatDoorJn1
import Derived.ProofKit
import Derived.OpenShut
import Derived.ShutString
import Derived.ChangeOld
import Derived.SliceStrings
import Derived.Deep.SlicePairs
import Derived.Test.YtjgilpkkfpbefaaGreatDoorJn2
import Derived.Deep.Slices
import Derived.Maps.OwnSet
import Derived.Maps.Range
namespace Go.Proofs.YtjgilpkkfpbefaaGreatDoor
open Go.ChangeShapes Go.WideShapes Go.ChangeAt Go.RowKit Go.Joins Go.Deep
open Go.ChangeMaps (open_string shut_string)

theorem Tryz.own : ownKnob Tryz.prog.godebug = none := by kernel_rfl
theorem Tryz.cellsLL : Tryz.prog.cellsOf 25 = 2 := by kernel_rfl
theorem Tryz.cellsStr : Tryz.prog.cellsOf 9 = 1 := by kernel_rfl
theorem Tryz.cellsLSig : Tryz.prog.cellsOf 125 = 2 := by kernel_rfl

section
variable {H : Type} {enc : TypeId × Value → H} {W : World} {base : Nat} {spare : Nat → Bool} {held : Bool}

theorem add_none (b off j : Nat) : (⟨b, off, none⟩ : Addr).add j = ⟨b, off + j, none⟩ := by
  simp only [Addr.add]
  split
  · simp_all
  · rfl
theorem wf_zero : (Lit.int .i64 0).wf = true := by decide

theorem open_texts {fuel : Nat} {c : Value} {x : DataW H × List MemPlace} (h : DataW.trod enc Tryz.prog W base spare held fuel 22 [c] = some x) :
    ∃ a n cap ss, c = .slice a n cap ∧ n ≤ maxLen ∧ SAt W a n ss ∧ ∀ j, (ss.getD j E0).size ≤ maxLen := by
  rcases open_strings Tryz.underlying22 Tryz.underlying9 Tryz.cellsStr h with ⟨hcs, _⟩ | ⟨a, len, cap, ss, hcs, _, hl, hm, hlen, _, hcell, hsz⟩
  · refine ⟨none, 0, 0, [], by simpa using hcs, by unfold maxLen; omega, ⟨rfl, .inl rfl⟩, fun j => ?_⟩
    simp [E0, maxLen]
  · have hls : len ≤ ss.length := by rw [hlen]; split <;> omega
    refine ⟨some a, len, cap, ss.take len, by simpa using hcs, by omega, ⟨by simp; omega, ?_⟩, fun j => ?_⟩
    · by_cases h0 : len = 0
      · exact .inl h0
      · obtain ⟨b, off, spot⟩ := a
        have h1 := hcell 0 (by omega)
        have hspot : spot = none := by simpa [Addr.add] using World.cell?_spot h1
        subst hspot
        refine .inr ⟨b, off, rfl, World.block_lt_of_cell? _ _ h1, fun j hj => ?_⟩
        have h2 := hcell j (by omega)
        rw [add_none] at h2
        rw [h2]
        simp [List.getD, hj, show j < ss.length by omega]
    · by_cases hj : j < (ss.take len).length
      · have : (ss.take len).getD j E0 = (ss.take len)[j] := by rw [List.getD, List.getElem?_eq_getElem hj]; rfl
        rw [this]
        exact hsz _ (List.mem_of_mem_take (List.getElem_mem hj))
      · have : (ss.take len).getD j E0 = E0 := by rw [List.getD, List.getElem?_eq_none (by omega)]; rfl
        rw [this]; simp [E0, maxLen]

theorem open_signs {fuel : Nat} {c : Value} {x : DataW H × List MemPlace} (h : DataW.trod enc Tryz.prog W base spare held fuel 23 [c] = some x) :
    ∃ a m cap gs, c = .slice a m cap ∧ m ≤ maxLen ∧ GAt W a m gs ∧ ∀ j, (Lit.int .i64 (gs.getD j G0).1).wf = true ∧ (Lit.int .i64 (gs.getD j G0).2).wf = true := by
  rcases open_slice_pairs Tryz.underlying23 Tryz.underlying125 Tryz.cellsLSig rfl rfl Tryz.cellsI64 Tryz.cellsI64 h with ⟨hcs, _⟩ | ⟨a, len, cap, m, n, V0, V1, D0, D1, P0, P1, hcs, _, hl, hm, hmm, _, hx⟩
  · refine ⟨none, 0, 0, [], by simpa using hcs, by unfold maxLen; omega, ⟨rfl, .inl rfl⟩, fun j => ?_⟩
    simp [G0, wf_zero]
  · have hlm : len ≤ m := by rw [hmm]; split <;> omega
    have hint : ∀ i, i < m → V0 i = .int .i64 (intOf (V0 i)) ∧ V1 i = .int .i64 (intOf (V1 i)) ∧ (Lit.int .i64 (intOf (V0 i))).wf = true ∧ (Lit.int .i64 (intOf (V1 i))).wf = true := by
      intro i hi
      obtain ⟨_, _, h0, h1⟩ := hx i hi
      obtain ⟨p, e0, _, w0⟩ := DataW.trod_int Tryz.underlying2 h0
      obtain ⟨q, e1, _, w1⟩ := DataW.trod_int Tryz.underlying2 h1
      simp at e0 e1
      rw [e0, e1]
      exact ⟨rfl, rfl, w0, w1⟩
    have hget : ∀ j, j < len → (((List.range len).map fun i => (intOf (V0 i), intOf (V1 i))).getD j G0) = (intOf (V0 j), intOf (V1 j)) := by
      intro j hj
      simp [List.getD, hj]
    refine ⟨some a, len, cap, (List.range len).map fun i => (intOf (V0 i), intOf (V1 i)), by simpa using hcs, by omega, ⟨by simp, ?_⟩, fun j => ?_⟩
    · by_cases h0 : len = 0
      · exact .inl h0
      · obtain ⟨b, off, spot⟩ := a
        have h1 := (hx 0 (by omega)).1
        have hspot : spot = none := by simpa [Addr.add] using World.cell?_spot h1
        subst hspot
        refine .inr ⟨b, off, rfl, World.block_lt_of_cell? _ _ h1, fun j hj => ?_⟩
        obtain ⟨x0, x1, _, _⟩ := hx j (by omega)
        obtain ⟨i0, i1, _, _⟩ := hint j (by omega)
        rw [hget j hj]
        rw [add_none] at x0 x1
        rw [i0] at x0
        rw [i1] at x1
        exact ⟨x0, x1⟩
    · by_cases hj : j < len
      · rw [hget j hj]
        obtain ⟨_, _, w0, w1⟩ := hint j (by omega)
        exact ⟨w0, w1⟩
      · have : (((List.range len).map fun i => (intOf (V0 i), intOf (V1 i))).getD j G0) = G0 := by rw [List.getD, List.getElem?_eq_none (by simp; omega)]; rfl
        rw [this]
        exact ⟨wf_zero, wf_zero⟩
end

set_option maxRecDepth 100000 in
/-- All that a law is told of a ledger that came in. -/
theorem open_ledger {H : Type} {enc : TypeId × Value → H} {W : World} {base b0 : Nat} {spare : Nat → Bool} {held : Bool} {r : Reach} {v : Value} {d : DataW H} {p : List MemPlace} (hv : Value.okWide Tryz.prog W r b0 25 v) (h : DataW.Trod enc Tryz.prog W base spare held 25 v d p) :
    ∃ ta n tc ga m gc ss gs, v = .agg #[.slice ta n tc, .slice ga m gc] ∧ n ≤ maxLen ∧ m ≤ maxLen ∧ Fine ss gs ∧ LedAt W ta n ga m ss gs := by
  obtain ⟨c0, c1, y0, y1, k, rfl, _, _, hy0, hy1⟩ := open_agg2 Tryz.underlying25 (by kernel_rfl) Tryz.cellsLL hv h
  obtain ⟨ta, n, tc, ss, rfl, hn, hs, hz⟩ := open_texts hy0
  obtain ⟨ga, m, gc, gs, rfl, hm, hg, hw⟩ := open_signs hy1
  exact ⟨ta, n, tc, ga, m, gc, ss, gs, rfl, hn, hm, ⟨hz, hw⟩, ⟨hs, hg⟩⟩

end Go.Proofs.YtjgilpkkfpbefaaGreatDoor

namespace Go.Proofs.YtjgilpkkfpbefaaGreatDoor
open Go.ChangeShapes Go.WideShapes Go.ChangeAt Go.RowKit Go.Joins Go.Deep
open Go.ChangeMaps (open_string shut_string)

theorem Tryz.cellsLRule : Tryz.prog.cellsOf 60 = 3 := by kernel_rfl

theorem open_keys {H : Type} {enc : TypeId × Value → H} {W : World} {base : Nat} {spare : Nat → Bool} {held : Bool} {fuel : Nat} {c : Value} {x : DataW H × List MemPlace} (h : DataW.trod enc Tryz.prog W base spare held fuel 58 [c] = some x) :
    ∃ a n cap l, c = .slice a n cap ∧ n ≤ maxLen ∧ IAt W a n l ∧ ∀ k ∈ l, (Lit.int .i64 k).wf = true := by
  rcases open_ints Tryz.underlying58 Tryz.underlying2 Tryz.cellsI64 h with ⟨hcs, _⟩ | ⟨a, len, cap, zs, hcs, _, hl, hm, hlen, _, hcell, hwf⟩
  · exact ⟨none, 0, 0, [], by simpa using hcs, by unfold maxLen; omega, ⟨rfl, .inl rfl⟩, fun k hk => by cases hk⟩
  · have hls : len ≤ zs.length := by rw [hlen]; split <;> omega
    refine ⟨some a, len, cap, zs.take len, by simpa using hcs, by omega, ⟨by simp; omega, ?_⟩, fun k hk => hwf k (List.mem_of_mem_take hk)⟩
    by_cases h0 : len = 0
    · exact .inl h0
    · obtain ⟨b, off, spot⟩ := a
      have h1 := hcell 0 (by omega)
      have hspot : spot = none := by simpa [Addr.add] using World.cell?_spot h1
      subst hspot
      refine .inr ⟨b, off, rfl, World.block_lt_of_cell? _ _ h1, fun j hj => ?_⟩
      have h2 := hcell j (by omega)
      rw [add_none] at h2
      rw [h2]
      simp [List.getD, hj]

end Go.Proofs.YtjgilpkkfpbefaaGreatDoor

namespace Go.Proofs.YtjgilpkkfpbefaaGreatDoor
open Go.ChangeShapes Go.WideShapes Go.ChangeAt Go.RowKit Go.Joins Go.Deep
open Go.ChangeMaps (open_string shut_string)

theorem Tryz.cellsLOut : Tryz.prog.cellsOf 62 = 4 := by kernel_rfl
theorem Tryz.cellsLRef : Tryz.prog.cellsOf 57 = 2 := by kernel_rfl
theorem Tryz.cellsLTx : Tryz.prog.cellsOf 30 = 4 := by kernel_rfl
theorem Tryz.cellsInts : Tryz.prog.cellsOf 58 = 1 := by kernel_rfl

def FineO (os : List Ou) : Prop := ∀ j, (Lit.int .i64 (os.getD j O0).v).wf = true ∧ (∀ k ∈ (os.getD j O0).l, (Lit.int .i64 k).wf = true) ∧ (Lit.int .i64 (os.getD j O0).x).wf = true ∧ (Lit.int .i64 (os.getD j O0).y).wf = true
def FineR (rs : List (Int × Int)) : Prop := ∀ j, (Lit.int .i64 (rs.getD j G0).1).wf = true ∧ (Lit.int .i64 (rs.getD j G0).2).wf = true

section
variable {H : Type} {enc : TypeId × Value → H} {W : World} {base : Nat} {spare : Nat → Bool} {held : Bool}

theorem open_out {fuel : Nat} {v0 v1 v2 v3 : Value} {x : DataW H × List MemPlace} (h : DataW.trod enc Tryz.prog W base spare held fuel 62 [v0, v1, v2, v3] = some x) :
    ∃ (o : Ou) (ka : Option Addr) (kn kc : Nat), v0 = .int .i64 o.v ∧ v1 = .slice ka kn kc ∧ v2 = .int .i64 o.x ∧ v3 = .int .i64 o.y ∧ kn ≤ maxLen ∧ IAt W ka kn o.l ∧ (Lit.int .i64 o.v).wf = true ∧ (∀ k ∈ o.l, (Lit.int .i64 k).wf = true) ∧ (Lit.int .i64 o.x).wf = true ∧ (Lit.int .i64 o.y).wf = true := by
  obtain ⟨xs, k, hk, hxy, _, hxl, hf⟩ := DataW.trod_struct Tryz.underlying62 h
  match xs, hxl with
  | [y0, y1], _ =>
    have g0 := hf 0 _ rfl
    have g1 := hf 1 _ rfl
    simp [Tryz.cellsI64, Tryz.cellsLRule] at g0 g1
    obtain ⟨p, e0, _, w0⟩ := DataW.trod_int Tryz.underlying2 g0
    obtain ⟨ys, k2, hk2, hxy2, _, hyl, hf2⟩ := DataW.trod_struct Tryz.underlying60 g1
    match ys, hyl with
    | [z0, z1, z2], _ =>
      have f0 := hf2 0 _ rfl
      have f1 := hf2 1 _ rfl
      have f2 := hf2 2 _ rfl
      simp [Tryz.cellsI64, Tryz.cellsInts] at f0 f1 f2
      obtain ⟨a, n, cap, l, rfl, hn, hI, hw⟩ := open_keys f0
      obtain ⟨q, e1, _, w1⟩ := DataW.trod_int Tryz.underlying2 f1
      obtain ⟨r, e2, _, w2⟩ := DataW.trod_int Tryz.underlying2 f2
      simp at e0 e1 e2
      exact ⟨⟨p, l, q, r⟩, a, n, cap, e0, rfl, e1, e2, hn, hI, w0, hw, w1, w2⟩

theorem fine_O0 : (Lit.int .i64 O0.v).wf = true ∧ (∀ k ∈ O0.l, (Lit.int .i64 k).wf = true) ∧ (Lit.int .i64 O0.x).wf = true ∧ (Lit.int .i64 O0.y).wf = true := ⟨wf_zero, fun k hk => (by cases hk), wf_zero, wf_zero⟩

theorem open_outs {fuel : Nat} {c : Value} {x : DataW H × List MemPlace} (h : DataW.trod enc Tryz.prog W base spare held fuel 28 [c] = some x) :
    ∃ a n cap os, c = .slice a n cap ∧ n ≤ maxLen ∧ OAt W a n os ∧ FineO os := by
  rcases open_slice Tryz.underlying28 h with ⟨hcs, _⟩ | ⟨a, len, cap, m, n, D, Pl, hcs, _, hl, hm, hmm, _, hx⟩
  · exact ⟨none, 0, 0, [], by simpa using hcs, by unfold maxLen; omega, ⟨rfl, .inl rfl⟩, fun j => by simpa using fine_O0⟩
  · have hlm : len ≤ m := by rw [hmm]; split <;> omega
    have each : ∀ i, i < len → ∃ o : Ou, (∃ (ka : Option Addr) (kn kc : Nat), W.cell? (a.add (i * 4)) = some (.int .i64 o.v) ∧ W.cell? (a.add (i * 4 + 1)) = some (.slice ka kn kc) ∧ W.cell? (a.add (i * 4 + 2)) = some (.int .i64 o.x) ∧ W.cell? (a.add (i * 4 + 3)) = some (.int .i64 o.y) ∧ kn ≤ maxLen ∧ IAt W ka kn o.l) ∧
        (Lit.int .i64 o.v).wf = true ∧ (∀ k ∈ o.l, (Lit.int .i64 k).wf = true) ∧ (Lit.int .i64 o.x).wf = true ∧ (Lit.int .i64 o.y).wf = true := by
      intro i hi
      obtain ⟨cs', h1, h2⟩ := hx i (by omega)
      rw [Tryz.cellsLOut] at h1
      obtain ⟨_, hlen, hcell⟩ := World.cells?_some h1
      match cs', hlen with
      | [v0, v1, v2, v3], _ =>
        obtain ⟨o, ka, kn, kc, rfl, rfl, rfl, rfl, hkn, hI, f0, f1, f2, f3⟩ := open_out h2
        have e0 := hcell 0 (by omega)
        have e1 := hcell 1 (by omega)
        have e2 := hcell 2 (by omega)
        have e3 := hcell 3 (by omega)
        rw [add_add] at e0 e1 e2 e3
        exact ⟨o, ⟨ka, kn, kc, by simpa using e0, by simpa using e1, by simpa using e2, by simpa using e3, hkn, hI⟩, f0, f1, f2, f3⟩
    haveI : Inhabited Ou := ⟨O0⟩
    obtain ⟨q, hq⟩ := choose_lt each
    have hget : ∀ j, j < len → (((List.range len).map q).getD j O0) = q j := by
      intro j hj
      simp [List.getD, hj]
    refine ⟨some a, len, cap, (List.range len).map q, by simpa using hcs, by omega, ⟨by simp, ?_⟩, fun j => ?_⟩
    · by_cases h0 : len = 0
      · exact .inl h0
      · obtain ⟨b, off, spot⟩ := a
        obtain ⟨⟨_, _, _, h1, _⟩, _⟩ := hq 0 (by omega)
        have hspot : spot = none := by simpa [Addr.add] using World.cell?_spot h1
        subst hspot
        refine .inr ⟨b, off, rfl, World.block_lt_of_cell? _ _ h1, fun j hj => ?_⟩
        obtain ⟨⟨ka, kn, kc, x0, x1, x2, x3, x4, x5⟩, _⟩ := hq j hj
        rw [add_none] at x0 x1 x2 x3
        rw [hget j hj]
        exact ⟨ka, kn, kc, x0, by rw [Nat.add_assoc]; exact x1, by rw [Nat.add_assoc]; exact x2, by rw [Nat.add_assoc]; exact x3, x4, x5⟩
    · by_cases hj : j < len
      · rw [hget j hj]
        exact (hq j hj).2
      · have : (((List.range len).map q).getD j O0) = O0 := by rw [List.getD, List.getElem?_eq_none (by simp; omega)]; rfl
        rw [this]
        exact fine_O0

theorem open_refs {fuel : Nat} {c : Value} {x : DataW H × List MemPlace} (h : DataW.trod enc Tryz.prog W base spare held fuel 27 [c] = some x) :
    ∃ a m cap gs, c = .slice a m cap ∧ m ≤ maxLen ∧ GAt W a m gs ∧ FineR gs := by
  rcases open_slice_pairs Tryz.underlying27 Tryz.underlying57 Tryz.cellsLRef rfl rfl Tryz.cellsI64 Tryz.cellsI64 h with ⟨hcs, _⟩ | ⟨a, len, cap, m, n, V0, V1, D0, D1, P0, P1, hcs, _, hl, hm, hmm, _, hx⟩
  · refine ⟨none, 0, 0, [], by simpa using hcs, by unfold maxLen; omega, ⟨rfl, .inl rfl⟩, fun j => ?_⟩
    simp [G0, wf_zero]
  · have hlm : len ≤ m := by rw [hmm]; split <;> omega
    have hint : ∀ i, i < m → V0 i = .int .i64 (intOf (V0 i)) ∧ V1 i = .int .i64 (intOf (V1 i)) ∧ (Lit.int .i64 (intOf (V0 i))).wf = true ∧ (Lit.int .i64 (intOf (V1 i))).wf = true := by
      intro i hi
      obtain ⟨_, _, h0, h1⟩ := hx i hi
      obtain ⟨p, e0, _, w0⟩ := DataW.trod_int Tryz.underlying2 h0
      obtain ⟨q, e1, _, w1⟩ := DataW.trod_int Tryz.underlying2 h1
      simp at e0 e1
      rw [e0, e1]
      exact ⟨rfl, rfl, w0, w1⟩
    have hget : ∀ j, j < len → (((List.range len).map fun i => (intOf (V0 i), intOf (V1 i))).getD j G0) = (intOf (V0 j), intOf (V1 j)) := by
      intro j hj
      simp [List.getD, hj]
    refine ⟨some a, len, cap, (List.range len).map fun i => (intOf (V0 i), intOf (V1 i)), by simpa using hcs, by omega, ⟨by simp, ?_⟩, fun j => ?_⟩
    · by_cases h0 : len = 0
      · exact .inl h0
      · obtain ⟨b, off, spot⟩ := a
        have h1 := (hx 0 (by omega)).1
        have hspot : spot = none := by simpa [Addr.add] using World.cell?_spot h1
        subst hspot
        refine .inr ⟨b, off, rfl, World.block_lt_of_cell? _ _ h1, fun j hj => ?_⟩
        obtain ⟨x0, x1, _, _⟩ := hx j (by omega)
        obtain ⟨i0, i1, _, _⟩ := hint j (by omega)
        rw [hget j hj]
        rw [add_none] at x0 x1
        rw [i0] at x0
        rw [i1] at x1
        exact ⟨x0, x1⟩
    · by_cases hj : j < len
      · rw [hget j hj]
        obtain ⟨_, _, w0, w1⟩ := hint j (by omega)
        exact ⟨w0, w1⟩
      · have : (((List.range len).map fun i => (intOf (V0 i), intOf (V1 i))).getD j G0) = G0 := by rw [List.getD, List.getElem?_eq_none (by simp; omega)]; rfl
        rw [this]
        exact ⟨wf_zero, wf_zero⟩
end

set_option maxRecDepth 100000 in
/-- All that a law is told of a transaction that came in. -/
theorem open_tx {H : Type} {enc : TypeId × Value → H} {W : World} {base b0 : Nat} {spare : Nat → Bool} {held : Bool} {r : Reach} {v : Value} {d : DataW H} {p : List MemPlace} (hv : Value.okWide Tryz.prog W r b0 30 v) (h : DataW.Trod enc Tryz.prog W base spare held 30 v d p) :
    ∃ k f ia n c oa m d rs os, v = .agg #[.int .i64 k, .int .i64 f, .slice ia n c, .slice oa m d] ∧ n ≤ maxLen ∧ m ≤ maxLen ∧ (Lit.int .i64 k).wf = true ∧ (Lit.int .i64 f).wf = true ∧ FineR rs ∧ FineO os ∧ TxAt W ia n oa m rs os := by
  obtain ⟨c0, c1, c2, c3, y0, y1, y2, y3, k, rfl, _, _, hy0, hy1, hy2, hy3⟩ := open_agg4 Tryz.underlying30 (by kernel_rfl) Tryz.cellsLTx hv h
  obtain ⟨q, e1, _, w1⟩ := DataW.trod_int Tryz.underlying2 hy0
  obtain ⟨f, e2, _, w2⟩ := DataW.trod_int Tryz.underlying2 hy1
  simp at e1 e2
  subst e1 e2
  obtain ⟨ia, n, c, rs, rfl, hn, hr, hfr⟩ := open_refs hy2
  obtain ⟨oa, m, d, os, rfl, hm, ho, hfo⟩ := open_outs hy3
  exact ⟨q, f, ia, n, c, oa, m, d, rs, os, rfl, hn, hm, w1, w2, hfr, hfo, ⟨hr, ho⟩⟩

end Go.Proofs.YtjgilpkkfpbefaaGreatDoor

namespace Go.Proofs.YtjgilpkkfpbefaaGreatDoor
open Go.RowKit Go.Maps Go.WideMaps

/-- A transaction in a block of its own, all old memory below as it was. -/
structure TBx (w v : World) (k f : Int) (ia : Option Addr) (n c : Nat) (oa : Option Addr) (m d : Nat) (t : TypeId) : Prop where
  box : v.heap[w.heap.size]? = some (.cells #[.int .i64 k, .int .i64 f, .slice ia n c, .slice oa m d] t (0, 0))
  bel : Below w.heap.size w v
section
variable {w v v' : World} {k f : Int} {ia oa : Option Addr} {n c m d : Nat} {t : TypeId} {rs : List (Int × Int)} {os : List Ou}
theorem TBx.start : TBx w (w.alloc (.cells #[.int .i64 k, .int .i64 f, .slice ia n c, .slice oa m d] t)) k f ia n c oa m d t := ⟨heap_alloc_new _ _, below_box _⟩
theorem TBx.step (h : TBx w v k f ia n c oa m d t) (hb : Below v.heap.size v v') : TBx w v' k f ia n c oa m d t := ⟨(keepb h.box hb).out, h.bel.trans (hb.mono h.bel.size)⟩
theorem TBx.at (h : TBx w v k f ia n c oa m d t) (hI : TxAt w ia n oa m rs os) : TxAt v ia n oa m rs os := hI.below h.bel (Nat.le_refl _)
theorem TBx.lt (h : TBx w v k f ia n c oa m d t) : w.heap.size < v.heap.size := lt_of_block h.box
end
end Go.Proofs.YtjgilpkkfpbefaaGreatDoor

namespace Go.Proofs.YtjgilpkkfpbefaaGreatDoor
open Go.RowKit Go.Maps Go.WideMaps

theorem isKind_any (v : Int) (w : World) : Calls Tryz.prog 113 #[.int .i64 v] w fun e w' => e = .returned (.bool (inB v 0 2)) ∧ w' = w := by
  go_enter Tryz.func113, Tryz.ntmps113
  go_wp2_with (go_at_call 84; refine (isWithin_any _ _ _ _).mono ?_; rintro e w' ⟨rfl, rfl⟩)
  go_ret
  exact ⟨rfl, rfl⟩

theorem isValue_any (v : Int) (w : World) : Calls Tryz.prog 108 #[.int .i64 v] w fun e w' => e = .returned (.bool (inB v 1 1000000)) ∧ w' = w := by
  go_enter Tryz.func108, Tryz.ntmps108
  go_wp2_with (go_at_call 84; refine (isWithin_any _ _ _ _).mono ?_; rintro e w' ⟨rfl, rfl⟩)
  go_ret
  exact ⟨rfl, rfl⟩

theorem arePieces_any (n : Nat) (w : World) : Calls Tryz.prog 90 #[.int .i64 n] w fun e w' => e = .returned (.bool (inB n 1 4)) ∧ w' = w := by
  go_enter Tryz.func90, Tryz.ntmps90
  go_wp2_with (go_at_call 84; refine (isWithin_any _ _ _ _).mono ?_; rintro e w' ⟨rfl, rfl⟩)
  go_ret
  exact ⟨rfl, rfl⟩

def memK (k : Int) : Bool := decide (k = 1 ∨ k = 2)
theorem hasMember_any (k : Int) (w : World) : Calls Tryz.prog 114 #[.int .i64 k] w fun e w' => e = .returned (.bool (memK k)) ∧ w' = w := by
  by_cases h1 : k = 1
  · subst h1
    go_enter Tryz.func114, Tryz.ntmps114
    go_wp2
    go_ret
    exact ⟨rfl, rfl⟩
  · have b1 : (k == 1) = false := by simpa using h1
    by_cases h2 : k = 2
    · subst h2
      go_enter Tryz.func114, Tryz.ntmps114
      go_wp2
      go_ret
      exact ⟨rfl, rfl⟩
    · have b2 : (k == 2) = false := by simpa using h2
      have e : memK k = false := by simp [memK, h1, h2]
      rw [e]
      go_enter Tryz.func114, Tryz.ntmps114
      go_wp2
      go_ret
      exact ⟨rfl, rfl⟩

theorem isTxId_any (v : Int) (w : World) : Calls Tryz.prog 125 #[.int .i64 v] w fun e w' => e = .returned (.bool (inB v 1 60)) ∧ w' = w := by
  go_enter Tryz.func125, Tryz.ntmps125
  go_wp2_with (go_at_call 84; refine (isWithin_any _ _ _ _).mono ?_; rintro e w' ⟨rfl, rfl⟩)
  go_ret
  exact ⟨rfl, rfl⟩

theorem isRef_any (a b : Int) (w : World) : Calls Tryz.prog 107 #[.agg #[.int .i64 a, .int .i64 b]] w fun e w' => e = .returned (.bool (refB (a, b))) ∧ Below w.heap.size w w' := by
  obtain ⟨ka, hka⟩ : ∃ k, k = inB a 1 60 := ⟨_, rfl⟩
  obtain ⟨kb, hkb⟩ : ∃ k, k = inB b 0 3 := ⟨_, rfl⟩
  have hr : refB (a, b) = (ka && kb) := by rw [hka, hkb]; rfl
  have h1 : ∀ v, Calls Tryz.prog 125 #[.int .i64 a] v fun e w' => e = .returned (.bool ka) ∧ w' = v := fun v => by rw [hka]; exact isTxId_any _ v
  have h2 : ∀ v, Calls Tryz.prog 84 #[.int .i64 b, .int .i64 0, .int .i64 3] v fun e w' => e = .returned (.bool kb) ∧ w' = v := fun v => by rw [hkb]; exact isWithin_any _ _ _ v
  rw [hr]
  clear hka hkb hr
  have hbx : Below w.heap.size w (w.alloc (.cells #[.int .i64 a, .int .i64 b] 81)) := below_box _
  cases ka <;> cases kb
  all_goals
    go_enter Tryz.func107, Tryz.ntmps107
    go_wp2_with (first | (go_at_call 125; refine (h1 _).mono ?_; rintro e w' ⟨rfl, hw⟩; have hw2 := hw.symm; subst hw2) | (go_at_call 84; refine (h2 _).mono ?_; rintro e w' ⟨rfl, hw⟩; have hw2 := hw.symm; subst hw2))
    go_ret
    exact ⟨rfl, hbx⟩

set_option maxHeartbeats 400000 in
theorem rIndex_any (a : Option Addr) (n cap : Nat) (gs : List (Int × Int)) (p q : Int) (w : World) (hl : n ≤ maxLen) (hs : GAt w a n gs) :
    Calls Tryz.prog 130 #[.slice a n cap, .agg #[.int .i64 p, .int .i64 q]] w fun e w' => ∃ i : Int, e = .returned (.int .i64 i) ∧ Hid (memB gs (p, q) = decide (0 ≤ i)) ∧ Below w.heap.size w w' := by
  unfold maxLen at hl
  obtain ⟨hn, hs⟩ := hs
  rcases hs with rfl | ⟨b, off, rfl, hb, hc⟩
  · obtain rfl : gs = [] := List.length_eq_zero_iff.1 hn
    go_enter Tryz.func130, Tryz.ntmps130
    go_wp2
    refine wp_loop_rounds 1 ?_
    rw [rounds_succ]
    go_wp2
    go_ret
    exact ⟨-1, rfl, rfl, (Below.refl _ _).alloc (Nat.le_refl _) _⟩
  · have HN : Hid (gs.length = n) := hn
    clear hn
    go_enter Tryz.func130, Tryz.ntmps130
    go_wp2
    go_loopw [8] (fun i wr => ∃ k : Nat, k ≤ n ∧ i = .int .i64 k ∧ Hid ((p, q) ∉ gs.take k) ∧ wr.cell? ⟨w.heap.size, 0, none⟩ = some (.int .i64 p) ∧ wr.cell? ⟨w.heap.size, 1, none⟩ = some (.int .i64 q) ∧ Below w.heap.size w wr) (fun i _ => n - (intOf i).toNat)
    case atStart => exact ⟨0, Nat.zero_le _, rfl, by show (p, q) ∉ _; simp, by simp, by simp, (Below.refl _ _).alloc (Nat.le_refl _) _⟩
    case round =>
      obtain ⟨k, hk, rfl, hj, hp, hq, hbel⟩ := hrel
      by_cases hlt : k < n
      · obtain ⟨g, hg⟩ : ∃ g, g = gs.getD k G0 := ⟨_, rfl⟩
        have hcx := hc k hlt
        rw [← hg] at hcx
        obtain ⟨g1, g2⟩ := g
        have c0 := (hbel.cell (p := ⟨b, off + k * 2, none⟩) hb).trans hcx.1
        have c1 := (hbel.cell (p := ⟨b, off + k * 2 + 1, none⟩) hb).trans hcx.2
        have HG : Hid ((g1, g2) = gs.getD k G0) := hg
        clear hg hc hcx
        have hki : (k : Int) < (n : Int) := by omega
        by_cases h1 : p = g1
        · have e1 : (p == g1) = true := by simp [h1]
          have H1 : Hid (p = g1) := h1
          clear h1
          by_cases h2 : q = g2
          · have e2 : (q == g2) = true := by simp [h2]
            have H2 : Hid (q = g2) := h2
            clear h2
            go_wp2
            go_quiet (fail)
            go_wp2
            go_ret
            refine ⟨_, rfl, ?_, hbel.trans (Joins.below_draws _ _ _)⟩
            have hm : memB gs (p, q) = true := by
              unfold memB
              rw [num_hit gs (p, q) G0 k (by rw [HN.out]; exact hlt) (by rw [← HG.out, H1.out, H2.out]) hj.out]
              simp
            show _ = _
            rw [hm]; simp
          · have e2 : (q == g2) = false := by simp [h2]
            have H2 : Hid (¬ (g1, g2) = (p, q)) := fun e => h2 (by simpa using (congrArg Prod.snd e).symm)
            clear h2
            go_wp2
            go_quiet (fail)
            go_wp2
            go_roundw
            case rel => exact ⟨k + 1, by omega, by go_num, signed_more HN.out hlt hj.out HG.out H2.out, by simpa using hp, by simpa using hq, hbel.trans (Joins.below_draws _ _ _)⟩
            case measure => simp [intOf]; omega
        · have e1 : (p == g1) = false := by simp [h1]
          have H2 : Hid (¬ (g1, g2) = (p, q)) := fun e => h1 (by simpa using (congrArg Prod.fst e).symm)
          clear h1
          go_wp2
          go_quiet (fail)
          go_wp2
          go_roundw
          case rel => exact ⟨k + 1, by omega, by go_num, signed_more HN.out hlt hj.out HG.out H2.out, by simpa using hp, by simpa using hq, hbel.trans (Joins.below_draws _ _ _)⟩
          case measure => simp [intOf]; omega
      · go_wp2
        go_ret
        refine ⟨_, rfl, ?_, hbel⟩
        have hm : memB gs (p, q) = false := by
          unfold memB
          rw [(num_zero gs (p, q)).2 (by have := hj.out; rwa [List.take_of_length_le (by rw [HN.out]; omega)] at this)]
          rfl
        show _ = _
        rw [hm]; rfl

theorem rContains_any (a : Option Addr) (n cap : Nat) (gs : List (Int × Int)) (p q : Int) (w : World) (hl : n ≤ maxLen) (hs : GAt w a n gs) :
    Calls Tryz.prog 115 #[.slice a n cap, .agg #[.int .i64 p, .int .i64 q]] w fun e w' => e = .returned (.bool (memB gs (p, q))) ∧ Below w.heap.size w w' := by
  have hbx : Below w.heap.size w (w.alloc (.cells #[.int .i64 p, .int .i64 q] 81)) := below_box _
  have hI := rIndex_any a n cap gs p q (w.alloc (.cells #[.int .i64 p, .int .i64 q] 81)) hl (hs.below hbx (Nat.le_refl _))
  clear hs
  go_enter Tryz.func115, Tryz.ntmps115
  go_wp2_with (go_at_call 130; refine hI.mono ?_; rintro e w2 ⟨i, rfl, HM, hb2⟩)
  go_ret
  refine ⟨?_, hbx.trans (hb2.mono (by simp))⟩
  rw [HM.out]; rfl

end Go.Proofs.YtjgilpkkfpbefaaGreatDoor

namespace Go.Proofs.YtjgilpkkfpbefaaGreatDoor
open Go.RowKit Go.Maps Go.WideMaps

set_option maxRecDepth 20000 in
set_option maxHeartbeats 1000000 in
theorem refsFault_any (n c : Nat) (ia : Option Addr) (rs : List (Int × Int)) (w : World) (hc1 : n ≤ c) (hc2 : c ≤ maxLen) (h : GAt w ia n rs) :
    Calls Tryz.prog 91 #[.slice ia n c] w fun e w' => e = .returned (.int .i64 (refsR [] rs)) ∧ Below w.heap.size w w' := by
  unfold maxLen at hc2
  have HR : Hid (GAt w ia n rs) := h
  have HN : Hid (rs.length = n) := h.1
  obtain ⟨r, hr⟩ : ∃ r, r = refsR [] rs := ⟨_, rfl⟩
  rw [← hr]
  have HV : Hid (r = refsR [] rs) := hr
  clear h hr
  go_enter Tryz.func91, Tryz.ntmps91
  go_wp2
  go_loopw [7] (fun i wr => ∃ j : Nat, j ≤ n ∧ i = .int .i64 j ∧ Below w.heap.size w wr ∧ Hid (refsR [] rs = refsR (rs.take j) (rs.drop j))) (fun i _ => n - (intOf i).toNat)
  case atStart => exact ⟨0, Nat.zero_le _, rfl, Below.refl _ _, by show _ = _; simp⟩
  case round =>
    obtain ⟨j, hj, rfl, hbel, HT⟩ := hrel
    by_cases hlt : j < n
    · rcases HR.out.2 with h0 | ⟨b, off, ha, hb, hc⟩
      · omega
      subst ha
      obtain ⟨g, hg⟩ : ∃ g, g = rs.getD j G0 := ⟨_, rfl⟩
      have hcx := hc j hlt
      rw [← hg] at hcx
      obtain ⟨g1, g2⟩ := g
      have c0 := (hbel.cell (p := ⟨b, off + j * 2, none⟩) hb).trans hcx.1
      have c1 := (hbel.cell (p := ⟨b, off + j * 2 + 1, none⟩) hb).trans hcx.2
      have HG : Hid ((g1, g2) = rs.getD j G0) := hg
      have hki : (j : Int) < (n : Int) := by omega
      have hkc : (j : Int) ≤ (c : Int) := by omega
      have hkm : j ≤ maxLen := by unfold maxLen; omega
      obtain ⟨kr, hkr⟩ : ∃ b, b = refB (g1, g2) := ⟨_, rfl⟩
      have hrf := isRef_any g1 g2 (wr.alloc (.cells #[.int .i64 g1, .int .i64 g2] 81))
      rw [← hkr] at hrf
      have HKR : Hid (kr = refB (g1, g2)) := hkr
      have HBX : Hid (Below wr.heap.size wr (wr.alloc (.cells #[.int .i64 g1, .int .i64 g2] 81))) := below_box _
      have HX : Hid ((wr.alloc (.cells #[.int .i64 g1, .int .i64 g2] 81)).heap[wr.heap.size]? = some (.cells #[.int .i64 g1, .int .i64 g2] 81 (0, 0))) := heap_alloc_new _ _
      clear hg hc hcx hkr
      cases kr
      · obtain rfl : r = 3 := by rw [HV.out]; exact refs_bad HN.out hlt HG.out HT.out HKR.out.symm
        go_wp2_with (first | (go_at_call 107; refine hrf.mono ?_; rintro e w2 ⟨rfl, hb2⟩))
        go_ret
        exact ⟨rfl, (hbel.trans (HBX.out.mono hbel.size)).trans (hb2.mono (by have := hbel.size; simp; omega))⟩
      · obtain ⟨mb, hmb⟩ : ∃ b, b = memB (rs.take j) (g1, g2) := ⟨_, rfl⟩
        have HMB : Hid (memB (rs.take j) (g1, g2) = mb) := hmb.symm
        clear hmb
        go_wp2_with (first | (go_at_call 107; refine hrf.mono ?_; rintro e w2 ⟨rfl, hb2⟩; have hbw : Below w.heap.size w w2 := (hbel.trans (HBX.out.mono hbel.size)).trans (hb2.mono (by have := hbel.size; simp; omega)); obtain ⟨x0, x1⟩ := cells2 (keepb HX.out hb2).out; have hlx := lt_of_block (keepb HX.out hb2).out; clear hb2))
        have ham : Calls Tryz.prog 115 #[.slice (some ⟨b, off, none⟩) j c, .agg #[.int .i64 g1, .int .i64 g2]] w2.drew fun e w' => e = .returned (.bool mb) ∧ Below w2.heap.size w2 w' := by
          have := rContains_any (some ⟨b, off, none⟩) j c (rs.take j) g1 g2 w2.drew hkm (((HR.out.below hbw (Nat.le_refl _)).take hj).below (Below.refl _ _).drew (Nat.le_refl _))
          rw [HMB.out] at this
          exact this.mono fun e w' h => ⟨h.1, (Below.refl _ _).drew.trans h.2⟩
        go_region_held3 (fun w' => w'.cell? ⟨wr.heap.size, 0, none⟩ = some (.int .i64 g1) ∧ w'.cell? ⟨wr.heap.size, 1, none⟩ = some (.int .i64 g2)) (go_keep)
          (first | (go_at_call 115; refine ham.mono ?_; rintro e w3 ⟨rfl, hb3⟩; have q1 := (hb3.cell (p := ⟨wr.heap.size, 0, none⟩) hlx).trans x0; have q2 := (hb3.cell (p := ⟨wr.heap.size, 1, none⟩) hlx).trans x1))
        cases mb
        · go_wp2
          go_roundw
          case rel => exact ⟨j + 1, by omega, by go_num, hbw.trans (hb3.mono hbw.size), refs_go HN.out hlt HG.out HT.out HKR.out.symm HMB.out⟩
          case measure => simp [intOf]; omega
        · obtain rfl : r = 7 := by rw [HV.out]; exact refs_taken HN.out hlt HG.out HT.out HKR.out.symm HMB.out
          go_wp2
          go_ret
          exact ⟨rfl, hbw.trans (hb3.mono hbw.size)⟩
    · obtain rfl : r = 0 := by rw [HV.out]; exact refs_done HN.out hlt HT.out
      go_wp2
      go_ret
      exact ⟨rfl, hbel⟩

set_option maxHeartbeats 1000000 in
theorem outsFault_any (m d : Nat) (oa : Option Addr) (os : List Ou) (w : World) (hm : m ≤ 1048576) (hk : ∀ j, j < m → (os.getD j O0).l.length ≤ 1048576) (hO : OAt w oa m os) :
    Calls Tryz.prog 92 #[.slice oa m d] w fun e w' => e = .returned (.int .i64 (outsR os)) ∧ Below w.heap.size w w' := by
  have HO : Hid (OAt w oa m os) := hO
  have HN : Hid (os.length = m) := hO.1
  have HKL : Hid (∀ j, j < m → (os.getD j O0).l.length ≤ 1048576) := hk
  obtain ⟨r, hr⟩ : ∃ r, r = outsR os := ⟨_, rfl⟩
  rw [← hr]
  have HR : Hid (r = outsR os) := hr
  clear hO hk hr
  go_enter Tryz.func92, Tryz.ntmps92
  go_wp2
  go_loopw [8] (fun i wr => ∃ j : Nat, j ≤ m ∧ i = .int .i64 j ∧ Below w.heap.size w wr ∧ Hid (outsR os = outsR (os.drop j))) (fun i _ => m - (intOf i).toNat)
  case atStart => exact ⟨0, Nat.zero_le _, rfl, Below.refl _ _, by show _ = _; simp⟩
  case round =>
    obtain ⟨j, hj, rfl, hbel, HT⟩ := hrel
    by_cases hlt : j < m
    · rcases HO.out.2 with h0 | ⟨b, off, e0, l0, d0⟩
      · omega
      subst e0
      obtain ⟨o, ho⟩ : ∃ o, o = os.getD j O0 := ⟨_, rfl⟩
      obtain ⟨ka, kn, kc, p0, p1, p2, p3, p4, p5⟩ := d0 j hlt
      have hol := HKL.out j hlt
      rw [← ho] at p0 p2 p3 p5 hol
      have HS : Hid (o = os.getD j O0) := ho
      obtain ⟨ov, ol, ox, oy⟩ := o
      obtain rfl := p5.1
      have x0 := (hbel.cell (p := ⟨b, off + j * 4, none⟩) l0).trans p0
      have x1 := (hbel.cell (p := ⟨b, off + j * 4 + 1, none⟩) l0).trans p1
      have x2 := (hbel.cell (p := ⟨b, off + j * 4 + 2, none⟩) l0).trans p2
      have x3 := (hbel.cell (p := ⟨b, off + j * 4 + 3, none⟩) l0).trans p3
      simp only at x0 x2 x3
      obtain ⟨cd, hcd⟩ : ∃ c, c = ruleR ol ox oy := ⟨_, rfl⟩
      have hbx : Below wr.heap.size wr (wr.alloc (.cells #[.int .i64 ov, .slice ka ol.length kc, .int .i64 ox, .int .i64 oy] 84)) := below_box _
      have hlf := iRuleFault_any ol.length kc ka ol ox oy (wr.alloc (.cells #[.int .i64 ov, .slice ka ol.length kc, .int .i64 ox, .int .i64 oy] 84)) hol ((p5.below hbel (Nat.le_refl _)).below hbx (Nat.le_refl _))
      rw [← hcd] at hlf
      have HBX : Hid (Below wr.heap.size wr (wr.alloc (.cells #[.int .i64 ov, .slice ka ol.length kc, .int .i64 ox, .int .i64 oy] 84))) := hbx
      have HCD : Hid (cd = ruleR ol ox oy) := hcd
      obtain ⟨kv, hkv⟩ : ∃ k, k = inB ov 1 1000000 := ⟨_, rfl⟩
      have hin : ∀ v, Calls Tryz.prog 108 #[.int .i64 ov] v fun e w' => e = .returned (.bool kv) ∧ w' = v := fun v => by rw [hkv]; exact isValue_any _ v
      have HKV : Hid (kv = inB ov 1 1000000) := hkv
      have HNX : Hid (os.drop j = (⟨ov, ol, ox, oy⟩ : Ou) :: os.drop (j + 1)) := drop_next HN.out hlt HS.out
      clear ho d0 p0 p1 p2 p3 p4 p5 hol hcd hkv hbx
      have hki : (j : Int) < (m : Int) := by omega
      cases kv
      · obtain rfl : r = 3 := by rw [HR.out, HT.out, HNX.out, outsR, if_pos HKV.out.symm]
        go_wp2_with (go_at_call 108; refine (hin _).mono ?_; rintro e w' ⟨rfl, hw⟩; have hw2 := hw.symm; subst hw2)
        go_ret
        exact ⟨rfl, hbel.trans (HBX.out.mono hbel.size)⟩
      · by_cases hc0 : cd = 0
        · have HTN : Hid (outsR os = outsR (os.drop (j + 1))) := by
            show _ = _
            rw [HT.out, HNX.out, outsR, if_neg (by rw [← HKV.out]; simp), if_neg (by rw [← HCD.out, hc0]; simp)]
          go_wp2_with (first | (go_at_call 108; refine (hin _).mono ?_; rintro e w' ⟨rfl, hw⟩; have hw2 := hw.symm; subst hw2) | (go_at_call 109; refine hlf.mono ?_; rintro e w3 ⟨rfl, hb3⟩))
          go_roundw
          case rel => exact ⟨j + 1, by omega, by go_num, (hbel.trans (HBX.out.mono hbel.size)).trans (hb3.mono (by have := hbel.size; simp; omega)), HTN⟩
          case measure => simp [intOf]; omega
        · have e1 : outsR os = cd := by rw [HT.out, HNX.out, outsR, if_neg (by rw [← HKV.out]; simp), if_pos (by rw [← HCD.out]; exact hc0), ← HCD.out]
          obtain rfl : r = cd := by rw [HR.out, e1]
          clear e1
          go_wp2_with (first | (go_at_call 108; refine (hin _).mono ?_; rintro e w' ⟨rfl, hw⟩; have hw2 := hw.symm; subst hw2) | (go_at_call 109; refine hlf.mono ?_; rintro e w3 ⟨rfl, hb3⟩))
          go_ret
          exact ⟨rfl, (hbel.trans (HBX.out.mono hbel.size)).trans (hb3.mono (by have := hbel.size; simp; omega))⟩
    · obtain rfl : r = 0 := by rw [HR.out, HT.out]; exact drop_none HN.out hlt
      go_wp2
      go_ret
      exact ⟨rfl, hbel⟩

def kindR (k f : Int) : Int := if inB k 0 2 = false ∨ ¬ (k = 0 ↔ f = 0) then 1 else if k ≠ 0 ∧ inB f 1 999 = false then 3 else 0

set_option maxRecDepth 20000 in
set_option maxHeartbeats 1000000 in
theorem kindFault_any (k f : Int) (v2 v3 : Value) (w : World) :
    Calls Tryz.prog 89 #[.agg #[.int .i64 k, .int .i64 f, v2, v3]] w fun e w' => e = .returned (.int .i64 (kindR k f)) ∧ Below w.heap.size w w' := by
  have hbx : Below w.heap.size w (w.alloc (.cells #[.int .i64 k, .int .i64 f, v2, v3] 46)) := below_box _
  obtain ⟨kb, hkb⟩ : ∃ b, b = inB k 0 2 := ⟨_, rfl⟩
  obtain ⟨mk, hmk⟩ : ∃ b, b = memK k := ⟨_, rfl⟩
  obtain ⟨fk, hfk⟩ : ∃ b, b = inB f 1 999 := ⟨_, rfl⟩
  have hK : ∀ v, Calls Tryz.prog 113 #[.int .i64 k] v fun e w' => e = .returned (.bool kb) ∧ w' = v := fun v => by rw [hkb]; exact isKind_any _ v
  have hM : ∀ v, Calls Tryz.prog 114 #[.int .i64 k] v fun e w' => e = .returned (.bool mk) ∧ w' = v := fun v => by rw [hmk]; exact hasMember_any _ v
  have hF : ∀ v, Calls Tryz.prog 83 #[.int .i64 f] v fun e w' => e = .returned (.bool fk) ∧ w' = v := fun v => by rw [hfk]; exact isKey_any _ v
  have HKB : Hid (kb = inB k 0 2) := hkb
  have HMK : Hid (mk = memK k) := hmk
  have HFK : Hid (fk = inB f 1 999) := hfk
  obtain ⟨r, hr⟩ : ∃ r, r = kindR k f := ⟨_, rfl⟩
  rw [← hr]
  have HR : Hid (r = kindR k f) := hr
  clear hkb hmk hfk hr
  have HBX : Hid (Below w.heap.size w (w.alloc (.cells #[.int .i64 k, .int .i64 f, v2, v3] 46))) := hbx
  clear hbx
  have hmem : kb = true → (mk = false ↔ k = 0) := by
    intro h
    have h1 := inB_true.1 (HKB.out.symm.trans h)
    rw [HMK.out]
    unfold memK
    rw [decide_eq_false_iff_not]
    omega
  cases kb
  · obtain rfl : r = 1 := by rw [HR.out]; unfold kindR; rw [if_pos (.inl HKB.out.symm)]
    clear hmem
    go_enter Tryz.func89, Tryz.ntmps89
    go_wp2
    go_quiet (first | (go_at_call 113; refine Calls.quiet_of_same (hK _)))
    go_wp2
    go_ret
    exact ⟨rfl, HBX.out.trans (Joins.below_draws _ _ _)⟩
  have hmem := hmem rfl
  have HB : Hid (¬ inB k 0 2 = false) := by show ¬ _; rw [← HKB.out]; simp
  by_cases hf0 : f = 0
  · subst hf0
    cases mk
    · have hk0 : k = 0 := hmem.1 rfl
      obtain rfl : r = 0 := by rw [HR.out]; unfold kindR; rw [if_neg (fun h => h.elim HB.out (fun h => h (by simp [hk0]))), if_neg (fun h => h.1 hk0)]
      subst hk0
      clear hmem
      go_enter Tryz.func89, Tryz.ntmps89
      go_wp2
      go_quiet (first | (go_at_call 113; refine Calls.quiet_of_same (hK _)) | (go_at_call 114; refine Calls.quiet_of_same (hM _)))
      go_wp2_with (go_at_call 114; refine (hM _).mono ?_; rintro e w' ⟨rfl, hw⟩; have hw2 := hw.symm; subst hw2)
      go_ret
      exact ⟨rfl, HBX.out.trans (Joins.below_draws _ _ _)⟩
    · have hk0 : ¬ k = 0 := fun e => by have := hmem.2 e; cases this
      obtain rfl : r = 1 := by rw [HR.out]; unfold kindR; rw [if_pos (.inr (fun h => hk0 (h.2 rfl)))]
      clear hmem hk0
      go_enter Tryz.func89, Tryz.ntmps89
      go_wp2
      go_quiet (first | (go_at_call 113; refine Calls.quiet_of_same (hK _)) | (go_at_call 114; refine Calls.quiet_of_same (hM _)))
      go_wp2
      go_ret
      exact ⟨rfl, HBX.out.trans (Joins.below_draws _ _ _)⟩
  · have hfb : (f != 0) = true := by simpa using hf0
    have hfe : (f == 0) = false := by simpa using hf0
    cases mk
    · have hk0 : k = 0 := hmem.1 rfl
      obtain rfl : r = 1 := by rw [HR.out]; unfold kindR; rw [if_pos (.inr (fun h => hf0 (h.1 hk0)))]
      subst hk0
      clear hmem
      go_enter Tryz.func89, Tryz.ntmps89
      go_wp2
      go_quiet (first | (go_at_call 113; refine Calls.quiet_of_same (hK _)) | (go_at_call 114; refine Calls.quiet_of_same (hM _)))
      go_wp2
      go_ret
      exact ⟨rfl, HBX.out.trans (Joins.below_draws _ _ _)⟩
    · have hk0 : ¬ k = 0 := fun e => by have := hmem.2 e; cases this
      have hrr : r = if fk = false then 3 else 0 := by rw [HR.out, HFK.out]; unfold kindR; rw [if_neg (fun h => h.elim HB.out (fun h => h ⟨fun e => absurd e hk0, fun e => absurd e hf0⟩))]; simp [hk0]
      clear hmem hk0
      cases fk
      · obtain rfl : r = 3 := by rw [hrr]; rfl
        clear hrr
        go_enter Tryz.func89, Tryz.ntmps89
        go_wp2
        go_quiet (first | (go_at_call 113; refine Calls.quiet_of_same (hK _)) | (go_at_call 114; refine Calls.quiet_of_same (hM _)))
        go_wp2_with (first | (go_at_call 114; refine (hM _).mono ?_; rintro e w' ⟨rfl, hw⟩; have hw2 := hw.symm; subst hw2) | (go_at_call 83; refine (hF _).mono ?_; rintro e w' ⟨rfl, hw⟩; have hw2 := hw.symm; subst hw2))
        go_ret
        exact ⟨rfl, HBX.out.trans (Joins.below_draws _ _ _)⟩
      · obtain rfl : r = 0 := by rw [hrr]; rfl
        clear hrr
        go_enter Tryz.func89, Tryz.ntmps89
        go_wp2
        go_quiet (first | (go_at_call 113; refine Calls.quiet_of_same (hK _)) | (go_at_call 114; refine Calls.quiet_of_same (hM _)))
        go_wp2_with (first | (go_at_call 114; refine (hM _).mono ?_; rintro e w' ⟨rfl, hw⟩; have hw2 := hw.symm; subst hw2) | (go_at_call 83; refine (hF _).mono ?_; rintro e w' ⟨rfl, hw⟩; have hw2 := hw.symm; subst hw2))
        go_ret
        exact ⟨rfl, HBX.out.trans (Joins.below_draws _ _ _)⟩

end Go.Proofs.YtjgilpkkfpbefaaGreatDoor

namespace Go.Proofs.YtjgilpkkfpbefaaGreatDoor
open Go.RowKit Go.Maps Go.WideMaps

theorem txR_eq (k f : Int) (rs : List (Int × Int)) (os : List Ou) : txR k f rs os = if kindR k f ≠ 0 then kindR k f else if inB rs.length 1 4 = false ∨ inB os.length 1 4 = false then 2 else if refsR [] rs ≠ 0 then refsR [] rs else if outsR os ≠ 0 then outsR os else if k = 1 ∧ (os.getD 0 O0).v < 100 then 8 else 0 := by
  unfold txR kindR joinR
  by_cases h1 : inB k 0 2 = false ∨ ¬ (k = 0 ↔ f = 0)
  · rw [if_pos h1, if_pos h1]; rfl
  · rw [if_neg h1, if_neg h1]
    by_cases h2 : k ≠ 0 ∧ inB f 1 999 = false
    · rw [if_pos h2, if_pos h2]; rfl
    · rw [if_neg h2, if_neg h2, if_neg (show ¬ (0 : Int) ≠ 0 by simp)]

set_option maxRecDepth 20000 in
set_option maxHeartbeats 2000000 in
theorem iTxFault_any (n c m d : Nat) (ia oa : Option Addr) (k f : Int) (rs : List (Int × Int)) (os : List Ou) (w : World) (_hn : n ≤ 1048576) (hm : m ≤ 1048576) (hc1 : n ≤ c) (hc2 : c ≤ maxLen) (hk : ∀ j, j < m → (os.getD j O0).l.length ≤ 1048576) (h : TxAt w ia n oa m rs os) :
    Calls Tryz.prog 65 #[.agg #[.int .i64 k, .int .i64 f, .slice ia n c, .slice oa m d]] w fun e w' => e = .returned (.int .i64 (txR k f rs os)) ∧ Below w.heap.size w w' := by
  have B0 : TBx w (w.alloc (.cells #[.int .i64 k, .int .i64 f, .slice ia n c, .slice oa m d] 46)) k f ia n c oa m d 46 := TBx.start
  have HT : Hid (TxAt w ia n oa m rs os) := h
  have HN : Hid (rs.length = n) := h.r.1
  have HM : Hid (os.length = m) := h.o.1
  have HK : Hid (∀ j, j < m → (os.getD j O0).l.length ≤ 1048576) := hk
  have HB0 : Hid (TBx w (w.alloc (.cells #[.int .i64 k, .int .i64 f, .slice ia n c, .slice oa m d] 46)) k f ia n c oa m d 46) := B0
  obtain ⟨cd, hcd⟩ : ∃ c, c = txR k f rs os := ⟨_, rfl⟩
  rw [← hcd]
  have HCD : Hid (cd = if kindR k f ≠ 0 then kindR k f else if inB n 1 4 = false ∨ inB m 1 4 = false then 2 else if refsR [] rs ≠ 0 then refsR [] rs else if outsR os ≠ 0 then outsR os else if k = 1 ∧ (os.getD 0 O0).v < 100 then 8 else 0) := by
    show _ = _
    rw [hcd, txR_eq, h.r.1, h.o.1]
  obtain ⟨r1, hr1⟩ : ∃ c, c = kindR k f := ⟨_, rfl⟩
  obtain ⟨r2, hr2⟩ : ∃ c, c = refsR [] rs := ⟨_, rfl⟩
  obtain ⟨r3, hr3⟩ : ∃ c, c = outsR os := ⟨_, rfl⟩
  obtain ⟨bn, hbn⟩ : ∃ c, c = inB n 1 4 := ⟨_, rfl⟩
  obtain ⟨bm, hbm⟩ : ∃ c, c = inB m 1 4 := ⟨_, rfl⟩
  have hk1 := kindFault_any k f (.slice ia n c) (.slice oa m d) (w.alloc (.cells #[.int .i64 k, .int .i64 f, .slice ia n c, .slice oa m d] 46))
  have hrf : ∀ v, GAt v ia n rs → Calls Tryz.prog 91 #[.slice ia n c] v fun e w' => e = .returned (.int .i64 r2) ∧ Below v.heap.size v w' := fun v hv => by rw [hr2]; exact refsFault_any n c ia rs v hc1 hc2 hv
  have hof : ∀ v, OAt v oa m os → Calls Tryz.prog 92 #[.slice oa m d] v fun e w' => e = .returned (.int .i64 r3) ∧ Below v.heap.size v w' := fun v hv => by rw [hr3]; exact outsFault_any m d oa os v hm HK.out hv
  have hp1 : ∀ v, Calls Tryz.prog 90 #[.int .i64 n] v fun e w' => e = .returned (.bool bn) ∧ w' = v := fun v => by rw [hbn]; exact arePieces_any n v
  have hp2 : ∀ v, Calls Tryz.prog 90 #[.int .i64 m] v fun e w' => e = .returned (.bool bm) ∧ w' = v := fun v => by rw [hbm]; exact arePieces_any m v
  have HRF : Hid (∀ v, GAt v ia n rs → Calls Tryz.prog 91 #[.slice ia n c] v fun e w' => e = .returned (.int .i64 r2) ∧ Below v.heap.size v w') := hrf
  have HOF : Hid (∀ v, OAt v oa m os → Calls Tryz.prog 92 #[.slice oa m d] v fun e w' => e = .returned (.int .i64 r3) ∧ Below v.heap.size v w') := hof
  have HC := HCD.out
  rw [← hr1, ← hr2, ← hr3, ← hbn, ← hbm] at HC
  rw [← hr1] at hk1
  have HBM : Hid (bm = inB m 1 4) := hbm
  have HC2 : Hid (cd = if r1 ≠ 0 then r1 else if bn = false ∨ bm = false then 2 else if r2 ≠ 0 then r2 else if r3 ≠ 0 then r3 else if k = 1 ∧ (os.getD 0 O0).v < 100 then 8 else 0) := HC
  clear HC HCD h B0 hk hcd hr1 hr2 hr3 hbn hbm hrf hof
  by_cases h1 : r1 = 0
  · subst h1
    by_cases h2 : bn = false
    · subst h2
      obtain rfl : cd = 2 := by rw [HC2.out]; simp
      clear hp2
      go_enter Tryz.func65, Tryz.ntmps65
      go_wp2_with (first
        | (go_at_call 89; refine hk1.mono ?_; rintro e w1 ⟨rfl, hb1⟩; have HB1 : Hid (TBx w w1 k f ia n c oa m d 46) := HB0.out.step hb1; obtain ⟨p0, p1, p2, p3, _⟩ := cells4 HB1.out.box; clear hb1)
        | (go_at_call 90; refine (hp1 _).mono ?_; rintro e w' ⟨rfl, hw⟩; have hw2 := hw.symm; subst hw2))
      go_ret
      exact ⟨rfl, HB1.out.bel⟩
    obtain rfl : bn = true := by simpa using h2
    by_cases h3 : bm = false
    · subst h3
      obtain rfl : cd = 2 := by rw [HC2.out]; simp
      go_enter Tryz.func65, Tryz.ntmps65
      go_wp2_with (first
        | (go_at_call 89; refine hk1.mono ?_; rintro e w1 ⟨rfl, hb1⟩; have HB1 : Hid (TBx w w1 k f ia n c oa m d 46) := HB0.out.step hb1; obtain ⟨p0, p1, p2, p3, _⟩ := cells4 HB1.out.box; clear hb1)
        | (go_at_call 90; (first | (refine (hp1 _).mono ?_; clear hp1) | refine (hp2 _).mono ?_); rintro e w' ⟨rfl, hw⟩; have hw2 := hw.symm; subst hw2))
      go_ret
      exact ⟨rfl, HB1.out.bel⟩
    obtain rfl : bm = true := by simpa using h3
    have hm4 := inB_true.1 HBM.out.symm
    have HC3 : Hid (cd = if r2 ≠ 0 then r2 else if r3 ≠ 0 then r3 else if k = 1 ∧ (os.getD 0 O0).v < 100 then 8 else 0) := by show _ = _; rw [HC2.out]; simp
    clear HC2 h2 h3
    by_cases h4 : r2 = 0
    · subst h4
      by_cases h5 : r3 = 0
      · subst h5
        have HC4 : Hid (cd = if k = 1 ∧ (os.getD 0 O0).v < 100 then 8 else 0) := by show _ = _; rw [HC3.out]; simp
        clear HC3
        rcases HT.out.o.2 with h0 | ⟨b, off, e0, l0, d0⟩
        · omega
        subst e0
        obtain ⟨ka, kn, kc, q0, _⟩ := d0 0 (by omega)
        simp only [Nat.zero_mul, Nat.add_zero] at q0
        obtain ⟨ov, hov⟩ : ∃ v, v = (os.getD 0 O0).v := ⟨_, rfl⟩
        have HC5 : Hid (cd = if k = 1 ∧ ov < 100 then 8 else 0) := by show _ = _; rw [HC4.out, hov]
        rw [← hov] at q0
        clear HC4 hov d0
        have hmi : 0 < (m : Int) := by omega
        rcases (show (k = 1 ∧ ov < 100 ∧ cd = 8) ∨ (k = 1 ∧ ¬ ov < 100 ∧ cd = 0) ∨ (¬ k = 1 ∧ (k == 1) = false ∧ cd = 0) by
          by_cases g1 : k = 1
          · by_cases g2 : ov < 100
            · exact .inl ⟨g1, g2, by rw [HC5.out, if_pos ⟨g1, g2⟩]⟩
            · exact .inr (.inl ⟨g1, g2, by rw [HC5.out, if_neg (fun h => g2 h.2)]⟩)
          · exact .inr (.inr ⟨g1, by simpa using g1, by rw [HC5.out, if_neg (fun h => g1 h.1)]⟩)) with ⟨rfl, g2, rfl⟩ | ⟨rfl, g2, rfl⟩ | ⟨g1, g2, rfl⟩
        all_goals
         clear HC5
         go_enter Tryz.func65, Tryz.ntmps65
         go_wp2_with (first
           | (go_at_call 89; refine hk1.mono ?_; rintro e w1 ⟨rfl, hb1⟩; have HB1 : Hid (TBx w w1 _ f ia n c (some ⟨b, off, none⟩) m d 46) := HB0.out.step hb1; obtain ⟨p0, p1, p2, p3, _⟩ := cells4 HB1.out.box; clear hb1)
           | (go_at_call 90; (first | (refine (hp1 _).mono ?_; clear hp1) | refine (hp2 _).mono ?_); rintro e w' ⟨rfl, hw⟩; have hw2 := hw.symm; subst hw2)
           | (go_at_call 91; refine (HRF.out _ (HB1.out.at HT.out).r).mono ?_; rintro e w2 ⟨rfl, hb2⟩; have HB2 : Hid (TBx w w2 _ f ia n c (some ⟨b, off, none⟩) m d 46) := HB1.out.step hb2; clear p0 p1 p2 p3; obtain ⟨p0, p1, p2, p3, _⟩ := cells4 HB2.out.box; clear hb2)
           | (go_at_call 92; refine (HOF.out _ (HB2.out.at HT.out).o).mono ?_; rintro e w3 ⟨rfl, hb3⟩; have HB3 : Hid (TBx w w3 _ f ia n c (some ⟨b, off, none⟩) m d 46) := HB2.out.step hb3; clear p0 p1 p2 p3; obtain ⟨p0, p1, p2, p3, _⟩ := cells4 HB3.out.box; have x0 := (HB3.out.bel.cell (p := ⟨b, off, none⟩) l0).trans q0; clear hb3))
         go_ret
         exact ⟨rfl, HB3.out.bel⟩
      · obtain rfl : cd = r3 := by rw [HC3.out]; simp [h5]
        go_enter Tryz.func65, Tryz.ntmps65
        go_wp2_with (first
          | (go_at_call 89; refine hk1.mono ?_; rintro e w1 ⟨rfl, hb1⟩; have HB1 : Hid (TBx w w1 k f ia n c oa m d 46) := HB0.out.step hb1; obtain ⟨p0, p1, p2, p3, _⟩ := cells4 HB1.out.box; clear hb1)
          | (go_at_call 90; (first | (refine (hp1 _).mono ?_; clear hp1) | refine (hp2 _).mono ?_); rintro e w' ⟨rfl, hw⟩; have hw2 := hw.symm; subst hw2)
          | (go_at_call 91; refine (HRF.out _ (HB1.out.at HT.out).r).mono ?_; rintro e w2 ⟨rfl, hb2⟩; have HB2 : Hid (TBx w w2 k f ia n c oa m d 46) := HB1.out.step hb2; clear p0 p1 p2 p3; obtain ⟨p0, p1, p2, p3, _⟩ := cells4 HB2.out.box; clear hb2)
          | (go_at_call 92; refine (HOF.out _ (HB2.out.at HT.out).o).mono ?_; rintro e w3 ⟨rfl, hb3⟩; have HB3 : Hid (TBx w w3 k f ia n c oa m d 46) := HB2.out.step hb3; clear p0 p1 p2 p3; obtain ⟨p0, p1, p2, p3, _⟩ := cells4 HB3.out.box; clear hb3))
        go_ret
        exact ⟨rfl, HB3.out.bel⟩
    · obtain rfl : cd = r2 := by rw [HC3.out]; simp [h4]
      go_enter Tryz.func65, Tryz.ntmps65
      go_wp2_with (first
        | (go_at_call 89; refine hk1.mono ?_; rintro e w1 ⟨rfl, hb1⟩; have HB1 : Hid (TBx w w1 k f ia n c oa m d 46) := HB0.out.step hb1; obtain ⟨p0, p1, p2, p3, _⟩ := cells4 HB1.out.box; clear hb1)
        | (go_at_call 90; (first | (refine (hp1 _).mono ?_; clear hp1) | refine (hp2 _).mono ?_); rintro e w' ⟨rfl, hw⟩; have hw2 := hw.symm; subst hw2)
        | (go_at_call 91; refine (HRF.out _ (HB1.out.at HT.out).r).mono ?_; rintro e w2 ⟨rfl, hb2⟩; have HB2 : Hid (TBx w w2 k f ia n c oa m d 46) := HB1.out.step hb2; clear p0 p1 p2 p3; obtain ⟨p0, p1, p2, p3, _⟩ := cells4 HB2.out.box; clear hb2))
      go_ret
      exact ⟨rfl, HB2.out.bel⟩
  · obtain rfl : cd = r1 := by rw [HC2.out]; simp [h1]
    clear hp1 hp2
    go_enter Tryz.func65, Tryz.ntmps65
    go_wp2_with (first
      | (go_at_call 89; refine hk1.mono ?_; rintro e w1 ⟨rfl, hb1⟩; have HB1 : Hid (TBx w w1 k f ia n c oa m d 46) := HB0.out.step hb1; obtain ⟨p0, p1, p2, p3, _⟩ := cells4 HB1.out.box; clear hb1))
    go_ret
    exact ⟨rfl, HB1.out.bel⟩

end Go.Proofs.YtjgilpkkfpbefaaGreatDoor

namespace Go.Proofs.YtjgilpkkfpbefaaGreatDoor
open Go.RowKit Go.Maps Go.WideMaps

theorem isNaN_any (v : Int) (w : World) : Calls Tryz.prog 129 #[.int .i64 v] w fun e w' => e = .returned (.bool false) ∧ w' = w := by
  go_enter Tryz.func129, Tryz.ntmps129
  go_wp2
  go_ret
  exact ⟨by simp, rfl⟩

theorem cmpC_any (a b : Int) (w : World) : Calls Tryz.prog 111 #[.int .i64 a, .int .i64 b] w fun e w' => e = .returned (.int .i64 (cmpI a b)) ∧ w' = w := by
  have h0 : ∀ v u, Calls Tryz.prog 129 #[.int .i64 v] u fun e w' => e = .returned (.bool false) ∧ w' = u := isNaN_any
  by_cases h1 : a < b
  · have e : cmpI a b = -1 := by simp [cmpI, h1]
    rw [e]
    go_enter Tryz.func111, Tryz.ntmps111
    go_wp2_with (go_at_call 129; refine (h0 _ _).mono ?_; rintro e w' ⟨rfl, hw⟩; have hw2 := hw.symm; subst hw2)
    go_ret
    exact ⟨rfl, rfl⟩
  · by_cases h2 : b < a
    · have e : cmpI a b = 1 := by simp [cmpI, h1, h2]
      rw [e]
      go_enter Tryz.func111, Tryz.ntmps111
      go_wp2_with (go_at_call 129; refine (h0 _ _).mono ?_; rintro e w' ⟨rfl, hw⟩; have hw2 := hw.symm; subst hw2)
      go_ret
      exact ⟨rfl, rfl⟩
    · have e : cmpI a b = 0 := by simp [cmpI, h1, h2]
      rw [e]
      go_enter Tryz.func111, Tryz.ntmps111
      go_wp2_with (go_at_call 129; refine (h0 _ _).mono ?_; rintro e w' ⟨rfl, hw⟩; have hw2 := hw.symm; subst hw2)
      go_ret
      exact ⟨rfl, rfl⟩

/-- The first of two numbers that is not 0. -/
theorem cmpOr_any (B c : Nat) (a b : Int) (w : World) (h0 : w.cell? ⟨B, 0, none⟩ = some (.int .i64 a)) (h1 : w.cell? ⟨B, 1, none⟩ = some (.int .i64 b)) :
    Calls Tryz.prog 110 #[.slice (some ⟨B, 0, none⟩) 2 c] w fun e w' => e = .returned (.int .i64 (if a = 0 then b else a)) ∧ w' = w := by
  by_cases ha : a = 0
  · subst ha
    by_cases hb : b = 0
    · subst hb
      go_enter Tryz.func110, Tryz.ntmps110
      go_wp2
      refine wp_loop_rounds 3 ?_
      rw [rounds_succ]
      go_wp2
      rw [rounds_succ]
      go_wp2
      rw [rounds_succ]
      go_wp2
      go_ret
      exact ⟨rfl, rfl⟩
    · have e : (b != 0) = true := by simp [hb]
      go_enter Tryz.func110, Tryz.ntmps110
      go_wp2
      refine wp_loop_rounds 2 ?_
      rw [rounds_succ]
      go_wp2
      rw [rounds_succ]
      go_wp2
      go_ret
      exact ⟨rfl, rfl⟩
  · have e : (a != 0) = true := by simp [ha]
    rw [if_neg ha]
    go_enter Tryz.func110, Tryz.ntmps110
    go_wp2
    refine wp_loop_rounds 1 ?_
    rw [rounds_succ]
    go_wp2
    go_ret
    exact ⟨rfl, rfl⟩

set_option maxRecDepth 20000 in
set_option maxHeartbeats 4000000 in
theorem compareRefs_more (a b c d : Int) (w : World) : Calls Tryz.prog 87 #[.agg #[.int .i64 a, .int .i64 b], .agg #[.int .i64 c, .int .i64 d]] w fun e w' => e = .returned (.int .i64 (cmpR (a, b) (c, d))) ∧ Below w.heap.size w w' ∧ w.drawn ≤ w'.drawn := by
  obtain ⟨t0, t1, t2⟩ := blocks2 w (.cells #[.int .i64 a, .int .i64 b] 81) (.cells #[.int .i64 c, .int .i64 d] 81)
  have hbx : Below w.heap.size w ((w.alloc (.cells #[.int .i64 a, .int .i64 b] 81)).alloc (.cells #[.int .i64 c, .int .i64 d] 81)) := below_box2 _ _
  obtain ⟨p, hp⟩ : ∃ p, p = cmpI a c := ⟨_, rfl⟩
  obtain ⟨q, hq⟩ : ∃ q, q = cmpI b d := ⟨_, rfl⟩
  have hr : cmpR (a, b) (c, d) = if p = 0 then q else p := by rw [hp, hq]; rfl
  have h1 : ∀ v, Calls Tryz.prog 111 #[.int .i64 a, .int .i64 c] v fun e w' => e = .returned (.int .i64 p) ∧ w' = v := fun v => by rw [hp]; exact cmpC_any _ _ v
  have h2 : ∀ v, Calls Tryz.prog 111 #[.int .i64 b, .int .i64 d] v fun e w' => e = .returned (.int .i64 q) ∧ w' = v := fun v => by rw [hq]; exact cmpC_any _ _ v
  rw [hr]
  obtain ⟨r, h3⟩ : ∃ r, r = if p = 0 then q else p := ⟨_, rfl⟩
  rw [← h3]
  have H3 : Hid ((if p = 0 then q else p) = r) := h3.symm
  clear hp hq hr h3
  obtain ⟨W, hW⟩ : ∃ W, W = (w.alloc (.cells #[.int .i64 a, .int .i64 b] 81)).alloc (.cells #[.int .i64 c, .int .i64 d] 81) := ⟨_, rfl⟩
  go_enter Tryz.func87, Tryz.ntmps87
  go_wp2
  rw [← hW] at t0 t1 t2 hbx ⊢
  have HDR : Hid (W.drawn = w.drawn) := by rw [hW]; rfl
  clear hW
  obtain ⟨s0, s1⟩ := cells2 t0
  obtain ⟨s2, s3⟩ := cells2 t1
  have hn0 : (W.alloc (.cells #[.int .i64 p, .int .i64 q] 3)).drew.heap[W.heap.size]? = some (.cells #[.int .i64 p, .int .i64 q] 3 (0, 0)) := heap_alloc_new _ _
  have hor := cmpOr_any W.heap.size 2 p q (W.alloc (.cells #[.int .i64 p, .int .i64 q] 3)).drew (cells2 hn0).1 (cells2 hn0).2
  have HBO : Hid (Below w.heap.size w (W.alloc (.cells #[.int .i64 p, .int .i64 q] 3)).drew) := (hbx.trans ((below_box _).mono hbx.size)).trans ((Below.refl _ _).drew)
  clear hn0
  rw [t2, H3.out] at hor
  have hl0 : w.heap.size < W.heap.size := by omega
  have hl1 : w.heap.size + 1 < W.heap.size := by omega
  go_region_held3 (fun w' => w'.cell? ⟨w.heap.size, 0, none⟩ = some (.int .i64 a) ∧ w'.cell? ⟨w.heap.size, 1, none⟩ = some (.int .i64 b) ∧ w'.cell? ⟨w.heap.size + 1, 0, none⟩ = some (.int .i64 c) ∧ w'.cell? ⟨w.heap.size + 1, 1, none⟩ = some (.int .i64 d)) (go_keep)
    (first
      | (go_at_call 111; (first | (with_reducible refine (h1 _).mono ?_) | (with_reducible refine (h2 _).mono ?_)); rintro e w' ⟨rfl, hw⟩; have hw2 := hw.symm; subst hw2)
      | (go_at_call 110; (with_reducible refine hor.mono ?_); rintro e w' ⟨rfl, hw⟩; have hw2 := hw.symm; subst hw2))
  go_wp2
  go_ret
  exact ⟨rfl, HBO.out, by show w.drawn ≤ W.drawn + 1; rw [HDR.out]; omega⟩

theorem compareRefs_any (a b c d : Int) (w : World) : Calls Tryz.prog 87 #[.agg #[.int .i64 a, .int .i64 b], .agg #[.int .i64 c, .int .i64 d]] w fun e w' => e = .returned (.int .i64 (cmpR (a, b) (c, d))) ∧ Below w.heap.size w w' :=
  (compareRefs_more a b c d w).mono fun _ _ h => ⟨h.1, h.2.1⟩

set_option maxHeartbeats 1000000 in
theorem coinFault_any (p q v : Int) (a : Option Addr) (n cap : Nat) (l : List Int) (x y h : Int) (m : Bool) (w : World) (hl : n ≤ 1048576) (hI : IAt w a n l) :
    Calls Tryz.prog 86 #[.agg #[.int .i64 p, .int .i64 q, .int .i64 v, .slice a n cap, .int .i64 x, .int .i64 y, .int .i64 h, .bool m]] w fun e w' => e = .returned (.int .i64 (coinR ⟨p, q, v, l, x, y, h, m⟩)) ∧ Below w.heap.size w w' := by
  obtain ⟨kr, hkr⟩ : ∃ k, k = refB (p, q) := ⟨_, rfl⟩
  obtain ⟨kh, hkh⟩ : ∃ k, k = inB h 0 999 := ⟨_, rfl⟩
  obtain ⟨kv, hkv⟩ : ∃ k, k = inB v 1 1000000 := ⟨_, rfl⟩
  have hrf := isRef_any p q (w.alloc (.cells #[.int .i64 p, .int .i64 q, .int .i64 v, .slice a n cap, .int .i64 x, .int .i64 y, .int .i64 h, .bool m] 86))
  rw [← hkr] at hrf
  have hht : ∀ u, Calls Tryz.prog 66 #[.int .i64 h] u fun e w' => e = .returned (.bool kh) ∧ w' = u := fun u => by rw [hkh]; exact isHeight_any _ u
  have hvl : ∀ u, Calls Tryz.prog 108 #[.int .i64 v] u fun e w' => e = .returned (.bool kv) ∧ w' = u := fun u => by rw [hkv]; exact isValue_any _ u
  have HRF : Hid (∀ u, Below w.heap.size w u → Calls Tryz.prog 109 #[.agg #[.slice a n cap, .int .i64 x, .int .i64 y]] u fun e w' => e = .returned (.int .i64 (ruleR l x y)) ∧ Below u.heap.size u w') := fun u hu => iRuleFault_any n cap a l x y u hl (hI.below hu (Nat.le_refl _))
  have HBX : Hid (Below w.heap.size w (w.alloc (.cells #[.int .i64 p, .int .i64 q, .int .i64 v, .slice a n cap, .int .i64 x, .int .i64 y, .int .i64 h, .bool m] 86))) := below_box _
  have HX : Hid ((w.alloc (.cells #[.int .i64 p, .int .i64 q, .int .i64 v, .slice a n cap, .int .i64 x, .int .i64 y, .int .i64 h, .bool m] 86)).heap[w.heap.size]? = some (.cells #[.int .i64 p, .int .i64 q, .int .i64 v, .slice a n cap, .int .i64 x, .int .i64 y, .int .i64 h, .bool m] 86 (0, 0))) := heap_alloc_new _ _
  obtain ⟨r, hr⟩ : ∃ r, r = coinR ⟨p, q, v, l, x, y, h, m⟩ := ⟨_, rfl⟩
  rw [← hr]
  clear hI
  cases kr
  · obtain rfl : r = 3 := by rw [hr]; unfold coinR; rw [if_pos (.inl hkr.symm)]
    clear hkr hkh hkv hr
    go_enter Tryz.func86, Tryz.ntmps86
    go_wp2_with (first | (go_at_call 107; (with_reducible refine hrf.mono ?_); rintro e w2 ⟨rfl, hb2⟩; have HX2 := keepb HX.out hb2; obtain ⟨⟨s0, s1, s2, s3, s4, s5, s6, s7⟩, _⟩ := cells8 HX2.out; have HB2 : Hid (Below w.heap.size w w2) := HBX.out.trans (hb2.mono HBX.out.size); clear hb2))
    go_ret
    exact ⟨rfl, HB2.out⟩
  cases kh
  · obtain rfl : r = 3 := by rw [hr]; unfold coinR; rw [if_pos (.inr hkh.symm)]
    clear hkr hkh hkv hr
    go_enter Tryz.func86, Tryz.ntmps86
    go_wp2_with (first | (go_at_call 107; (with_reducible refine hrf.mono ?_); rintro e w2 ⟨rfl, hb2⟩; have HX2 := keepb HX.out hb2; obtain ⟨⟨s0, s1, s2, s3, s4, s5, s6, s7⟩, _⟩ := cells8 HX2.out; have HB2 : Hid (Below w.heap.size w w2) := HBX.out.trans (hb2.mono HBX.out.size); clear hb2) | (go_at_call 66; refine (hht _).mono ?_; rintro e w' ⟨rfl, hw⟩; have hw2 := hw.symm; subst hw2))
    go_ret
    exact ⟨rfl, HB2.out⟩
  have hno : ¬ (refB (p, q) = false ∨ inB h 0 999 = false) := by
    rintro (e | e)
    · rw [← hkr] at e; cases e
    · rw [← hkh] at e; cases e
  cases kv
  · obtain rfl : r = 3 := by rw [hr]; unfold coinR; rw [if_neg hno, outR, if_pos hkv.symm]
    clear hkr hkh hkv hr hno
    go_enter Tryz.func86, Tryz.ntmps86
    go_wp2_with (first | (go_at_call 107; (with_reducible refine hrf.mono ?_); rintro e w2 ⟨rfl, hb2⟩; have HX2 := keepb HX.out hb2; obtain ⟨⟨s0, s1, s2, s3, s4, s5, s6, s7⟩, _⟩ := cells8 HX2.out; have HB2 : Hid (Below w.heap.size w w2) := HBX.out.trans (hb2.mono HBX.out.size); clear hb2) | (go_at_call 66; refine (hht _).mono ?_; rintro e w' ⟨rfl, hw⟩; have hw2 := hw.symm; subst hw2) | (go_at_call 108; refine (hvl _).mono ?_; rintro e w' ⟨rfl, hw⟩; have hw2 := hw.symm; subst hw2))
    go_ret
    exact ⟨rfl, HB2.out⟩
  · obtain rfl : r = ruleR l x y := by rw [hr]; unfold coinR; rw [if_neg hno, outR, if_neg (by rw [← hkv]; simp)]
    clear hkr hkh hkv hr hno
    go_enter Tryz.func86, Tryz.ntmps86
    go_wp2_with (first | (go_at_call 107; (with_reducible refine hrf.mono ?_); rintro e w2 ⟨rfl, hb2⟩; have HX2 := keepb HX.out hb2; obtain ⟨⟨s0, s1, s2, s3, s4, s5, s6, s7⟩, _⟩ := cells8 HX2.out; have HB2 : Hid (Below w.heap.size w w2) := HBX.out.trans (hb2.mono HBX.out.size); clear hb2) | (go_at_call 66; refine (hht _).mono ?_; rintro e w' ⟨rfl, hw⟩; have hw2 := hw.symm; subst hw2) | (go_at_call 108; refine (hvl _).mono ?_; rintro e w' ⟨rfl, hw⟩; have hw2 := hw.symm; subst hw2) | (go_at_call 109; refine (HRF.out w2 HB2.out).mono ?_; rintro e w3 ⟨rfl, hb3⟩))
    go_ret
    exact ⟨rfl, HB2.out.trans (hb3.mono HB2.out.size)⟩

/-- The last ref, in its block. -/
def LastR (w wr : World) (pr : Int × Int) : Prop := wr.heap[w.heap.size]? = some (.cells #[.int .i64 pr.1, .int .i64 pr.2] 81 (0, 0))

set_option maxRecDepth 20000 in
set_option maxHeartbeats 2000000 in
theorem iCoinsFault_any (n c : Nat) (a : Option Addr) (cs : List Co) (w : World) (hn : n ≤ 1048576) (hk : ∀ j, j < n → (cs.getD j C0).l.length ≤ 1048576) (hC : CAt w a n cs) :
    Calls Tryz.prog 63 #[.slice a n c] w fun e w' => e = .returned (.int .i64 (coinsR cs)) ∧ Below w.heap.size w w' := by
  have HC : Hid (CAt w a n cs) := hC
  have HN : Hid (cs.length = n) := hC.1
  have HKL : Hid (∀ j, j < n → (cs.getD j C0).l.length ≤ 1048576) := hk
  obtain ⟨r, hr⟩ : ∃ r, r = coinsR cs := ⟨_, rfl⟩
  rw [← hr]
  have HR : Hid (r = coinsR cs) := hr
  clear hC hk hr
  by_cases h40 : 40 < n
  · obtain rfl : r = 2 := by rw [HR.out]; unfold coinsR; rw [if_pos (by rw [HN.out]; exact h40)]
    go_enter Tryz.func63, Tryz.ntmps63
    go_wp2
    go_ret
    exact ⟨rfl, Below.refl _ _⟩
  have HR2 : Hid (r = csR (0, 0) cs) := by show _ = _; rw [HR.out]; unfold coinsR; rw [if_neg (by rw [HN.out]; exact h40)]
  go_enter Tryz.func63, Tryz.ntmps63
  go_wp2
  go_loopw [12] (fun i wr => ∃ j : Nat, j ≤ n ∧ i = .int .i64 j ∧ Below w.heap.size w wr ∧ Hid (r = csR (prevR cs j) (cs.drop j)) ∧ Hid (LastR w wr (prevR cs j))) (fun i _ => n - (intOf i).toNat)
  case atStart => exact ⟨0, Nat.zero_le _, rfl, below_box _, HR2.out, heap_alloc_new _ _⟩
  case round =>
    obtain ⟨j, hj, rfl, hbel, HT, HL⟩ := hrel
    by_cases hlt : j < n
    · rcases HC.out.2 with h0 | ⟨b, off, e0, l0, d0⟩
      · omega
      subst e0
      obtain ⟨o, ho⟩ : ∃ o, o = cs.getD j C0 := ⟨_, rfl⟩
      obtain ⟨ka, kc, p0, p4, p5⟩ := d0 j hlt
      have hol := HKL.out j hlt
      rw [← ho] at p0 p4 p5 hol
      have HS : Hid (o = cs.getD j C0) := ho
      obtain ⟨op, oq, ov, ol, ox, oy, oh, om⟩ := o
      obtain ⟨x0, x1, x2, x3, x4, x5, x6, x7⟩ := p0.below hbel l0
      simp only at x0 x1 x2 x3 x4 x5 x6 x7 hol p5
      have HNX : Hid (cs.drop j = (⟨op, oq, ov, ol, ox, oy, oh, om⟩ : Co) :: cs.drop (j + 1)) := next_coin HN.out hlt HS.out
      have hlL : w.heap.size < wr.heap.size := lt_of_block HL.out
      obtain ⟨pr, hpr⟩ : ∃ pr, pr = prevR cs j := ⟨_, rfl⟩
      have HPR : Hid (prevR cs j = pr) := hpr.symm
      obtain ⟨np, nq⟩ := pr
      have hbx : Below wr.heap.size wr (wr.alloc (.cells #[.int .i64 op, .int .i64 oq, .int .i64 ov, .slice ka ol.length kc, .int .i64 ox, .int .i64 oy, .int .i64 oh, .bool om] 86)) := below_box _
      have hcf := coinFault_any op oq ov ka ol.length kc ol ox oy oh om (wr.alloc (.cells #[.int .i64 op, .int .i64 oq, .int .i64 ov, .slice ka ol.length kc, .int .i64 ox, .int .i64 oy, .int .i64 oh, .bool om] 86)) hol ((p5.below hbel (Nat.le_refl _)).below hbx (Nat.le_refl _))
      obtain ⟨cd, hcd⟩ : ∃ c, c = coinR ⟨op, oq, ov, ol, ox, oy, oh, om⟩ := ⟨_, rfl⟩
      rw [← hcd] at hcf
      have HCE : Hid (coinR ⟨op, oq, ov, ol, ox, oy, oh, om⟩ = cd) := hcd.symm
      have HX : Hid ((wr.alloc (.cells #[.int .i64 op, .int .i64 oq, .int .i64 ov, .slice ka ol.length kc, .int .i64 ox, .int .i64 oy, .int .i64 oh, .bool om] 86)).heap[wr.heap.size]? = some (.cells #[.int .i64 op, .int .i64 oq, .int .i64 ov, .slice ka ol.length kc, .int .i64 ox, .int .i64 oy, .int .i64 oh, .bool om] 86 (0, 0))) := heap_alloc_new _ _
      have HBX : Hid (Below wr.heap.size wr (wr.alloc (.cells #[.int .i64 op, .int .i64 oq, .int .i64 ov, .slice ka ol.length kc, .int .i64 ox, .int .i64 oy, .int .i64 oh, .bool om] 86))) := hbx
      have HL0 : Hid (wr.heap[w.heap.size]? = some (.cells #[.int .i64 np, .int .i64 nq] 81 (0, 0))) := by have := HL.out; unfold LastR at this; rw [HPR.out] at this; exact this
      have HLX := keepb HL0.out HBX.out
      clear ho d0 p0 p4 p5 hcd hbx hpr
      have hki : (j : Int) < (n : Int) := by omega
      by_cases hc0 : cd = 0
      · subst hc0
        obtain ⟨kb, hkb⟩ : ∃ k, k = cmpR (op, oq) (np, nq) := ⟨_, rfl⟩
        have HKB : Hid (cmpR (op, oq) (np, nq) = kb) := hkb.symm
        have hcm : ∀ u, Calls Tryz.prog 87 #[.agg #[.int .i64 op, .int .i64 oq], .agg #[.int .i64 np, .int .i64 nq]] u fun e w' => e = .returned (.int .i64 kb) ∧ Below u.heap.size u w' := fun u => by rw [hkb]; exact compareRefs_any op oq np nq u
        clear hkb
        by_cases hle : kb ≤ 0
        · obtain rfl : r = 1 := by rw [HT.out, HNX.out, HPR.out, csR_form HCE.out (by rw [← HKB.out] at hle; exact hle)]
          go_wp2_with (first
            | (go_at_call 86; (with_reducible refine hcf.mono ?_); clear hcf; rintro e w2 ⟨rfl, hb2⟩; have HX2 := keepb HX.out hb2; have HL2 := keepb HLX.out hb2; obtain ⟨⟨s0, s1, s2, s3, s4, s5, s6, s7⟩, _⟩ := cells8 HX2.out; obtain ⟨y0, y1⟩ := cells2 HL2.out; have HB2 : Hid (Below w.heap.size w w2) := (hbel.trans (HBX.out.mono hbel.size)).trans (hb2.mono (by have := hbel.size; have := HBX.out.size; omega)); clear hb2)
            | (go_at_call 87; (with_reducible refine (hcm _).mono ?_); rintro e w3 ⟨rfl, hb3⟩))
          go_ret
          exact ⟨rfl, HB2.out.trans (hb3.mono HB2.out.size)⟩
        · have HTN : Hid (r = csR (prevR cs (j + 1)) (cs.drop (j + 1))) := by
            show _ = _
            rw [HT.out, HNX.out, HPR.out, csR_go HCE.out (by rw [← HKB.out] at hle; exact hle), prevR_succ HS.out]
          go_wp2_with (first
            | (go_at_call 86; (with_reducible refine hcf.mono ?_); clear hcf; rintro e w2 ⟨rfl, hb2⟩; have HX2 := keepb HX.out hb2; have HL2 := keepb HLX.out hb2; obtain ⟨⟨s0, s1, s2, s3, s4, s5, s6, s7⟩, _⟩ := cells8 HX2.out; obtain ⟨y0, y1⟩ := cells2 HL2.out; have HB2 : Hid (Below w.heap.size w w2) := (hbel.trans (HBX.out.mono hbel.size)).trans (hb2.mono (by have := hbel.size; have := HBX.out.size; omega)); clear hb2)
            | (go_at_call 87; (with_reducible refine (hcm _).mono ?_); rintro e w3 ⟨rfl, hb3⟩; have HX3 := keepb HX2.out hb3; have HL3 := keepb HL2.out hb3; clear s0 s1 s2 s3 s4 s5 s6 s7 y0 y1; obtain ⟨⟨s0, s1, s2, s3, s4, s5, s6, s7⟩, _⟩ := cells8 HX3.out; obtain ⟨y0, y1⟩ := cells2 HL3.out; have f0 := Joins.unfrozen_of_block HL3.out 0; have f1 := Joins.unfrozen_of_block HL3.out 1; have HB3 : Hid (Below w.heap.size w w3) := HB2.out.trans (hb3.mono HB2.out.size); clear hb3))
          go_roundw
          case rel =>
            refine ⟨j + 1, by omega, by go_num, (HB3.out.setCell (Nat.le_refl _) _).setCell (Nat.le_refl _) _, HTN, ?_⟩
            show LastR _ _ _
            rw [prevR_succ HS.out]
            have h1 := Joins.block_setCell (i := 0) HL3.out (.int .i64 op)
            have h2 := Joins.block_setCell (i := 1) h1 (.int .i64 oq)
            exact h2
          case measure => simp [intOf]; omega
      · obtain rfl : r = cd := by rw [HT.out, HNX.out, csR_bad HCE.out hc0]
        go_wp2_with (first
          | (go_at_call 86; (with_reducible refine hcf.mono ?_); clear hcf; rintro e w2 ⟨rfl, hb2⟩; have HB2 : Hid (Below w.heap.size w w2) := (hbel.trans (HBX.out.mono hbel.size)).trans (hb2.mono (by have := hbel.size; have := HBX.out.size; omega)); clear hb2))
        go_ret
        exact ⟨rfl, HB2.out⟩
    · obtain rfl : r = 0 := by rw [HT.out, List.drop_eq_nil_of_le (by rw [HN.out]; omega)]; rfl
      go_wp2
      go_ret
      exact ⟨rfl, hbel⟩

end Go.Proofs.YtjgilpkkfpbefaaGreatDoor

namespace Go.Proofs.YtjgilpkkfpbefaaGreatDoor
open Go.RowKit Go.Maps Go.WideMaps

theorem kR : Keyed Tryz.prog 81 := Keyed.of_law (deep_law_laid Tryz.laidOut (m := 2) (by omega) (of_decide_eq_true (by kernel_rfl)) (by kernel_rfl) (by kernel_rfl))
theorem Tryz.cellsRf : Tryz.prog.cellsOf 81 = 2 := by kernel_rfl
theorem Tryz.cellsI64R : Tryz.prog.cellsOf 2 = 1 := by kernel_rfl
theorem Tryz.someTypesR : ∃ m, Tryz.prog.types.size = m + 1 := ⟨Tryz.prog.types.size - 1, by have : 0 < Tryz.prog.types.size := of_decide_eq_true (by kernel_rfl); omega⟩
theorem Tryz.cutRf : (Tryz.prog.cutTypes.any (·.2 == 81)) = false := by kernel_rfl
theorem Tryz.keyAtRf (m : Nat) : Tryz.prog.keyTypeAt (m + 2) 81 = true := by
  have h2 : Tryz.prog.keyTypeAt (m + 1) 2 = true := by unfold Program.keyTypeAt; rw [Tryz.underlying2]
  unfold Program.keyTypeAt
  rw [Tryz.underlying81]
  simp only [Tryz.cutRf, Tryz.stoodInHeld81]
  simp [h2]
theorem Tryz.keyRf : Tryz.prog.keyType 81 = true := by
  obtain ⟨m, hm⟩ := Tryz.someTypesR
  unfold Program.keyType
  rw [hm]
  exact Tryz.keyAtRf m
theorem Tryz.litI64R (m : Nat) {x : Int} (hx : (Lit.int .i64 x).wf = true) : Tryz.prog.keyLits (m + 1) 2 [.int .i64 x] = some [.int .i64 x] := by
  unfold Program.keyLits
  rw [Tryz.underlying2]
  simp [hx]
theorem Tryz.litsRf (m : Nat) {p q : Int} (hp : (Lit.int .i64 p).wf = true) (hq : (Lit.int .i64 q).wf = true) : Tryz.prog.keyLits (m + 2) 81 [.int .i64 p, .int .i64 q] = some [.int .i64 p, .int .i64 q] := by
  unfold Program.keyLits
  rw [Tryz.underlying81]
  simp [Tryz.cellsRf, Tryz.cellsI64R, Tryz.litI64R m hp, Tryz.litI64R m hq]
def encR (r : Int × Int) : Value := .agg #[.int .i64 r.1, .int .i64 r.2]
theorem encR_inj {a b : Int × Int} (h : encR a = encR b) : a = b := by
  simp [encR] at h
  exact Prod.ext h.1 h.2
theorem keyRf {r : Int × Int} (hp : (Lit.int .i64 r.1).wf = true) (hq : (Lit.int .i64 r.2).wf = true) : ∃ kl, keyOf Tryz.prog 81 (encR r) = some kl := by
  obtain ⟨m, hm⟩ := Tryz.someTypesR
  refine ⟨.string (keyBytes [.int .i64 r.1, .int .i64 r.2]), ?_⟩
  unfold encR
  have hf : (Value.agg #[.int .i64 r.1, .int .i64 r.2]).formed Tryz.prog 81 = true := by simp [Value.formed, Tryz.underlying81, Tryz.cellsRf]
  unfold keyOf
  rw [Tryz.underlying81]
  simp only [Tryz.keyRf, hf, hm, Bool.and_self, if_true]
  have hc : (Value.agg #[.int .i64 r.1, .int .i64 r.2]).cells.toList = [.int .i64 r.1, .int .i64 r.2] := rfl
  rw [hc, Tryz.litsRf m hp hq]
  rfl

set_option maxRecDepth 20000 in
theorem Tryz.litI64R_inv {m : Nat} {c : Value} {l : List Lit} (h : Tryz.prog.keyLits (m + 1) 2 [c] = some l) : ∃ x, c = .int .i64 x ∧ (Lit.int .i64 x).wf = true := by
  unfold Program.keyLits at h
  rw [Tryz.underlying2] at h
  cases c <;> simp at h
  rename_i k n
  obtain ⟨⟨rfl, hw⟩, _⟩ := h
  exact ⟨n, rfl, hw⟩
set_option maxRecDepth 20000 in
theorem keyRf_inv {key : Value} {kl : Lit} (h : keyOf Tryz.prog 81 key = some kl) : ∃ r : Int × Int, key = encR r ∧ (Lit.int .i64 r.1).wf = true ∧ (Lit.int .i64 r.2).wf = true := by
  obtain ⟨m, hm⟩ := Tryz.someTypesR
  unfold keyOf at h
  rw [Tryz.underlying81] at h
  simp only at h
  split at h
  · rename_i hc
    have hf : key.formed Tryz.prog 81 = true := by simpa [Tryz.keyRf] using hc
    cases key <;> simp [Value.formed, Tryz.underlying81, Tryz.cellsRf] at hf
    rename_i cs
    obtain ⟨cs⟩ := cs
    match cs, hf with
    | [c0, c1], _ =>
      have hcl : (Value.agg ⟨[c0, c1]⟩).cells.toList = [c0, c1] := rfl
      rw [hcl, hm] at h
      unfold Program.keyLits at h
      rw [Tryz.underlying81] at h
      simp [Tryz.cellsRf, Tryz.cellsI64R] at h
      cases h0 : Tryz.prog.keyLits (m + 1) 2 [c0] with
      | none => rw [h0] at h; simp at h
      | some l0 =>
        cases h1 : Tryz.prog.keyLits (m + 1) 2 [c1] with
        | none => rw [h0, h1] at h; simp at h
        | some l1 =>
          obtain ⟨x0, rfl, w0⟩ := Tryz.litI64R_inv h0
          obtain ⟨x1, rfl, w1⟩ := Tryz.litI64R_inv h1
          exact ⟨(x0, x1), rfl, w0, w1⟩
  · cases h

/-- A coin as the map holds it. -/
def coV (x : Co × Value) : Value := .agg #[.int .i64 x.1.p, .int .i64 x.1.q, .int .i64 x.1.v, x.2, .int .i64 x.1.x, .int .i64 x.1.y, .int .i64 x.1.h, .bool x.1.m]
def zeroC : Value := .agg #[.int .i64 0, .int .i64 0, .int .i64 0, .slice none 0 0, .int .i64 0, .int .i64 0, .int .i64 0, .bool false]
theorem zeroC_any (w : World) : (zeroValue 86).run Tryz.prog w = .ok zeroC w := by kernel_rfl
def Rv (v : Value) : Option (DataW Value × List MemPlace) := some (.held v, [])
def refOf (x : Co × Value) : Int × Int := (x.1.p, x.1.q)
def findP (ps : List (Co × Value)) (r : Int × Int) : Option (Co × Value) := ps.find? fun x => decide (refOf x = r)
def LookD (D : DataW Value) (kl : Lit) : Option (Co × Value) → Prop
  | none => Maps.has D kl = false ∧ ∀ zd, D.atKey kl zd = zd
  | some x => Maps.has D kl = true ∧ ∀ zd, D.atKey kl zd = .held (coV x)

/-- The purse in block B: what it tells of each ref; the keys lie in blocks from lo on, no two in one. -/
structure Pu (w : World) (lo B : Nat) (ps : List (Co × Value)) : Prop where
  map : ∃ D : DataW Value, w.ownsMap Tryz.prog 81 Rv B ps.length D ∧ Maps.size D = ps.length ∧ ∀ r kl, keyOf Tryz.prog 81 (encR r) = some kl → LookD D kl (findP ps r)
  rows : ∀ x ∈ ps, w.ownsRow lo 2 1 x.2 x.1.l.length (ints x.1.l)
  base : lo ≤ B
  apart : ps.Pairwise fun x y => ∀ b, x.2.ownBlock = some b → y.2.ownBlock ≠ some b
  refs : ps.Pairwise fun x y => refOf x ≠ refOf y
  wfs : ∀ x ∈ ps, (Lit.int .i64 x.1.p).wf = true ∧ (Lit.int .i64 x.1.q).wf = true

theorem ownsMap_tight {w : World} {k : TypeId} {R : Value → Option (DataW Value × List MemPlace)} {b n : Nat} {D : DataW Value} (h : w.ownsMap Tryz.prog k R b n D) : w.ownsMap Tryz.prog k R b (Maps.size D) D := by
  obtain ⟨es, clock, hb, F, _, rfl⟩ := h
  exact ⟨es, clock, hb, F, by simp [Maps.size, length_sorted], rfl⟩
theorem Pu.lt {w : World} {lo B : Nat} {ps : List (Co × Value)} (h : Pu w lo B ps) : B < w.heap.size := by obtain ⟨D, ho, _⟩ := h.map; exact ho.lt
theorem Pu.made {w : World} {lo : Nat} (h : lo ≤ w.heap.size) : Pu (w.alloc (.map #[] 0)) lo w.heap.size [] :=
  ⟨⟨.map [], World.ownsMap_made _ _ _ _, rfl, fun r kl _ => ⟨rfl, fun _ => rfl⟩⟩, fun x hx => (by cases hx), h, List.Pairwise.nil, List.Pairwise.nil, fun x hx => (by cases hx)⟩
theorem Pu.below {w w' : World} {lo B : Nat} {ps : List (Co × Value)} (h : Pu w lo B ps) (hb : Below w.heap.size w w') : Pu w' lo B ps := by
  obtain ⟨D, ho, hsz, hat⟩ := h.map
  exact ⟨⟨D, ho.kept (grown_of_below hb) (by simp), hsz, hat⟩, fun x hx => (h.rows x hx).kept (grown_of_below hb) (by cases Value.ownBlock x.2 <;> simp), h.base, h.apart, h.refs, h.wfs⟩
theorem Pu.len {w : World} {lo B : Nat} {ps : List (Co × Value)} (h : Pu w lo B ps) (ty : TypeId) : (Builtin.len_ #[97] ty #[.map (some B)]).run Tryz.prog w = .ok (.int .i64 (ps.length : Nat)) w := by
  obtain ⟨D, ho, hsz, _⟩ := h.map
  rw [← hsz]
  exact ho.len Tryz.underlying97 ty

theorem Pu.look {w : World} {lo B : Nat} {ps : List (Co × Value)} (h : Pu w lo B ps) {r : Int × Int} (hp : (Lit.int .i64 r.1).wf = true) (hq : (Lit.int .i64 r.2).wf = true) :
    (Instr.lookup 97 (.map (some B)) (encR r) true).run Tryz.prog w = .ok (.tuple #[((findP ps r).map coV).getD zeroC, .bool (findP ps r).isSome]) w := by
  obtain ⟨D, ho, _, hat⟩ := h.map
  obtain ⟨kl, hk⟩ := keyRf hp hq
  obtain ⟨v, pl, hrun, hv⟩ := ho.look_ok kR Tryz.underlying97 (zeroC_any w) (zd := .held zeroC) (zp := []) rfl hk
  have hl := hat r kl hk
  cases hf : findP ps r with
  | none =>
    rw [hf] at hl
    rw [hl.2] at hv
    have : v = zeroC := (show v = zeroC ∧ pl = [] by simpa [Rv] using hv).1
    rw [hrun, hl.1, this]; rfl
  | some x =>
    rw [hf] at hl
    rw [hl.2] at hv
    have : v = coV x := (show v = coV x ∧ pl = [] by simpa [Rv] using hv).1
    rw [hrun, hl.1, this]; rfl

theorem find_snoc {ps : List (Co × Value)} {x : Co × Value} {r : Int × Int} (h : findP ps (refOf x) = none) : findP (ps ++ [x]) r = if refOf x = r then some x else findP ps r := by
  unfold findP at *
  rw [List.find?_append]
  by_cases e : refOf x = r
  · rw [← e, h, if_pos rfl]; simp
  · rw [if_neg e]
    simp [e]

theorem Pu.store {w : World} {lo B : Nat} {ps : List (Co × Value)} (h : Pu w lo B ps) {x : Co × Value} (hp : (Lit.int .i64 x.1.p).wf = true) (hq : (Lit.int .i64 x.1.q).wf = true) (hn : findP ps (refOf x) = none) (hl : ps.length ≤ 1000)
    (hrow : w.ownsRow lo 2 1 x.2 x.1.l.length (ints x.1.l)) (hap : ∀ y ∈ ps, ∀ b, y.2.ownBlock = some b → x.2.ownBlock ≠ some b) :
    ∃ w', (Instr.mapUpdate 97 (.map (some B)) (encR (refOf x)) (coV x)).run Tryz.prog w = .ok () w' ∧ Pu w' lo B (ps ++ [x]) ∧ w.grownBy w' (some B) := by
  obtain ⟨D, ho, hsz, hat⟩ := h.map
  obtain ⟨kl, hk⟩ := keyRf (r := refOf x) hp hq
  have hno : Maps.has D kl = false := by have := hat (refOf x) kl hk; rw [hn] at this; exact this.1
  obtain ⟨w', hrun, ho', hg⟩ := ho.update kR Tryz.underlying97 (by unfold maxLen; omega) hk (d := .held (coV x)) (ps := []) rfl
  have nb : ∀ y : Co × Value, w.ownsRow lo 2 1 y.2 y.1.l.length (ints y.1.l) → y.2.ownBlock ≠ some B := fun y hy e => by
    obtain ⟨es, clock, hb, _⟩ := ho
    rcases hy.2 with ⟨e1, _⟩ | ⟨g, c, cur, e1, _, hh, _⟩
    · rw [e1] at e; cases e
    · rw [e1] at e
      have : g = B := by simpa [Value.ownBlock] using e
      rw [this, hb] at hh
      cases hh
  refine ⟨w', hrun, ⟨⟨_, by simpa using ho', by rw [size_put (ho.tidy kR), hno, hsz]; simp, fun r kl' hy => ?_⟩, fun y hy => ?_, h.base, ?_, ?_, fun y hy => ?_⟩, hg⟩
  · rw [find_snoc hn]
    by_cases e : refOf x = r
    · subst e
      rw [hk] at hy
      cases hy
      rw [if_pos rfl]
      exact ⟨has_put_same ho.isMap (kR.key hk) _, fun zd => atKey_put_same ho.isMap (kR.key hk) _ _⟩
    · rw [if_neg e]
      have hne : kl' ≠ kl := fun e2 => e (encR_inj (kR.inj (by rw [e2]; exact hk) hy)).symm.symm
      have hl2 := hat r kl' hy
      cases hf : findP ps r with
      | none =>
        rw [hf] at hl2
        exact ⟨(has_put_other hne _).trans hl2.1, fun zd => (atKey_put_other hne _ _).trans (hl2.2 zd)⟩
      | some y =>
        rw [hf] at hl2
        exact ⟨(has_put_other hne _).trans hl2.1, fun zd => (atKey_put_other hne _ _).trans (hl2.2 zd)⟩
  · rcases List.mem_append.1 hy with hy | hy
    · exact (h.rows y hy).kept hg (.inr (nb y (h.rows y hy)))
    · obtain rfl := List.mem_singleton.1 hy
      exact hrow.kept hg (.inr (nb y hrow))
  · rw [List.pairwise_append]
    refine ⟨h.apart, List.pairwise_singleton _ _, fun y hy z hz b hb => ?_⟩
    obtain rfl := List.mem_singleton.1 hz
    exact hap y hy b hb
  · rw [List.pairwise_append]
    refine ⟨h.refs, List.pairwise_singleton _ _, fun y hy z hz e => ?_⟩
    obtain rfl := List.mem_singleton.1 hz
    unfold findP at hn
    rw [List.find?_eq_none] at hn
    exact hn y hy (by simpa using e)
  · rcases List.mem_append.1 hy with hy | hy
    · exact h.wfs y hy
    · obtain rfl := List.mem_singleton.1 hy
      exact ⟨hp, hq⟩

end Go.Proofs.YtjgilpkkfpbefaaGreatDoor

namespace Go.Proofs.YtjgilpkkfpbefaaGreatDoor
open Go.RowKit Go.Maps Go.WideMaps

theorem news_ints {w : World} {b off n : Nat} {l : List Int} (h : IAt w (some ⟨b, off, none⟩) n l) : ∀ j u, (ints l)[j]? = some u → w.cell? ((⟨b, off, none⟩ : Addr).add j) = some u := by
  intro j u hj
  have hjl : j < l.length := by
    have := (List.getElem?_eq_some_iff.1 hj).1
    simpa [ints] using this
  rcases h.2 with h0 | ⟨b', off', e, _, hc⟩
  · have := h.1; omega
  · cases e
    have := hc j (by rw [← h.1]; exact hjl)
    have ea : (⟨b, off, none⟩ : Addr).add j = ⟨b, off + j, none⟩ := by simp [Addr.add]
    rw [ea, this]
    simp [ints] at hj
    obtain ⟨a, ha, rfl⟩ := hj
    rw [List.getD, ha]; rfl
theorem one_ints (l : List Int) : ∀ u ∈ ints l, u.oneCell' = true := by
  intro u hu
  simp [ints] at hu
  obtain ⟨a, _, rfl⟩ := hu
  rfl

/-- Keys appended to an empty row that has just been laid. -/
theorem keys_added {W : World} {X b off n c base : Nat} {l : List Int} (hX : W.heap[X]? = some (.cells #[] 2 (0, 0))) (hbX : base ≤ X) (hI : IAt W (some ⟨b, off, none⟩) n l) (hn : n ≤ 1048576) (hb : base ≤ W.heap.size) :
    ∃ g cap w3, (Builtin.append_ #[58, 58] 58 #[.slice (some ⟨X, 0, none⟩) 0 0, .slice (some ⟨b, off, none⟩) n c]).run Tryz.prog W = .ok (.slice (some ⟨g, 0, none⟩) n cap) w3 ∧
      Hid (w3.ownsRow base 2 1 (.slice (some ⟨g, 0, none⟩) n cap) n (ints l) ∧ W.grownBy w3 (some X)) := by
  obtain ⟨i0, hi, hz0, hz1, hz2⟩ := info_parts Tryz.infoI64
  have hown := own_empty (size := 1) hX hbX
  obtain ⟨v', w3, hrun, hown', hgrow, hsome⟩ := run_append_own (P := Tryz.prog) W base 58 58 2 i0 (.int .i64 0) 1 8 Tryz.underlying58 hi hz0 hz1 hz2 rfl (by decide) (.slice (some ⟨X, 0, none⟩) 0 0) 0 [] hown ⟨b, off, none⟩ n c (ints l) (by simp [ints, hI.1]) (news_ints hI) (one_ints l) (by unfold maxLen; omega) (by omega) hb
  rw [Nat.zero_add, List.nil_append] at hown'
  rcases id hown'.2 with ⟨e1, _⟩ | ⟨g, cap, cur, e1, _⟩
  · have := hsome.1 e1; simp at this
  · subst e1
    exact ⟨g, cap, w3, hrun, hown', hgrow⟩

/-- An append in a plain region, out of its own run. -/
theorem wpList_append_runC {P : Program} {w : World} {ops : Array Oper} {rest : List Oper} {o : Oper} {a : Act} {Q : Exit → Act → World → Prop} (hgd : o.guard = none) (s x : Operand) (t : TypeId)
    (hop : o.op = .call { callee := .builtin .append, args := #[s, x], argTypes := #[t, t] }) {v u v' : Value} {w' : World} (hs : a.eval s = v) (hx : a.eval x = u) (hrun : (Builtin.append_ #[t, t] o.type #[v, u]).run P w = .ok v' w') (h : wpList P ops Q rest (a.put o.dst v') w') :
    wpList P ops Q (o :: rest) a w :=
  wpList_plain hgd fun _ hK => by
    unfold Oper.wp
    simp [execOp, hop, resolve, invoke, builtin, hs, hx, hrun, Result.andThen]
    exact hK _ _ h

theorem grown_new {w W w3 : World} {X : Nat} (hb : Below w.heap.size w W) (hg : W.grownBy w3 (some X)) (hX : w.heap.size ≤ X) : Below w.heap.size w w3 := hb.grown hg hb.size (fun k e => by cases e; exact hX)

set_option maxRecDepth 20000 in
theorem clone_any (b off n cap : Nat) (l : List Int) (w : World) (hn : n ≤ 1048576) (hI : IAt w (some ⟨b, off, none⟩) n l) :
    Calls Tryz.prog 112 #[.slice (some ⟨b, off, none⟩) n cap] w fun e w' => ∃ g c, e = .returned (.slice (some ⟨g, 0, none⟩) n c) ∧ w'.ownsRow w.heap.size 2 1 (.slice (some ⟨g, 0, none⟩) n c) n (ints l) ∧ Below w.heap.size w w' := by
  have hbx : Below w.heap.size w (w.alloc (.cells #[] 2)) := below_box _
  obtain ⟨g, c, w3, hrun, HW⟩ := keys_added (W := w.alloc (.cells #[] 2)) (X := w.heap.size) (c := cap) (heap_alloc_new _ _) (Nat.le_refl _) (hI.below hbx (Nat.le_refl _)) hn hbx.size
  have HB : Hid (Below w.heap.size w (w.alloc (.cells #[] 2))) := hbx
  have hnil : ∀ W : World, (binOp BinOp.eql 58 (.slice (some ⟨b, off, none⟩) n cap) (.slice none 0 0)).run Tryz.prog W = .ok (.bool false) W := fun W => (by kernel_rfl)
  clear hI hbx
  go_enter Tryz.func112, Tryz.ntmps112
  go_wp2_with (first | (at_builtin; go_must (refine wpList_append_runC (by rfl) _ _ _ (by rfl) (by rfl) (by rfl) hrun ?_); clear hrun))
  go_ret
  exact ⟨g, c, rfl, HW.out.1, grown_new HB.out HW.out.2 (Nat.le_refl _)⟩

theorem Pu.set {w : World} {lo B b : Nat} {ps : List (Co × Value)} (h : Pu w lo B ps) (hB : B ≠ b) (hr : ∀ x ∈ ps, x.2.ownBlock ≠ some b) (i : Nat) (u : Value) : Pu (w.setCell ⟨b, i, none⟩ u) lo B ps := by
  obtain ⟨D, ho, hsz, hat⟩ := h.map
  exact ⟨⟨D, ho.setCell hB u, hsz, hat⟩, fun x hx => ownsRow_setCell_other (h.rows x hx) (a := ⟨b, i, none⟩) (hr x hx) u, h.base, h.apart, h.refs, h.wfs⟩
theorem Pu.newer {w : World} {lo B : Nat} {ps : List (Co × Value)} (h : Pu w lo B ps) {b : Nat} (hb : w.heap.size ≤ b) : ∀ x ∈ ps, x.2.ownBlock ≠ some b := fun x hx e => by
  have := ((h.rows x hx).lt b e).2
  omega

set_option maxRecDepth 20000 in
set_option maxHeartbeats 1000000 in
theorem put_any (B lo b off kc : Nat) (ps : List (Co × Value)) (op oq ov : Int) (ol : List Int) (ox oy oh : Int) (om : Bool) (w : World) (hP : Pu w lo B ps) (hlo : lo ≤ w.heap.size) (hlen : ol.length ≤ 1048576) (hI : IAt w (some ⟨b, off, none⟩) ol.length ol) (hp : (Lit.int .i64 op).wf = true) (hq : (Lit.int .i64 oq).wf = true) (hn : findP ps (op, oq) = none) (hl : ps.length ≤ 1000) :
    Calls Tryz.prog 88 #[.map (some B), .agg #[.int .i64 op, .int .i64 oq, .int .i64 ov, .slice (some ⟨b, off, none⟩) ol.length kc, .int .i64 ox, .int .i64 oy, .int .i64 oh, .bool om]] w fun e w' => e = .returned (.tuple #[]) ∧ Hid (∃ u, Pu w' lo B (ps ++ [(⟨op, oq, ov, ol, ox, oy, oh, om⟩, u)])) ∧ Chg w w' B (B + 1) := by
  have hbx : Below w.heap.size w (w.alloc (.cells #[.int .i64 op, .int .i64 oq, .int .i64 ov, .slice (some ⟨b, off, none⟩) ol.length kc, .int .i64 ox, .int .i64 oy, .int .i64 oh, .bool om] 86)) := below_box _
  have hC := clone_any b off ol.length kc ol (w.alloc (.cells #[.int .i64 op, .int .i64 oq, .int .i64 ov, .slice (some ⟨b, off, none⟩) ol.length kc, .int .i64 ox, .int .i64 oy, .int .i64 oh, .bool om] 86)) hlen (hI.below hbx (Nat.le_refl _))
  have HX : Hid ((w.alloc (.cells #[.int .i64 op, .int .i64 oq, .int .i64 ov, .slice (some ⟨b, off, none⟩) ol.length kc, .int .i64 ox, .int .i64 oy, .int .i64 oh, .bool om] 86)).heap[w.heap.size]? = some (.cells #[.int .i64 op, .int .i64 oq, .int .i64 ov, .slice (some ⟨b, off, none⟩) ol.length kc, .int .i64 ox, .int .i64 oy, .int .i64 oh, .bool om] 86 (0, 0))) := heap_alloc_new _ _
  have HBX : Hid (Below w.heap.size w (w.alloc (.cells #[.int .i64 op, .int .i64 oq, .int .i64 ov, .slice (some ⟨b, off, none⟩) ol.length kc, .int .i64 ox, .int .i64 oy, .int .i64 oh, .bool om] 86))) := hbx
  have HP : Hid (Pu w lo B ps) := hP
  have HN : Hid (findP ps (op, oq) = none) := hn
  have HWF : Hid ((Lit.int .i64 op).wf = true ∧ (Lit.int .i64 oq).wf = true) := ⟨hp, hq⟩
  clear hbx hI hP hn hp hq
  go_enter Tryz.func88, Tryz.ntmps88
  have key : ∀ w2 g c, w2.ownsRow (w.heap.size + 1) 2 1 (.slice (some ⟨g, 0, none⟩) ol.length c) ol.length (ints ol) → Below (w.heap.size + 1) (w.alloc (.cells #[.int .i64 op, .int .i64 oq, .int .i64 ov, .slice (some ⟨b, off, none⟩) ol.length kc, .int .i64 ox, .int .i64 oy, .int .i64 oh, .bool om] 86)) w2 →
      ∃ w', (Instr.mapUpdate 97 (.map (some B)) (.agg #[.int .i64 op, .int .i64 oq]) (.agg #[.int .i64 op, .int .i64 oq, .int .i64 ov, .slice (some ⟨g, 0, none⟩) ol.length c, .int .i64 ox, .int .i64 oy, .int .i64 oh, .bool om])).run Tryz.prog (w2.setCell ⟨w.heap.size, 3, none⟩ (.slice (some ⟨g, 0, none⟩) ol.length c)) = .ok () w' ∧
        Hid (Pu w' lo B (ps ++ [(⟨op, oq, ov, ol, ox, oy, oh, om⟩, .slice (some ⟨g, 0, none⟩) ol.length c)])) ∧ Hid (Chg w w' B (B + 1)) := by
    intro w2 g c hrow hb2
    have hsz : (w.alloc (.cells #[.int .i64 op, .int .i64 oq, .int .i64 ov, .slice (some ⟨b, off, none⟩) ol.length kc, .int .i64 ox, .int .i64 oy, .int .i64 oh, .bool om] 86)).heap.size = w.heap.size + 1 := by simp
    have hb2' : Below (w.alloc (.cells #[.int .i64 op, .int .i64 oq, .int .i64 ov, .slice (some ⟨b, off, none⟩) ol.length kc, .int .i64 ox, .int .i64 oy, .int .i64 oh, .bool om] 86)).heap.size (w.alloc (.cells #[.int .i64 op, .int .i64 oq, .int .i64 ov, .slice (some ⟨b, off, none⟩) ol.length kc, .int .i64 ox, .int .i64 oy, .int .i64 oh, .bool om] 86)) w2 := by rw [hsz]; exact hb2
    have hb3 : Below w.heap.size w w2 := HBX.out.trans (hb2.mono (by omega))
    have hBl := HP.out.lt
    have h1 : Pu w2 lo B ps := HP.out.below hb3
    have hgb := (hrow.lt g rfl).1
    have h2 := h1.set (b := w.heap.size) (by omega) (HP.out.newer (Nat.le_refl _)) 3 (.slice (some ⟨g, 0, none⟩) ol.length c)
    have hrow2 : (w2.setCell ⟨w.heap.size, 3, none⟩ (.slice (some ⟨g, 0, none⟩) ol.length c)).ownsRow lo 2 1 (.slice (some ⟨g, 0, none⟩) ol.length c) ol.length (ints ol) :=
      Joins.ownsRow_le (ownsRow_setCell_below hrow (a := ⟨w.heap.size, 3, none⟩) (show w.heap.size < _ by omega) _) (by omega)
    obtain ⟨w', hrun, hPu, hg⟩ := h2.store (x := (⟨op, oq, ov, ol, ox, oy, oh, om⟩, .slice (some ⟨g, 0, none⟩) ol.length c)) HWF.out.1 HWF.out.2 HN.out hl hrow2 (fun y hy b' hb' e => by
      have : g = b' := by simpa [Value.ownBlock] using e
      have := ((HP.out.rows y hy).lt b' hb').2
      omega)
    refine ⟨w', hrun, hPu, ?_⟩
    have c2 : Below w.heap.size w (w2.setCell ⟨w.heap.size, 3, none⟩ (.slice (some ⟨g, 0, none⟩) ol.length c)) := hb3.setCell (p := ⟨w.heap.size, 3, none⟩) (Nat.le_refl _) _
    exact (Chg.of_below c2 _ _).trans (Chg.of_grown hg fun k e => by cases e; omega)
  clear HWF HN
  go_wp2_with (first
    | (go_at_call 112; (with_reducible refine hC.mono ?_); clear hC; rintro e w2 ⟨g, c, rfl, hrow, hb2⟩; have hsz : (w.alloc (.cells #[.int .i64 op, .int .i64 oq, .int .i64 ov, .slice (some ⟨b, off, none⟩) ol.length kc, .int .i64 ox, .int .i64 oy, .int .i64 oh, .bool om] 86)).heap.size = w.heap.size + 1 := (by simp); rw [hsz] at hrow hb2; obtain ⟨w', hrun, HPU, HCH⟩ := key w2 g c hrow hb2; obtain ⟨⟨s0, s1, s2, s3, s4, s5, s6, s7⟩, f0, f1, f2, f3, f4, f5, f6, f7⟩ := cells8 ((hb2.block w.heap.size (by omega)).trans HX.out); clear hrow hb2 key))
  go_end0
  exact ⟨rfl, ⟨_, HPU.out⟩, HCH.out⟩

end Go.Proofs.YtjgilpkkfpbefaaGreatDoor

namespace Go.Proofs.YtjgilpkkfpbefaaGreatDoor
open Go.RowKit Go.Maps Go.WideMaps

def dropP (ps : List (Co × Value)) (r : Int × Int) : List (Co × Value) := ps.filter fun x => decide (refOf x ≠ r)
theorem find_drop {ps : List (Co × Value)} {r t : Int × Int} : findP (dropP ps r) t = if t = r then none else findP ps t := by
  unfold findP dropP
  induction ps with
  | nil => simp
  | cons x l ih =>
    by_cases e : refOf x = r
    · rw [List.filter_cons_of_neg (by simp [e]), ih]
      by_cases e2 : t = r
      · rw [if_pos e2, if_pos e2]
      · rw [if_neg e2, if_neg e2, List.find?_cons_of_neg (by simp; exact fun e3 => e2 (e3.symm.trans e))]
    · rw [List.filter_cons_of_pos (by simp [e])]
      by_cases e3 : refOf x = t
      · rw [List.find?_cons_of_pos (by simp [e3]), if_neg (fun e4 => e (e3.trans e4)), List.find?_cons_of_pos (by simp [e3])]
      · rw [List.find?_cons_of_neg (by simp [e3]), ih, List.find?_cons_of_neg (by simp [e3])]

theorem refs_inj {ps : List (Co × Value)} (h : ps.Pairwise fun x y => refOf x ≠ refOf y) : ∀ x ∈ ps, ∀ y ∈ ps, refOf x = refOf y → x = y := by
  induction ps with
  | nil => intro x hx; cases hx
  | cons a l ih =>
    rw [List.pairwise_cons] at h
    intro x hx y hy e
    rcases List.mem_cons.1 hx with e1 | h1 <;> rcases List.mem_cons.1 hy with e2 | h2
    · rw [e1, e2]
    · rw [e1] at e; exact absurd e (h.1 y h2)
    · rw [e2] at e; exact absurd e.symm (h.1 x h1)
    · exact ih h.2 x h1 y h2 e
theorem find_mem {ps : List (Co × Value)} (h : ps.Pairwise fun x y => refOf x ≠ refOf y) {x : Co × Value} (hx : x ∈ ps) : findP ps (refOf x) = some x := by
  cases hf : findP ps (refOf x) with
  | none =>
    unfold findP at hf
    rw [List.find?_eq_none] at hf
    exact absurd (by simp) (hf x hx)
  | some y =>
    unfold findP at hf
    have h1 := List.mem_of_find?_eq_some hf
    have h2 := List.find?_some hf
    rw [refs_inj h y h1 x hx (by simpa using h2)]
theorem find_get {ps : List (Co × Value)} {r : Int × Int} {x : Co × Value} (h : findP ps r = some x) : x ∈ ps ∧ refOf x = r := by
  unfold findP at h
  exact ⟨List.mem_of_find?_eq_some h, by simpa using List.find?_some h⟩
theorem drop_length {ps : List (Co × Value)} (h : ps.Pairwise fun x y => refOf x ≠ refOf y) {r : Int × Int} {x : Co × Value} (hx : findP ps r = some x) : (dropP ps r).length + 1 = ps.length := by
  induction ps with
  | nil => simp [findP] at hx
  | cons a l ih =>
    rw [List.pairwise_cons] at h
    by_cases e : refOf a = r
    · have h2 : dropP l r = l := by
        unfold dropP
        rw [List.filter_eq_self]
        intro y hy
        have := h.1 y hy
        rw [e] at this
        simpa using this.symm
      have h3 : dropP (a :: l) r = dropP l r := by unfold dropP; rw [List.filter_cons_of_neg (by simp [e])]
      rw [h3, h2]
      rfl
    · have h3 : dropP (a :: l) r = a :: dropP l r := by unfold dropP; rw [List.filter_cons_of_pos (by simp [e])]
      have h4 : findP l r = some x := by unfold findP at hx ⊢; rwa [List.find?_cons_of_neg (by simp [e])] at hx
      have := ih h.2 h4
      rw [h3]
      simp only [List.length_cons]
      omega

theorem Pu.drop {w : World} {lo B : Nat} {ps : List (Co × Value)} (h : Pu w lo B ps) {r : Int × Int} {x : Co × Value} (hx : findP ps r = some x) (hp : (Lit.int .i64 r.1).wf = true) (hq : (Lit.int .i64 r.2).wf = true) (ty : TypeId) :
    ∃ w', (Builtin.delete_ #[97, 81] ty #[.map (some B), encR r]).run Tryz.prog w = .ok (.tuple #[]) w' ∧ Pu w' lo B (dropP ps r) ∧ w.mapTurned w' B := by
  obtain ⟨D, ho, hsz, hat⟩ := h.map
  obtain ⟨kl, hk⟩ := keyRf (r := r) hp hq
  obtain ⟨w', hrun, ho', hg⟩ := ho.drop kR Tryz.underlying97 hk ty
  have hyes : Maps.has D kl = true := by have := hat r kl hk; rw [hx] at this; exact this.1
  have hs2 : Maps.size (D.del kl) = (dropP ps r).length := by
    have h1 := size_del (k := kl) (ho.tidy kR)
    have h2 := drop_length h.refs hx
    rw [hyes] at h1
    simp at h1
    omega
  have ho2 := ownsMap_tight ho'
  rw [hs2] at ho2
  have nb : ∀ y ∈ ps, y.2.ownBlock ≠ some B := fun y hy e => by
    obtain ⟨es, clock, hb, _⟩ := ho
    rcases (h.rows y hy).2 with ⟨e1, _⟩ | ⟨g, c, cur, e1, _, hh, _⟩
    · rw [e1] at e; cases e
    · rw [e1] at e
      have : g = B := by simpa [Value.ownBlock] using e
      rw [this, hb] at hh
      cases hh
  have hsub : ∀ y ∈ dropP ps r, y ∈ ps := fun y hy => (List.mem_filter.1 hy).1
  refine ⟨w', hrun, ⟨⟨D.del kl, ho2, hs2, fun t kl' ht => ?_⟩, fun y hy => (h.rows y (hsub y hy)).kept (hg.grown) (.inr (nb y (hsub y hy))), h.base, h.apart.filter _, h.refs.filter _, fun y hy => h.wfs y (hsub y hy)⟩, hg⟩
  rw [find_drop]
  by_cases e : t = r
  · subst e
    rw [hk] at ht
    cases ht
    rw [if_pos rfl]
    exact ⟨has_del_same, fun zd => atKey_del_same zd⟩
  · rw [if_neg e]
    have hne : kl' ≠ kl := fun e2 => e (encR_inj (kR.inj ht (by rw [e2]; exact hk)))
    have hl2 := hat t kl' ht
    cases hf : findP ps t with
    | none =>
      rw [hf] at hl2
      exact ⟨(has_del_other hne).trans hl2.1, fun zd => (atKey_del_other hne zd).trans (hl2.2 zd)⟩
    | some y =>
      rw [hf] at hl2
      exact ⟨(has_del_other hne).trans hl2.1, fun zd => (atKey_del_other hne zd).trans (hl2.2 zd)⟩

end Go.Proofs.YtjgilpkkfpbefaaGreatDoor

namespace Go.Proofs.YtjgilpkkfpbefaaGreatDoor
open Go.RowKit Go.Maps Go.WideMaps

/-- Coins of one's own, read as coins. -/
theorem COwn.at {w : World} {lo hi n : Nat} {v : Value} {f : Nat → Co} {kv : Nat → Value} (h : COwn w lo hi v n f kv) {cs : List Co} (hn : cs.length = n) (hc : ∀ j, j < n → cs.getD j C0 = f j) (hl : ∀ j, j < n → (f j).l.length ≤ 1048576) :
    ∃ a c, v = .slice a n c ∧ CAt w a n cs := by
  obtain ⟨xs, h1, h2⟩ := h.row
  rcases id h1.2 with ⟨rfl, rfl⟩ | ⟨g, cap, cur, rfl, hbg, hgg, hnc, hcm, _⟩
  · exact ⟨none, 0, rfl, hn, .inl rfl⟩
  · refine ⟨some ⟨g, 0, none⟩, cap, rfl, hn, .inr ⟨g, 0, rfl, (h1.lt g rfl).2, fun j hj => ?_⟩⟩
    have hk := (h.keys j hj).1
    have h5 := hl j hj
    obtain ⟨a0, a1, a2, a3, a4, a5, a6, a7⟩ := h2 j hj
    have hxl := h1.1
    rw [hc j hj]
    have cell : ∀ i, i < 8 → w.cell? ⟨g, 0 + j * 8 + i, none⟩ = xs[j * 8 + i]? := fun i hi => by rw [Nat.zero_add]; exact h1.cellAt (j * 8 + i) (by omega)
    have cell0 : w.cell? ⟨g, 0 + j * 8, none⟩ = xs[j * 8]? := cell 0 (by omega)
    rcases id hk.2 with ⟨e, e2⟩ | ⟨g', cap', cur', e, _⟩
    · refine ⟨none, 0, ⟨cell0.trans a0, (cell 1 (by omega)).trans a1, (cell 2 (by omega)).trans a2, ?_, (cell 4 (by omega)).trans a4, (cell 5 (by omega)).trans a5, (cell 6 (by omega)).trans a6, (cell 7 (by omega)).trans a7⟩, by unfold maxLen; omega, rfl, .inl e2⟩
      rw [cell 3 (by omega), a3, e, e2]
    · refine ⟨some ⟨g', 0, none⟩, cap', ⟨cell0.trans a0, (cell 1 (by omega)).trans a1, (cell 2 (by omega)).trans a2, ?_, (cell 4 (by omega)).trans a4, (cell 5 (by omega)).trans a5, (cell 6 (by omega)).trans a6, (cell 7 (by omega)).trans a7⟩, by unfold maxLen; omega, ?_⟩
      · rw [cell 3 (by omega), a3, e]
      · rw [e] at hk
        exact IAt.owned hk rfl

end Go.Proofs.YtjgilpkkfpbefaaGreatDoor

namespace Go.Proofs.YtjgilpkkfpbefaaGreatDoor
open Go.RowKit Go.Maps Go.WideMaps

/-- A row of coins of its own under way in block B: k of them are there. -/
def RowD (wr : World) (B n k : Nat) (cs : List Co) : Prop :=
  ∃ xs, ∃ kv : Nat → Value, wr.ownsRow B 86 8 (.slice (some ⟨B, 0, none⟩) n n) n xs ∧ (∀ j, j < k → CellsC xs j (cs.getD j C0) (kv j) ∧ wr.ownsRow (B + 1) 2 1 (kv j) (cs.getD j C0).l.length (ints (cs.getD j C0).l)) ∧
    ∀ i j, i < j → j < k → ∀ b, Value.ownBlock (kv i) = some b → Value.ownBlock (kv j) ≠ some b

set_option maxHeartbeats 1000000 in
theorem toD_round {wr w2 : World} {B n k : Nat} {cs : List Co} {p q v x y h : Int} {m : Bool} {l : List Int} {g c : Nat} (ho : (⟨p, q, v, l, x, y, h, m⟩ : Co) = cs.getD k C0) (hlt : k < n) (hR : RowD wr B n k cs) (hb : Below wr.heap.size wr w2) (hk : w2.ownsRow wr.heap.size 2 1 (.slice (some ⟨g, 0, none⟩) l.length c) l.length (ints l)) (hBl : B < wr.heap.size) :
    ∃ u0 u1 u2 u3 u4 u5 u6 u7, (w2.cell? ⟨B, k * 8, none⟩ = some u0 ∧ w2.cell? ⟨B, k * 8 + 1, none⟩ = some u1 ∧ w2.cell? ⟨B, k * 8 + 2, none⟩ = some u2 ∧ w2.cell? ⟨B, k * 8 + 3, none⟩ = some u3 ∧ w2.cell? ⟨B, k * 8 + 4, none⟩ = some u4 ∧ w2.cell? ⟨B, k * 8 + 5, none⟩ = some u5 ∧ w2.cell? ⟨B, k * 8 + 6, none⟩ = some u6 ∧ w2.cell? ⟨B, k * 8 + 7, none⟩ = some u7) ∧ (w2.frozen? ⟨B, k * 8, none⟩ = false ∧ w2.frozen? ⟨B, k * 8 + 1, none⟩ = false ∧ w2.frozen? ⟨B, k * 8 + 2, none⟩ = false ∧ w2.frozen? ⟨B, k * 8 + 3, none⟩ = false ∧ w2.frozen? ⟨B, k * 8 + 4, none⟩ = false ∧ w2.frozen? ⟨B, k * 8 + 5, none⟩ = false ∧ w2.frozen? ⟨B, k * 8 + 6, none⟩ = false ∧ w2.frozen? ⟨B, k * 8 + 7, none⟩ = false) ∧
      Hid (RowD ((((((((w2.setCell ⟨B, k * 8, none⟩ (.int .i64 p)).setCell ⟨B, k * 8 + 1, none⟩ (.int .i64 q)).setCell ⟨B, k * 8 + 2, none⟩ (.int .i64 v)).setCell ⟨B, k * 8 + 3, none⟩ (.slice (some ⟨g, 0, none⟩) l.length c)).setCell ⟨B, k * 8 + 4, none⟩ (.int .i64 x)).setCell ⟨B, k * 8 + 5, none⟩ (.int .i64 y)).setCell ⟨B, k * 8 + 6, none⟩ (.int .i64 h)).setCell ⟨B, k * 8 + 7, none⟩ (.bool m)) B n (k + 1) cs) := by
  obtain ⟨xs, kv, hown0, hxs, hap⟩ := hR
  have hown := hown0.kept (w' := w2) (row := none) ⟨hb.os, hb.tape, hb.output, hb.size, fun k hk _ => hb.block k hk⟩ (by simp [Value.ownBlock])
  have hxl := hown.1
  have r1 := (hown.stored (k * 8) (.int .i64 p)).1
  have r2 := (r1.stored (k * 8 + 1) (.int .i64 q)).1
  have r3 := (r2.stored (k * 8 + 2) (.int .i64 v)).1
  have r4 := (r3.stored (k * 8 + 3) (.slice (some ⟨g, 0, none⟩) l.length c)).1
  have r5 := (r4.stored (k * 8 + 4) (.int .i64 x)).1
  have r6 := (r5.stored (k * 8 + 5) (.int .i64 y)).1
  have r7 := (r6.stored (k * 8 + 6) (.int .i64 h)).1
  have r8 := (r7.stored (k * 8 + 7) (.bool m)).1
  have hgl := (hk.lt g rfl).1
  have st : ∀ (W : World) (i : Nat) (u : Value) {z : Value} {d : Nat} {zs : List Value}, W.ownsRow (B + 1) 2 1 z d zs → (W.setCell ⟨B, i, none⟩ u).ownsRow (B + 1) 2 1 z d zs := fun W i u z d zs hW => ownsRow_setCell_below hW (a := ⟨B, i, none⟩) (show B < B + 1 by omega) u
  refine ⟨_, _, _, _, _, _, _, _, ⟨(hown.cellAt (k * 8) (by omega)).trans (List.getElem?_eq_getElem (by omega)), (hown.cellAt (k * 8 + 1) (by omega)).trans (List.getElem?_eq_getElem (by omega)), (hown.cellAt (k * 8 + 2) (by omega)).trans (List.getElem?_eq_getElem (by omega)), (hown.cellAt (k * 8 + 3) (by omega)).trans (List.getElem?_eq_getElem (by omega)), (hown.cellAt (k * 8 + 4) (by omega)).trans (List.getElem?_eq_getElem (by omega)), (hown.cellAt (k * 8 + 5) (by omega)).trans (List.getElem?_eq_getElem (by omega)), (hown.cellAt (k * 8 + 6) (by omega)).trans (List.getElem?_eq_getElem (by omega)), (hown.cellAt (k * 8 + 7) (by omega)).trans (List.getElem?_eq_getElem (by omega))⟩, ⟨hown.frozenAt _, hown.frozenAt _, hown.frozenAt _, hown.frozenAt _, hown.frozenAt _, hown.frozenAt _, hown.frozenAt _, hown.frozenAt _⟩, _, fun i => if i = k then .slice (some ⟨g, 0, none⟩) l.length c else kv i, r8, fun j hj => ?_, fun i j hij hj b hbi => ?_⟩
  · by_cases e : k = j
    · subst e
      rw [← ho]
      refine ⟨⟨?_, ?_, ?_, ?_, ?_, ?_, ?_, ?_⟩, ?_⟩
      · rw [List.getElem?_set_ne (by omega), List.getElem?_set_ne (by omega), List.getElem?_set_ne (by omega), List.getElem?_set_ne (by omega), List.getElem?_set_ne (by omega), List.getElem?_set_ne (by omega), List.getElem?_set_ne (by omega), List.getElem?_set_self (by omega)]
      · rw [List.getElem?_set_ne (by omega), List.getElem?_set_ne (by omega), List.getElem?_set_ne (by omega), List.getElem?_set_ne (by omega), List.getElem?_set_ne (by omega), List.getElem?_set_ne (by omega), List.getElem?_set_self (by simp; omega)]
      · rw [List.getElem?_set_ne (by omega), List.getElem?_set_ne (by omega), List.getElem?_set_ne (by omega), List.getElem?_set_ne (by omega), List.getElem?_set_ne (by omega), List.getElem?_set_self (by simp; omega)]
      · rw [List.getElem?_set_ne (by omega), List.getElem?_set_ne (by omega), List.getElem?_set_ne (by omega), List.getElem?_set_ne (by omega), List.getElem?_set_self (by simp; omega)]; simp
      · rw [List.getElem?_set_ne (by omega), List.getElem?_set_ne (by omega), List.getElem?_set_ne (by omega), List.getElem?_set_self (by simp; omega)]
      · rw [List.getElem?_set_ne (by omega), List.getElem?_set_ne (by omega), List.getElem?_set_self (by simp; omega)]
      · rw [List.getElem?_set_ne (by omega), List.getElem?_set_self (by simp; omega)]
      · rw [List.getElem?_set_self (by simp; omega)]
      · simp only [if_true]
        exact (st _ _ _ (st _ _ _ (st _ _ _ (st _ _ _ (st _ _ _ (st _ _ _ (st _ _ _ (st _ _ _ (Joins.ownsRow_le hk (by omega))))))))))
    · obtain ⟨⟨e0, e1, e2, e3, e4, e5, e6, e7⟩, hr⟩ := hxs j (by omega)
      dsimp only
      rw [if_neg (Ne.symm e)]
      refine ⟨⟨?_, ?_, ?_, ?_, ?_, ?_, ?_, ?_⟩, ?_⟩
      · rw [List.getElem?_set_ne (by omega), List.getElem?_set_ne (by omega), List.getElem?_set_ne (by omega), List.getElem?_set_ne (by omega), List.getElem?_set_ne (by omega), List.getElem?_set_ne (by omega), List.getElem?_set_ne (by omega), List.getElem?_set_ne (by omega)]; exact e0
      · rw [List.getElem?_set_ne (by omega), List.getElem?_set_ne (by omega), List.getElem?_set_ne (by omega), List.getElem?_set_ne (by omega), List.getElem?_set_ne (by omega), List.getElem?_set_ne (by omega), List.getElem?_set_ne (by omega), List.getElem?_set_ne (by omega)]; exact e1
      · rw [List.getElem?_set_ne (by omega), List.getElem?_set_ne (by omega), List.getElem?_set_ne (by omega), List.getElem?_set_ne (by omega), List.getElem?_set_ne (by omega), List.getElem?_set_ne (by omega), List.getElem?_set_ne (by omega), List.getElem?_set_ne (by omega)]; exact e2
      · rw [List.getElem?_set_ne (by omega), List.getElem?_set_ne (by omega), List.getElem?_set_ne (by omega), List.getElem?_set_ne (by omega), List.getElem?_set_ne (by omega), List.getElem?_set_ne (by omega), List.getElem?_set_ne (by omega), List.getElem?_set_ne (by omega)]; exact e3
      · rw [List.getElem?_set_ne (by omega), List.getElem?_set_ne (by omega), List.getElem?_set_ne (by omega), List.getElem?_set_ne (by omega), List.getElem?_set_ne (by omega), List.getElem?_set_ne (by omega), List.getElem?_set_ne (by omega), List.getElem?_set_ne (by omega)]; exact e4
      · rw [List.getElem?_set_ne (by omega), List.getElem?_set_ne (by omega), List.getElem?_set_ne (by omega), List.getElem?_set_ne (by omega), List.getElem?_set_ne (by omega), List.getElem?_set_ne (by omega), List.getElem?_set_ne (by omega), List.getElem?_set_ne (by omega)]; exact e5
      · rw [List.getElem?_set_ne (by omega), List.getElem?_set_ne (by omega), List.getElem?_set_ne (by omega), List.getElem?_set_ne (by omega), List.getElem?_set_ne (by omega), List.getElem?_set_ne (by omega), List.getElem?_set_ne (by omega), List.getElem?_set_ne (by omega)]; exact e6
      · rw [List.getElem?_set_ne (by omega), List.getElem?_set_ne (by omega), List.getElem?_set_ne (by omega), List.getElem?_set_ne (by omega), List.getElem?_set_ne (by omega), List.getElem?_set_ne (by omega), List.getElem?_set_ne (by omega), List.getElem?_set_ne (by omega)]; exact e7
      · exact (st _ _ _ (st _ _ _ (st _ _ _ (st _ _ _ (st _ _ _ (st _ _ _ (st _ _ _ (st _ _ _ (hr.kept (grown_of_below hb) (by cases Value.ownBlock (kv j) <;> simp))))))))))
  · have hik : i ≠ k := by omega
    dsimp only at hbi ⊢
    rw [if_neg hik] at hbi
    by_cases e : j = k
    · rw [if_pos e]
      have h1 := ((hxs i (by omega)).2.lt b hbi).2
      intro e2
      have : g = b := by simpa [Value.ownBlock] using e2
      omega
    · rw [if_neg e]
      exact hap i j hij (by omega) b hbi

theorem RowD.own {w : World} {B n : Nat} {cs : List Co} (h : RowD w B n n cs) : ∃ kv, COwn w B w.heap.size (.slice (some ⟨B, 0, none⟩) n n) n (fun j => cs.getD j C0) kv := by
  obtain ⟨xs, kv, h1, h2, h3⟩ := h
  exact ⟨kv, ⟨xs, h1, fun j hj => (h2 j hj).1⟩, fun b hb => (h1.lt b hb).2, fun j hj => ⟨Joins.ownsRow_le (h2 j hj).2 (by omega), fun b hb => ((h2 j hj).2.lt b hb).2⟩, h3⟩

set_option maxHeartbeats 1000000 in
theorem toCsO_any (a : Option Addr) (n cap : Nat) (cs : List Co) (w : World) (hl : n ≤ 1048576) (hk : ∀ j, j < n → (cs.getD j C0).l.length ≤ 1048576) (hs : CAt w a n cs) :
    Calls Tryz.prog 9 #[.slice a n cap] w fun e w' => ∃ g c kv, e = .returned (.slice (some ⟨g, 0, none⟩) n c) ∧ COwn w' w.heap.size w'.heap.size (.slice (some ⟨g, 0, none⟩) n c) n (fun j => cs.getD j C0) kv ∧ n ≤ c ∧ c ≤ maxLen ∧ Below w.heap.size w w' := by
  have HSS : Hid (CAt w a n cs) := hs
  have HKL : Hid (∀ j, j < n → (cs.getD j C0).l.length ≤ 1048576) := hk
  clear hs hk
  obtain ⟨i0, hi, hz0, hz1, hz2⟩ := info_parts Tryz.infoCoin
  have hml : n ≤ maxLen := by unfold maxLen; omega
  go_enter Tryz.func9, Tryz.ntmps9
  go_wp2_with (first | (at_make; refine wpList_make_full _ rfl _ _ 41 rfl w.heap.size 86 i0 (.agg #[.int .i64 0, .int .i64 0, .int .i64 0, .slice none 0 0, .int .i64 0, .int .i64 0, .int .i64 0, .bool false]) 8 Tryz.underlying41 hi hz0 hz1 _ _ _ _ n rfl rfl (by omega) (by omega) (by rw [hz2]; omega) hml (Nat.le_refl _) ?_; intro w1 ho1 hg1))
  have hb1 : Below w.heap.size w w1 := (Below.refl _ _).grown hg1 (Nat.le_refl _) (fun k h => by cases h)
  have hB1 : w.heap.size < w1.heap.size := (ho1.lt _ rfl).2
  go_loopw [4] (fun i wr => ∃ k : Nat, k ≤ n ∧ i = .int .i64 k ∧ Below w.heap.size w wr ∧ w.heap.size < wr.heap.size ∧ Hid (RowD wr w.heap.size n k cs)) (fun i _ => n - (intOf i).toNat)
  case atStart => exact ⟨0, Nat.zero_le _, rfl, hb1, hB1, _, fun _ => .slice none 0 0, ho1, fun j hj => (by omega), fun i j _ hj => (by omega)⟩
  case round =>
    obtain ⟨k, hk, rfl, hbel, hBw, HX⟩ := hrel
    clear ho1 hg1 hb1 hB1
    by_cases hlt : k < n
    · rcases HSS.out.2 with h0 | ⟨b, off, ha, hb, hc⟩
      · omega
      subst ha
      obtain ⟨o, ho⟩ : ∃ o, o = cs.getD k C0 := ⟨_, rfl⟩
      obtain ⟨ka, kc, c0, c4, c5⟩ := hc k hlt
      have c6 := HKL.out k hlt
      rw [← ho] at c0 c4 c5 c6
      obtain ⟨op, oq, ov, ol, ox, oy, oh, om⟩ := o
      have HS : Hid ((⟨op, oq, ov, ol, ox, oy, oh, om⟩ : Co) = cs.getD k C0) := ho
      obtain ⟨x0, x1, x2, x3, x4, x5, x6, x7⟩ := c0.below hbel hb
      simp only at x0 x1 x2 x3 x4 x5 x6 x7
      have hto := toCoin_any op oq ov ka ol.length kc ol ox oy oh om wr c6 (c5.below hbel (Nat.le_refl _))
      clear hc ho c0 c4 c5 c6
      go_wp2_with (first | (go_at_call 30; (with_reducible refine hto.mono ?_); clear hto; rintro e w2 ⟨g, c, rfl, hk2, hb2⟩; obtain ⟨u0, u1, u2, u3, u4, u5, u6, u7, ⟨y0, y1, y2, y3, y4, y5, y6, y7⟩, ⟨f0, f1, f2, f3, f4, f5, f6, f7⟩, HX2⟩ := toD_round HS.out hlt HX.out hb2 hk2 hBw; have HB2 : Hid (Below w.heap.size w w2) := hbel.trans (hb2.mono hbel.size); have hBw2 := Nat.lt_of_lt_of_le hBw hb2.size; clear hk2 hb2))
      go_roundw
      case rel => exact ⟨k + 1, by omega, by go_num, ((((((((HB2.out.setCell (Nat.le_refl _) _).setCell (Nat.le_refl _) _).setCell (Nat.le_refl _) _).setCell (Nat.le_refl _) _).setCell (Nat.le_refl _) _).setCell (Nat.le_refl _) _).setCell (Nat.le_refl _) _).setCell (Nat.le_refl _) _), by simpa using hBw2, HX2⟩
      case measure => simp [intOf]; omega
    · obtain rfl : k = n := by omega
      go_wp2
      go_ret
      obtain ⟨kv, hO⟩ := HX.out.own
      exact ⟨_, _, kv, rfl, hO, Nat.le_refl _, hml, hbel⟩

end Go.Proofs.YtjgilpkkfpbefaaGreatDoor

namespace Go.Proofs.YtjgilpkkfpbefaaGreatDoor
open Go.RowKit Go.Maps Go.WideMaps

theorem rises {pr : Int × Int} {cs : List Co} (h : csR pr cs = 0) : (∀ c ∈ cs, coinR c = 0) ∧ (∀ c ∈ cs, 0 < cmpR (c.p, c.q) pr) ∧ cs.Pairwise (fun a b => 0 < cmpR (b.p, b.q) (a.p, a.q)) := by
  induction cs generalizing pr with
  | nil => exact ⟨fun c hc => (by cases hc), fun c hc => (by cases hc), List.Pairwise.nil⟩
  | cons c t ih =>
    have h0 : coinR c = 0 := by
      by_cases e : coinR c = 0
      · exact e
      · rw [csR_bad rfl e] at h; exact absurd h e
    have h1 : ¬ cmpR (c.p, c.q) pr ≤ 0 := fun e => by rw [csR_form h0 e] at h; cases h
    rw [csR_go h0 h1] at h
    obtain ⟨i1, i2, i3⟩ := ih h
    refine ⟨fun d hd => ?_, fun d hd => ?_, List.Pairwise.cons (fun d hd => i2 d hd) i3⟩
    · rcases List.mem_cons.1 hd with rfl | hd
      · exact h0
      · exact i1 d hd
    · rcases List.mem_cons.1 hd with rfl | hd
      · omega
      · obtain ⟨p1, p2⟩ := pr
        have a := cmpR_pos.1 (i2 d hd)
        have b := cmpR_pos.1 (show 0 < cmpR (c.p, c.q) (p1, p2) by omega)
        exact cmpR_pos.2 (by omega)
theorem coin_more {c : Co} (h : coinR c = 0) : (1 ≤ c.p ∧ c.p ≤ 60) ∧ (0 ≤ c.q ∧ c.q ≤ 3) ∧ 1 ≤ c.l.length ∧ c.l.length ≤ 3 := by
  unfold coinR at h
  by_cases h1 : refB (c.p, c.q) = false ∨ inB c.h 0 999 = false
  · rw [if_pos h1] at h; cases h
  · rw [if_neg h1] at h; unfold outR at h
    have h2 : refB (c.p, c.q) = true := by cases e : refB (c.p, c.q); exact absurd (.inl e) h1; rfl
    by_cases h3 : inB c.v 1 1000000 = false
    · rw [if_pos h3] at h; cases h
    · rw [if_neg h3] at h; unfold ruleR at h
      by_cases h4 : inB c.l.length 1 3 = false
      · rw [if_pos h4] at h; cases h
      · have h5 : inB c.l.length 1 3 = true := by cases e : inB c.l.length 1 3; exact absurd e h4; rfl
        simp [refB, inB] at h2 h5
        omega
theorem coins_rise {cs : List Co} (h : coinsR cs = 0) : cs.length ≤ 40 ∧ (∀ c ∈ cs, coinR c = 0) ∧ cs.Pairwise (fun a b => 0 < cmpR (b.p, b.q) (a.p, a.q)) := by
  unfold coinsR at h
  by_cases e : 40 < cs.length
  · rw [if_pos e] at h; cases h
  · rw [if_neg e] at h; exact ⟨by omega, (rises h).1, (rises h).2.2⟩
theorem find_none {ps : List (Co × Value)} {L0 cs : List Co} {n j : Nat} {o : Co} (hn : cs.length = n) (hlt : j < n) (ho : o = cs.getD j C0) (hp : ps.map (·.1) = L0 ++ cs.take j) (hr : (L0 ++ cs).Pairwise (fun a b => (a.p, a.q) ≠ (b.p, b.q))) : findP ps (o.p, o.q) = none := by
  unfold findP
  rw [List.find?_eq_none]
  intro y hy
  have h1 : y.1 ∈ L0 ++ cs.take j := by rw [← hp]; exact List.mem_map.2 ⟨y, hy, rfl⟩
  have h2 : L0 ++ cs = (L0 ++ cs.take j) ++ cs.drop j := by rw [List.append_assoc, List.take_append_drop]
  rw [h2, List.pairwise_append] at hr
  have h3 := hr.2.2 y.1 h1 o (by rw [next_coin hn hlt ho]; exact List.mem_cons_self ..)
  intro e
  have e2 : refOf y = (o.p, o.q) := by simpa using e
  exact h3 (by simpa [refOf] using e2)
theorem rise_ne {cs : List Co} (h : cs.Pairwise (fun a b => 0 < cmpR (b.p, b.q) (a.p, a.q))) : cs.Pairwise (fun a b => (a.p, a.q) ≠ (b.p, b.q)) := by
  refine h.imp fun {a b} k e => ?_
  have := cmpR_pos.1 k
  simp at e
  omega

/-- What filling a purse comes to. -/
def FillR (w w' : World) (e : Ending) (cs : List Co) : Prop :=
  Below w.heap.size w w' ∧ ((coinsR cs ≠ 0 ∧ e = .returned (.tuple #[.map none, .int .i64 (coinsR cs)])) ∨ (coinsR cs = 0 ∧ ∃ B ps, e = .returned (.tuple #[.map (some B), .int .i64 0]) ∧ Pu w' w.heap.size B ps ∧ ps.map (·.1) = cs))

set_option maxRecDepth 20000 in
set_option maxHeartbeats 2000000 in
/-- All coins of a list are put into a purse that has none of their refs; the list is older memory than the purse. -/
theorem putAll_any (B lo n c : Nat) (a : Option Addr) (cs : List Co) (ps0 : List (Co × Value)) (w v : World) (hn : n ≤ 500) (hl0 : ps0.length ≤ 500) (hC : CAt w a n cs) (hok : ∀ c ∈ cs, coinR c = 0) (hap : (ps0.map (·.1) ++ cs).Pairwise (fun a b => (a.p, a.q) ≠ (b.p, b.q))) (hbv : Below w.heap.size w v) (hB : w.heap.size ≤ B) (hlo : lo ≤ v.heap.size) (hP : Pu v lo B ps0) :
    Calls Tryz.prog 64 #[.map (some B), .slice a n c] v fun e w' => e = .returned (.tuple #[]) ∧ Hid (∃ ps, Pu w' lo B ps ∧ ps.map (·.1) = ps0.map (·.1) ++ cs) ∧ Below w.heap.size w w' ∧ Chg v w' B (B + 1) := by
  have HC : Hid (CAt w a n cs) := hC
  have HN : Hid (cs.length = n) := hC.1
  have HOK : Hid (∀ c ∈ cs, coinR c = 0) := hok
  have HAP : Hid ((ps0.map (·.1) ++ cs).Pairwise (fun a b => (a.p, a.q) ≠ (b.p, b.q))) := hap
  have HPV : Hid (Pu v lo B ps0) := hP
  have HLB := hP.lt
  clear hC hok hap hP
  go_enter Tryz.func64, Tryz.ntmps64
  go_wp2
  go_loopw [8] (fun i wr => ∃ j : Nat, j ≤ n ∧ i = .int .i64 j ∧ Below w.heap.size w wr ∧ Hid (∃ ps, Pu wr lo B ps ∧ ps.map (·.1) = ps0.map (·.1) ++ cs.take j) ∧ Hid (Chg v wr B (B + 1))) (fun i _ => n - (intOf i).toNat)
  case atStart => exact ⟨0, Nat.zero_le _, rfl, hbv, ⟨ps0, HPV.out, by simp⟩, Chg.refl _ _ _⟩
  case round =>
    obtain ⟨j, hj, rfl, hbel, HP, HCH⟩ := hrel
    by_cases hlt : j < n
    · rcases HC.out.2 with h0 | ⟨b, off, e0, l0, d0⟩
      · omega
      subst e0
      obtain ⟨ps, hPu, hps⟩ := HP.out
      obtain ⟨o, ho⟩ : ∃ o, o = cs.getD j C0 := ⟨_, rfl⟩
      obtain ⟨ka, kc, p0, p4, p5⟩ := d0 j hlt
      rw [← ho] at p0 p4 p5
      have hmem : o ∈ cs := by
        have e : cs.getD j C0 = cs[j]'(by rw [HN.out]; exact hlt) := by simp [List.getD, List.getElem?_eq_getElem (show j < cs.length by rw [HN.out]; exact hlt)]
        rw [ho, e]; exact List.getElem_mem _
      obtain ⟨g1, g2, g3, g4⟩ := coin_more (HOK.out o hmem)
      have hfn := find_none HN.out hlt ho hps HAP.out
      have HNX : Hid (cs.take (j + 1) = cs.take j ++ [o]) := by
        have e : cs.getD j C0 = cs[j]'(by rw [HN.out]; exact hlt) := by simp [List.getD, List.getElem?_eq_getElem (show j < cs.length by rw [HN.out]; exact hlt)]
        show _ = _
        rw [List.take_add_one, ho, e, List.getElem?_eq_getElem (by rw [HN.out]; exact hlt)]; rfl
      have hpl : ps.length = ps0.length + j := by
        have := congrArg List.length hps
        rw [List.length_map, List.length_append, List.length_map, List.length_take] at this
        have := HN.out
        omega
      obtain ⟨op, oq, ov, ol, ox, oy, oh, om⟩ := o
      simp only at p0 p4 p5 g1 g2 g3 g4 hfn
      rcases p5.2 with h0 | ⟨kb, ko, ek, hkl, _⟩
      · omega
      subst ek
      obtain ⟨x0, x1, x2, x3, x4, x5, x6, x7⟩ := p0.below hbel l0
      simp only at x0 x1 x2 x3 x4 x5 x6 x7
      have hbx : Below wr.heap.size wr (wr.alloc (.cells #[.int .i64 op, .int .i64 oq, .int .i64 ov, .slice (some ⟨kb, ko, none⟩) ol.length kc, .int .i64 ox, .int .i64 oy, .int .i64 oh, .bool om] 86)) := below_box _
      have hvs := HCH.out.size
      have hput := put_any B lo kb ko kc ps op oq ov ol ox oy oh om (wr.alloc (.cells #[.int .i64 op, .int .i64 oq, .int .i64 ov, .slice (some ⟨kb, ko, none⟩) ol.length kc, .int .i64 ox, .int .i64 oy, .int .i64 oh, .bool om] 86)) (hPu.below hbx) (Nat.le_trans hlo (Nat.le_trans hvs hbx.size)) (by omega) ((p5.below hbel (Nat.le_refl _)).below hbx (Nat.le_refl _)) (WalkArith.wf_i64 (by omega)) (WalkArith.wf_i64 (by omega)) hfn (by omega)
      have HPS : Hid (ps.map (·.1) = ps0.map (·.1) ++ cs.take j) := hps
      have HBX : Hid (Below w.heap.size w (wr.alloc (.cells #[.int .i64 op, .int .i64 oq, .int .i64 ov, .slice (some ⟨kb, ko, none⟩) ol.length kc, .int .i64 ox, .int .i64 oy, .int .i64 oh, .bool om] 86))) := hbel.trans (hbx.mono hbel.size)
      have HCX : Hid (Chg v (wr.alloc (.cells #[.int .i64 op, .int .i64 oq, .int .i64 ov, .slice (some ⟨kb, ko, none⟩) ol.length kc, .int .i64 ox, .int .i64 oy, .int .i64 oh, .bool om] 86)) B (B + 1)) := HCH.out.trans (Chg.of_below hbx _ _)
      clear ho d0 p0 p4 p5 hmem g1 g2 g3 g4 hfn hPu hps hbx
      have hki : (j : Int) < (n : Int) := by omega
      go_wp2_with (first
        | (go_at_call 88; (with_reducible refine hput.mono ?_); clear hput; rintro e w3 ⟨rfl, HPU, hch⟩; have HB3 : Hid (Below w.heap.size w w3) := HBX.out.trans (hch.below (by omega) (by have := HBX.out.size; omega)); have HC3 : Hid (Chg v w3 B (B + 1)) := HCX.out.trans hch; clear hch))
      go_roundw
      case rel =>
        obtain ⟨u, hu⟩ := HPU.out
        exact ⟨j + 1, by omega, by go_num, HB3.out, ⟨_, hu, by rw [List.map_append, HPS.out, HNX.out, List.append_assoc]; rfl⟩, HC3.out⟩
      case measure => simp [intOf]; omega
    · have e1 : cs.take j = cs := List.take_of_length_le (by rw [HN.out]; omega)
      go_wp2
      go_end0
      obtain ⟨ps, h1, h2⟩ := HP.out
      exact ⟨rfl, ⟨ps, h1, by rw [h2, e1]⟩, hbel, HCH.out⟩

set_option maxRecDepth 20000 in
set_option maxHeartbeats 2000000 in
theorem fillPurse_any (n c : Nat) (a : Option Addr) (cs : List Co) (w : World) (hn : n ≤ 1048576) (hk : ∀ j, j < n → (cs.getD j C0).l.length ≤ 1048576) (hC : CAt w a n cs) :
    Calls Tryz.prog 34 #[.slice a n c] w fun e w' => FillR w w' e cs := by
  have hF := iCoinsFault_any n c a cs w hn hk hC
  have HC : Hid (CAt w a n cs) := hC
  have hmm := @run_makeMap Tryz.prog
  obtain ⟨cd, hcd⟩ : ∃ r, r = coinsR cs := ⟨_, rfl⟩
  rw [← hcd] at hF
  have HCD : Hid (coinsR cs = cd) := hcd.symm
  by_cases h0 : cd = 0
  · subst h0
    obtain ⟨h40, hok, hri⟩ := coins_rise hcd.symm
    rw [hC.1] at h40
    have HOK : Hid (∀ c ∈ cs, coinR c = 0) := hok
    have HRI : Hid (cs.Pairwise (fun a b => (a.p, a.q) ≠ (b.p, b.q))) := rise_ne hri
    clear hcd hC hk hok hri
    go_enter Tryz.func34, Tryz.ntmps34
    go_wp2_with (first
      | (go_at_call 63; (with_reducible refine hF.mono ?_); clear hF; rintro e w2 ⟨rfl, hb2⟩; have hs2 := hb2.size; have hpa := putAll_any w2.heap.size w.heap.size n c a cs [] w (w2.alloc (.map #[] 0)) (by omega) (by simp) HC.out HOK.out (by simpa using HRI.out) (hb2.trans ((below_box _).mono hs2)) hs2 (by simp; omega) (Pu.made hs2); clear hb2)
      | (go_at_call 64; (with_reducible refine hpa.mono ?_); clear hpa; rintro e w3 ⟨rfl, HP, hB3, _⟩))
    refine bodyPost_ret (v := .tuple #[.map (some w2.heap.size), .int .i64 0]) (by simp [results, Tryz.results34, go_sem]) rfl ⟨hB3, .inr ⟨HCD.out, ?_⟩⟩
    obtain ⟨ps, h1, h2⟩ := HP.out
    exact ⟨_, ps, rfl, h1, by simpa using h2⟩
  · clear hcd hC hk
    go_enter Tryz.func34, Tryz.ntmps34
    go_wp2_with (first
      | (go_at_call 63; (with_reducible refine hF.mono ?_); clear hF; rintro e w2 ⟨rfl, hb2⟩))
    refine bodyPost_ret (v := .tuple #[.map none, .int .i64 cd]) (by simp [results, Tryz.results34, go_sem]) rfl ⟨hb2, .inl ⟨by rw [HCD.out]; exact h0, by rw [HCD.out]⟩⟩

theorem COwn.zero {w : World} {lo hi : Nat} (f : Nat → Co) : COwn w lo hi (.slice none 0 0) 0 f (fun _ => .slice none 0 0) :=
  ⟨⟨[], World.ownsRow_nil _ _ _ _, fun j hj => (by omega)⟩, fun b hb => (by cases hb), fun j hj => (by omega), fun i j _ hj => (by omega)⟩
end Go.Proofs.YtjgilpkkfpbefaaGreatDoor
