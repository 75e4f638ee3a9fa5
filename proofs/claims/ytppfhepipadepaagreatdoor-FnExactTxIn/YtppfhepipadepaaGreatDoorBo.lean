/- A transaction's result: alike, marked, held; with no transaction in it too. -/
import Derived.Test.YtppfhepipadepaaGreatDoorBn
import Derived.Test.YtppfhepipadepaaGreatDoorBl
import Derived.Test.YtppfhepipadepaaGreatDoorAm
namespace Go.Proofs.YtppfhepipadepaaGreatDoor
open Go.RowKit Go.Shelf Go.Maps Go.WideMaps

/-- A transaction's two lists, as values, in memory of its own: the refs' cells are zs, the outs are f. -/
structure TGen (w : World) (lo mid hi : Nat) (v0 : Value) (n : Nat) (v1 : Value) (m : Nat) (zs : List Value) (f : Nat → Ou) (kv : Nat → Value) : Prop where
  r : w.ownsRow lo 115 2 v0 n zs
  rt : ∀ b, v0.ownBlock = some b → b < mid
  o : OOwn w mid hi v1 m f kv
  lm : lo ≤ mid
  mh : mid ≤ hi
section
variable {w w' : World} {lo mid hi n m : Nat} {v0 v1 : Value} {zs : List Value} {f : Nat → Ou} {kv : Nat → Value}
theorem TGen.chg (h : TGen w lo mid hi v0 n v1 m zs f kv) {lo' hi' : Nat} (hc : Chg w w' lo' hi') (hd : hi ≤ lo' ∨ hi' ≤ lo) : TGen w' lo mid hi v0 n v1 m zs f kv := by
  have h1 := h.lm
  have h2 := h.mh
  refine ⟨hc.row h.r fun k hk => ?_, h.rt, h.o.chg hc (by omega), h1, h2⟩
  have a := (h.r.lt k hk).1
  have e := h.rt k hk
  omega
theorem TGen.below (h : TGen w lo mid hi v0 n v1 m zs f kv) (hb : Below w.heap.size w w') : TGen w' lo mid hi v0 n v1 m zs f kv := h.chg (Chg.of_below hb hi hi) (.inl (Nat.le_refl _))
end

/-- What a text's transaction is, field by field; zero where there is none. -/
def pcd (t : List UInt8) : Int := match parT t with | some _ => 0 | none => 5
def pTx (t : List UInt8) : TxV := match parT t with | some x => x | none => ⟨0, 0, [], []⟩
theorem pTx_len (t : List UInt8) : (pTx t).rs.length ≤ 4 ∧ (pTx t).os.length ≤ 4 ∧ ∀ o ∈ (pTx t).os, o.l.length ≤ 3 := by
  unfold pTx
  cases h : parT t with
  | none => exact ⟨by simp, by simp, fun o ho => by simp at ho⟩
  | some x =>
    obtain ⟨hx, _⟩ := (kept_some h).2
    obtain ⟨_, _, _, _, _, hoa⟩ := tx_parts hx
    have hok := txOk_of hx.symm
    exact ⟨hok.n, hok.m, fun o hm => (ruleR_zero rfl (hoa o hm).2).1.2⟩

/-- A result that holds what the text tells. -/
theorem OutPt.res {w w' : World} {e : Ending} {t : List UInt8} (h : OutPt w w' e t) :
    ∃ a0 c0 a1 c1, e = .returned (.agg #[.int .i64 (pcd t), .int .i64 (pTx t).k, .int .i64 (pTx t).f, .slice a0 (pTx t).rs.length c0, .slice a1 (pTx t).os.length c1]) ∧ Hid (∃ mid kv, TGen w' w.heap.size mid w'.heap.size (.slice a0 (pTx t).rs.length c0) (pTx t).rs.length (.slice a1 (pTx t).os.length c1) (pTx t).os.length (gcells (pTx t).rs) (fun j => (pTx t).os.getD j O0) kv) ∧ Hid (Below w.heap.size w w') := by
  obtain ⟨hb, h | h⟩ := h
  · obtain ⟨x, g0, c0, g1, c1, lo, mid, hi, kv, hx, e1, hT, h1, h2⟩ := h
    have hp : pTx t = x := by unfold pTx; rw [hx]
    have hc : pcd t = 0 := by unfold pcd; rw [hx]
    rw [hp, hc]
    refine ⟨_, c0, _, c1, e1, ⟨mid, kv, Joins.ownsRow_le hT.r h1, fun b hb => ?_, ?_, Nat.le_trans h1 hT.lm, Nat.le_trans hT.mh h2⟩, hb⟩
    · have e2 : g0 = b := by simpa [Value.ownBlock] using hb
      have := hT.rt
      omega
    · exact hT.o.up h2
  · obtain ⟨hx, e1⟩ := h
    have hp : pTx t = ⟨0, 0, [], []⟩ := by unfold pTx; rw [hx]
    have hc : pcd t = 5 := by unfold pcd; rw [hx]
    rw [hp, hc]
    exact ⟨none, 0, none, 0, e1, ⟨w.heap.size, fun _ => .slice none 0 0, World.ownsRow_nil _ _ _ _, fun b q => (by cases q), OOwn.none, Nat.le_refl _, hb.size⟩, hb⟩

theorem TGen.at {w : World} {lo mid hi n m c0 c1 : Nat} {a0 a1 : Option Addr} {rs : List (Int × Int)} {os : List Ou} {kv : Nat → Value} (h : TGen w lo mid hi (.slice a0 n c0) n (.slice a1 m c1) m (gcells rs) (fun j => os.getD j O0) kv) (hn : rs.length = n) (hm : os.length = m) (hl : ∀ o ∈ os, o.l.length ≤ 3) : TxAt w a0 n a1 m rs os :=
  ⟨GAt.owned2 h.r hn, h.o.at2 hm hl⟩

set_option maxHeartbeats 1000000 in
theorem eqTxR_any (cd k f : Int) (ia ib oa ob : Option Addr) (n m c0 c1 d0 d1 : Nat) (rs : List (Int × Int)) (os : List Ou) (w : World) (hn : n ≤ 1048576) (hm : m ≤ 1048576) (hk : ∀ j, j < m → (os.getD j O0).l.length ≤ 1048576) (ha : TxAt w ia n oa m rs os) (hb : TxAt w ib n ob m rs os) :
    Calls Tryz.prog 8 #[.agg #[.int .i64 cd, .int .i64 k, .int .i64 f, .slice ia n c0, .slice oa m d0], .agg #[.int .i64 cd, .int .i64 k, .int .i64 f, .slice ib n c1, .slice ob m d1]] w fun e w' => e = .returned (.bool true) ∧ Below w.heap.size w w' := by
  have hbx : Below w.heap.size w ((w.alloc (.cells #[.int .i64 cd, .int .i64 k, .int .i64 f, .slice ia n c0, .slice oa m d0] 32)).alloc (.cells #[.int .i64 cd, .int .i64 k, .int .i64 f, .slice ib n c1, .slice ob m d1] 32)) := below_box2 _ _
  have hE := eqTx_any k f ia ib oa ob n m c0 c1 d0 d1 rs os _ hn hm hk (ha.below hbx (Nat.le_refl _)) (hb.below hbx (Nat.le_refl _))
  have HBX : Hid (Below w.heap.size w ((w.alloc (.cells #[.int .i64 cd, .int .i64 k, .int .i64 f, .slice ia n c0, .slice oa m d0] 32)).alloc (.cells #[.int .i64 cd, .int .i64 k, .int .i64 f, .slice ib n c1, .slice ob m d1] 32))) := hbx
  clear hbx ha hb hk
  go_enter Tryz.func8, Tryz.ntmps8
  go_wp2_with (first | (go_at_call 21; (with_reducible refine hE.mono ?_); rintro e w2 ⟨rfl, hb2⟩))
  go_ret
  exact ⟨rfl, HBX.out.trans (hb2.mono (by simp; omega))⟩

set_option maxHeartbeats 1000000 in
theorem markTxG_any (k f : Int) (a0 a1 : Option Addr) (n m c0 c1 lo mid hi K K2 : Nat) (zs : List Value) (g : Nat → Ou) (kv : Nat → Value) (w : World) (hK2 : K2 = kOu (K + 2 * n) g m) (hK : K + n ≤ 2000000) (hm : m ≤ 1048576) (hl : ∀ j, j < m → (g j).l.length ≤ 1048576) (hhi : hi ≤ w.heap.size) (h : TGen w lo mid hi (.slice a0 n c0) n (.slice a1 m c1) m zs g kv) :
    Calls Tryz.prog 26 #[.agg #[.int .i64 k, .int .i64 f, .slice a0 n c0, .slice a1 m c1], .int .i64 K] w fun e w' => e = .returned (.int .i64 (K2 : Nat)) ∧ TGen w' lo mid hi (.slice a0 n c0) n (.slice a1 m c1) m (mkG K n) (mkOuF (K + 2 * n) g) kv ∧ Chg w w' lo hi := by
  have HX : Hid ((w.alloc (.cells #[.int .i64 k, .int .i64 f, .slice a0 n c0, .slice a1 m c1] 30)).heap[w.heap.size]? = some (.cells #[.int .i64 k, .int .i64 f, .slice a0 n c0, .slice a1 m c1] 30 (0, 0))) := heap_alloc_new _ _
  have HH : Hid (TGen (w.alloc (.cells #[.int .i64 k, .int .i64 f, .slice a0 n c0, .slice a1 m c1] 30)) lo mid hi (.slice a0 n c0) n (.slice a1 m c1) m zs g kv) := h.below (below_box _)
  have hR := markRG_any (.slice a0 n c0) n lo K zs (w.alloc (.cells #[.int .i64 k, .int .i64 f, .slice a0 n c0, .slice a1 m c1] 30)) (by omega) HH.out.r
  have HL : Hid (∀ j, j < m → (g j).l.length ≤ 1048576) := hl
  have hlm := h.lm
  have hmh := h.mh
  obtain ⟨K1, hK1⟩ : ∃ K1, K1 = K + 2 * n := ⟨_, rfl⟩
  rw [← hK1] at hR hK2 ⊢
  have hK3 : K1 ≤ 1000000000000000 := by omega
  have HK2 : Hid (K2 = kOu K1 g m) := hK2
  clear h hl hK1 hK2
  go_enter Tryz.func26, Tryz.ntmps26
  go_wp2_with (first
    | (go_at_call 41; (with_reducible refine hR.mono ?_); clear hR; rintro e w2 ⟨rfl, hR2, hG⟩; have HR2 : Hid (World.ownsRow w2 lo 115 2 (.slice a0 n c0) n (mkG K n)) := hR2; have hch : Chg (w.alloc (.cells #[.int .i64 k, .int .i64 f, .slice a0 n c0, .slice a1 m c1] 30)) w2 lo mid := Chg.of_grown hG (fun b hb => ⟨(HH.out.r.lt b hb).1, HH.out.rt b hb⟩); have HC2 : Hid (Chg w w2 lo hi) := (Chg.of_below (below_box _) lo hi).trans (hch.wide (Nat.le_refl _) hmh); have HX2 : Hid (w2.heap[w.heap.size]? = some (.cells #[.int .i64 k, .int .i64 f, .slice a0 n c0, .slice a1 m c1] 30 (0, 0))) := hch.keep HX.out (.inr (by omega)); have hO2 := HH.out.o.chg hch (.inr (Nat.le_refl _)); have hM := markOu_any (.slice a1 m c1) m mid hi K1 g kv w2 hm HL.out hK3 hO2; rw [← HK2.out] at hM; obtain ⟨p0, p1, p2, p3, _⟩ := cells4 HX2.out; clear hch hO2 hG hR2)
    | (go_at_call 42; (with_reducible refine hM.mono ?_); clear hM; rintro e w3 ⟨rfl, hO3, hch⟩; have HC3 : Hid (Chg w w3 lo hi) := HC2.out.trans (hch.wide hlm (Nat.le_refl _)); have HT3 : Hid (TGen w3 lo mid hi (.slice a0 n c0) n (.slice a1 m c1) m (mkG K n) (mkOuF K1 g) kv) := ⟨hch.row HR2.out (fun b hb => .inl (HH.out.rt b hb)), HH.out.rt, hO3, hlm, hmh⟩; clear hch hO3))
  go_ret
  exact ⟨rfl, HT3.out, HC3.out⟩

set_option maxHeartbeats 1000000 in
theorem heldTxG_any (k f : Int) (a0 a1 : Option Addr) (n m c0 c1 lo mid hi K K2 : Nat) (g : Nat → Ou) (kv : Nat → Value) (w : World) (hK2 : K2 = kOu (K + 2 * n) g m) (hK : K + n ≤ 2000000) (hm : m ≤ 1048576) (hl : ∀ j, j < m → (g j).l.length ≤ 1048576) (h : TGen w lo mid hi (.slice a0 n c0) n (.slice a1 m c1) m (mkG K n) (mkOuF (K + 2 * n) g) kv) :
    Calls Tryz.prog 27 #[.agg #[.int .i64 k, .int .i64 f, .slice a0 n c0, .slice a1 m c1], .int .i64 K] w fun e w' => e = .returned (.int .i64 (K2 : Nat)) ∧ Below w.heap.size w w' := by
  have HX : Hid ((w.alloc (.cells #[.int .i64 k, .int .i64 f, .slice a0 n c0, .slice a1 m c1] 30)).heap[w.heap.size]? = some (.cells #[.int .i64 k, .int .i64 f, .slice a0 n c0, .slice a1 m c1] 30 (0, 0))) := heap_alloc_new _ _
  have hH := h.below (below_box (.cells #[.int .i64 k, .int .i64 f, .slice a0 n c0, .slice a1 m c1] 30))
  have HB : Hid (Below w.heap.size w (w.alloc (.cells #[.int .i64 k, .int .i64 f, .slice a0 n c0, .slice a1 m c1] 30))) := below_box _
  have hR := heldRG_any (.slice a0 n c0) n lo K (w.alloc (.cells #[.int .i64 k, .int .i64 f, .slice a0 n c0, .slice a1 m c1] 30)) (by omega) hH.r
  have hM := heldOu_any (.slice a1 m c1) m mid hi (K + 2 * n) g kv (w.alloc (.cells #[.int .i64 k, .int .i64 f, .slice a0 n c0, .slice a1 m c1] 30)) hm hl (by omega) hH.o
  obtain ⟨K1, hK1⟩ : ∃ K1, K1 = K + 2 * n := ⟨_, rfl⟩
  rw [← hK1] at hR hM hK2
  rw [← hK2] at hM
  have d1 : ¬ (K1 : Int) < 0 := by omega
  have d2 : ¬ (K2 : Int) < 0 := by omega
  clear h hl hK1 hK2 hH
  go_enter Tryz.func27, Tryz.ntmps27
  go_wp2_with (first
    | (go_at_call 43; (with_reducible refine hR.mono ?_); clear hR; rintro e w2 ⟨rfl, hw⟩; have hw2 := hw.symm; subst hw2)
    | (go_at_call 44; (with_reducible refine hM.mono ?_); clear hM; rintro e w3 ⟨rfl, hw⟩; have hw2 := hw.symm; subst hw2))
  go_ret
  exact ⟨rfl, HB.out⟩

set_option maxHeartbeats 1000000 in
theorem markTxR_any (cd k f : Int) (a0 a1 : Option Addr) (n m c0 c1 lo mid hi K K2 : Nat) (zs : List Value) (g : Nat → Ou) (kv : Nat → Value) (w : World) (hK2 : K2 = kOu (K + 2 * n) g m) (hK : K + n ≤ 2000000) (hm : m ≤ 1048576) (hl : ∀ j, j < m → (g j).l.length ≤ 1048576) (hhi : hi ≤ w.heap.size) (h : TGen w lo mid hi (.slice a0 n c0) n (.slice a1 m c1) m zs g kv) :
    Calls Tryz.prog 11 #[.agg #[.int .i64 cd, .int .i64 k, .int .i64 f, .slice a0 n c0, .slice a1 m c1], .int .i64 K] w fun e w' => e = .returned (.int .i64 (K2 : Nat)) ∧ TGen w' lo mid hi (.slice a0 n c0) n (.slice a1 m c1) m (mkG K n) (mkOuF (K + 2 * n) g) kv ∧ Chg w w' lo hi := by
  have hL := markTxG_any k f a0 a1 n m c0 c1 lo mid hi K K2 zs g kv (w.alloc (.cells #[.int .i64 cd, .int .i64 k, .int .i64 f, .slice a0 n c0, .slice a1 m c1] 32)) hK2 hK hm hl (by simp; omega) (h.below (below_box _))
  clear h hl hK2
  go_enter Tryz.func11, Tryz.ntmps11
  go_wp2_with (first | (go_at_call 26; (with_reducible refine hL.mono ?_); rintro e w2 ⟨rfl, ho2, hg2⟩))
  go_ret
  exact ⟨rfl, ho2, (Chg.of_below (below_box _) lo hi).trans hg2⟩

set_option maxHeartbeats 1000000 in
theorem heldTxR_any (cd k f : Int) (a0 a1 : Option Addr) (n m c0 c1 lo mid hi K K2 : Nat) (g : Nat → Ou) (kv : Nat → Value) (w : World) (hK2 : K2 = kOu (K + 2 * n) g m) (hK : K + n ≤ 2000000) (hm : m ≤ 1048576) (hl : ∀ j, j < m → (g j).l.length ≤ 1048576) (h : TGen w lo mid hi (.slice a0 n c0) n (.slice a1 m c1) m (mkG K n) (mkOuF (K + 2 * n) g) kv) :
    Calls Tryz.prog 12 #[.agg #[.int .i64 cd, .int .i64 k, .int .i64 f, .slice a0 n c0, .slice a1 m c1], .int .i64 K] w fun e w' => e = .returned (.int .i64 (K2 : Nat)) ∧ Below w.heap.size w w' := by
  have hL := heldTxG_any k f a0 a1 n m c0 c1 lo mid hi K K2 g kv (w.alloc (.cells #[.int .i64 cd, .int .i64 k, .int .i64 f, .slice a0 n c0, .slice a1 m c1] 32)) hK2 hK hm hl (h.below (below_box _))
  have d2 : ¬ (K2 : Int) < 0 := by omega
  clear h hl hK2
  go_enter Tryz.func12, Tryz.ntmps12
  go_wp2_with (first | (go_at_call 27; (with_reducible refine hL.mono ?_); rintro e w2 ⟨rfl, hb2⟩))
  go_ret
  exact ⟨rfl, (below_box _).trans (hb2.mono (by simp))⟩

end Go.Proofs.YtppfhepipadepaaGreatDoor
