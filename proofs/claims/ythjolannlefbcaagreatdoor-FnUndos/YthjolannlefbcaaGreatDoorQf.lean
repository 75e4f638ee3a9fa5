/- A transaction is taken back in the program's purse. -/
import Derived.Test.YthjolannlefbcaaGreatDoorQe
namespace Go.Proofs.YthjolannlefbcaaGreatDoor
open Go.RowKit Go.Maps Go.WideMaps

def IsMap (w : World) (B : Nat) : Prop := ∃ es cl, w.heap[B]? = some (.map es cl)
theorem Pu.isMap {w : World} {lo B : Nat} {ps : List (Co × Value)} (h : Pu w lo B ps) : IsMap w B := by
  obtain ⟨D, ⟨es, cl, hb, _⟩, _⟩ := h.map
  exact ⟨es, cl, hb⟩
theorem own_map {w : World} {base size n B : Nat} {e : TypeId} {v : Value} {xs : List Value} (h : w.ownsRow base e size v n xs) (hB : IsMap w B) : ∀ k, v.ownBlock = some k → k < B ∨ B + 1 ≤ k := fun k hk => by
  obtain ⟨es, cl, hb⟩ := hB
  rcases h.2 with ⟨e1, _⟩ | ⟨g, cp, cur, e1, _, hh, _⟩
  · rw [e1] at hk; cases hk
  · rw [e1] at hk
    have : g = k := by simpa [Value.ownBlock] using hk
    have hne : k ≠ B := fun e2 => by rw [this, e2, hb] at hh; cases hh
    omega
theorem COwn.turn {w w' : World} {lo hi n B : Nat} {v : Value} {f : Nat → Co} {kv : Nat → Value} (h : COwn w lo hi v n f kv) (hB : IsMap w B) (hc : Chg w w' B (B + 1)) : COwn w' lo hi v n f kv := by
  obtain ⟨xs, h1, h2⟩ := h.row
  exact ⟨⟨xs, hc.row h1 (own_map h1 hB), h2⟩, h.top, fun j hj => ⟨hc.row (h.keys j hj).1 (own_map (h.keys j hj).1 hB), (h.keys j hj).2⟩, h.apart⟩
theorem Pu.turn {w w' : World} {lo B B2 : Nat} {qs : List (Co × Value)} (h : Pu w lo B2 qs) (hB : IsMap w B) (hne : B2 ≠ B) (hc : Chg w w' B (B + 1)) : Pu w' lo B2 qs := by
  have hlt := h.lt
  obtain ⟨D, ⟨es, cl, hb, F, hs, hD⟩, hsz, hat⟩ := h.map
  exact ⟨⟨D, ⟨es, cl, (hc.block B2 hlt (by omega)).trans hb, F, hs, hD⟩, hsz, hat⟩, fun x hx => hc.row (h.rows x hx) (own_map (h.rows x hx) hB), h.base, h.apart, h.refs, h.wfs⟩
theorem ranges_turn {P : Program} {k : TypeId} {R : Value → Option (DataW Value × List MemPlace)} {w w' : World} {b r n B : Nat} {D : DataW Value} {left : Lit → Bool} {cnt : Nat} (h : w.ranges P k R b r n D left cnt) (hb : b ≠ B) (hr : r ≠ B) (hc : Chg w w' B (B + 1)) : w'.ranges P k R b r n D left cnt := by
  have h1 := h.owns.lt
  have h2 := h.lt
  obtain ⟨es, clock, since, seen, c0, hb', F, hs, hD, hr', rest⟩ := h
  exact ⟨es, clock, since, seen, c0, (hc.block b h1 (by omega)).trans hb', F, hs, hD, (hc.block r h2 (by omega)).trans hr', rest⟩

theorem rise_inj {cs : List Co} (h : RiseC cs) {a b : Co} (ha : a ∈ cs) (hb : b ∈ cs) (e : (a.p, a.q) = (b.p, b.q)) : a = b :=
  Classical.byContradiction fun hne => pair_of (R := fun x y : Co => (x.p, x.q) ≠ (y.p, y.q)) (fun _ _ h => h.symm) (rise_ne h) a ha b hb hne e
theorem not_take {ms : List Co} {j : Nat} (h : RiseC ms) (hj : j < ms.length) : ms.getD j C0 ∉ ms.take j := fun hm => by
  obtain ⟨i, hi, e⟩ := List.getElem_of_mem hm
  rw [List.length_take] at hi
  rw [List.getElem_take] at e
  have := List.pairwise_iff_getElem.1 h i j (by omega) hj (by omega)
  rw [List.getD, List.getElem?_eq_getElem hj] at e
  rw [e] at this
  have := cmpR_pos.1 this
  simp at this
theorem takeC_snoc {ms : List Co} {j : Nat} {o : Co} (hj : j < ms.length) (ho : o = ms.getD j C0) : ms.take (j + 1) = ms.take j ++ [o] := by
  rw [List.take_add_one, ho, List.getD, List.getElem?_eq_getElem hj]; rfl

/-- The coins of the number are taken, one after another. -/
structure Un1 (v wr : World) (lo B : Nat) (cs ms : List Co) (j : Nat) (ps : List (Co × Value)) : Prop where
  pu : Pu wr lo B ps
  mem : ∀ c, c ∈ ps.map (·.1) ↔ c ∈ cs ∧ c ∉ ms.take j
  chg : Chg v wr B (B + 1)
theorem Un1.find {v wr : World} {lo B j : Nat} {cs ms : List Co} {ps : List (Co × Value)} {id : Int} {o : Co} (h : Un1 v wr lo B cs ms j ps) (hc : RiseC cs) (hms : ms = ofC cs id) (hj : j < ms.length) (ho : o = ms.getD j C0) : ∃ x, findP ps (o.p, o.q) = some x := by
  have h1 : o ∈ ms := by rw [ho]; exact getC_mem hj
  have h2 : o ∈ cs := by rw [hms] at h1; exact (List.mem_filter.1 h1).1
  have h3 : RiseC ms := by rw [hms]; exact hc.filter _
  obtain ⟨x, hx, rfl⟩ := List.mem_map.1 ((h.mem o).2 ⟨h2, by rw [ho]; exact not_take h3 hj⟩)
  exact ⟨x, find_mem h.pu.refs hx⟩
theorem Un1.step {v wr w' : World} {lo B j : Nat} {cs ms : List Co} {ps : List (Co × Value)} {id : Int} {o : Co} (h : Un1 v wr lo B cs ms j ps) (hc : RiseC cs) (hms : ms = ofC cs id) (hj : j < ms.length) (ho : o = ms.getD j C0) (hp : Pu w' lo B (dropP ps (o.p, o.q))) (hch : Chg wr w' B (B + 1)) : Un1 v w' lo B cs ms (j + 1) (dropP ps (o.p, o.q)) := by
  refine ⟨hp, fun c => ?_, h.chg.trans hch⟩
  have h1 : o ∈ ms := by rw [ho]; exact getC_mem hj
  have h2 : o ∈ cs := by rw [hms] at h1; exact (List.mem_filter.1 h1).1
  rw [drop_map, takeC_snoc hj ho]
  unfold dropC
  rw [List.mem_filter, h.mem c, List.mem_append, List.mem_singleton]
  constructor
  · rintro ⟨⟨a1, a2⟩, a3⟩
    refine ⟨a1, ?_⟩
    rintro (e | e)
    · exact a2 e
    · rw [e] at a3; simp at a3
  · rintro ⟨a1, a2⟩
    refine ⟨⟨a1, fun e => a2 (.inl e)⟩, ?_⟩
    exact decide_eq_true fun e => a2 (.inr (rise_inj hc a1 h2 e))
theorem Un1.all {v wr : World} {lo B j : Nat} {cs ms : List Co} {ps : List (Co × Value)} {id : Int} (h : Un1 v wr lo B cs ms j ps) (hms : ms = ofC cs id) (hj : ms.length ≤ j) : ∀ c, c ∈ ps.map (·.1) ↔ c ∈ offC cs id := fun c => by
  rw [h.mem c, List.take_of_length_le hj, hms]
  unfold ofC offC
  rw [List.mem_filter, List.mem_filter]
  constructor
  · rintro ⟨a1, a2⟩; exact ⟨a1, by simpa using fun e => a2 ⟨a1, by simpa using e⟩⟩
  · rintro ⟨a1, a2⟩; exact ⟨a1, fun ⟨_, a3⟩ => by simp at a2 a3; exact a2 a3⟩

/-- What was spent comes back, in any order. -/
structure Un2 (w wr : World) (lo B lo2 B2 : Nat) (qs : List (Co × Value)) (base : List Co) (left : Lit → Bool) (ss : List SC) (ps : List (Co × Value)) : Prop where
  come : ComeC qs left ss
  pu : Pu wr lo B ps
  mem : ∀ c, c ∈ ps.map (·.1) ↔ c ∈ base ∨ c ∈ ss.map fun z => z.1.1
  sp : Pu wr lo2 B2 qs
  chg : Chg w wr B (B + 1)
theorem Un2.find {w wr : World} {lo B lo2 B2 : Nat} {qs : List (Co × Value)} {base sp : List Co} {left : Lit → Bool} {ss : List SC} {ps : List (Co × Value)} (h : Un2 w wr lo B lo2 B2 qs base left ss ps) (hap : (base ++ sp).Pairwise (fun x y => ¬ (x.p = y.p ∧ x.q = y.q))) (hsp : ∀ c, c ∈ sp ↔ c ∈ qs.map (·.1)) {z : SC} {kl : Lit} (hz : z.1 ∈ qs) (hk : keyOf Tryz.prog 38 (encR (refOf z.1)) = some kl) (hl : left kl = true) : findP ps (z.1.1.p, z.1.1.q) = none := by
  unfold findP
  rw [List.find?_eq_none]
  intro x hx e
  have e1 : (x.1.p, x.1.q) = (z.1.1.p, z.1.1.q) := by simpa [refOf] using e
  have e2 := Prod.mk.inj e1
  rcases (h.mem x.1).1 (List.mem_map.2 ⟨x, hx, rfl⟩) with h1 | h1
  · rw [List.pairwise_append] at hap
    exact hap.2.2 x.1 h1 z.1.1 ((hsp z.1.1).2 (List.mem_map.2 ⟨z.1, hz, rfl⟩)) e2
  · obtain ⟨y, hy, e3⟩ := List.mem_map.1 h1
    have hr : refOf y.1 = refOf z.1 := by unfold refOf; rw [e3]; exact e1
    exact (h.come.2.2 z.1 hz kl hk).1 hl ⟨y, hy, refs_inj h.sp.refs y.1 (h.come.1 y hy) z.1 hz hr⟩
theorem Un2.len {w wr : World} {lo B lo2 B2 : Nat} {qs : List (Co × Value)} {base sp : List Co} {left : Lit → Bool} {ss : List SC} {ps : List (Co × Value)} (h : Un2 w wr lo B lo2 B2 qs base left ss ps) (hsp : ∀ c, c ∈ sp ↔ c ∈ qs.map (·.1)) : ps.length ≤ base.length + sp.length := by
  have h1 : (ps.map refOf).Nodup := by unfold List.Nodup; rw [List.pairwise_map]; exact h.pu.refs
  have a := sub_length (ps.map refOf) (refsC (base ++ sp)) h1 fun r hr => by
    obtain ⟨x, hx, rfl⟩ := List.mem_map.1 hr
    refine List.mem_map.2 ⟨x.1, ?_, rfl⟩
    rw [List.mem_append]
    rcases (h.mem x.1).1 (List.mem_map.2 ⟨x, hx, rfl⟩) with h2 | h2
    · exact .inl h2
    · obtain ⟨y, hy, e3⟩ := List.mem_map.1 h2
      exact .inr ((hsp x.1).2 (List.mem_map.2 ⟨y.1, h.come.1 y hy, e3⟩))
  simp [refsC] at a
  exact a
theorem Un2.all {w wr : World} {lo B lo2 B2 : Nat} {qs : List (Co × Value)} {base sp : List Co} {left : Lit → Bool} {ss : List SC} {ps : List (Co × Value)} (h : Un2 w wr lo B lo2 B2 qs base left ss ps) (hsp : ∀ c, c ∈ sp ↔ c ∈ qs.map (·.1)) (hl : ∀ kl, left kl = false) : ∀ c, c ∈ addCs base sp ↔ c ∈ ps.map (·.1) := fun c => by
  rw [addCs_mem, List.mem_append, h.mem c, hsp c]
  have hA := come_all h.come h.sp.wfs hl
  constructor
  · rintro (h1 | h1)
    · exact .inl h1
    · obtain ⟨x, hx, rfl⟩ := List.mem_map.1 h1
      obtain ⟨y, hy, rfl⟩ := hA.2.2 x hx
      exact .inr (List.mem_map.2 ⟨y, hy, rfl⟩)
  · rintro (h1 | h1)
    · exact .inl h1
    · obtain ⟨y, hy, rfl⟩ := List.mem_map.1 h1
      exact .inr (List.mem_map.2 ⟨y.1, h.come.1 y hy, rfl⟩)
theorem Un2.step {w wr w3 w' : World} {lo B lo2 B2 : Nat} {qs : List (Co × Value)} {base : List Co} {left : Lit → Bool} {ss : List SC} {ps : List (Co × Value)} {z : SC} {kl : Lit} {u : Value} (h : Un2 w wr lo B lo2 B2 qs base left ss ps) (hz : z.1 ∈ qs) (hk : keyOf Tryz.prog 38 (encR (refOf z.1)) = some kl) (hl : left kl = true) (h3 : Un2 w w3 lo B lo2 B2 qs base left ss ps) (hne : B2 ≠ B) (hp : Pu w' lo B (ps ++ [(z.1.1, u)])) (hch : Chg w3 w' B (B + 1)) : Un2 w w' lo B lo2 B2 qs base (fun t => left t && !t.sameKey kl) (ss ++ [z]) (ps ++ [(z.1.1, u)]) := by
  refine ⟨come_step h.come h.sp.refs hz hk hl, hp, fun c => ?_, h3.sp.turn h3.pu.isMap hne hch, h3.chg.trans hch⟩
  rw [List.map_append, List.mem_append, h.mem c, List.map_append, List.mem_append]
  simp [or_assoc]

def UndoO (w w' : World) (e : Ending) (lo B : Nat) (u : Int) (rs : List Co) : Prop :=
  e = .returned (.int .i64 u) ∧ Chg w w' B (B + 1) ∧ (u = 0 → ∃ ps', Pu w' lo B ps' ∧ ∀ c, c ∈ rs ↔ c ∈ ps'.map (·.1))

set_option maxRecDepth 100000 in
set_option maxHeartbeats 4000000 in
theorem undo_any (B lo B2 lo2 : Nat) (ps qs : List (Co × Value)) (cs sp : List Co) (n c m d : Nat) (ia oa : Option Addr) (k f : Int) (rs : List (Int × Int)) (os : List Ou) (id : Int) (w : World) (hH : Holds w lo B ps cs) (hS : Holds w lo2 B2 qs sp) (hlo : lo ≤ w.heap.size) (hlo2 : lo2 ≤ w.heap.size) (hne : B2 ≠ B) (hks : ∀ c ∈ sp, 1 ≤ c.l.length)
    (hn : n ≤ 1048576) (hm : m ≤ 1048576) (hc1 : n ≤ c) (hc2 : c ≤ maxLen) (hk : ∀ j, j < m → (os.getD j O0).l.length ≤ 1048576) (h : TxAt w ia n oa m rs os) :
    Calls Tryz.prog 24 #[.map (some B), .agg #[.int .i64 k, .int .i64 f, .slice ia n c, .slice oa m d], .int .i64 id, .map (some B2)] w fun e w' => UndoO w w' e lo B (undoF cs k f rs os id sp) (addCs (offC cs id) sp) := by
  have hbx : Below w.heap.size w (w.alloc (.cells #[.int .i64 k, .int .i64 f, .slice ia n c, .slice oa m d] 28)) := below_box _
  have hF := undoFault_any B lo B2 lo2 ps qs cs sp n c m d ia oa k f rs os id (w.alloc (.cells #[.int .i64 k, .int .i64 f, .slice ia n c, .slice oa m d] 28)) (hH.below hbx) (hS.below hbx) (Nat.le_trans hlo hbx.size) (Nat.le_trans hlo2 hbx.size) hn hm hc1 hc2 hk (h.below hbx (Nat.le_refl _))
  have HBX : Hid (Below w.heap.size w (w.alloc (.cells #[.int .i64 k, .int .i64 f, .slice ia n c, .slice oa m d] 28))) := hbx
  obtain ⟨p0, p1, p2, p3, _⟩ := cells4 (heap_alloc_new w (.cells #[.int .i64 k, .int .i64 f, .slice ia n c, .slice oa m d] 28))
  obtain ⟨u, hu⟩ : ∃ u, u = undoF cs k f rs os id sp := ⟨_, rfl⟩
  rw [← hu] at hF ⊢
  by_cases h0 : u = 0
  · subst h0
    have hAP : (offC cs id ++ sp).Pairwise (fun x y => ¬ (x.p = y.p ∧ x.q = y.q)) := by
      unfold undoF at hu
      by_cases h3 : txR k f rs os ≠ 0
      · rw [if_pos h3] at hu; exact absurd hu.symm h3
      rw [if_neg h3] at hu
      by_cases h4 : inB id 1 60 = false
      · rw [if_pos h4] at hu; cases hu
      rw [if_neg h4] at hu
      by_cases h5 : justB sp rs = false
      · rw [if_pos h5] at hu; cases hu
      rw [if_neg h5] at hu
      by_cases h6 : madeB (ofC cs id) os = false
      · rw [if_pos h6] at hu; cases hu
      rw [if_neg h6] at hu
      by_cases h7 : rs.any (hasC cs) = true
      · rw [if_pos h7] at hu; cases hu
      exact back_apart hH.rise hS.rise (tx_facts (by simpa using h3)).2.1 (by simpa using h5) h7
    obtain ⟨ms, hms⟩ : ∃ l, l = ofC cs id := ⟨_, rfl⟩
    have HMS : Hid (ms = ofC cs id) := hms
    have HAP : Hid ((offC cs id ++ sp).Pairwise (fun x y => ¬ (x.p = y.p ∧ x.q = y.q))) := hAP
    have HHP : Hid (Holds w lo B ps cs) := hH
    have HHS : Hid (Holds w lo2 B2 qs sp) := hS
    have HKS : Hid (∀ c ∈ sp, 1 ≤ c.l.length) := hks
    have HMd : ∀ v, Below w.heap.size w v → Calls Tryz.prog 53 #[.map (some B), .int .i64 id] v fun e w' => ∃ r, e = .returned r ∧ Hid ((∃ kv, COwn w' lo w'.heap.size r ms.length (fun j => ms.getD j C0) kv) ∧ Below v.heap.size v w') := fun v hv => by
      rw [hms]
      exact madeBy_any B lo id ps cs v (hH.pu.below hv) (Nat.le_trans hlo hv.size) (by have := hH.len; have := hH.few; omega) hH.rise hH.mem
    have hmle : ms.length ≤ 500 := by rw [hms]; exact Nat.le_trans (List.length_filter_le _ _) hH.few
    have hBl := hH.pu.lt
    have hB2l := hS.pu.lt
    clear hu hAP hms hH hS hks h hk hbx hc1 hc2
    go_enter Tryz.func24, Tryz.ntmps24
    go_wp2_with (first
      | (go_at_call 52; (with_reducible refine hF.mono ?_); clear hF; rintro e w2 ⟨rfl, hb2⟩; have HB2 : Hid (Below w.heap.size w w2) := HBX.out.trans (hb2.mono HBX.out.size); have hM := HMd w2 HB2.out; clear hb2 p0 p1 p2 p3)
      | (go_at_call 53; (with_reducible refine hM.mono ?_); clear hM; rintro e w4 ⟨v, rfl, HS⟩; obtain ⟨va, vc, hv⟩ := own_slice3 HS.out.1; subst hv; have HB4 : Hid (Below w.heap.size w w4) := HB2.out.trans (HS.out.2.mono HB2.out.size)))
    have HP4 : Hid (Pu w4 lo B ps) := HHP.out.pu.below HB4.out
    have hs4 := HB4.out.size
    go_loopw [26] (fun i wr => ∃ j : Nat, j ≤ ms.length ∧ i = .int .i64 j ∧ Hid (∃ ts, Un1 w4 wr lo B cs ms j ts)) (fun i _ => ms.length - (intOf i).toNat)
    case atStart => exact ⟨0, Nat.zero_le _, rfl, ps, HP4.out, fun c => by rw [HHP.out.mem c]; simp, Chg.refl _ _ _⟩
    case round =>
      obtain ⟨j, hj, rfl, HU⟩ := hrel
      obtain ⟨ts, hU⟩ := HU.out
      have hws := hU.chg.size
      by_cases hlt : j < ms.length
      · obtain ⟨kv, hO4⟩ := HS.out.1
        have hO := hO4.turn HP4.out.isMap hU.chg
        obtain ⟨g, ug, eg⟩ : ∃ g ug, (Value.slice va ms.length vc) = .slice (some ⟨g, 0, none⟩) ms.length ug := by
          obtain ⟨xs, h1, _⟩ := hO.row
          rcases h1.2 with ⟨e1, e2⟩ | ⟨g, cp, cur, e1, _⟩
          · omega
          · exact ⟨g, cp, e1⟩
        cases eg
        obtain ⟨o, ho⟩ : ∃ o, o = ms.getD j C0 := ⟨_, rfl⟩
        obtain ⟨ka, kn, kc, hkv⟩ : ∃ a n c, kv j = .slice a n c := by
          rcases (hO.keys j hlt).1.2 with ⟨e1, _⟩ | ⟨g, cp, cur, e1, _⟩
          · exact ⟨none, 0, 0, e1⟩
          · exact ⟨_, _, _, e1⟩
        obtain ⟨⟨x0, x1, x2, x3, x4, x5, x6, x7⟩, _⟩ := hO.cells hlt (show ms.getD j C0 = o from ho.symm) hkv
        obtain ⟨x, hx⟩ := hU.find HHP.out.rise HMS.out hlt ho
        have hwf : (Lit.int .i64 o.p).wf = true ∧ (Lit.int .i64 o.q).wf = true := by
          have := hU.pu.wfs x (find_get hx).1
          have e := (find_get hx).2
          have e1 := Prod.mk.inj (show (x.1.p, x.1.q) = (o.p, o.q) from e)
          rw [← e1.1, ← e1.2]
          exact this
        have HUT : Hid (Un1 w4 wr lo B cs ms j ts) := hU
        have HO1 : Hid (o = ms.getD j C0) := ho
        obtain ⟨op, oq, ov, ol, ox, oy, oh, om⟩ := o
        simp only at x0 x1 x2 x3 x4 x5 x6 x7 hx hwf
        have hbx5 : Below wr.heap.size wr (wr.alloc (.cells #[.int .i64 op, .int .i64 oq, .int .i64 ov, .slice ka kn kc, .int .i64 ox, .int .i64 oy, .int .i64 oh, .bool om] 75)) := below_box _
        have ht := take_any B lo op oq ts x (wr.alloc (.cells #[.int .i64 op, .int .i64 oq, .int .i64 ov, .slice ka kn kc, .int .i64 ox, .int .i64 oy, .int .i64 oh, .bool om] 75)) (hU.pu.below hbx5) hx hwf.1 hwf.2
        have HC5 : Hid (Chg wr (wr.alloc (.cells #[.int .i64 op, .int .i64 oq, .int .i64 ov, .slice ka kn kc, .int .i64 ox, .int .i64 oy, .int .i64 oh, .bool om] 75)) B (B + 1)) := Chg.of_below hbx5 _ _
        obtain ⟨⟨t0, t1, t2, t3, t4, t5, t6, t7⟩, _⟩ := cells8 (heap_alloc_new wr (.cells #[.int .i64 op, .int .i64 oq, .int .i64 ov, .slice ka kn kc, .int .i64 ox, .int .i64 oy, .int .i64 oh, .bool om] 75))
        have hki : (j : Int) < (ms.length : Int) := by omega
        clear hU hO hO4 hkv hx hwf ho hbx5 HU
        go_wp2_with (first
          | (go_at_call 38; (with_reducible refine ht.mono ?_); clear ht; rintro e w6 ⟨rfl, HPU, HCH⟩))
        go_roundw
        case rel => exact ⟨j + 1, by omega, by go_num, _, HUT.out.step HHP.out.rise HMS.out hlt HO1.out HPU.out (HC5.out.trans HCH.out)⟩
        case measure => simp [intOf]; omega
      · have hmem := hU.all HMS.out (by omega)
        have hCW : Chg w wr B (B + 1) := (Chg.of_below HB4.out _ _).trans hU.chg
        have hPS : Pu wr lo2 B2 qs := (HHS.out.pu.below HB4.out).turn HP4.out.isMap hne hU.chg
        obtain ⟨D, hown, hT⟩ := hPS.told
        have HT : Hid (Told D qs) := hT
        have HM0 : Hid (Un2 w wr lo B lo2 B2 qs (offC cs id) (fun kl => Maps.has D kl) [] ts) := ⟨come_start hT, hU.pu, fun c => by rw [hmem c]; simp, hPS, hCW⟩
        have hki : ¬ (j : Int) < (ms.length : Int) := by omega
        have hBw : B < wr.heap.size := by omega
        have hB2w : B2 < wr.heap.size := by omega
        have hww : w.heap.size ≤ wr.heap.size := by omega
        clear hmem hCW hPS hT hU HU HS
        obtain ⟨W, hW⟩ : ∃ W, W = wr := ⟨_, rfl⟩
        subst hW
        go_wp2_with (first
          | (at_range; refine wpList_range_own _ rfl _ 52 rfl 38 75 kR Tryz.underlying52 _ B2 qs.length _ rfl hown ?_; intro w0 hrg0 hg0 hs0))
        try go_frame
        have HM1 : Hid (Un2 w w0 lo B lo2 B2 qs (offC cs id) (fun kl => Maps.has D kl) [] ts) := by
          have h0 := HM0.out
          have hb0 : Below W.heap.size W w0 := (Below.refl _ _).grown hg0 (Nat.le_refl _) (fun k e => by cases e)
          exact ⟨h0.come, h0.pu.below hb0, h0.mem, h0.sp.below hb0, h0.chg.trans (Chg.of_below hb0 _ _)⟩
        clear hg0 hs0 HM0 hown
        go_loopw [13] (fun _ wr => ∃ (left : Lit → Bool) (cnt : Nat) (ss : List SC) (us : List (Co × Value)), wr.ranges Tryz.prog 38 Rv B2 W.heap.size qs.length D left cnt ∧ Hid (Un2 w wr lo B lo2 B2 qs (offC cs id) left ss us)) (fun _ wr => wr.rangeLeft B2 W.heap.size)
        case atStart => exact ⟨_, _, [], _, hrg0, HM1.out⟩
        case round =>
          obtain ⟨left, cnt, ss, us, hrg, HM⟩ := hrel
          go_wp2_with (first
            | (at_next; refine wpList_next_ranges _ rfl _ rfl 38 kR Rv _root_.id _root_.id (fun key kl hk => ⟨key, rfl⟩) (fun v _ _ => ⟨v, rfl⟩) B2 W.heap.size qs.length _ _ _ rfl hrg ?_ ?_))
          · intro hc0 hl0
            have HA : Hid (∀ c, c ∈ addCs (offC cs id) sp ↔ c ∈ us.map (·.1)) := HM.out.all HHS.out.mem hl0
            clear hrg hc0 hl0 hrg0
            go_wp2
            go_ret
            exact ⟨rfl, HM.out.chg, fun _ => ⟨us, HM.out.pu, HA.out⟩⟩
          · intro x c' kl yd yp w2' cnt2 hkey hlk hv hat hrg2 hlt hg2 hs2 hen
            obtain rfl : yd = .held c' := (Prod.mk.inj (show (DataW.held c', ([] : List MemPlace)) = (yd, yp) from Option.some.inj hv)).1.symm
            obtain ⟨z, hz, rfl, rfl, hz1, hz2⟩ := come_which HT.out (show keyOf Tryz.prog 38 x = some kl from hkey) hat
            have hkz : keyOf Tryz.prog 38 (encR (refOf z.1)) = some kl := hkey
            have hM := HM.out
            have hc2' : Chg w w2' B (B + 1) := ⟨hg2.os.trans hM.chg.os, hg2.tape.trans hM.chg.tape, hg2.output.trans hM.chg.output, Nat.le_trans hM.chg.size hg2.size, fun b hb hbd => (hg2.block b (Nat.lt_of_lt_of_le hb hM.chg.size) (fun e => by cases e; omega)).trans (hM.chg.block b hb hbd)⟩
            have hM2 : Un2 w w2' lo B lo2 B2 qs (offC cs id) left ss us := ⟨hM.come, hM.pu.iter (ranges_iter hrg) hg2, hM.mem, hM.sp.iter (ranges_iter hrg) hg2, hc2'⟩
            have HR0 : Hid (wr.ranges Tryz.prog 38 Rv B2 W.heap.size qs.length D left cnt) := hrg
            have hzs : z.1.1 ∈ sp := (HHS.out.mem z.1.1).2 (List.mem_map.2 ⟨z.1, hz, rfl⟩)
            have hl1 := HKS.out _ hzs
            have hl2 := HHS.out.good _ hzs
            have hfn := hM2.find HAP.out HHS.out.mem hz hkz hlk
            have hul := hM2.len HHS.out.mem
            have hul2 : us.length ≤ 1000 := by
              have a := HHS.out.few
              have b := HHP.out.few
              have c := List.length_filter_le (fun c : Co => decide (c.p ≠ id)) cs
              unfold offC at hul
              omega
            have hrow := hM2.sp.rows z.1 hz
            obtain ⟨kb, kc, hu⟩ : ∃ kb kc, z.1.2 = .slice (some ⟨kb, 0, none⟩) z.1.1.l.length kc := by
              rcases hrow.2 with ⟨_, e1⟩ | ⟨g, cp, cur, e1, _⟩
              · omega
              · exact ⟨g, cp, e1⟩
            rw [hu] at hrow
            have HZ : Hid (z.1 ∈ qs) := hz
            have HKZ : Hid (keyOf Tryz.prog 38 (encR (refOf z.1)) = some kl) := hkz
            have HM2 : Hid (Un2 w w2' lo B lo2 B2 qs (offC cs id) left ss us) := hM2
            obtain ⟨op, hop⟩ : ∃ y, y = z.1.1.p := ⟨_, rfl⟩
            obtain ⟨oq, hoq⟩ : ∃ y, y = z.1.1.q := ⟨_, rfl⟩
            obtain ⟨ov, hov⟩ : ∃ y, y = z.1.1.v := ⟨_, rfl⟩
            obtain ⟨ol, hol⟩ : ∃ y, y = z.1.1.l := ⟨_, rfl⟩
            obtain ⟨ox, hox⟩ : ∃ y, y = z.1.1.x := ⟨_, rfl⟩
            obtain ⟨oy, hoy⟩ : ∃ y, y = z.1.1.y := ⟨_, rfl⟩
            obtain ⟨oh, hoh⟩ : ∃ y, y = z.1.1.h := ⟨_, rfl⟩
            obtain ⟨om, hom⟩ : ∃ y, y = z.1.1.m := ⟨_, rfl⟩
            have HZE : Hid (z.1.1 = ⟨op, oq, ov, ol, ox, oy, oh, om⟩) := by show _ = _; rw [hop, hoq, hov, hol, hox, hoy, hoh, hom]
            dsimp only [coV, encR, refOf, _root_.id] at hen ⊢
            rw [hu] at hen ⊢
            rw [← hop, ← hoq, ← hov, ← hol, ← hox, ← hoy, ← hoh, ← hom] at hen ⊢
            rw [← hop, ← hoq] at hfn
            rw [← hop] at hz1
            rw [← hoq] at hz2
            rw [← hol] at hl1 hl2 hrow
            have hbx3 : Below w2'.heap.size w2' (w2'.alloc (.cells #[.int .i64 op, .int .i64 oq, .int .i64 ov, .slice (some ⟨kb, 0, none⟩) ol.length kc, .int .i64 ox, .int .i64 oy, .int .i64 oh, .bool om] 75)) := below_box _
            have hput := put_any B lo kb 0 kc us op oq ov ol ox oy oh om (w2'.alloc (.cells #[.int .i64 op, .int .i64 oq, .int .i64 ov, .slice (some ⟨kb, 0, none⟩) ol.length kc, .int .i64 ox, .int .i64 oy, .int .i64 oh, .bool om] 75)) (hM2.pu.below hbx3) (by have := hM2.chg.size; have := hbx3.size; omega) hl2 ((IAt.owned hrow rfl).below hbx3 (Nat.le_refl _)) hz1 hz2 hfn hul2
            have HM3 : Hid (Un2 w (w2'.alloc (.cells #[.int .i64 op, .int .i64 oq, .int .i64 ov, .slice (some ⟨kb, 0, none⟩) ol.length kc, .int .i64 ox, .int .i64 oy, .int .i64 oh, .bool om] 75)) lo B lo2 B2 qs (offC cs id) left ss us) := ⟨hM2.come, hM2.pu.below hbx3, hM2.mem, hM2.sp.below hbx3, hM2.chg.trans (Chg.of_below hbx3 _ _)⟩
            have HR3 : Hid ((w2'.alloc (.cells #[.int .i64 op, .int .i64 oq, .int .i64 ov, .slice (some ⟨kb, 0, none⟩) ol.length kc, .int .i64 ox, .int .i64 oy, .int .i64 oh, .bool om] 75)).ranges Tryz.prog 38 Rv B2 W.heap.size qs.length D (fun s => left s && !s.sameKey kl) cnt2) := hrg2.alloc _
            obtain ⟨⟨t0, t1, t2, t3, t4, t5, t6, t7⟩, _⟩ := cells8 (heap_alloc_new w2' (.cells #[.int .i64 op, .int .i64 oq, .int .i64 ov, .slice (some ⟨kb, 0, none⟩) ol.length kc, .int .i64 ox, .int .i64 oy, .int .i64 oh, .bool om] 75))
            clear hop hoq hov hol hox hoy hoh hom hs2 hkey hat hv hrg hrg2 hM hM2 HM hz hkz hg2 hu hrow hl1 hl2 hul hul2 hfn hz1 hz2 hzs hc2' hbx3 hrg0 HM1
            go_wp2_with (first
              | (go_at_call 54; (with_reducible refine hput.mono ?_); clear hput; rintro e w7 ⟨rfl, HPU, hch⟩; have HCH : Hid (Chg (w2'.alloc (.cells #[.int .i64 op, .int .i64 oq, .int .i64 ov, .slice (some ⟨kb, 0, none⟩) ol.length kc, .int .i64 ox, .int .i64 oy, .int .i64 oh, .bool om] 75)) w7 B (B + 1)) := hch; clear hch))
            have HR7 : Hid (w7.ranges Tryz.prog 38 Rv B2 W.heap.size qs.length D (fun s => left s && !s.sameKey kl) cnt2) := ranges_turn HR3.out hne (by omega) HCH.out
            go_roundw
            case rel =>
              obtain ⟨u, hu⟩ := HPU.out
              rw [← HZE.out] at hu
              exact ⟨_, cnt2, _, _, HR7.out, HM2.out.step HZ.out HKZ.out hlk HM3.out hne hu HCH.out⟩
            case measure => rw [HR7.out.left_eq, HR0.out.left_eq]; exact hlt
  · clear hu hH hS hks h hk hbx
    go_enter Tryz.func24, Tryz.ntmps24
    go_wp2_with (first
      | (go_at_call 52; (with_reducible refine hF.mono ?_); clear hF; rintro e w2 ⟨rfl, hb2⟩; have HB2 : Hid (Below w.heap.size w w2) := HBX.out.trans (hb2.mono HBX.out.size); clear hb2))
    go_ret
    exact ⟨rfl, Chg.of_below HB2.out _ _, fun e => absurd e h0⟩

end Go.Proofs.YthjolannlefbcaaGreatDoor
