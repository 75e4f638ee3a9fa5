/- What a voter answers that votes, for a block and for a coin: the vote, and the voter with choices of its own. -/
import Derived.Test.YtpcgkgjmcnncdaaZf
import Derived.Test.YtpcgkgjmcnncdaaZe
import Derived.Deep.DeepCutAuto
import Derived.Deep.RegionHeld3
namespace Go.Proofs.Ytpcgkgjmcnncdaa
open Go.RowKit Go.Maps Go.WideMaps

/-- A result with a voter: its choices lie in new memory. -/
def OutVr (w w' : World) (e : Ending) (r : Vr) : Prop :=
  ∃ va vc, e = .returned (.agg #[.int .i64 r.c, .int .i64 r.v.k, .int .i64 r.v.d, .int .i64 r.v.b, .int .i64 r.v.p, .int .i64 r.v.q, .int .i64 r.v.t, .int .i64 r.k, .int .i64 r.l, .slice va r.ms.length vc]) ∧ w'.ownsRow w.heap.size 44 3 (.slice va r.ms.length vc) r.ms.length (mcells r.ms) ∧ Below w.heap.size w w'
/-- A voter of the call's own in block R: its choices in a row of their own. -/
def VdAt (w1 wc : World) (R : Nat) (k l : Int) (n : Nat) (ms : List Mb) : Prop :=
  w1.heap.size ≤ R ∧ Below w1.heap.size w1 wc ∧ ∃ va vc, wc.heap[R]? = some (.cells #[.int .i64 k, .int .i64 l, .slice va n vc] 26 (0, 0)) ∧ wc.ownsRow w1.heap.size 44 3 (.slice va n vc) n (mcells ms) ∧ (Value.slice va n vc).ownBlock ≠ some R
theorem vd_new {w1 uC : World} {lo n vc : Nat} {va : Option Addr} {k l : Int} {ms : List Mb} (hO : uC.ownsRow lo 44 3 (.slice va n vc) n (mcells ms)) (hlo : w1.heap.size ≤ lo) (hb : Below w1.heap.size w1 uC) :
    Hid (VdAt w1 (uC.alloc (.cells #[.int .i64 k, .int .i64 l, .slice va n vc] 26)) uC.heap.size k l n ms) :=
  ⟨hb.size, hb.trans ((below_box _).mono hb.size), va, vc, heap_alloc_new _ _, Joins.ownsRow_le (hO.alloc _) hlo, fun e => by have := (hO.lt _ e).2; omega⟩
theorem vd_set {w1 uC : World} {R lo n vc : Nat} {va : Option Addr} {k l : Int} {ms : List Mb} {c0 c1 c2 : Value} (hO : uC.ownsRow lo 44 3 (.slice va n vc) n (mcells ms)) (hR : w1.heap.size ≤ R) (hlo : R < lo) (hb : Below w1.heap.size w1 uC) (hz : uC.heap[R]? = some (.cells #[c0, c1, c2] 26 (0, 0))) :
    Hid (VdAt w1 (((uC.setCell ⟨R, 0, none⟩ (.int .i64 k)).setCell ⟨R, 1, none⟩ (.int .i64 l)).setCell ⟨R, 2, none⟩ (.slice va n vc)) R k l n ms) :=
  ⟨hR, below_set3 hb hR _ _ _, va, vc, set3 hz _ _ _, Joins.ownsRow_le (row_set3 hO hlo _ _ _) (by omega), fun e => by have := (hO.lt _ e).1; omega⟩

/-- The voter that is answered, in block R, with its choices. -/
structure UAt (w1 U : World) (R : Nat) (k l : Int) (va : Option Addr) (n vc : Nat) (ms : List Mb) : Prop where
  le : w1.heap.size ≤ R
  bel : Below w1.heap.size w1 U
  blk : U.heap[R]? = some (.cells #[.int .i64 k, .int .i64 l, .slice va n vc] 26 (0, 0))
  row : U.ownsRow w1.heap.size 44 3 (.slice va n vc) n (mcells ms)
theorem set3_2 {W : World} {b : Nat} {c0 c1 c2 : Value} {t : TypeId} (h : W.heap[b]? = some (.cells #[c0, c1, c2] t (0, 0))) (u : Value) : (W.setCell ⟨b, 2, none⟩ u).heap[b]? = some (.cells #[c0, c1, u] t (0, 0)) := by
  have := Joins.block_setCell (i := 2) h u
  simpa using this

theorem row_neV {w : World} {base n z R : Nat} {e t : TypeId} {v : Value} {xs : List Value} {cs : Array Value} (h : w.ownsRow base e z v n xs) (hR : w.heap[R]? = some (.cells cs t (0, 0))) (hne : t ≠ e) : v.ownBlock ≠ some R := by
  rcases id h.2 with ⟨rfl, _⟩ | ⟨g, c, cur', rfl, _, hh, _⟩
  · simp [Value.ownBlock]
  · simp only [Value.ownBlock, ne_eq, Option.some.injEq]
    rintro rfl
    rw [hR] at hh
    simp at hh
    exact hne hh.2
theorem cho_at {V : World} {X : Nat} {p q t : Int} {T : TypeId} (h : V.heap[X]? = some (.cells #[.int .i64 p, .int .i64 q, .int .i64 t] T (0, 0))) : MAt V (some ⟨X, 0, none⟩) 1 [(p, q, t)] := by
  obtain ⟨c0, c1, c2⟩ := cells3 h
  refine ⟨rfl, .inr ⟨X, 0, rfl, lt_of_block h, fun j hj => ?_⟩⟩
  obtain rfl : j = 0 := by omega
  exact ⟨c0, c1, c2⟩
/-- A choice is appended to the choices of the voter that is answered. -/
theorem cho_added {w1 w2 : World} {R n vc : Nat} {va : Option Addr} {k l p q t : Int} {ms : List Mb} (h : UAt w1 w2 R k l va n vc ms) (hn : n ≤ 1048576) :
    ∃ va' vc' v1, (Builtin.append_ #[24, 24] 24 #[.slice va n vc, .slice (some ⟨w2.heap.size, 0, none⟩) 1 1]).run Try.prog (w2.alloc (.cells #[.int .i64 p, .int .i64 q, .int .i64 t] 44)) = .ok (.slice va' (n + 1) vc') v1 ∧ Hid (v1.heap[R]? = some (.cells #[.int .i64 k, .int .i64 l, .slice va n vc] 26 (0, 0))) ∧
      Hid (UAt w1 (v1.setCell ⟨R, 2, none⟩ (.slice va' (n + 1) vc')) R k l va' (n + 1) vc' (ms ++ [(p, q, t)])) := by
  have hb1 : Below w2.heap.size w2 (w2.alloc (.cells #[.int .i64 p, .int .i64 q, .int .i64 t] 44)) := below_box _
  have hbw := h.bel.trans (hb1.mono h.bel.size)
  obtain ⟨v', v1, hrun, hO, hg, va', vc', rfl⟩ := chos_more (c := 1) ((OwnR.of h.row).below hb1).r hn (cho_at (heap_alloc_new w2 (.cells #[.int .i64 p, .int .i64 q, .int .i64 t] 44))) (by omega) hbw.size
  have hblk := (keepb h.blk hb1).out
  have hnb := row_neV ((OwnR.of h.row).below hb1).r hblk (of_decide_eq_true (by kernel_rfl))
  have hblk1 : v1.heap[R]? = some (.cells #[.int .i64 k, .int .i64 l, .slice va n vc] 26 (0, 0)) := (hg.block R (lt_of_block hblk) (fun e => hnb e.symm)).trans hblk
  refine ⟨va', vc', v1, hrun, hblk1, h.le, ?_, set3_2 hblk1 _, ownsRow_setCell_other hO (a := ⟨R, 2, none⟩) (row_neV hO hblk1 (of_decide_eq_true (by kernel_rfl))) _⟩
  exact (hbw.grown hg hbw.size (fun j e => (h.row.lt j e).1)).setCell (p := ⟨R, 2, none⟩) h.le _

set_option maxRecDepth 20000 in
set_option maxHeartbeats 4000000 in
theorem votedFor_had (k l p q t : Int) (a : Option Addr) (n cap : Nat) (ms : List Mb) (w : World) (hn : n ≤ 1048576) (hM : MAt w a n ms) (hmem : (p, q, t) ∈ ms) :
    Calls Try.prog 15 #[.agg #[.int .i64 k, .int .i64 l, .slice a n cap], .iface 48 (.agg #[.int .i64 p, .int .i64 q, .int .i64 t])] w fun e w' => OutVr w w' e ⟨0, ⟨k, 2, 0, p, q, t⟩, k, l, ms⟩ := by
  have hta : ∀ W : World, (Instr.typeAssert (.iface 48 (.agg #[.int .i64 p, .int .i64 q, .int .i64 t])) 64 67 true).run Try.prog W = .ok (.tuple #[.agg #[.int .i64 0], .bool false]) W := fun _ => by kernel_rfl
  have htb : ∀ W : World, (Instr.typeAssert (.iface 48 (.agg #[.int .i64 p, .int .i64 q, .int .i64 t])) 64 48 true).run Try.prog W = .ok (.tuple #[.agg #[.int .i64 p, .int .i64 q, .int .i64 t], .bool true]) W := fun _ => by kernel_rfl
  have HMEM : Hid (decide ((p, q, t) ∈ ms) = true) := by show _ = _; simpa using hmem
  clear hmem
  obtain ⟨w1, hw1⟩ : ∃ W, W = (w.alloc (.cells #[.int .i64 k, .int .i64 l, .slice a n cap] 26)).alloc (.cells #[.int .i64 0, .int .i64 0, .int .i64 0, .int .i64 0, .int .i64 0, .int .i64 0, .int .i64 0, .int .i64 0, .int .i64 0, .slice none 0 0] 34) := ⟨_, rfl⟩
  have HW1 : Hid (w1 = (w.alloc (.cells #[.int .i64 k, .int .i64 l, .slice a n cap] 26)).alloc (.cells #[.int .i64 0, .int .i64 0, .int .i64 0, .int .i64 0, .int .i64 0, .int .i64 0, .int .i64 0, .int .i64 0, .int .i64 0, .slice none 0 0] 34)) := hw1
  have HBL : Hid (Below w.heap.size w w1) := by rw [hw1]; exact below_box2 _ _
  have HXB : Hid (w1.heap[w.heap.size]? = some (.cells #[.int .i64 k, .int .i64 l, .slice a n cap] 26 (0, 0))) := by rw [hw1]; exact block_at2
  have HXR : Hid (w1.heap[w.heap.size + 1]? = some (.cells #[.int .i64 0, .int .i64 0, .int .i64 0, .int .i64 0, .int .i64 0, .int .i64 0, .int .i64 0, .int .i64 0, .int .i64 0, .slice none 0 0] 34 (0, 0))) := by rw [hw1]; exact heap_alloc_at _ _ _ (by simp)
  have HSZ : Hid (w1.heap.size = w.heap.size + 1 + 1) := by show _ = _; rw [hw1]; simp
  have HM : Hid (MAt w1 a n ms) := hM.below HBL.out (Nat.le_refl _)
  have HN : Hid (ms.length = n) := hM.1
  have hcl : ∀ V, Below w1.heap.size w1 V → Calls Try.prog 27 #[.slice a n cap] V fun e w' => ∃ va vc, e = .returned (.slice va n vc) ∧ Hid (w'.ownsRow V.heap.size 44 3 (.slice va n vc) n (mcells ms)) ∧ Hid (Below V.heap.size V w') ∧ Hid (Below w1.heap.size w1 w') := fun V hV =>
    (chClone_any a n cap ms V hn (HM.out.below hV (Nat.le_refl _))).mono fun _ _ ⟨va, vc, e, h1, h2⟩ => ⟨va, vc, e, h1, h2, hV.trans (h2.mono hV.size)⟩
  have d0 : Below w1.heap.size w1 w1.drew := (Below.refl _ _).drew
  have d1 : Below w1.heap.size w1 (w1.alloc (.cells #[.int .i64 0, .int .i64 0, .slice none 0 0] 26)).drew := (below_box _).drew
  have HZ0 : Hid ((w1.alloc (.cells #[.int .i64 0, .int .i64 0, .slice none 0 0] 26)).drew.heap[w1.heap.size]? = some (.cells #[.int .i64 0, .int .i64 0, .slice none 0 0] 26 (0, 0))) := heap_alloc_new _ _
  obtain ⟨bx0, bx1, bx2⟩ := cells3 HXB.out
  have hbl := lt_of_block HXB.out
  have farB : ∀ (V : World) (i j : Nat) (u : Value), (V.setCell ⟨w1.heap.size, i, none⟩ u).cell? ⟨w.heap.size, j, none⟩ = V.cell? ⟨w.heap.size, j, none⟩ := fun V i j u => World.cell?_setCell_far V _ _ u (show w1.heap.size ≠ w.heap.size by omega)
  clear hM hw1
  go_enter Try.func15, Try.ntmps15
  go_wp2
  rw [← HW1.out]
  go_cut [5] (fun s wc => ∃ R, s = .pointer (some ⟨R, 0, none⟩) ∧ Hid (VdAt w1 wc R k l n ms))
  case first =>
    go_region_held3 (fun w' => w'.cell? ⟨w.heap.size, 0, none⟩ = some (.int .i64 k) ∧ w'.cell? ⟨w.heap.size, 1, none⟩ = some (.int .i64 l) ∧ w'.cell? ⟨w.heap.size, 2, none⟩ = some (.slice a n cap)) (first | (simp only [farB]; with_reducible exact ⟨x0, x1, x2⟩) | (with_reducible exact ⟨World.cell?_alloc_some _ _ _ _ x0, World.cell?_alloc_some _ _ _ _ x1, World.cell?_alloc_some _ _ _ _ x2⟩) | go_keep)
      (first
        | (go_at_call 27; (first
            | ((with_reducible refine (hcl w1.drew d0).mono ?_); rintro e uC ⟨va, vc, rfl, HO, HC, HCC⟩; obtain ⟨x0, x1, x2⟩ := keep3V hbl HCC.out ⟨bx0, bx1, bx2⟩)
            | ((with_reducible refine (hcl (w1.alloc (.cells #[.int .i64 0, .int .i64 0, .slice none 0 0] 26)).drew d1).mono ?_); rintro e uC ⟨va, vc, rfl, HO, HC, HCC⟩; obtain ⟨x0, x1, x2⟩ := keep3V hbl HCC.out ⟨bx0, bx1, bx2⟩; have HZC := keepb HZ0.out HC.out; obtain ⟨y0, y1, y2⟩ := cells3 HZC.out; have f0 := Joins.unfrozen_of_block HZC.out 0; have f1 := Joins.unfrozen_of_block HZC.out 1; have f2 := Joins.unfrozen_of_block HZC.out 2))))
    all_goals
      go_wp2
      go_meet
      first
        | exact ⟨_, rfl, vd_set HO.out (Nat.le_refl _) (by simp) HCC.out HZC.out⟩
        | exact ⟨_, rfl, vd_new HO.out (Nat.le_refl _) HCC.out⟩
  case rest =>
    obtain ⟨R, hs, HS⟩ := hcut
    subst hs
    obtain ⟨hR, hB, va, vc, hblk, hO, hnR⟩ := HS.out
    have hRl := lt_of_block hblk
    have HBX : Hid (Below wc.heap.size wc (wc.alloc (.cells #[.int .i64 p, .int .i64 q, .int .i64 t] 48))) := below_box _
    have HBK := keepb hblk HBX.out
    have HBC : Hid ((wc.alloc (.cells #[.int .i64 p, .int .i64 q, .int .i64 t] 48)).heap[wc.heap.size]? = some (.cells #[.int .i64 p, .int .i64 q, .int .i64 t] 48 (0, 0))) := heap_alloc_new _ _
    obtain ⟨r0, r1, r2⟩ := cells3 HBK.out
    have hct := chContains_any va n vc ms p q t (wc.alloc (.cells #[.int .i64 p, .int .i64 q, .int .i64 t] 48)) (by unfold maxLen; omega) ((mat_row hO HN.out).below HBX.out (Nat.le_refl _))
    rw [HMEM.out] at hct
    have HU0 : Hid (∀ w2, Below (wc.alloc (.cells #[.int .i64 p, .int .i64 q, .int .i64 t] 48)).heap.size (wc.alloc (.cells #[.int .i64 p, .int .i64 q, .int .i64 t] 48)) w2 → UAt w1 w2 R k l va n vc ms) := fun w2 hb2 => ⟨hR, hB.trans ((HBX.out.trans (hb2.mono HBX.out.size)).mono hB.size), (keepb HBK.out hb2).out, (((OwnR.of hO).below HBX.out).below hb2).r⟩
    clear hR hB hblk hO hnR HS
    go_wp2_with (go_at_call 28; (with_reducible refine hct.mono ?_); clear hct; rintro e U ⟨rfl, hb2⟩; have HU : Hid (UAt w1 U R k l va n vc ms) := HU0.out U hb2)
    clear hb2 HU0 HBX HBK HBC r0 r1 r2
    have HX : Hid (U.heap[w.heap.size]? = some (.cells #[.int .i64 k, .int .i64 l, .slice a n cap] 26 (0, 0))) := (HU.out.bel.block _ (lt_of_block HXB.out)).trans HXB.out
    have HR0 : Hid (U.heap[w.heap.size + 1]? = some (.cells #[.int .i64 0, .int .i64 0, .int .i64 0, .int .i64 0, .int .i64 0, .int .i64 0, .int .i64 0, .int .i64 0, .int .i64 0, .slice none 0 0] 34 (0, 0))) := (HU.out.bel.block _ (lt_of_block HXR.out)).trans HXR.out
    obtain ⟨b0, b1, b2⟩ := cells3 HX.out
    obtain ⟨r0, r1, r2⟩ := cells3 HU.out.blk
    have hbl2 := lt_of_block HX.out
    have hRl2 := lt_of_block HU.out.blk
    have hvo := (voteOf_coin k p q t U.drew)
    have hRn : w.heap.size + 1 ≠ R := by have := HSZ.out; have := HU.out.le; omega
    have far0 : ∀ (V : World) (i j : Nat) (u : Value), (V.setCell ⟨w.heap.size + 1, i, none⟩ u).cell? ⟨w.heap.size, j, none⟩ = V.cell? ⟨w.heap.size, j, none⟩ := fun V i j u => World.cell?_setCell_far V _ _ u (show w.heap.size + 1 ≠ w.heap.size by omega)
    have farR : ∀ (V : World) (i j : Nat) (u : Value), (V.setCell ⟨w.heap.size + 1, i, none⟩ u).cell? ⟨R, j, none⟩ = V.cell? ⟨R, j, none⟩ := fun V i j u => World.cell?_setCell_far V _ _ u hRn
    clear bx0 bx1 bx2
    go_region_held3 (fun w' => w'.cell? ⟨w.heap.size, 0, none⟩ = some (.int .i64 k) ∧ w'.cell? ⟨R, 0, none⟩ = some (.int .i64 k) ∧ w'.cell? ⟨R, 1, none⟩ = some (.int .i64 l) ∧ w'.cell? ⟨R, 2, none⟩ = some (.slice va n vc)) (first | (simp only [far0, farR]; exact ⟨z0, z1, z2, z3⟩) | go_keep)
      (first
        | (go_at_call 29; (with_reducible refine hvo.mono ?_); rintro e w3 ⟨rfl, hb3⟩; have HB3 : Hid (Below U.heap.size U w3) := (Below.refl _ _).drew.trans hb3; have z0 := (HB3.out.cell (p := ⟨w.heap.size, 0, none⟩) hbl2).trans b0; obtain ⟨z1, z2, z3⟩ := keep3V hRl2 HB3.out ⟨r0, r1, r2⟩; have HR3 := keepb HR0.out HB3.out; obtain ⟨y0, y1, y2, y3, y4, y5, y6, y7, y8, y9⟩ := cells10V HR3.out; have f0 := Joins.unfrozen_of_block HR3.out 0; have f1 := Joins.unfrozen_of_block HR3.out 1; have f2 := Joins.unfrozen_of_block HR3.out 2; have f3 := Joins.unfrozen_of_block HR3.out 3; have f4 := Joins.unfrozen_of_block HR3.out 4; have f5 := Joins.unfrozen_of_block HR3.out 5; have f6 := Joins.unfrozen_of_block HR3.out 6; have f7 := Joins.unfrozen_of_block HR3.out 7; have f8 := Joins.unfrozen_of_block HR3.out 8; have f9 := Joins.unfrozen_of_block HR3.out 9))
    go_wp2
    obtain ⟨s0, s1, s2, s3, s4, s5, s6, s7, s8, s9⟩ := cells10V (set10V10 HR3.out (.int .i64 0) (.int .i64 k) (.int .i64 2) (.int .i64 0) (.int .i64 p) (.int .i64 q) (.int .i64 t) (.int .i64 k) (.int .i64 l) (.slice va n vc))
    refine bodyPost_ret (v := .agg #[.int .i64 0, .int .i64 k, .int .i64 2, .int .i64 0, .int .i64 p, .int .i64 q, .int .i64 t, .int .i64 k, .int .i64 l, .slice va n vc]) (by simp [results, Try.results15, go_sem, s0, s1, s2, s3, s4, s5, s6, s7, s8, s9]) rfl ⟨va, vc, ?_, ?_, ?_⟩
    · rw [HN.out]
    · rw [HN.out]; exact Joins.ownsRow_le (row_set10V ((OwnR.of HU.out.row).below HB3.out).r (by have := HSZ.out; omega) _ _ _ _ _ _ _ _ _ _) (by have := HSZ.out; omega)
    · exact below_set10V (HBL.out.trans ((HU.out.bel.trans (HB3.out.mono HU.out.bel.size)).mono HBL.out.size)) (by omega) _ _ _ _ _ _ _ _ _ _

set_option maxRecDepth 20000 in
set_option maxHeartbeats 4000000 in
theorem votedFor_new (k l p q t : Int) (a : Option Addr) (n cap : Nat) (ms : List Mb) (w : World) (hn : n ≤ 1048576) (hM : MAt w a n ms) (hmem : (p, q, t) ∉ ms) :
    Calls Try.prog 15 #[.agg #[.int .i64 k, .int .i64 l, .slice a n cap], .iface 48 (.agg #[.int .i64 p, .int .i64 q, .int .i64 t])] w fun e w' => OutVr w w' e ⟨0, ⟨k, 2, 0, p, q, t⟩, k, l, ms ++ [(p, q, t)]⟩ := by
  have hta : ∀ W : World, (Instr.typeAssert (.iface 48 (.agg #[.int .i64 p, .int .i64 q, .int .i64 t])) 64 67 true).run Try.prog W = .ok (.tuple #[.agg #[.int .i64 0], .bool false]) W := fun _ => by kernel_rfl
  have htb : ∀ W : World, (Instr.typeAssert (.iface 48 (.agg #[.int .i64 p, .int .i64 q, .int .i64 t])) 64 48 true).run Try.prog W = .ok (.tuple #[.agg #[.int .i64 p, .int .i64 q, .int .i64 t], .bool true]) W := fun _ => by kernel_rfl
  have HMEM : Hid (decide ((p, q, t) ∈ ms) = false) := by show _ = _; simpa using hmem
  have HN1 : Hid ((ms ++ [(p, q, t)]).length = n + 1) := by show _ = _; rw [List.length_append, hM.1]; rfl
  clear hmem
  obtain ⟨w1, hw1⟩ : ∃ W, W = (w.alloc (.cells #[.int .i64 k, .int .i64 l, .slice a n cap] 26)).alloc (.cells #[.int .i64 0, .int .i64 0, .int .i64 0, .int .i64 0, .int .i64 0, .int .i64 0, .int .i64 0, .int .i64 0, .int .i64 0, .slice none 0 0] 34) := ⟨_, rfl⟩
  have HW1 : Hid (w1 = (w.alloc (.cells #[.int .i64 k, .int .i64 l, .slice a n cap] 26)).alloc (.cells #[.int .i64 0, .int .i64 0, .int .i64 0, .int .i64 0, .int .i64 0, .int .i64 0, .int .i64 0, .int .i64 0, .int .i64 0, .slice none 0 0] 34)) := hw1
  have HBL : Hid (Below w.heap.size w w1) := by rw [hw1]; exact below_box2 _ _
  have HXB : Hid (w1.heap[w.heap.size]? = some (.cells #[.int .i64 k, .int .i64 l, .slice a n cap] 26 (0, 0))) := by rw [hw1]; exact block_at2
  have HXR : Hid (w1.heap[w.heap.size + 1]? = some (.cells #[.int .i64 0, .int .i64 0, .int .i64 0, .int .i64 0, .int .i64 0, .int .i64 0, .int .i64 0, .int .i64 0, .int .i64 0, .slice none 0 0] 34 (0, 0))) := by rw [hw1]; exact heap_alloc_at _ _ _ (by simp)
  have HSZ : Hid (w1.heap.size = w.heap.size + 1 + 1) := by show _ = _; rw [hw1]; simp
  have HM : Hid (MAt w1 a n ms) := hM.below HBL.out (Nat.le_refl _)
  have HN : Hid (ms.length = n) := hM.1
  have hcl : ∀ V, Below w1.heap.size w1 V → Calls Try.prog 27 #[.slice a n cap] V fun e w' => ∃ va vc, e = .returned (.slice va n vc) ∧ Hid (w'.ownsRow V.heap.size 44 3 (.slice va n vc) n (mcells ms)) ∧ Hid (Below V.heap.size V w') ∧ Hid (Below w1.heap.size w1 w') := fun V hV =>
    (chClone_any a n cap ms V hn (HM.out.below hV (Nat.le_refl _))).mono fun _ _ ⟨va, vc, e, h1, h2⟩ => ⟨va, vc, e, h1, h2, hV.trans (h2.mono hV.size)⟩
  have d0 : Below w1.heap.size w1 w1.drew := (Below.refl _ _).drew
  have d1 : Below w1.heap.size w1 (w1.alloc (.cells #[.int .i64 0, .int .i64 0, .slice none 0 0] 26)).drew := (below_box _).drew
  have HZ0 : Hid ((w1.alloc (.cells #[.int .i64 0, .int .i64 0, .slice none 0 0] 26)).drew.heap[w1.heap.size]? = some (.cells #[.int .i64 0, .int .i64 0, .slice none 0 0] 26 (0, 0))) := heap_alloc_new _ _
  obtain ⟨bx0, bx1, bx2⟩ := cells3 HXB.out
  have hbl := lt_of_block HXB.out
  have farB : ∀ (V : World) (i j : Nat) (u : Value), (V.setCell ⟨w1.heap.size, i, none⟩ u).cell? ⟨w.heap.size, j, none⟩ = V.cell? ⟨w.heap.size, j, none⟩ := fun V i j u => World.cell?_setCell_far V _ _ u (show w1.heap.size ≠ w.heap.size by omega)
  clear hM hw1
  go_enter Try.func15, Try.ntmps15
  go_wp2
  rw [← HW1.out]
  go_cut [5] (fun s wc => ∃ R, s = .pointer (some ⟨R, 0, none⟩) ∧ Hid (VdAt w1 wc R k l n ms))
  case first =>
    go_region_held3 (fun w' => w'.cell? ⟨w.heap.size, 0, none⟩ = some (.int .i64 k) ∧ w'.cell? ⟨w.heap.size, 1, none⟩ = some (.int .i64 l) ∧ w'.cell? ⟨w.heap.size, 2, none⟩ = some (.slice a n cap)) (first | (simp only [farB]; with_reducible exact ⟨x0, x1, x2⟩) | (with_reducible exact ⟨World.cell?_alloc_some _ _ _ _ x0, World.cell?_alloc_some _ _ _ _ x1, World.cell?_alloc_some _ _ _ _ x2⟩) | go_keep)
      (first
        | (go_at_call 27; (first
            | ((with_reducible refine (hcl w1.drew d0).mono ?_); rintro e uC ⟨va, vc, rfl, HO, HC, HCC⟩; obtain ⟨x0, x1, x2⟩ := keep3V hbl HCC.out ⟨bx0, bx1, bx2⟩)
            | ((with_reducible refine (hcl (w1.alloc (.cells #[.int .i64 0, .int .i64 0, .slice none 0 0] 26)).drew d1).mono ?_); rintro e uC ⟨va, vc, rfl, HO, HC, HCC⟩; obtain ⟨x0, x1, x2⟩ := keep3V hbl HCC.out ⟨bx0, bx1, bx2⟩; have HZC := keepb HZ0.out HC.out; obtain ⟨y0, y1, y2⟩ := cells3 HZC.out; have f0 := Joins.unfrozen_of_block HZC.out 0; have f1 := Joins.unfrozen_of_block HZC.out 1; have f2 := Joins.unfrozen_of_block HZC.out 2))))
    all_goals
      go_wp2
      go_meet
      first
        | exact ⟨_, rfl, vd_set HO.out (Nat.le_refl _) (by simp) HCC.out HZC.out⟩
        | exact ⟨_, rfl, vd_new HO.out (Nat.le_refl _) HCC.out⟩
  case rest =>
    obtain ⟨R, hs, HS⟩ := hcut
    subst hs
    obtain ⟨hR, hB, va, vc, hblk, hO, hnR⟩ := HS.out
    have hRl := lt_of_block hblk
    have HBX : Hid (Below wc.heap.size wc (wc.alloc (.cells #[.int .i64 p, .int .i64 q, .int .i64 t] 48))) := below_box _
    have HBK := keepb hblk HBX.out
    have HBC : Hid ((wc.alloc (.cells #[.int .i64 p, .int .i64 q, .int .i64 t] 48)).heap[wc.heap.size]? = some (.cells #[.int .i64 p, .int .i64 q, .int .i64 t] 48 (0, 0))) := heap_alloc_new _ _
    obtain ⟨r0, r1, r2⟩ := cells3 HBK.out
    have hct := chContains_any va n vc ms p q t (wc.alloc (.cells #[.int .i64 p, .int .i64 q, .int .i64 t] 48)) (by unfold maxLen; omega) ((mat_row hO HN.out).below HBX.out (Nat.le_refl _))
    rw [HMEM.out] at hct
    have HU0 : Hid (∀ w2, Below (wc.alloc (.cells #[.int .i64 p, .int .i64 q, .int .i64 t] 48)).heap.size (wc.alloc (.cells #[.int .i64 p, .int .i64 q, .int .i64 t] 48)) w2 → UAt w1 w2 R k l va n vc ms) := fun w2 hb2 => ⟨hR, hB.trans ((HBX.out.trans (hb2.mono HBX.out.size)).mono hB.size), (keepb HBK.out hb2).out, (((OwnR.of hO).below HBX.out).below hb2).r⟩
    clear hR hB hblk hO hnR HS
    go_wp2_with (first
      | (go_at_call 28; (with_reducible refine hct.mono ?_); clear hct; rintro e w2 ⟨rfl, hb2⟩; have HU2 : Hid (UAt w1 w2 R k l va n vc ms) := HU0.out w2 hb2; obtain ⟨va', vc', v1, hrun, HBK1, HU3⟩ := cho_added (p := p) (q := q) (t := t) HU2.out hn; obtain ⟨t0, t1, t2⟩ := cells3 HU2.out.blk; obtain ⟨q0, q1, q2⟩ := cells3 (keepb HBC.out hb2).out; obtain ⟨o0, o1, o2⟩ := cells3 HBK1.out; have fz := Joins.unfrozen_of_block HBK1.out 2)
      | (at_builtin; go_must (refine wpList_append_runV (by rfl) _ _ _ (by rfl) (by rfl) (by rfl) hrun ?_); clear hrun))
    obtain ⟨U, hU⟩ : ∃ U, U = v1.setCell ⟨R, 2, none⟩ (.slice va' (n + 1) vc') := ⟨_, rfl⟩
    have HU : Hid (UAt w1 U R k l va' (n + 1) vc' (ms ++ [(p, q, t)])) := by rw [hU]; exact HU3
    rw [← hU]
    clear hU hb2 HU0 HU2 HU3 HBX HBK HBC HBK1 r0 r1 r2 t0 t1 t2 q0 q1 q2 o0 o1 o2 fz
    have HX : Hid (U.heap[w.heap.size]? = some (.cells #[.int .i64 k, .int .i64 l, .slice a n cap] 26 (0, 0))) := (HU.out.bel.block _ (lt_of_block HXB.out)).trans HXB.out
    have HR0 : Hid (U.heap[w.heap.size + 1]? = some (.cells #[.int .i64 0, .int .i64 0, .int .i64 0, .int .i64 0, .int .i64 0, .int .i64 0, .int .i64 0, .int .i64 0, .int .i64 0, .slice none 0 0] 34 (0, 0))) := (HU.out.bel.block _ (lt_of_block HXR.out)).trans HXR.out
    obtain ⟨b0, b1, b2⟩ := cells3 HX.out
    obtain ⟨r0, r1, r2⟩ := cells3 HU.out.blk
    have hbl2 := lt_of_block HX.out
    have hRl2 := lt_of_block HU.out.blk
    have hvo := (voteOf_coin k p q t U.drew)
    have hRn : w.heap.size + 1 ≠ R := by have := HSZ.out; have := HU.out.le; omega
    have far0 : ∀ (V : World) (i j : Nat) (u : Value), (V.setCell ⟨w.heap.size + 1, i, none⟩ u).cell? ⟨w.heap.size, j, none⟩ = V.cell? ⟨w.heap.size, j, none⟩ := fun V i j u => World.cell?_setCell_far V _ _ u (show w.heap.size + 1 ≠ w.heap.size by omega)
    have farR : ∀ (V : World) (i j : Nat) (u : Value), (V.setCell ⟨w.heap.size + 1, i, none⟩ u).cell? ⟨R, j, none⟩ = V.cell? ⟨R, j, none⟩ := fun V i j u => World.cell?_setCell_far V _ _ u hRn
    clear bx0 bx1 bx2
    go_region_held3 (fun w' => w'.cell? ⟨w.heap.size, 0, none⟩ = some (.int .i64 k) ∧ w'.cell? ⟨R, 0, none⟩ = some (.int .i64 k) ∧ w'.cell? ⟨R, 1, none⟩ = some (.int .i64 l) ∧ w'.cell? ⟨R, 2, none⟩ = some (.slice va' (n + 1) vc')) (first | (simp only [far0, farR]; exact ⟨z0, z1, z2, z3⟩) | go_keep)
      (first
        | (go_at_call 29; (with_reducible refine hvo.mono ?_); rintro e w3 ⟨rfl, hb3⟩; have HB3 : Hid (Below U.heap.size U w3) := (Below.refl _ _).drew.trans hb3; have z0 := (HB3.out.cell (p := ⟨w.heap.size, 0, none⟩) hbl2).trans b0; obtain ⟨z1, z2, z3⟩ := keep3V hRl2 HB3.out ⟨r0, r1, r2⟩; have HR3 := keepb HR0.out HB3.out; obtain ⟨y0, y1, y2, y3, y4, y5, y6, y7, y8, y9⟩ := cells10V HR3.out; have f0 := Joins.unfrozen_of_block HR3.out 0; have f1 := Joins.unfrozen_of_block HR3.out 1; have f2 := Joins.unfrozen_of_block HR3.out 2; have f3 := Joins.unfrozen_of_block HR3.out 3; have f4 := Joins.unfrozen_of_block HR3.out 4; have f5 := Joins.unfrozen_of_block HR3.out 5; have f6 := Joins.unfrozen_of_block HR3.out 6; have f7 := Joins.unfrozen_of_block HR3.out 7; have f8 := Joins.unfrozen_of_block HR3.out 8; have f9 := Joins.unfrozen_of_block HR3.out 9))
    go_wp2
    obtain ⟨s0, s1, s2, s3, s4, s5, s6, s7, s8, s9⟩ := cells10V (set10V10 HR3.out (.int .i64 0) (.int .i64 k) (.int .i64 2) (.int .i64 0) (.int .i64 p) (.int .i64 q) (.int .i64 t) (.int .i64 k) (.int .i64 l) (.slice va' (n + 1) vc'))
    refine bodyPost_ret (v := .agg #[.int .i64 0, .int .i64 k, .int .i64 2, .int .i64 0, .int .i64 p, .int .i64 q, .int .i64 t, .int .i64 k, .int .i64 l, .slice va' (n + 1) vc']) (by simp [results, Try.results15, go_sem, s0, s1, s2, s3, s4, s5, s6, s7, s8, s9]) rfl ⟨va', vc', ?_, ?_, ?_⟩
    · rw [HN1.out]
    · rw [HN1.out]; exact Joins.ownsRow_le (row_set10V ((OwnR.of HU.out.row).below HB3.out).r (by have := HSZ.out; omega) _ _ _ _ _ _ _ _ _ _) (by have := HSZ.out; omega)
    · exact below_set10V (HBL.out.trans ((HU.out.bel.trans (HB3.out.mono HU.out.bel.size)).mono HBL.out.size)) (by omega) _ _ _ _ _ _ _ _ _ _

end Go.Proofs.Ytpcgkgjmcnncdaa
