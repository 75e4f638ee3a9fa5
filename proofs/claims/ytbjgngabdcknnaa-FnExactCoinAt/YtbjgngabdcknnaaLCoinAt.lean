/- The law on CoinAt answers true, whatever coins and ref come in, and writes nothing that was there. -/
import Derived.Test.YtbjgngabdcknnaaDa
import Derived.Deep.DeepCutAuto
namespace Go.Proofs.Ytbjgngabdcknnaa
open Go.RowKit Go.Maps Go.WideMaps

/-- A result of coins in block R: its code, its coins in memory of their own. -/
def SR (w1 wc : World) (R : Nat) (cd : Int) (res : List Co) : Prop :=
  w1.heap.size ≤ R ∧ Below w1.heap.size w1 wc ∧ ∃ va vc, wc.heap[R]? = some (.cells #[.int .i64 cd, .slice va res.length vc] 28 (0, 0)) ∧ CAt wc va res.length res
theorem ctC {w w' : World} {a : Option Addr} {n cc : Nat} {cs : List Co} (h : Hid (CAt w a n cs ∧ n ≤ cc ∧ cc ≤ maxLen)) (hb : Below w.heap.size w w') : Hid (CAt w' a n cs ∧ n ≤ cc ∧ cc ≤ maxLen) := ⟨h.out.1.below hb (Nat.le_refl _), h.out.2⟩
theorem keepS {W : World} {b i R : Nat} {v u u' : Value} (h : W.cell? ⟨b, i, none⟩ = some v) (hne : b ≠ R) : ((W.setCell ⟨R, 0, none⟩ u).setCell ⟨R, 1, none⟩ u').cell? ⟨b, i, none⟩ = some v :=
  (World.cell?_of_block ((Below.heap_setCell _ ⟨R, 1, none⟩ u' b hne).trans (Below.heap_setCell _ ⟨R, 0, none⟩ u b hne))).trans h

theorem sr_set {w1 uC : World} {R lo : Nat} {cd : Int} {res : List Co} {va : Option Addr} {vc : Nat} (hl : ∀ j, j < res.length → (res.getD j C0).l.length ≤ 1048576) (HOC : Hid (∃ kv, COwn uC lo uC.heap.size (.slice va res.length vc) res.length (fun j => res.getD j C0) kv)) (HCC : Hid (Below w1.heap.size w1 uC)) (HZ : Hid (uC.heap[R]? = some (.cells #[.int .i64 0, .slice none 0 0] 28 (0, 0)))) (hR1 : w1.heap.size ≤ R) (hR2 : R < lo) :
    Hid (SR w1 ((uC.setCell ⟨R, 0, none⟩ (.int .i64 cd)).setCell ⟨R, 1, none⟩ (.slice va res.length vc)) R cd res) := by
  obtain ⟨kv, hO⟩ := HOC.out
  have nv : (Value.slice va res.length vc).ownBlock ≠ some R := fun e => by
    obtain ⟨xs, h1, _⟩ := hO.row
    have := (h1.lt _ e).1
    omega
  have nk : ∀ j, j < res.length → (kv j).ownBlock ≠ some R := fun j hj e => by have := ((hO.keys j hj).1.lt _ e).1; omega
  obtain ⟨a', c', e1, h2⟩ := ((hO.set2 nv nk 0 (.int .i64 cd)).set2 nv nk 1 (.slice va res.length vc)).at (cs := res) rfl (fun j _ => rfl) hl
  cases e1
  have b1 := Joins.block_setCell (i := 0) HZ.out (.int .i64 cd)
  have b2 := Joins.block_setCell (i := 1) b1 (.slice va res.length vc)
  exact ⟨hR1, (HCC.out.setCell (p := ⟨R, 0, none⟩) hR1 _).setCell (p := ⟨R, 1, none⟩) hR1 _, va, vc, b2, h2⟩
theorem sr_new {w1 uC : World} {lo : Nat} {cd : Int} {res : List Co} {va : Option Addr} {vc : Nat} (hl : ∀ j, j < res.length → (res.getD j C0).l.length ≤ 1048576) (HOC : Hid (∃ kv, COwn uC lo uC.heap.size (.slice va res.length vc) res.length (fun j => res.getD j C0) kv)) (HCC : Hid (Below w1.heap.size w1 uC)) :
    Hid (SR w1 (uC.alloc (.cells #[.int .i64 cd, .slice va res.length vc] 28)) uC.heap.size cd res) := by
  obtain ⟨kv, hO⟩ := HOC.out
  obtain ⟨a', c', e1, h2⟩ := (hO.below (below_box (.cells #[.int .i64 cd, .slice va res.length vc] 28))).at (cs := res) rfl (fun j _ => rfl) hl
  cases e1
  exact ⟨HCC.out.size, HCC.out.trans ((below_box _).mono HCC.out.size), va, vc, heap_alloc_new _ _, h2⟩
theorem at_len {cs : List Co} {n : Nat} {r : Int × Int} (hn : cs.length = n) (hk : ∀ j, j < n → (cs.getD j C0).l.length ≤ 1048576) : ∀ j, j < (atR cs r).2.length → ((atR cs r).2.getD j C0).l.length ≤ 1048576 := by
  unfold atR
  by_cases h0 : coinsR cs ≠ 0
  · rw [if_pos h0]; intro j hj; cases hj
  · rw [if_neg h0]
    cases hf : cs.find? (fun c => decide ((c.p, c.q) = r)) with
    | none => intro j hj; cases hj
    | some x =>
      intro j hj
      obtain rfl : j = 0 := by simp at hj; omega
      obtain ⟨i, hi, e⟩ := List.getElem_of_mem (List.mem_of_find?_eq_some hf)
      have := hk i (by omega)
      rw [show cs.getD i C0 = x by rw [List.getD, List.getElem?_eq_getElem hi, e]; rfl] at this
      exact this
theorem at_few {cs : List Co} {r : Int × Int} : (atR cs r).2.length ≤ 1 := by
  unfold atR
  by_cases h0 : coinsR cs ≠ 0
  · rw [if_pos h0]; simp
  · rw [if_neg h0]
    cases cs.find? (fun c => decide ((c.p, c.q) = r)) <;> simp

theorem mark1 {w : World} {f : Nat} {args : Array Value} {K K1 : Nat} {Q : World → Prop} {R : World → Prop} (hK : K = K1) (h : Calls Try.prog f args w fun e w' => e = .returned (.int .i64 (K : Nat)) ∧ Q w' ∧ R w') : Calls Try.prog f args w fun e w' => e = .returned (.int .i64 (K1 : Nat)) ∧ Q w' ∧ R w' := by subst hK; exact h
theorem mark2 {w : World} {f : Nat} {args : Array Value} {K K1 : Nat} {Q : World → Prop} {R : World → Prop} (hK : K = K1) (h : Calls Try.prog f args w fun e w' => e = .returned (.int .i64 (K : Nat)) ∧ Q w' ∧ R w') : Calls Try.prog f args w fun e w' => e = .returned (.int .i64 (K1 : Nat)) ∧ Q w' ∧ R w' := by subst hK; exact h
theorem mark3 {w : World} {f : Nat} {args : Array Value} {K K1 : Nat} {Q : World → Prop} (hK : K = K1) (h : Calls Try.prog f args w fun e w' => e = .returned (.int .i64 (K : Nat)) ∧ Q w') : Calls Try.prog f args w fun e w' => e = .returned (.int .i64 (K1 : Nat)) ∧ Q w' := by subst hK; exact h
theorem own_at {w : World} {lo hi n : Nat} {a : Option Addr} {c : Nat} {cs : List Co} {kv : Nat → Value} (h : COwn w lo hi (.slice a n c) n (fun j => cs.getD j C0) kv) (hn : cs.length = n) (hl : ∀ j, j < n → (cs.getD j C0).l.length ≤ 1048576) : Hid (CAt w a n cs) := by
  obtain ⟨a', c', e, h2⟩ := h.at hn (fun j _ => rfl) hl
  cases e
  exact h2

set_option maxRecDepth 20000 in
set_option maxHeartbeats 8000000 in
theorem lawCoinAt (n c : Nat) (a : Option Addr) (cs : List Co) (p q : Int) (w : World) (hn : n ≤ maxLen) (hp : (Lit.int .i64 p).wf = true) (hq : (Lit.int .i64 q).wf = true) (h : CAt w a n cs) :
    Calls Try.prog 3 #[.slice a n c, .agg #[.int .i64 p, .int .i64 q]] w fun e w' => e = .returned (.bool true) ∧ Below w.heap.size w w' := by
  have hbx : Below w.heap.size w (w.alloc (.cells #[.int .i64 p, .int .i64 q] 24)) := below_box _
  have hsz := szCs_any a n c cs 1048576 (w.alloc (.cells #[.int .i64 p, .int .i64 q] 24)) (by omega) (by omega) hn (h.below hbx (Nat.le_refl _))
  have HBX : Hid ((w.alloc (.cells #[.int .i64 p, .int .i64 q] 24)).heap[w.heap.size]? = some (.cells #[.int .i64 p, .int .i64 q] 24 (0, 0))) := heap_alloc_new _ _
  have HB0 : Hid (Below w.heap.size w (w.alloc (.cells #[.int .i64 p, .int .i64 q] 24))) := hbx
  have HT : Hid (CAt w a n cs) := h
  have HWF : Hid ((Lit.int .i64 p).wf = true ∧ (Lit.int .i64 q).wf = true) := ⟨hp, hq⟩
  obtain ⟨cd, hcd⟩ : ∃ x, x = (atR cs (p, q)).1 := ⟨_, rfl⟩
  obtain ⟨res, hres⟩ : ∃ x, x = (atR cs (p, q)).2 := ⟨_, rfl⟩
  have HAT : Hid ((atR cs (p, q)).1 = cd ∧ (atR cs (p, q)).2 = res) := ⟨hcd.symm, hres.symm⟩
  have hm1 : res.length ≤ 1 := by rw [hres]; exact at_few
  obtain ⟨m, hm⟩ : ∃ m, m = res.length := ⟨_, rfl⟩
  clear h hbx hp hq hcd hres
  go_enter Try.func3, Try.ntmps3
  go_wp2_with (go_at_call 7; (with_reducible refine hsz.mono ?_); clear hsz; rintro e w1 ⟨r, rfl, hr, hb1⟩; have HX1 := keepb HBX.out hb1; have HB1 : Hid (Below w.heap.size w w1) := HB0.out.trans (hb1.mono HB0.out.size); clear hb1)
  · go_ret
    exact ⟨rfl, HB1.out⟩
  have hr0 : 0 ≤ r := by assumption
  rcases hr with e | ⟨_, _, hn2, hk2⟩
  · omega
  have hn3 : n ≤ 1048576 := by omega
  have HK : Hid (∀ j, j < n → (cs.getD j C0).l.length ≤ 1048576) := fun j hj => by have := hk2 j hj; omega
  have HLR : Hid (∀ j, j < res.length → (res.getD j C0).l.length ≤ 1048576) := by have := at_len (r := (p, q)) HT.out.1 HK.out; rwa [HAT.out.2] at this
  have HC1 : Hid (CAt w1 a n cs) := HT.out.below HB1.out (Nat.le_refl _)
  clear hn2 hk2
  have hSP : ∀ wb W a' cc, Hid (CAt W a' n cs ∧ n ≤ cc ∧ cc ≤ maxLen) → Below (World.heap wb).size wb W → Calls Try.prog 8 #[.slice a' n cc, .agg #[.int .i64 p, .int .i64 q]] W fun e w' => ∃ va vc, e = .returned (.agg #[.int .i64 cd, .slice va res.length vc]) ∧ Hid (∃ kv, COwn w' W.heap.size w'.heap.size (.slice va res.length vc) res.length (fun j => res.getD j C0) kv) ∧ Hid (Below W.heap.size W w') ∧ Hid (Below wb.heap.size wb w') := fun wb W a' cc h1 h2 => by
    have := sCoinAt_any n cc a' cs p q W hn3 h1.out.2.1 h1.out.2.2 HK.out h1.out.1
    rw [HAT.out.1, HAT.out.2] at this
    refine this.mono fun e w' ⟨v, kv, e1, hO, hb⟩ => ?_
    obtain ⟨va, vc, rfl⟩ := own_slice hO
    exact ⟨va, vc, e1, ⟨kv, hO⟩, hb, h2.trans (hb.mono h2.size)⟩
  have hIM : ∀ wb W a' cc, Hid (CAt W a' n cs ∧ n ≤ cc ∧ cc ≤ maxLen) → Below (World.heap wb).size wb W → Calls Try.prog 11 #[.slice a' n cc, .agg #[.int .i64 p, .int .i64 q]] W fun e w' => ∃ va vc, e = .returned (.agg #[.int .i64 cd, .slice va res.length vc]) ∧ Hid (∃ kv, COwn w' W.heap.size w'.heap.size (.slice va res.length vc) res.length (fun j => res.getD j C0) kv) ∧ Hid (Below W.heap.size W w') ∧ Hid (Below wb.heap.size wb w') := fun wb W a' cc h1 h2 => by
    have := iCoinAt_any n cc a' cs p q W hn3 HK.out HWF.out.1 HWF.out.2 h1.out.1
    rw [HAT.out.1, HAT.out.2] at this
    refine this.mono fun e w' ⟨v, kv, e1, hO, hb⟩ => ?_
    obtain ⟨va, vc, rfl⟩ := own_slice hO
    exact ⟨va, vc, e1, ⟨kv, hO⟩, hb, h2.trans (hb.mono h2.size)⟩
  clear hm
  have bx0 := cells2 HX1.out
  have hTA : ∀ W, Below w1.heap.size w1 W → Calls Try.prog 9 #[.slice a n c] W fun e w' => ∃ g cc, e = .returned (.slice (some ⟨g, 0, none⟩) n cc) ∧ Hid (CAt w' (some ⟨g, 0, none⟩) n cs ∧ n ≤ cc ∧ cc ≤ maxLen) ∧ Hid (Below W.heap.size W w') ∧ Hid (Below w1.heap.size w1 w') := fun W hW =>
    (toCs_any a n c cs W hn3 HK.out (HC1.out.below hW (Nat.le_refl _))).mono fun e w' ⟨g, cc, h1, h2, h3, h4, h5⟩ => ⟨g, cc, h1, ⟨h2.at, h3, h4⟩, h5, hW.trans (h5.mono hW.size)⟩
  have hTR : ∀ W, Below w1.heap.size w1 W → Calls Try.prog 10 #[.agg #[.int .i64 p, .int .i64 q]] W fun e w' => e = .returned (.agg #[.int .i64 p, .int .i64 q]) ∧ Hid (Below W.heap.size W w') ∧ Hid (Below w1.heap.size w1 w') := fun W hW =>
    (toRef_any p q W).mono fun e w' ⟨h1, h2⟩ => ⟨h1, h2, hW.trans (h2.mono hW.size)⟩
  have d0 : Below w1.heap.size w1 w1.drew := (Below.refl _ _).drew
  have d1 : Below w1.heap.size w1 (w1.alloc (.cells #[.int .i64 0, .slice none 0 0] 28)).drew := (below_box (.cells #[.int .i64 0, .slice none 0 0] 28)).trans ((Below.refl _ _).drew)
  have HZ0 : Hid ((w1.alloc (.cells #[.int .i64 0, .slice none 0 0] 28)).drew.heap[w1.heap.size]? = some (.cells #[.int .i64 0, .slice none 0 0] 28 (0, 0))) := heap_alloc_new _ _
  obtain ⟨bx1, bx2⟩ := bx0
  have hbl := lt_of_block HX1.out
  go_cut [6] (fun s wc => ∃ R, s = .pointer (some ⟨R, 0, none⟩) ∧ Hid (SR w1 wc R cd res))
  case first =>
    go_region_held3 (fun w' => w'.cell? ⟨w.heap.size, 0, none⟩ = some (.int .i64 p) ∧ w'.cell? ⟨w.heap.size, 1, none⟩ = some (.int .i64 q)) (first | go_keep | exact ⟨keepS xc (by first | omega | (have := HAB.out.size; omega) | (have := HBB.out.size; omega)), keepS xd (by first | omega | (have := HAB.out.size; omega) | (have := HBB.out.size; omega))⟩)
      (first
        | (go_at_call 9; (first
            | ((with_reducible refine (hTA w1.drew d0).mono ?_); rintro e uA ⟨g, cc, rfl, HCA, HA, HAB⟩; have za := (HAB.out.cell (p := ⟨w.heap.size, 0, none⟩) hbl).trans bx1; have zb := (HAB.out.cell (p := ⟨w.heap.size, 1, none⟩) hbl).trans bx2)
            | ((with_reducible refine (hTA (w1.alloc (.cells #[.int .i64 0, .slice none 0 0] 28)).drew d1).mono ?_); rintro e uA ⟨g, cc, rfl, HCA, HA, HAB⟩; have HZA := keepb HZ0.out HA.out; have za := (HAB.out.cell (p := ⟨w.heap.size, 0, none⟩) hbl).trans bx1; have zb := (HAB.out.cell (p := ⟨w.heap.size, 1, none⟩) hbl).trans bx2)))
        | (go_at_call 10; (first
            | ((with_reducible refine (hTR uA HAB.out).mono ?_); rintro e uB ⟨rfl, HBu, HBB⟩; have HCB := ctC HCA HBu.out; (first | (have hz := HZA; have HZB := keepb hz.out HBu.out) | skip); have yc := (HBB.out.cell (p := ⟨w.heap.size, 0, none⟩) hbl).trans bx1; have yd := (HBB.out.cell (p := ⟨w.heap.size, 1, none⟩) hbl).trans bx2)
            | ((with_reducible refine (hTR (uA.alloc (.cells #[.int .i64 0, .slice none 0 0] 28)) (HAB.out.trans ((below_box _).mono HAB.out.size))).mono ?_); rintro e uB ⟨rfl, HBu, HBB⟩; have HCB := ctC (ctC HCA (below_box (.cells #[.int .i64 0, .slice none 0 0] 28))) HBu.out; have HZB2 := keepb (heap_alloc_new uA (.cells #[.int .i64 0, .slice none 0 0] 28)) HBu.out; have yc := (HBB.out.cell (p := ⟨w.heap.size, 0, none⟩) hbl).trans bx1; have yd := (HBB.out.cell (p := ⟨w.heap.size, 1, none⟩) hbl).trans bx2)))
        | (go_at_call 8; (first
            | ((with_reducible refine (hSP w1 uB (some ⟨g, 0, none⟩) cc HCB HBB.out).mono ?_); rintro e uC ⟨va, vc, rfl, HOC, HCu, HCC⟩; have xc := (HCC.out.cell (p := ⟨w.heap.size, 0, none⟩) hbl).trans bx1; have xd := (HCC.out.cell (p := ⟨w.heap.size, 1, none⟩) hbl).trans bx2; (first | (have hz := HZB; have HZC := keepb hz.out HCu.out; obtain ⟨y0, y1⟩ := cells2 HZC.out; have f0 := Joins.unfrozen_of_block HZC.out 0; have f1 := Joins.unfrozen_of_block HZC.out 1) | (have hz := HZB2; have HZC2 := keepb hz.out HCu.out; obtain ⟨y0, y1⟩ := cells2 HZC2.out; have f0 := Joins.unfrozen_of_block HZC2.out 0; have f1 := Joins.unfrozen_of_block HZC2.out 1) | skip))
            | ((with_reducible refine (hSP w1 (uB.alloc (.cells #[.int .i64 0, .slice none 0 0] 28)) (some ⟨g, 0, none⟩) cc (ctC HCB (below_box (.cells #[.int .i64 0, .slice none 0 0] 28))) (HBB.out.trans ((below_box _).mono HBB.out.size))).mono ?_); rintro e uC ⟨va, vc, rfl, HOC, HCu, HCC⟩; have xc := (HCC.out.cell (p := ⟨w.heap.size, 0, none⟩) hbl).trans bx1; have xd := (HCC.out.cell (p := ⟨w.heap.size, 1, none⟩) hbl).trans bx2; have HZC3 := keepb (heap_alloc_new uB (.cells #[.int .i64 0, .slice none 0 0] 28)) HCu.out; obtain ⟨y0, y1⟩ := cells2 HZC3.out; have f0 := Joins.unfrozen_of_block HZC3.out 0; have f1 := Joins.unfrozen_of_block HZC3.out 1))))
    all_goals
      go_wp2
      go_meet
      first
        | exact ⟨_, rfl, sr_set HLR.out HOC HCC HZC (Nat.le_refl _) (by have := HAB.out.size; have := HBu.out.size; have := lt_of_block HZA.out; omega)⟩
        | exact ⟨_, rfl, sr_set HLR.out HOC HCC HZC2 HAB.out.size (by have := HBu.out.size; simp at this; omega)⟩
        | exact ⟨_, rfl, sr_set HLR.out HOC HCC HZC3 HBB.out.size (by simp)⟩
        | exact ⟨_, rfl, sr_new HLR.out HOC HCC⟩
  case rest =>
    obtain ⟨wq, hwq⟩ : ∃ wq, wq = wc := ⟨_, rfl⟩
    subst hwq
    obtain ⟨R6, hs6, HS6⟩ := hcut
    subst hs6
    obtain ⟨hR6, hB5, va, vc, hb6, hC6⟩ := HS6.out
    have HB5 : Hid (Below w.heap.size w wq) := HB1.out.trans (hB5.mono HB1.out.size)
    have HX5 := keepb HX1.out hB5
    have HR6 : Hid (wq.heap[R6]? = some (.cells #[.int .i64 cd, .slice va res.length vc] 28 (0, 0))) := hb6
    have HC6 : Hid (CAt wq va res.length res) := hC6
    clear hR6 hB5 hb6 hC6 HS6 hTA hTR d0 d1 HZ0 bx1 bx2 hbl
    have hx6 := toCsO_any a n c cs wq hn3 HK.out (HT.out.below HB5.out (Nat.le_refl _))
    go_wp2_with (first
      | (go_at_call 9; (with_reducible refine hx6.mono ?_); clear hx6; rintro e w6 ⟨gx, cx, kvx, rfl, hOx, hcx1, hcx2, hb6⟩; have HOX : Hid (COwn w6 wq.heap.size w6.heap.size (.slice (some ⟨gx, 0, none⟩) n cx) n (fun j => cs.getD j C0) kvx) := hOx; have HB6 : Hid (Below w.heap.size w w6) := HB5.out.trans (hb6.mono HB5.out.size); have HX6 := keepb HX5.out hb6; have HR66 := keepb HR6.out hb6; have HC66 : Hid (CAt w6 va res.length res) := HC6.out.below hb6 (Nat.le_refl _); have HCX : Hid (CAt w6 (some ⟨gx, 0, none⟩) n cs) := own_at HOX.out HT.out.1 HK.out; have HSS : Hid (wq.heap.size ≤ w6.heap.size) := hb6.size; have HW6 : Hid (Below wq.heap.size wq w6) := hb6; obtain ⟨s0, s1⟩ := cells2 HX6.out; have hT7 := toRef_any p q w6; clear hOx hb6)
      | (go_at_call 10; (with_reducible refine hT7.mono ?_); clear hT7; rintro e w7 ⟨rfl, hb7⟩; have HB7 : Hid (Below w.heap.size w w7) := HB6.out.trans (hb7.mono HB6.out.size); have HR67 := keepb HR66.out hb7; have HX7 := keepb HX6.out hb7; have HC67 : Hid (CAt w7 va res.length res) := HC66.out.below hb7 (Nat.le_refl _); have HOX7 := HOX.out.below hb7; have HOX7 : Hid (COwn w7 wq.heap.size w6.heap.size (.slice (some ⟨gx, 0, none⟩) n cx) n (fun j => cs.getD j C0) kvx) := HOX7; have HS67 : Hid (w6.heap.size ≤ w7.heap.size) := hb7.size; have HW7 : Hid (Below wq.heap.size wq w7) := HW6.out.trans (hb7.mono HW6.out.size); have hI8 := hIM w7 w7 (some ⟨gx, 0, none⟩) cx ⟨HCX.out.below hb7 (Nat.le_refl _), hcx1, hcx2⟩ (Below.refl _ _); clear hb7)
      | (go_at_call 11; (with_reducible refine hI8.mono ?_); clear hI8; rintro e w8 ⟨ga, gc, rfl, HOG, HG8, _⟩; have HB8 : Hid (Below w.heap.size w (w8.alloc (.cells #[.int .i64 cd, .slice ga res.length gc] 28))) := (HB7.out.trans (HG8.out.mono HB7.out.size)).trans ((below_box _).mono (by have := HB7.out.size; have := HG8.out.size; omega)); have HR68 := keepb (keepb HR67.out HG8.out).out (below_box (.cells #[.int .i64 cd, .slice ga res.length gc] 28)); have HX8 := keepb (keepb HX7.out HG8.out).out (below_box (.cells #[.int .i64 cd, .slice ga res.length gc] 28)); have HR8 : Hid ((w8.alloc (.cells #[.int .i64 cd, .slice ga res.length gc] 28)).heap[w8.heap.size]? = some (.cells #[.int .i64 cd, .slice ga res.length gc] 28 (0, 0))) := heap_alloc_new _ _; have HC68 : Hid (CAt (w8.alloc (.cells #[.int .i64 cd, .slice ga res.length gc] 28)) va res.length res) := (HC67.out.below HG8.out (Nat.le_refl _)).below (below_box _) (Nat.le_refl _); obtain ⟨kvg, hOg⟩ := HOG.out; have HOG8 : Hid (COwn (w8.alloc (.cells #[.int .i64 cd, .slice ga res.length gc] 28)) w7.heap.size w8.heap.size (.slice ga res.length gc) res.length (fun j => res.getD j C0) kvg) := hOg.below (below_box _); have HOX8 : Hid (COwn (w8.alloc (.cells #[.int .i64 cd, .slice ga res.length gc] 28)) wq.heap.size w6.heap.size (.slice (some ⟨gx, 0, none⟩) n cx) n (fun j => cs.getD j C0) kvx) := (HOX7.out.below HG8.out).below (below_box _); have HCG8 : Hid (CAt (w8.alloc (.cells #[.int .i64 cd, .slice ga res.length gc] 28)) ga res.length res) := own_at HOG8.out rfl HLR.out; have HS78 : Hid (w7.heap.size ≤ w8.heap.size) := HG8.out.size; have HW8 : Hid (Below wq.heap.size wq (w8.alloc (.cells #[.int .i64 cd, .slice ga res.length gc] 28))) := (HW7.out.trans (HG8.out.mono HW7.out.size)).trans ((below_box _).mono (by have := HW7.out.size; have := HG8.out.size; omega)); obtain ⟨y0, y1⟩ := cells2 HR68.out; have heq8 := eqCR_any cd ga va res.length gc vc res (w8.alloc (.cells #[.int .i64 cd, .slice ga res.length gc] 28)) (by omega) HLR.out HCG8.out HC68.out; clear hOg)
      | (go_at_call 12; (with_reducible refine heq8.mono ?_); clear heq8; rintro e w9 ⟨rfl, hb9⟩; have HB9 : Hid (Below w.heap.size w w9) := HB8.out.trans (hb9.mono HB8.out.size); have HR69 := keepb HR68.out hb9; have HX9 := keepb HX8.out hb9; have HR89 := keepb HR8.out hb9; have HW9 : Hid (Below wq.heap.size wq w9) := HW8.out.trans (hb9.mono HW8.out.size); have HC69 : Hid (CAt w9 va res.length res) := HC68.out.below hb9 (Nat.le_refl _); have HCG9 : Hid (CAt w9 ga res.length res) := HCG8.out.below hb9 (Nat.le_refl _); have HOG9 : Hid (COwn w9 w7.heap.size w8.heap.size (.slice ga res.length gc) res.length (fun j => res.getD j C0) kvg) := HOG8.out.below hb9; have HOX9 : Hid (COwn w9 wq.heap.size w6.heap.size (.slice (some ⟨gx, 0, none⟩) n cx) n (fun j => cs.getD j C0) kvx) := HOX8.out.below hb9; clear hb9 y0 y1 s0 s1; have hx9 := toCs_any a n c cs w9 hn3 HK.out (HT.out.below HB9.out (Nat.le_refl _))))
    refine hx9.mono ?_
    clear hx9
    rintro e w10 ⟨g10, c10, rfl, hC10, _, _, hb10⟩
    have HB10 : Hid (Below w.heap.size w w10) := HB9.out.trans (hb10.mono HB9.out.size)
    have HW10 : Hid (Below wq.heap.size wq w10) := HW9.out.trans (hb10.mono HW9.out.size)
    have HR10 := keepb HR89.out hb10
    have HOG10 : Hid (COwn w10 w7.heap.size w8.heap.size (.slice ga res.length gc) res.length (fun j => res.getD j C0) kvg) := HOG9.out.below hb10
    have HOX10 : Hid (COwn w10 wq.heap.size w6.heap.size (.slice (some ⟨gx, 0, none⟩) n cx) n (fun j => cs.getD j C0) kvx) := HOX9.out.below hb10
    have heq10 := eqCs_any (some ⟨gx, 0, none⟩) (some ⟨g10, 0, none⟩) n cx c10 cs w10 hn3 HK.out (own_at HOX10.out HT.out.1 HK.out).out hC10.at
    have HKX : Hid (∀ j, j < n → ((fun j => cs.getD j C0) j).l.length ≤ 1048576) := HK.out
    have HKR : Hid (∀ j, j < res.length → ((fun j => res.getD j C0) j).l.length ≤ 1048576) := HLR.out
    obtain ⟨K1, hK1⟩ : ∃ K, K = kAt 1 (fun j => cs.getD j C0) n := ⟨_, rfl⟩
    obtain ⟨M, hM⟩ : ∃ K, K = kAt 1 (fun j => res.getD j C0) res.length := ⟨_, rfl⟩
    have HK1 : Hid (kAt 1 (fun j => cs.getD j C0) n = K1) := hK1.symm
    have HM : Hid (kAt 1 (fun j => res.getD j C0) res.length = M) := hM.symm
    have d1 : decide ((K1 : Int) < 0) = false := decide_eq_false (by omega)
    have d2 : decide ((M : Int) < 0) = false := decide_eq_false (by omega)
    have d3 : ¬ (K1 : Int) < 0 := by omega
    have d4 : ¬ (M : Int) < 0 := by omega
    clear hC10 hb10 HOG9 HOX9 HR89 HW9 hK1 hM
    go_wp2_with (first
      | (go_at_call 13; (with_reducible refine heq10.mono ?_); clear heq10; rintro e w11 ⟨rfl, hb11⟩; have HB11 : Hid (Below w.heap.size w w11) := HB10.out.trans (hb11.mono HB10.out.size); have HW11 : Hid (Below wq.heap.size wq w11) := HW10.out.trans (hb11.mono HW10.out.size); have HR11 := keepb HR10.out hb11; have HOG11 : Hid (COwn w11 w7.heap.size w8.heap.size (.slice ga res.length gc) res.length (fun j => res.getD j C0) kvg) := HOG10.out.below hb11; have hmk : Calls Try.prog 14 #[.slice (some ⟨gx, 0, none⟩) n cx, .int .i64 1] w11 fun e w' => e = .returned (.int .i64 (K1 : Nat)) ∧ COwn w' wq.heap.size w6.heap.size (.slice (some ⟨gx, 0, none⟩) n cx) n (mkF 1 (fun j => cs.getD j C0)) kvx ∧ Chg w11 w' wq.heap.size w6.heap.size := (mark1 HK1.out (markCs_any _ n wq.heap.size w6.heap.size 1 (fun j => cs.getD j C0) kvx w11 hn3 HKX.out (by omega) (HOX10.out.below hb11))); clear hb11)
      | (go_at_call 14; (with_reducible refine hmk.mono ?_); clear hmk; rintro e w12 ⟨rfl, _, hch⟩; have HB12 : Hid (Below w.heap.size w w12) := HB11.out.trans (hch.below HB5.out.size HB11.out.size); have HW12 : Hid (Below wq.heap.size wq w12) := HW11.out.trans (hch.below (Nat.le_refl _) HW11.out.size); have HR12 : Hid (w12.heap[w8.heap.size]? = some (.cells #[.int .i64 cd, .slice ga res.length gc] 28 (0, 0))) := hch.keep HR11.out (.inr (by have := HS67.out; have := HS78.out; omega)); have HOG12 : Hid (COwn w12 w7.heap.size w8.heap.size (.slice ga res.length gc) res.length (fun j => res.getD j C0) kvg) := HOG11.out.chg hch (.inr HS67.out); obtain ⟨y0, y1⟩ := cells2 HR12.out; obtain ⟨y2, y3⟩ := cells2 ((HW12.out.block R6 (lt_of_block HR6.out)).trans HR6.out); have heq12 := eqCR_any cd ga va res.length gc vc res w12 (by omega) HLR.out (own_at HOG12.out rfl HLR.out).out (HC6.out.below HW12.out (Nat.le_refl _)); clear hch)
      | (go_at_call 12; (with_reducible refine heq12.mono ?_); clear heq12; rintro e w13 ⟨rfl, hb13⟩; have HB13 : Hid (Below w.heap.size w w13) := HB12.out.trans (hb13.mono HB12.out.size); have HW13 : Hid (Below wq.heap.size wq w13) := HW12.out.trans (hb13.mono HW12.out.size); have HR13 := keepb HR12.out hb13; have HOG13 : Hid (COwn w13 w7.heap.size w8.heap.size (.slice ga res.length gc) res.length (fun j => res.getD j C0) kvg) := HOG12.out.below hb13; clear y0 y1 y2 y3; obtain ⟨y0, y1⟩ := cells2 HR13.out; have hl13 := lt_of_block HR13.out; have hmk : Calls Try.prog 15 #[.agg #[.int .i64 cd, .slice ga res.length gc], .int .i64 1] w13 fun e w' => e = .returned (.int .i64 (M : Nat)) ∧ COwn w' w7.heap.size w8.heap.size (.slice ga res.length gc) res.length (mkF 1 (fun j => res.getD j C0)) kvg ∧ Chg w13 w' w7.heap.size w8.heap.size := (mark2 HM.out (markCR_any _ cd res.length w7.heap.size w8.heap.size 1 (fun j => res.getD j C0) kvg w13 (by omega) HKR.out (by omega) (by omega) HOG13.out)); clear hb13)
      | (go_at_call 15; (with_reducible refine hmk.mono ?_); clear hmk; rintro e w14 ⟨rfl, hO14, hch⟩; have HB14 : Hid (Below w.heap.size w w14) := HB13.out.trans (hch.below (by have := HB5.out.size; have := HSS.out; have := HS67.out; omega) HB13.out.size); have HW14 : Hid (Below wq.heap.size wq w14) := HW13.out.trans (hch.below (by have := HSS.out; have := HS67.out; omega) HW13.out.size); have HR14 : Hid (w14.heap[w8.heap.size]? = some (.cells #[.int .i64 cd, .slice ga res.length gc] 28 (0, 0))) := hch.keep HR13.out (.inr (Nat.le_refl _)); have HOG14 : Hid (COwn w14 w7.heap.size w8.heap.size (.slice ga res.length gc) res.length (mkF 1 (fun j => res.getD j C0)) kvg) := hO14; clear y0 y1; obtain ⟨y0, y1⟩ := cells2 HR14.out; have hhe : Calls Try.prog 16 #[.agg #[.int .i64 cd, .slice ga res.length gc], .int .i64 1] w14 fun e w' => e = .returned (.int .i64 (M : Nat)) ∧ Below w14.heap.size w14 w' := (mark3 HM.out (heldCR_any _ cd res.length w7.heap.size w8.heap.size 1 (fun j => res.getD j C0) kvg w14 (by omega) HKR.out (by omega) HOG14.out)); clear hch hO14)
      | (go_at_call 16; (with_reducible refine hhe.mono ?_); clear hhe; rintro e w15 ⟨rfl, hb15⟩; have HB15 : Hid (Below w.heap.size w w15) := HB14.out.trans (hb15.mono HB14.out.size); have HW15 : Hid (Below wq.heap.size wq w15) := HW14.out.trans (hb15.mono HW14.out.size); have HR15 := keepb HR14.out hb15; have HOG15 : Hid (COwn w15 w7.heap.size w8.heap.size (.slice ga res.length gc) res.length (mkF 1 (fun j => res.getD j C0)) kvg) := HOG14.out.below hb15; clear y0 y1 hb15))
    have HX15 : Hid (w15.heap[w.heap.size]? = some (.cells #[.int .i64 p, .int .i64 q] 24 (0, 0))) := (HW15.out.block w.heap.size (lt_of_block HX5.out)).trans HX5.out
    have HC15 : Hid (CAt w15 a n cs) := HT.out.below HB15.out (Nat.le_refl _)
    have bx0 := cells2 HX15.out
    have hTA : ∀ W, Below w15.heap.size w15 W → Calls Try.prog 9 #[.slice a n c] W fun e w' => ∃ g cc, e = .returned (.slice (some ⟨g, 0, none⟩) n cc) ∧ Hid (CAt w' (some ⟨g, 0, none⟩) n cs ∧ n ≤ cc ∧ cc ≤ maxLen) ∧ Hid (Below W.heap.size W w') ∧ Hid (Below w15.heap.size w15 w') := fun W hW =>
      (toCs_any a n c cs W hn3 HK.out (HC15.out.below hW (Nat.le_refl _))).mono fun e w' ⟨g, cc, h1, h2, h3, h4, h5⟩ => ⟨g, cc, h1, ⟨h2.at, h3, h4⟩, h5, hW.trans (h5.mono hW.size)⟩
    have hTR : ∀ W, Below w15.heap.size w15 W → Calls Try.prog 10 #[.agg #[.int .i64 p, .int .i64 q]] W fun e w' => e = .returned (.agg #[.int .i64 p, .int .i64 q]) ∧ Hid (Below W.heap.size W w') ∧ Hid (Below w15.heap.size w15 w') := fun W hW =>
      (toRef_any p q W).mono fun e w' ⟨h1, h2⟩ => ⟨h1, h2, hW.trans (h2.mono hW.size)⟩
    have d0 : Below w15.heap.size w15 w15.drew := (Below.refl _ _).drew
    have d1 : Below w15.heap.size w15 (w15.alloc (.cells #[.int .i64 0, .slice none 0 0] 28)).drew := (below_box (.cells #[.int .i64 0, .slice none 0 0] 28)).trans ((Below.refl _ _).drew)
    have HZ0 : Hid ((w15.alloc (.cells #[.int .i64 0, .slice none 0 0] 28)).drew.heap[w15.heap.size]? = some (.cells #[.int .i64 0, .slice none 0 0] 28 (0, 0))) := heap_alloc_new _ _
    obtain ⟨bx1, bx2⟩ := bx0
    have hbl := lt_of_block HX15.out
    go_cut [12] (fun s wc => ∃ R, s = .pointer (some ⟨R, 0, none⟩) ∧ Hid (SR w15 wc R cd res))
    case first =>
      go_region_held3 (fun w' => w'.cell? ⟨w.heap.size, 0, none⟩ = some (.int .i64 p) ∧ w'.cell? ⟨w.heap.size, 1, none⟩ = some (.int .i64 q)) (first | go_keep | exact ⟨keepS xc (by first | omega | (have := HAB.out.size; omega) | (have := HBB.out.size; omega)), keepS xd (by first | omega | (have := HAB.out.size; omega) | (have := HBB.out.size; omega))⟩)
        (first
          | (go_at_call 9; (first
              | ((with_reducible refine (hTA w15.drew d0).mono ?_); rintro e uA ⟨g, cc, rfl, HCA, HA, HAB⟩; have za := (HAB.out.cell (p := ⟨w.heap.size, 0, none⟩) hbl).trans bx1; have zb := (HAB.out.cell (p := ⟨w.heap.size, 1, none⟩) hbl).trans bx2)
              | ((with_reducible refine (hTA (w15.alloc (.cells #[.int .i64 0, .slice none 0 0] 28)).drew d1).mono ?_); rintro e uA ⟨g, cc, rfl, HCA, HA, HAB⟩; have HZA := keepb HZ0.out HA.out; have za := (HAB.out.cell (p := ⟨w.heap.size, 0, none⟩) hbl).trans bx1; have zb := (HAB.out.cell (p := ⟨w.heap.size, 1, none⟩) hbl).trans bx2)))
          | (go_at_call 10; (first
              | ((with_reducible refine (hTR uA HAB.out).mono ?_); rintro e uB ⟨rfl, HBu, HBB⟩; have HCB := ctC HCA HBu.out; (first | (have hz := HZA; have HZB := keepb hz.out HBu.out) | skip); have yc := (HBB.out.cell (p := ⟨w.heap.size, 0, none⟩) hbl).trans bx1; have yd := (HBB.out.cell (p := ⟨w.heap.size, 1, none⟩) hbl).trans bx2)
              | ((with_reducible refine (hTR (uA.alloc (.cells #[.int .i64 0, .slice none 0 0] 28)) (HAB.out.trans ((below_box _).mono HAB.out.size))).mono ?_); rintro e uB ⟨rfl, HBu, HBB⟩; have HCB := ctC (ctC HCA (below_box (.cells #[.int .i64 0, .slice none 0 0] 28))) HBu.out; have HZB2 := keepb (heap_alloc_new uA (.cells #[.int .i64 0, .slice none 0 0] 28)) HBu.out; have yc := (HBB.out.cell (p := ⟨w.heap.size, 0, none⟩) hbl).trans bx1; have yd := (HBB.out.cell (p := ⟨w.heap.size, 1, none⟩) hbl).trans bx2)))
          | (go_at_call 11; (first
              | ((with_reducible refine (hIM w15 uB (some ⟨g, 0, none⟩) cc HCB HBB.out).mono ?_); rintro e uC ⟨va, vc, rfl, HOC, HCu, HCC⟩; have xc := (HCC.out.cell (p := ⟨w.heap.size, 0, none⟩) hbl).trans bx1; have xd := (HCC.out.cell (p := ⟨w.heap.size, 1, none⟩) hbl).trans bx2; (first | (have hz := HZB; have HZC := keepb hz.out HCu.out; obtain ⟨y0, y1⟩ := cells2 HZC.out; have f0 := Joins.unfrozen_of_block HZC.out 0; have f1 := Joins.unfrozen_of_block HZC.out 1) | (have hz := HZB2; have HZC2 := keepb hz.out HCu.out; obtain ⟨y0, y1⟩ := cells2 HZC2.out; have f0 := Joins.unfrozen_of_block HZC2.out 0; have f1 := Joins.unfrozen_of_block HZC2.out 1) | skip))
              | ((with_reducible refine (hIM w15 (uB.alloc (.cells #[.int .i64 0, .slice none 0 0] 28)) (some ⟨g, 0, none⟩) cc (ctC HCB (below_box (.cells #[.int .i64 0, .slice none 0 0] 28))) (HBB.out.trans ((below_box _).mono HBB.out.size))).mono ?_); rintro e uC ⟨va, vc, rfl, HOC, HCu, HCC⟩; have xc := (HCC.out.cell (p := ⟨w.heap.size, 0, none⟩) hbl).trans bx1; have xd := (HCC.out.cell (p := ⟨w.heap.size, 1, none⟩) hbl).trans bx2; have HZC3 := keepb (heap_alloc_new uB (.cells #[.int .i64 0, .slice none 0 0] 28)) HCu.out; obtain ⟨y0, y1⟩ := cells2 HZC3.out; have f0 := Joins.unfrozen_of_block HZC3.out 0; have f1 := Joins.unfrozen_of_block HZC3.out 1))))
      all_goals
        go_wp2
        go_meet
        first
          | exact ⟨_, rfl, sr_set HLR.out HOC HCC HZC (Nat.le_refl _) (by have := HAB.out.size; have := HBu.out.size; have := lt_of_block HZA.out; omega)⟩
          | exact ⟨_, rfl, sr_set HLR.out HOC HCC HZC2 HAB.out.size (by have := HBu.out.size; simp at this; omega)⟩
          | exact ⟨_, rfl, sr_set HLR.out HOC HCC HZC3 HBB.out.size (by simp)⟩
          | exact ⟨_, rfl, sr_new HLR.out HOC HCC⟩
    case rest =>
      obtain ⟨R12, hs12, HS12⟩ := hcut
      subst hs12
      obtain ⟨hR12, hB12', vb, vd, hb12, hC12⟩ := HS12.out
      have HB24 : Hid (Below w.heap.size w wc) := HB15.out.trans (hB12'.mono HB15.out.size)
      have HW24 : Hid (Below wq.heap.size wq wc) := HW15.out.trans (hB12'.mono HW15.out.size)
      have HR24 := keepb HR15.out hB12'
      have HOG24 : Hid (COwn wc w7.heap.size w8.heap.size (.slice ga res.length gc) res.length (mkF 1 (fun j => res.getD j C0)) kvg) := HOG15.out.below hB12'
      obtain ⟨x0, x1⟩ := cells2 hb12
      obtain ⟨y2, y3⟩ := cells2 ((HW24.out.block R6 (lt_of_block HR6.out)).trans HR6.out)
      obtain ⟨z0, z1⟩ := cells2 HR24.out
      have heq24 := eqCR_any cd vb va res.length vd vc res wc (by omega) HLR.out hC12 (HC6.out.below HW24.out (Nat.le_refl _))
      clear hR12 hB12' hb12 hC12 HS12 hTA hTR d0 HZ0 bx1 bx2 hbl
      go_wp2_with (first
        | (go_at_call 12; (with_reducible refine heq24.mono ?_); clear heq24; rintro e w16 ⟨rfl, hb16⟩; have HB16 : Hid (Below w.heap.size w w16) := HB24.out.trans (hb16.mono HB24.out.size); have HR16 := keepb HR24.out hb16; clear z0 z1 x0 x1 y2 y3; obtain ⟨z0, z1⟩ := cells2 HR16.out; have hhe : Calls Try.prog 16 #[.agg #[.int .i64 cd, .slice ga res.length gc], .int .i64 1] w16 fun e w' => e = .returned (.int .i64 (M : Nat)) ∧ Below w16.heap.size w16 w' := (mark3 HM.out (heldCR_any _ cd res.length w7.heap.size w8.heap.size 1 (fun j => res.getD j C0) kvg w16 (by omega) HKR.out (by omega) (HOG24.out.below hb16))); clear hb16)
        | (go_at_call 16; (with_reducible refine hhe.mono ?_); clear hhe; rintro e w17 ⟨rfl, hb17⟩; have HB17 : Hid (Below w.heap.size w w17) := HB16.out.trans (hb17.mono HB16.out.size); clear hb17))
      go_ret
      exact ⟨rfl, HB17.out⟩

end Go.Proofs.Ytbjgngabdcknnaa
