/- The program's PutCoins keeps its contract. -/
import Derived.Test.YtbjgngabdcknnaaDp
import Derived.Test.YtbjgngabdcknnaaDi
namespace Go.Proofs.Ytbjgngabdcknnaa
open Go.RowKit Go.Maps Go.WideMaps

/-- A coin put into its place; coins put, one after another. -/
def addC : List Co → Co → List Co
  | [], x => [x]
  | a :: l, x => if cmpR (a.p, a.q) (x.p, x.q) < 0 then a :: addC l x else x :: a :: l
def addCs (cs xs : List Co) : List Co := xs.foldl addC cs
theorem addC_mem {x : Co} : ∀ {cs : List Co} {c : Co}, c ∈ addC cs x ↔ c = x ∨ c ∈ cs
  | [], c => by simp [addC]
  | a :: l, c => by
    unfold addC
    by_cases e : cmpR (a.p, a.q) (x.p, x.q) < 0
    · rw [if_pos e, List.mem_cons, addC_mem, List.mem_cons]
      constructor <;> (rintro (h | h | h) <;> simp [h])
    · rw [if_neg e, List.mem_cons]
theorem addC_rise {x : Co} : ∀ {cs : List Co}, cs.Pairwise (fun x y => 0 < cmpR (y.p, y.q) (x.p, x.q)) → (∀ c ∈ cs, ¬ (c.p = x.p ∧ c.q = x.q)) → (addC cs x).Pairwise (fun x y => 0 < cmpR (y.p, y.q) (x.p, x.q))
  | [], _, _ => List.pairwise_singleton _ _
  | a :: l, h, hn => by
    rw [List.pairwise_cons] at h
    unfold addC
    by_cases e : cmpR (a.p, a.q) (x.p, x.q) < 0
    · rw [if_pos e, List.pairwise_cons]
      refine ⟨fun y hy => ?_, addC_rise h.2 fun c hc => hn c (by simp [hc])⟩
      rcases addC_mem.1 hy with rfl | hy
      · have := cmpR_neg.1 e
        exact cmpR_pos.2 (by omega)
      · exact h.1 y hy
    · rw [if_neg e, List.pairwise_cons]
      have h1 : ¬ (a.p < x.p ∨ (a.p = x.p ∧ a.q < x.q)) := fun q => e (cmpR_neg.2 q)
      have h2 := hn a (by simp)
      refine ⟨fun y hy => ?_, List.pairwise_cons.2 h⟩
      rcases List.mem_cons.1 hy with rfl | hy
      · exact cmpR_pos.2 (by omega)
      · have := cmpR_pos.1 (h.1 y hy)
        exact cmpR_pos.2 (by omega)
theorem addCs_mem : ∀ {xs cs : List Co} {c : Co}, c ∈ addCs cs xs ↔ c ∈ cs ++ xs
  | [], cs, c => by simp [addCs]
  | x :: xs, cs, c => by
    show c ∈ addCs (addC cs x) xs ↔ _
    rw [addCs_mem, List.mem_append, addC_mem, List.mem_append, List.mem_cons]
    constructor
    · rintro ((h | h) | h) <;> simp [h]
    · rintro (h | h | h) <;> simp [h]
theorem addCs_rise : ∀ {xs cs : List Co}, cs.Pairwise (fun x y => 0 < cmpR (y.p, y.q) (x.p, x.q)) → (cs ++ xs).Pairwise (fun x y => ¬ (x.p = y.p ∧ x.q = y.q)) → (addCs cs xs).Pairwise (fun x y => 0 < cmpR (y.p, y.q) (x.p, x.q))
  | [], cs, h, _ => h
  | x :: xs, cs, h, hn => by
    show (addCs (addC cs x) xs).Pairwise _
    rw [List.pairwise_append, List.pairwise_cons] at hn
    refine addCs_rise (addC_rise h fun c hc => hn.2.2 c hc x (by simp)) ?_
    rw [List.pairwise_append]
    refine ⟨?_, hn.2.1.2, fun a ha b hb => ?_⟩
    · exact (addC_rise h fun c hc => hn.2.2 c hc x (by simp)).imp fun {a b} q => by have := cmpR_pos.1 q; omega
    · rcases addC_mem.1 ha with rfl | ha
      · exact hn.2.1.1 b hb
      · exact hn.2.2 a ha b (by simp [hb])

def hasT (cs : List Co) (t : Int) : Bool := cs.any fun c => decide (c.p = t)
theorem hasT_map (ps : List (Co × Value)) (t : Int) : hasT (ps.map (·.1)) t = txIn ps t := by
  unfold hasT txIn
  rw [List.any_map]
  rfl
def putR (cs : List Co) (t : Int) (os : List Ou) (h : Int) (m : Bool) : Int × List Co :=
  if coinsR cs ≠ 0 then (coinsR cs, []) else if putsR cs.length (hasT cs t) t os h ≠ 0 then (putsR cs.length (hasT cs t) t os h, []) else (0, addCs cs (newCs t h m os os.length))
theorem new_apart {cs : List Co} {t h : Int} {m : Bool} {os : List Ou} (hri : cs.Pairwise (fun x y => 0 < cmpR (y.p, y.q) (x.p, x.q))) (hno : hasT cs t = false) : (cs ++ newCs t h m os os.length).Pairwise (fun x y => ¬ (x.p = y.p ∧ x.q = y.q)) := by
  rw [List.pairwise_append]
  refine ⟨hri.imp fun {a b} q => by have := cmpR_pos.1 q; omega, ?_, fun a ha b hb => ?_⟩
  · unfold newCs
    rw [List.pairwise_map]
    refine List.pairwise_lt_range.imp ?_
    intro i j hij e
    have : (i : Int) = (j : Int) := e.2
    omega
  · unfold newCs at hb
    obtain ⟨j, _, rfl⟩ := List.mem_map.1 hb
    unfold hasT at hno
    rw [List.any_eq_false] at hno
    have := hno a ha
    intro e
    have e1 : a.p = t := e.1
    exact absurd e1 (by simpa using this)
theorem puts_taken {n : Nat} {ti : Bool} {t h : Int} {os : List Ou} (e : putsR n ti t os h = 0) : ti = false ∧ n + os.length ≤ 40 := by
  unfold putsR at e
  by_cases h1 : putFR t os h ≠ 0
  · rw [if_pos h1] at e; exact absurd e h1
  · rw [if_neg h1] at e
    by_cases h2 : ti = true
    · rw [if_pos h2] at e; cases e
    · rw [if_neg h2] at e
      by_cases h3 : 40 < n + os.length
      · rw [if_pos h3] at e; cases e
      · exact ⟨by simpa using h2, by omega⟩

set_option maxRecDepth 20000 in
set_option maxHeartbeats 4000000 in
theorem iPutCoins_any (n c n2 c2 : Nat) (a a2 : Option Addr) (cs : List Co) (t h : Int) (m : Bool) (os : List Ou) (w : World) (hn : n ≤ 1048576) (hk : ∀ j, j < n → (cs.getD j C0).l.length ≤ 1048576) (hn2 : n2 ≤ 1048576) (hk2 : ∀ j, j < n2 → (os.getD j O0).l.length ≤ 1048576) (hC : CAt w a n cs) (hO : OAt w a2 n2 os) :
    Calls Try.prog 26 #[.slice a n c, .int .i64 t, .slice a2 n2 c2, .int .i64 h, .bool m] w fun e w' => OutCs w w' e (putR cs t os h m).1 (putR cs t os h m).2 := by
  have hbx : Below w.heap.size w (w.alloc (.cells #[.int .i64 0, .slice none 0 0] 28)) := below_box _
  have hF := fillPurse_any n c a cs (w.alloc (.cells #[.int .i64 0, .slice none 0 0] 28)) hn hk (hC.below hbx (Nat.le_refl _))
  have HBX : Hid (Below w.heap.size w (w.alloc (.cells #[.int .i64 0, .slice none 0 0] 28))) := hbx
  have T1 : Hid ((w.alloc (.cells #[.int .i64 0, .slice none 0 0] 28)).heap[w.heap.size]? = some (.cells #[.int .i64 0, .slice none 0 0] 28 (0, 0))) := heap_alloc_new _ _
  have HSZ : Hid ((w.alloc (.cells #[.int .i64 0, .slice none 0 0] 28)).heap.size = w.heap.size + 1) := by show (w.alloc (.cells #[.int .i64 0, .slice none 0 0] 28)).heap.size = _; simp
  have HO : Hid (OAt w a2 n2 os ∧ ∀ j, j < n2 → (os.getD j O0).l.length ≤ 1048576) := ⟨hO, hk2⟩
  have HCL : Hid (cs.length = n) := hC.1
  clear hbx hC hk hO hk2
  by_cases h0 : coinsR cs = 0
  · have hF' : Calls Try.prog 39 #[.slice a n c] (w.alloc (.cells #[.int .i64 0, .slice none 0 0] 28)) fun e w' => Below (w.alloc (.cells #[.int .i64 0, .slice none 0 0] 28)).heap.size (w.alloc (.cells #[.int .i64 0, .slice none 0 0] 28)) w' ∧ ∃ B, e = .returned (.tuple #[.map (some B), .int .i64 0]) ∧ Hid (∃ ps, Pu w' (w.heap.size + 1) B ps ∧ ps.map (·.1) = cs) := hF.mono fun e w' h => by
      rcases h.2 with h1 | ⟨_, B, ps, h1, h2, h3⟩
      · exact absurd h0 h1.1
      · rw [HSZ.out] at h2
        exact ⟨h.1, B, h1, ps, h2, h3⟩
    clear hF
    obtain ⟨h40, _, hri⟩ := coins_rise h0
    have HRI : Hid (cs.length ≤ 40 ∧ cs.Pairwise (fun a b => 0 < cmpR (b.p, b.q) (a.p, a.q))) := ⟨h40, hri⟩
    obtain ⟨pc, hpc⟩ : ∃ p, p = putsR cs.length (hasT cs t) t os h := ⟨_, rfl⟩
    have HPC : Hid (putsR cs.length (hasT cs t) t os h = pc) := hpc.symm
    have HPO : Hid (∀ B w2, Below w.heap.size w w2 → w.heap.size + 1 ≤ (World.heap w2).size → (∃ ps, Pu w2 (w.heap.size + 1) B ps ∧ ps.map (·.1) = cs) → Calls Try.prog 54 #[.map (some B), .int .i64 t, .slice a2 n2 c2, .int .i64 h, .bool m] w2 fun e w' => e = .returned (.int .i64 pc) ∧ Hid (Chg w2 w' B (B + 1) ∧ w.heap.size + 1 ≤ B) ∧ Hid (pc = 0 → ∃ ps', Pu w' (w.heap.size + 1) B ps' ∧ ps'.map (·.1) = cs ++ newCs t h m os os.length)) := fun B w2 hb hs ⟨ps, h1, h2⟩ => by
      have hl : ps.length = cs.length := by rw [← h2]; simp
      refine (putOuts_any B (w.heap.size + 1) t h m n2 c2 a2 os ps w2 h1 hs (by rw [hl]; exact HRI.out.1) hn2 HO.out.2 (HO.out.1.below hb (Nat.le_refl _))).mono fun e w' hq => ?_
      obtain ⟨q1, q2, q3⟩ := hq
      have e1 : putsR ps.length (txIn ps t) t os h = pc := by rw [hl, ← hasT_map, h2]; exact HPC.out
      rw [e1] at q1 q3
      exact ⟨q1, ⟨q2, h1.base⟩, fun e => by obtain ⟨ps', r1, r2⟩ := q3 e; exact ⟨ps', r1, by rw [r2, h2]⟩⟩
    clear h40 hri
    by_cases hp0 : pc = 0
    · have hr : putR cs t os h m = (0, addCs cs (newCs t h m os os.length)) := by unfold putR; rw [if_neg (by simp [h0]), ← hpc, if_neg (by simp [hp0])]
      subst hp0
      obtain ⟨hti, hle⟩ := puts_taken HPC.out
      obtain ⟨qs, hqs⟩ : ∃ q, q = addCs cs (newCs t h m os os.length) := ⟨_, rfl⟩
      rw [hr, ← hqs]
      have HCO : Hid (∀ B w3, (∃ ps', Pu w3 (w.heap.size + 1) B ps' ∧ ps'.map (·.1) = cs ++ newCs t h m os os.length) → Calls Try.prog 45 #[.map (some B)] w3 fun e w' => ∃ v, e = .returned v ∧ Hid ((∃ kv, COwn w' (w.heap.size + 1) w'.heap.size v qs.length (fun j => qs.getD j C0) kv) ∧ Below w3.heap.size w3 w')) := fun B w3 ⟨ps', h1, h2⟩ => by
        have hl : ps'.length = cs.length + os.length := by have := congrArg List.length h2; simpa [newCs] using this
        refine coins_any B (w.heap.size + 1) ps' qs w3 h1 (by have := h1.base; have := h1.lt; omega) (by omega) ?_ fun c => ?_
        · rw [hqs]; exact addCs_rise HRI.out.2 (new_apart HRI.out.2 hti)
        · rw [hqs, addCs_mem, h2]
      have HPQ : Hid (∀ B w2, Below w.heap.size w w2 → w.heap.size + 1 ≤ (World.heap w2).size → (∃ ps, Pu w2 (w.heap.size + 1) B ps ∧ ps.map (·.1) = cs) → Calls Try.prog 54 #[.map (some B), .int .i64 t, .slice a2 n2 c2, .int .i64 h, .bool m] w2 fun e w' => e = .returned (.int .i64 0) ∧ Hid (Chg w2 w' B (B + 1) ∧ w.heap.size + 1 ≤ B) ∧ Hid (∃ ps', Pu w' (w.heap.size + 1) B ps' ∧ ps'.map (·.1) = cs ++ newCs t h m os os.length)) := fun B w2 h1 h2 h3 => (HPO.out B w2 h1 h2 h3).mono fun e w' q => ⟨q.1, q.2.1, q.2.2.out rfl⟩
      clear hr h0 hpc hqs hti hle HPO
      go_enter Try.func26, Try.ntmps26
      go_wp2_with (first
        | (go_at_call 39; (with_reducible refine hF'.mono ?_); clear hF'; rintro e w2 ⟨hb2, B, rfl, HPU⟩; have HT1 := keepb T1.out hb2; have HB2 : Hid (Below w.heap.size w w2) := HBX.out.trans (hb2.mono HBX.out.size); obtain ⟨y0, y1⟩ := cells2 HT1.out; have f0 := Joins.unfrozen_of_block HT1.out 0; have f1 := Joins.unfrozen_of_block HT1.out 1; have HS2 : Hid (w.heap.size + 1 ≤ w2.heap.size) := (by have := hb2.size; rw [HSZ.out] at this; exact this); clear hb2; have hpo := HPQ.out B w2 HB2.out HS2.out HPU.out)
        | (go_at_call 54; (with_reducible refine hpo.mono ?_); clear hpo; rintro e w3 ⟨rfl, HCH, HPS⟩; have HT3 : Hid (w3.heap[w.heap.size]? = some (.cells #[.int .i64 0, .slice none 0 0] 28 (0, 0))) := HCH.out.1.keep HT1.out (.inl (by have := HCH.out.2; omega)); have HB3 : Hid (Below w.heap.size w w3) := HB2.out.trans (HCH.out.1.below (by have := HCH.out.2; omega) HB2.out.size); have hco := HCO.out B w3 HPS.out; clear y0 y1 f0 f1)
        | (go_at_call 45; (with_reducible refine hco.mono ?_); clear hco; rintro e w5 ⟨v, rfl, HS⟩; obtain ⟨va, vc, hv⟩ := own_slice3 HS.out.1; subst hv; have HT5 := keepb HT3.out HS.out.2; obtain ⟨y0, y1⟩ := cells2 HT5.out; have f0 := Joins.unfrozen_of_block HT5.out 0; have f1 := Joins.unfrozen_of_block HT5.out 1))
      obtain ⟨_, j1⟩ := two_set HT5.out (.int .i64 0) (.slice va qs.length vc)
      exact bodyPost_ret (v := .agg #[.int .i64 0, .slice va qs.length vc]) (by simp [results, Try.results26, go_sem, j1]) rfl (out_coins (lo := w.heap.size + 1) (Nat.le_refl _) (by omega) (HB3.out.trans (HS.out.2.mono HB3.out.size)) HS.out.1)
    · have hr : putR cs t os h m = (pc, []) := by unfold putR; rw [if_neg (by simp [h0]), ← hpc, if_pos hp0]
      rw [hr]
      clear hr h0 hpc
      go_enter Try.func26, Try.ntmps26
      go_wp2_with (first
        | (go_at_call 39; (with_reducible refine hF'.mono ?_); clear hF'; rintro e w2 ⟨hb2, B, rfl, HPU⟩; have HT1 := keepb T1.out hb2; have HB2 : Hid (Below w.heap.size w w2) := HBX.out.trans (hb2.mono HBX.out.size); obtain ⟨y0, y1⟩ := cells2 HT1.out; have f0 := Joins.unfrozen_of_block HT1.out 0; have f1 := Joins.unfrozen_of_block HT1.out 1; have HS2 : Hid (w.heap.size + 1 ≤ w2.heap.size) := (by have := hb2.size; rw [HSZ.out] at this; exact this); clear hb2; have hpo := HPO.out B w2 HB2.out HS2.out HPU.out)
        | (go_at_call 54; (with_reducible refine hpo.mono ?_); clear hpo; rintro e w3 ⟨rfl, HCH, _⟩; have HT3 : Hid (w3.heap[w.heap.size]? = some (.cells #[.int .i64 0, .slice none 0 0] 28 (0, 0))) := HCH.out.1.keep HT1.out (.inl (by have := HCH.out.2; omega)); have HB3 : Hid (Below w.heap.size w w3) := HB2.out.trans (HCH.out.1.below (by have := HCH.out.2; omega) HB2.out.size); clear y0 y1 f0 f1; obtain ⟨y0, y1⟩ := cells2 HT3.out; have f0 := Joins.unfrozen_of_block HT3.out 0; have f1 := Joins.unfrozen_of_block HT3.out 1))
      obtain ⟨_, j1⟩ := two_set HT3.out (.int .i64 pc) (.slice none 0 0)
      exact bodyPost_ret (v := .agg #[.int .i64 pc, .slice none 0 0]) (by simp [results, Try.results26, go_sem, j1]) rfl (out_code (Nat.le_refl _) HB3.out)
  · have hr : putR cs t os h m = (coinsR cs, []) := by unfold putR; rw [if_pos h0]
    rw [hr]
    obtain ⟨cd, hcd⟩ : ∃ r, r = coinsR cs := ⟨_, rfl⟩
    have hF' : Calls Try.prog 39 #[.slice a n c] (w.alloc (.cells #[.int .i64 0, .slice none 0 0] 28)) fun e w' => Below (w.alloc (.cells #[.int .i64 0, .slice none 0 0] 28)).heap.size (w.alloc (.cells #[.int .i64 0, .slice none 0 0] 28)) w' ∧ e = .returned (.tuple #[.map none, .int .i64 cd]) := hF.mono fun e w' h => by
      rcases h.2 with h1 | h1
      · rw [hcd]; exact ⟨h.1, h1.2⟩
      · exact absurd h1.1 h0
    rw [← hcd] at h0 ⊢
    clear hF hcd hr
    go_enter Try.func26, Try.ntmps26
    go_wp2_with (first
      | (go_at_call 39; (with_reducible refine hF'.mono ?_); clear hF'; rintro e w2 ⟨hb2, rfl⟩; have HT1 := keepb T1.out hb2; have HB2 : Hid (Below w.heap.size w w2) := HBX.out.trans (hb2.mono HBX.out.size); obtain ⟨y0, y1⟩ := cells2 HT1.out; have f0 := Joins.unfrozen_of_block HT1.out 0; have f1 := Joins.unfrozen_of_block HT1.out 1; have HS2 : Hid (w.heap.size + 1 ≤ w2.heap.size) := (by have := hb2.size; rw [HSZ.out] at this; exact this); clear hb2))
    obtain ⟨_, j1⟩ := two_set HT1.out (.int .i64 cd) (.slice none 0 0)
    exact bodyPost_ret (v := .agg #[.int .i64 cd, .slice none 0 0]) (by simp [results, Try.results26, go_sem, j1]) rfl (out_code (Nat.le_refl _) HB2.out)

end Go.Proofs.Ytbjgngabdcknnaa
