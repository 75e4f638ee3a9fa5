/- The purse tells its coins, rising by their refs. -/
import Derived.Test.YtngpegmfhhgkgaaGreatDoorDf
import Derived.Test.YtngpegmfhhgkgaaGreatDoorCw
namespace Go.Proofs.YtngpegmfhhgkgaaGreatDoor
open Go.RowKit Go.Maps Go.WideMaps Go.Shelf

theorem sortAny (v : Value) (base : Nat) (ss : List SC) (w : World) (h : w.ownsRow base 68 8 v ss.length (ss.flatMap cellsC)) (hlen : ss.length ≤ 1000) :
    Calls Tryz.prog 83 #[v, .func (.func 59) #[] #[]] w fun e w' => e = .returned (.tuple #[]) ∧
      ∃ ts : List SC, ts.Perm ss ∧ (ts.Pairwise fun x y => ltOf cfC y x = false) ∧ w'.ownsRow base 68 8 v ss.length (ts.flatMap cellsC) ∧ w.grownBy w' v.ownBlock := by
  rcases id h.2 with ⟨rfl, h0⟩ | ⟨g, cap, cur, rfl, _⟩
  · have hn := AnyF.slices_SortFunc_none Tryz.sortC none 0 (.func (.func 59) #[] #[]) w
    refine Calls.mono (show Calls Tryz.prog 83 #[.slice none 0 0, .func (.func 59) #[] #[]] w _ from hn) ?_
    rintro e w' ⟨rfl, rfl⟩
    have hs : ss = [] := List.eq_nil_of_length_eq_zero h0
    subst hs
    exact ⟨rfl, [], List.Perm.refl _, List.Pairwise.nil, h, World.grownBy.refl _ _⟩
  · exact sortC_any g cap base ss w h hlen

theorem length_all {ps : List (Co × Value)} {ss : List SC} (h : AllC ps ss) : ss.length ≤ ps.length := by
  obtain ⟨h1, h2, _⟩ := h
  have h3 : (ss.map Subtype.val).Pairwise (fun x y => refOf x ≠ refOf y) := by rw [List.pairwise_map]; exact h2
  have h4 : ∀ x ∈ ss.map Subtype.val, x ∈ ps := fun x hx => by
    obtain ⟨y, hy, rfl⟩ := List.mem_map.1 hx
    exact h1 y hy
  have key : ∀ (l : List (Co × Value)) (ps : List (Co × Value)), l.Pairwise (fun x y => refOf x ≠ refOf y) → (∀ x ∈ l, x ∈ ps) → l.length ≤ ps.length := by
    intro l
    induction l with
    | nil => intro ps _ _; simp
    | cons a t ih =>
      intro ps hp hm
      rw [List.pairwise_cons] at hp
      obtain ⟨s1, s2, rfl⟩ := List.append_of_mem (hm a (by simp))
      have := ih (s1 ++ s2) hp.2 fun x hx => by
        have h5 := hm x (by simp [hx])
        have h6 : x ≠ a := fun e => hp.1 x hx (by rw [e])
        simp at h5 ⊢
        rcases h5 with h5 | h5 | h5
        · exact .inl h5
        · exact absurd h5 h6
        · exact .inr h5
      simp at this ⊢
      omega
  simpa using key _ ps h3 h4

set_option maxHeartbeats 1000000 in
theorem sortedFunc_any (Bm b lo : Nat) (ps : List (Co × Value)) (w : World) (hps : ps.length ≤ 1000) (hBm : Bm < w.heap.size) (hm : w.cell? ⟨Bm, 0, none⟩ = some (.map (some b))) (hP : Pu w lo b ps) :
    Calls Tryz.prog 57 #[.func (.func 84) #[] #[.pointer (some ⟨Bm, 0, none⟩)], .func (.func 59) #[] #[]] w fun e w' =>
      ∃ (v : Value) (ts : List SC), e = .returned v ∧ Hid (AllC ps ts ∧ (ts.Pairwise fun x y => ltOf cfC y x = false) ∧ w'.ownsRow w.heap.size 68 8 v ts.length (ts.flatMap cellsC) ∧ Below w.heap.size w w') := by
  have hc : Calls Tryz.prog 82 #[.func (.func 84) #[] #[.pointer (some ⟨Bm, 0, none⟩)]] w fun e w' => ∃ v, e = .returned v ∧ Hid (∃ ss : List SC, AllC ps ss ∧ w'.ownsRow w.heap.size 68 8 v ss.length (ss.flatMap cellsC) ∧ Below w.heap.size w w') :=
    (collectC Bm b lo ps w hps hBm hm hP).mono fun e w' ⟨v, ss, h1, h2, h3, _, h5⟩ => ⟨v, h1, ss, h2, h3, h5⟩
  have hs : ∀ v w1, Hid (∃ ss : List SC, AllC ps ss ∧ w1.ownsRow w.heap.size 68 8 v ss.length (ss.flatMap cellsC) ∧ Below w.heap.size w w1) → Calls Tryz.prog 83 #[v, .func (.func 59) #[] #[]] w1 fun e w' => e = .returned (.tuple #[]) ∧ Hid (∃ ts : List SC, AllC ps ts ∧ (ts.Pairwise fun x y => ltOf cfC y x = false) ∧ w'.ownsRow w.heap.size 68 8 v ts.length (ts.flatMap cellsC) ∧ Below w.heap.size w w') := fun v w1 h => by
    obtain ⟨ss, h1, h2, h3⟩ := h.out
    refine (sortAny v w.heap.size ss w1 h2 (Nat.le_trans (length_all h1) hps)).mono ?_
    rintro e w' ⟨rfl, ts, q1, q2, q3, q4⟩
    refine ⟨rfl, ts, ⟨fun x hx => h1.1 x (q1.mem_iff.1 hx), ?_, fun x hx => ?_⟩, q2, by rw [q1.length_eq]; exact q3, h3.grown q4 h3.size (fun k e => (h2.lt k e).1)⟩
    · exact (q1.pairwise_iff (fun {a b} (h : refOf a.1 ≠ refOf b.1) => h.symm)).2 h1.2.1
    · obtain ⟨y, hy, e⟩ := h1.2.2 x hx
      exact ⟨y, q1.mem_iff.2 hy, e⟩
  clear hP hm
  go_enter Tryz.func57, Tryz.ntmps57
  go_wp2_with (first
    | (go_at_call 82; (with_reducible refine hc.mono ?_); clear hc; rintro e w1 ⟨v, rfl, HS⟩; have hs' := hs v w1 HS; clear hs)
    | (go_at_call 83; (with_reducible refine hs'.mono ?_); clear hs'; rintro e w2 ⟨rfl, HT⟩))
  go_ret
  obtain ⟨ts, h1, h2, h3, h4⟩ := HT.out
  exact ⟨v, ts, rfl, h1, h2, h3, h4⟩

/-- Coins that rise are the same list where they are the same coins. -/
theorem rise_unique : ∀ (a b : List Co), a.Pairwise (fun x y => 0 < cmpR (y.p, y.q) (x.p, x.q)) → b.Pairwise (fun x y => 0 < cmpR (y.p, y.q) (x.p, x.q)) → (∀ c, c ∈ a ↔ c ∈ b) → a = b
  | [], [], _, _, _ => rfl
  | [], y :: b, _, _, h => by have := (h y).2 (by simp); cases this
  | x :: a, [], _, _, h => by have := (h x).1 (by simp); cases this
  | x :: a, y :: b, h1, h2, h => by
    rw [List.pairwise_cons] at h1 h2
    have e : x = y := by
      rcases List.mem_cons.1 ((h x).1 (by simp)) with e | hx
      · exact e
      · rcases List.mem_cons.1 ((h y).2 (by simp)) with e | hy
        · exact e.symm
        · have i1 := cmpR_pos.1 (h2.1 x hx)
          have i2 := cmpR_pos.1 (h1.1 y hy)
          omega
    subst e
    rw [rise_unique a b h1.2 h2.2 fun c => ?_]
    constructor
    · intro hc
      rcases List.mem_cons.1 ((h c).1 (by simp [hc])) with e | hx
      · subst e
        have := cmpR_pos.1 (h1.1 c hc)
        omega
      · exact hx
    · intro hc
      rcases List.mem_cons.1 ((h c).2 (by simp [hc])) with e | hx
      · subst e
        have := cmpR_pos.1 (h2.1 c hc)
        omega
      · exact hx

theorem pair_of {α : Type} {R : α → α → Prop} (hs : ∀ x y, R x y → R y x) : ∀ {l : List α}, l.Pairwise R → ∀ x ∈ l, ∀ y ∈ l, x ≠ y → R x y
  | a :: l, h, x, hx, y, hy, hne => by
    rw [List.pairwise_cons] at h
    rcases List.mem_cons.1 hx with e1 | h1 <;> rcases List.mem_cons.1 hy with e2 | h2
    · exact absurd (e1.trans e2.symm) hne
    · rw [e1]; exact h.1 y h2
    · rw [e2]; exact hs _ _ (h.1 x h1)
    · exact pair_of hs h.2 x h1 y h2 hne

theorem cells_flat (ts : List SC) {j : Nat} (hj : j < ts.length) : CellsC (ts.flatMap cellsC) j (ts[j]!).1.1 (ts[j]!).1.2 := by
  have g : ∀ i, i < 8 → (ts.flatMap cellsC)[j * 8 + i]? = (cellsC (ts[j]!))[i]? := fun i hi => by
    rw [get_flat ts (j * 8 + i) (by omega)]
    have h1 : (j * 8 + i) / 8 = j := by omega
    have h2 : (j * 8 + i) % 8 = i := by omega
    rw [h1, h2]
  exact ⟨g 0 (by omega), g 1 (by omega), g 2 (by omega), g 3 (by omega), g 4 (by omega), g 5 (by omega), g 6 (by omega), g 7 (by omega)⟩

/-- What the sorted row is: coins of their own. -/
theorem own_of_sorted {w w' : World} {lo B : Nat} {ps : List (Co × Value)} {cs : List Co} {v : Value} {ts : List SC} (hP : Pu w lo B ps) (hlo : lo ≤ w.heap.size) (hri : cs.Pairwise (fun x y => 0 < cmpR (y.p, y.q) (x.p, x.q))) (hmem : ∀ c, c ∈ cs ↔ c ∈ ps.map (·.1))
    (hA : AllC ps ts) (hs : ts.Pairwise fun x y => ltOf cfC y x = false) (hrow : w'.ownsRow w.heap.size 68 8 v ts.length (ts.flatMap cellsC)) (hb : Below w.heap.size w w') :
    ∃ kv, COwn w' lo w'.heap.size v cs.length (fun j => cs.getD j C0) kv := by
  have hts : ts.map (fun x => x.1.1) = cs := by
    refine rise_unique _ _ ?_ hri fun c => ?_
    · rw [List.pairwise_map]
      refine (List.pairwise_and_iff.2 ⟨hs, hA.2.1⟩).imp ?_
      rintro x y ⟨h1, h2⟩
      rw [ltC] at h1
      have h3 : ¬ (x.1.1.p = y.1.1.p ∧ x.1.1.q = y.1.1.q) := fun e => h2 (by unfold refOf; rw [e.1, e.2])
      simp at h1
      exact cmpR_pos.2 (by omega)
    · rw [hmem c]
      constructor
      · intro h
        obtain ⟨x, hx, rfl⟩ := List.mem_map.1 h
        exact List.mem_map.2 ⟨x.1, hA.1 x hx, rfl⟩
      · intro h
        obtain ⟨x, hx, rfl⟩ := List.mem_map.1 h
        obtain ⟨y, hy, rfl⟩ := hA.2.2 x hx
        exact List.mem_map.2 ⟨y, hy, rfl⟩
  have hlen : cs.length = ts.length := by rw [← hts]; simp
  have hf : ∀ j, j < ts.length → cs.getD j C0 = (ts[j]!).1.1 := fun j hj => by
    rw [← hts]
    simp [List.getD, hj]
  have hmm : ∀ j, j < ts.length → ts[j]! ∈ ts := fun j hj => by rw [getElem!_pos ts j hj]; exact List.getElem_mem _
  refine ⟨fun j => (ts[j]!).1.2, ⟨ts.flatMap cellsC, by rw [hlen]; exact Joins.ownsRow_le hrow hlo, fun j hj => ?_⟩, fun b hb2 => (hrow.lt b hb2).2, fun j hj => ?_, fun i j hij hj b hb1 => ?_⟩
  · rw [hlen] at hj
    rw [hf j hj]
    exact cells_flat ts hj
  · rw [hlen] at hj
    have h1 := hP.rows _ (hA.1 _ (hmm j hj))
    have h2 : w'.ownsRow lo 2 1 (ts[j]!).1.2 (ts[j]!).1.1.l.length (ints (ts[j]!).1.1.l) := h1.kept (grown_of_below hb) (by cases Value.ownBlock (ts[j]!).1.2 <;> simp)
    rw [hf j hj]
    exact ⟨h2, fun b hb2 => (h2.lt b hb2).2⟩
  · rw [hlen] at hj
    have hi : i < ts.length := by omega
    have hne : (ts[i]!).1 ≠ (ts[j]!).1 := fun e => by
      have := List.pairwise_iff_getElem.1 hA.2.1 i j hi hj hij
      rw [getElem!_pos ts i hi, getElem!_pos ts j hj] at e
      exact this (by rw [e])
    exact pair_of (R := fun x y : Co × Value => ∀ b, x.2.ownBlock = some b → y.2.ownBlock ≠ some b) (fun x y h b h1 h2 => h b h2 h1) hP.apart _ (hA.1 _ (hmm i hi)) _ (hA.1 _ (hmm j hj)) hne b hb1

set_option maxHeartbeats 1000000 in
theorem coins_any (B lo : Nat) (ps : List (Co × Value)) (cs : List Co) (w : World) (hP : Pu w lo B ps) (hlo : lo ≤ w.heap.size) (hps : ps.length ≤ 1000) (hri : cs.Pairwise (fun x y => 0 < cmpR (y.p, y.q) (x.p, x.q))) (hmem : ∀ c, c ∈ cs ↔ c ∈ ps.map (·.1)) :
    Calls Tryz.prog 29 #[.map (some B)] w fun e w' => ∃ v, e = .returned v ∧ Hid ((∃ kv, COwn w' lo w'.heap.size v cs.length (fun j => cs.getD j C0) kv) ∧ Below w.heap.size w w') := by
  have hv := values_any B w
  have hbx : Below w.heap.size w (w.alloc (.cells #[.map (some B)] 73)) := below_box _
  have hX := heap_alloc_new w (.cells #[.map (some B)] 73)
  have hc : (w.alloc (.cells #[.map (some B)] 73)).cell? ⟨w.heap.size, 0, none⟩ = some (.map (some B)) := by unfold World.cell?; rw [hX]; rfl
  have hs : Calls Tryz.prog 57 #[.func (.func 84) #[] #[.pointer (some ⟨w.heap.size, 0, none⟩)], .func (.func 59) #[] #[]] (w.alloc (.cells #[.map (some B)] 73)) fun e w' => ∃ v, e = .returned v ∧ Hid ((∃ kv, COwn w' lo w'.heap.size v cs.length (fun j => cs.getD j C0) kv) ∧ Below w.heap.size w w') :=
    (sortedFunc_any w.heap.size B lo ps (w.alloc (.cells #[.map (some B)] 73)) hps (by simp) hc (hP.below hbx)).mono fun e w' ⟨v, ts, h1, h2⟩ => by
      obtain ⟨q1, q2, q3, q4⟩ := h2.out
      exact ⟨v, h1, own_of_sorted (hP.below hbx) (Nat.le_trans hlo hbx.size) hri hmem q1 q2 q3 q4, hbx.trans (q4.mono hbx.size)⟩
  clear hP hri hmem hX hc hbx
  go_enter Tryz.func29, Tryz.ntmps29
  go_wp2_with (first
    | (go_at_call 58; (with_reducible refine hv.mono ?_); clear hv; rintro e w1 ⟨rfl, rfl⟩)
    | (go_at_call 57; (with_reducible refine hs.mono ?_); clear hs; rintro e w2 ⟨v, rfl, HS⟩))
  go_ret
  exact ⟨v, rfl, HS.out⟩

end Go.Proofs.YtngpegmfhhgkgaaGreatDoor
