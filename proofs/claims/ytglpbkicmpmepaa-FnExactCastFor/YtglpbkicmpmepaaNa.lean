/- The program's grove: nodes that point at the one ahead of them, their list, and a map by their numbers. -/
import Derived.Test.YtglpbkicmpmepaaLd
import Derived.Test.YtglpbkicmpmepaaTw
import Derived.Maps.OwnSet
namespace Go.Proofs.Ytglpbkicmpmepaa
open Go.RowKit Go.Maps Go.WideMaps

theorem kN : Keyed Try.prog 2 := int_keyed Try.underlying2
theorem Try.infoPb : (Try.prog.info? 89).map (fun i => (i.zero, i.size, i.bytes)) = some (some (.pointer none), 1, 8) := by kernel_rfl
theorem zeroPb (w : World) : (zeroValue 89).run Try.prog w = .ok (.pointer none) w := by kernel_rfl
def FineN (ms : List Mb) : Prop := ∀ j, (Lit.int .i64 (ms.getD j Z3).1).wf = true ∧ (Lit.int .i64 (ms.getD j Z3).2.1).wf = true ∧ (Lit.int .i64 (ms.getD j Z3).2.2).wf = true

theorem nIx_snoc_none {l : List Mb} {o : Mb} {id : Int} : ∀ k, nIx l id k = -1 → nIx (l ++ [o]) id k = if o.1 = id then ((k + l.length : Nat) : Int) else -1 := by
  induction l with
  | nil => intro k _; rw [List.nil_append, nIx]; simp [nIx]
  | cons g t ih =>
    intro k h
    by_cases e : g.1 = id
    · rw [nIx, if_pos e] at h; omega
    · rw [nIx, if_neg e] at h
      rw [List.cons_append, nIx, if_neg e, ih (k + 1) h]
      simp only [List.length_cons]
      by_cases e2 : o.1 = id
      · rw [if_pos e2, if_pos e2]; omega
      · rw [if_neg e2, if_neg e2]
theorem nAt_snoc_none {ms : List Mb} {o : Mb} {id : Int} (h : nAt ms id = -1) : nAt (ms ++ [o]) id = if o.1 = id then (ms.length : Int) else -1 := by
  have := nIx_snoc_none (o := o) 0 h
  simpa [nAt] using this
theorem nAt_snoc_old {ms : List Mb} {o : Mb} {id : Int} (h : nAt ms id ≠ -1) : nAt (ms ++ [o]) id = nAt ms id := nIx_append 0 h

/-- The pointer to a node in block b. -/
def ptB (b : Nat) : Value := .pointer (some ⟨b, 0, none⟩)
/-- The pointer to the node of a number: nil, where there is none. -/
def ptrOf (ms : List Mb) (bs : List Nat) (id : Int) : Value := if nAt ms id < 0 then .pointer none else ptB (bs.getD (nAt ms id).toNat 0)
theorem ptrOf_none {ms : List Mb} {bs : List Nat} {id : Int} (h : nAt ms id < 0) : ptrOf ms bs id = .pointer none := by unfold ptrOf; rw [if_pos h]
theorem ptrOf_some {ms : List Mb} {bs : List Nat} {id : Int} {j : Nat} (h : nAt ms id = (j : Int)) : ptrOf ms bs id = .pointer (some ⟨bs.getD j 0, 0, none⟩) := by unfold ptrOf; rw [if_neg (by omega), h]; rfl
theorem ptrOf_snoc {ms : List Mb} {bs : List Nat} {o : Mb} {X : Nat} {id : Int} (hl : bs.length = ms.length) (hn : nAt ms o.1 = -1) : ptrOf (ms ++ [o]) (bs ++ [X]) id = if o.1 = id then ptB X else ptrOf ms bs id := by
  unfold ptrOf
  rcases nAt_lt ms id with h | ⟨j, h1, h2, h3⟩
  · have hs := nAt_snoc_none (o := o) h
    by_cases e : o.1 = id
    · rw [if_pos e] at hs
      rw [if_pos e, hs, if_neg (by omega)]
      congr 1
      simp [List.getD, ← hl]
    · rw [if_neg e] at hs
      rw [if_neg e, hs, h]
      simp
  · have hs : nAt (ms ++ [o]) id = nAt ms id := nAt_snoc_old (by omega)
    have e : o.1 ≠ id := by rintro rfl; rw [hn] at h2; omega
    rw [if_neg e, hs, h2, if_neg (by omega), if_neg (by omega)]
    congr 1
    simp only [Int.toNat_natCast, List.getD]
    rw [List.getElem?_append_left (by omega)]
def RvP (v : Value) : Option (DataW Value × List MemPlace) := some (.held v, [])

/-- The map in block B tells the node of each number. -/
def Gm (w : World) (B : Nat) (ms : List Mb) (bs : List Nat) : Prop :=
  ∃ D : DataW Value, w.ownsMap Try.prog 2 RvP B ms.length D ∧ ∀ id kl, keyOf Try.prog 2 (.int .i64 id) = some kl → D.atKey kl (.held (.pointer none)) = .held (ptrOf ms bs id)
theorem Gm.lt {w : World} {B : Nat} {ms : List Mb} {bs : List Nat} (h : Gm w B ms bs) : B < w.heap.size := by obtain ⟨D, ho, _⟩ := h; exact ho.lt
theorem Gm.kept {w w' : World} {B : Nat} {ms : List Mb} {bs : List Nat} {row : Option Nat} (h : Gm w B ms bs) (hg : w.grownBy w' row) (hne : some B ≠ row) : Gm w' B ms bs := by
  obtain ⟨D, ho, ha⟩ := h
  exact ⟨D, ho.kept hg hne, ha⟩
theorem Gm.setCell {w : World} {B : Nat} {ms : List Mb} {bs : List Nat} (h : Gm w B ms bs) {a : Addr} (ha : B ≠ a.block) (u : Value) : Gm (w.setCell a u) B ms bs := by
  obtain ⟨D, ho, hat⟩ := h
  exact ⟨D, ho.setCell ha u, hat⟩
theorem Gm.drew {w : World} {B : Nat} {ms : List Mb} {bs : List Nat} (h : Gm w B ms bs) : Gm w.drew B ms bs := by
  obtain ⟨D, ho, hat⟩ := h
  exact ⟨D, ho, hat⟩
theorem Gm.made (w : World) : Gm (w.alloc (.map #[] 0)) w.heap.size [] [] :=
  ⟨.map [], World.ownsMap_made _ _ _ _, fun _ _ _ => rfl⟩
theorem Gm.look {w : World} {B : Nat} {ms : List Mb} {bs : List Nat} (h : Gm w B ms bs) {id : Int} (hw : (Lit.int .i64 id).wf = true) :
    (Instr.lookup 83 (.map (some B)) (.int .i64 id) false).run Try.prog w = .ok (ptrOf ms bs id) w := by
  obtain ⟨D, ho, hat⟩ := h
  have hk := keyOf_int_mk (P := Try.prog) Try.underlying2 hw
  obtain ⟨v, ps, hrun, hv⟩ := ho.lookup kN Try.underlying83 (zeroPb w) (zd := .held (.pointer none)) (zp := []) rfl hk
  rw [hat id _ hk] at hv
  have : v = ptrOf ms bs id := (show v = ptrOf ms bs id ∧ ps = [] by simpa [RvP] using hv).1
  rw [hrun, this]
theorem Gm.store {w : World} {B : Nat} {ms : List Mb} {bs : List Nat} (h : Gm w B ms bs) {o : Mb} {X : Nat} (hw : (Lit.int .i64 o.1).wf = true) (hl : bs.length = ms.length) (hn : nAt ms o.1 = -1) (h60 : ms.length ≤ 1000) :
    ∃ w', (Instr.mapUpdate 83 (.map (some B)) (.int .i64 o.1) (.pointer (some ⟨X, 0, none⟩))).run Try.prog w = .ok () w' ∧ Gm w' B (ms ++ [o]) (bs ++ [X]) ∧ w.grownBy w' (some B) := by
  obtain ⟨D, ho, hat⟩ := h
  have hk := keyOf_int_mk (P := Try.prog) Try.underlying2 hw
  obtain ⟨w', hrun, ho', hg⟩ := ho.update kN Try.underlying83 (by unfold maxLen; omega) hk (val := .pointer (some ⟨X, 0, none⟩)) (d := .held (ptB X)) (ps := []) rfl
  refine ⟨w', hrun, ⟨_, by simpa using ho', fun id kl hy => ?_⟩, hg⟩
  rw [ptrOf_snoc hl hn]
  by_cases e : o.1 = id
  · subst e
    rw [hk] at hy
    cases hy
    rw [if_pos rfl]
    exact atKey_put_same ho.isMap (kN.key hk) _ _
  · rw [if_neg e]
    have hne : kl ≠ Lit.int .i64 o.1 := fun e2 => e (by have := kN.inj (by rw [e2] at hy; exact hy) hk; simpa using this.symm)
    rw [atKey_put_other hne]
    exact hat id kl hy

/-- The grove in block G: its list s, its map in block B; the node of place j lies in block bs[j]. -/
structure Gv (w : World) (lo G B : Nat) (s : Value) (ms : List Mb) (bs : List Nat) : Prop where
  box : w.heap[G]? = some (.cells #[s, .map (some B)] 86 (0, 0))
  row : w.ownsRow lo 89 1 s ms.length (bs.map ptB)
  map : Gm w B ms bs
  len : bs.length = ms.length
  node : ∀ j, j < ms.length → w.heap[bs.getD j 0]? = some (.cells #[.int .i64 (ms.getD j Z3).1, .int .i64 (ms.getD j Z3).2.1, .int .i64 (ms.getD j Z3).2.2, ptrOf ms bs (ms.getD j Z3).2.1] 103 (0, 0)) ∧ lo ≤ bs.getD j 0
  up : ∀ i j, i < j → j < ms.length → bs.getD i 0 < bs.getD j 0
  gl : lo ≤ G ∧ lo ≤ B

theorem Gv.below {w w' : World} {lo G B : Nat} {s : Value} {ms : List Mb} {bs : List Nat} (h : Gv w lo G B s ms bs) (hb : Below w.heap.size w w') : Gv w' lo G B s ms bs :=
  ⟨(hb.block _ (lt_of_block h.box)).trans h.box, h.row.kept (grown_of_below hb) (by cases Value.ownBlock s <;> simp), h.map.kept (grown_of_below hb) (by simp), h.len, fun j hj => ⟨(hb.block _ (lt_of_block (h.node j hj).1)).trans (h.node j hj).1, (h.node j hj).2⟩, h.up, h.gl⟩
theorem Gv.drew {w : World} {lo G B : Nat} {s : Value} {ms : List Mb} {bs : List Nat} (h : Gv w lo G B s ms bs) : Gv w.drew lo G B s ms bs :=
  ⟨h.box, h.row.drew, h.map.drew, h.len, h.node, h.up, h.gl⟩
theorem Gv.slice {w : World} {lo G B : Nat} {s : Value} {ms : List Mb} {bs : List Nat} (h : Gv w lo G B s ms bs) : ∃ a c, s = .slice a ms.length c := by
  rcases h.row.2 with ⟨h1, h2⟩ | ⟨g, cap, cur, h1, _⟩
  · exact ⟨none, 0, by rw [h2]; exact h1⟩
  · exact ⟨_, _, h1⟩

theorem find_any (lo G B : Nat) (s : Value) (ms : List Mb) (bs : List Nat) (id : Int) (w : World) (hw : (Lit.int .i64 id).wf = true) (h : Gv w lo G B s ms bs) :
    Calls Try.prog 46 #[.pointer (some ⟨G, 0, none⟩), .int .i64 id] w fun e w' => e = .returned (ptrOf ms bs id) ∧ w' = w := by
  have hrun := h.map.look hw
  have c1 : w.cell? ⟨G, 1, none⟩ = some (.map (some B)) := by simp [World.cell?, h.box]
  obtain ⟨p, hp⟩ : ∃ p, p = ptrOf ms bs id := ⟨_, rfl⟩
  rw [← hp] at hrun ⊢
  obtain ⟨q, rfl⟩ : ∃ q, p = .pointer q := by
    rw [hp]; unfold ptrOf ptB
    split
    · exact ⟨_, rfl⟩
    · exact ⟨_, rfl⟩
  clear h hp
  go_enter Try.func46, Try.ntmps46
  go_wp2
  go_ret
  exact ⟨rfl, rfl⟩

theorem height_nil (w : World) : Calls Try.prog 60 #[.pointer none] w fun e w' => e = .returned (.int .i64 0) ∧ w' = w := by
  go_enter Try.func60, Try.ntmps60
  go_wp2
  go_ret
  exact ⟨rfl, rfl⟩
theorem height_some (b : Nat) (h : Int) (w : World) (hc : w.cell? ⟨b, 2, none⟩ = some (.int .i64 h)) : Calls Try.prog 60 #[.pointer (some ⟨b, 0, none⟩)] w fun e w' => e = .returned (.int .i64 h) ∧ w' = w := by
  go_enter Try.func60, Try.ntmps60
  go_wp2
  go_ret
  exact ⟨rfl, rfl⟩

end Go.Proofs.Ytglpbkicmpmepaa
