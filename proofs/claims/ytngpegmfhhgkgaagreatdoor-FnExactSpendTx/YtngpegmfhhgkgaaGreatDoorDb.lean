/- A coin is taken out of the purse. -/
import Derived.Test.YtngpegmfhhgkgaaGreatDoorCv
namespace Go.Proofs.YtngpegmfhhgkgaaGreatDoor
open Go.RowKit Go.Maps Go.WideMaps

def dropP (ps : List (Co × Value)) (r : Int × Int) : List (Co × Value) := ps.filter fun x => decide (refOf x ≠ r)
theorem find_drop {ps : List (Co × Value)} {r t : Int × Int} : findP (dropP ps r) t = if t = r then none else findP ps t := by
  unfold findP dropP
  induction ps with
  | nil => simp
  | cons x l ih =>
    by_cases e : refOf x = r
    · rw [List.filter_cons_of_neg (by simp [e]), ih]
      by_cases e2 : t = r
      · rw [if_pos e2, if_pos e2]
      · rw [if_neg e2, if_neg e2, List.find?_cons_of_neg (by simp; exact fun e3 => e2 (e3.symm.trans e))]
    · rw [List.filter_cons_of_pos (by simp [e])]
      by_cases e3 : refOf x = t
      · rw [List.find?_cons_of_pos (by simp [e3]), if_neg (fun e4 => e (e3.trans e4)), List.find?_cons_of_pos (by simp [e3])]
      · rw [List.find?_cons_of_neg (by simp [e3]), ih, List.find?_cons_of_neg (by simp [e3])]

theorem refs_inj {ps : List (Co × Value)} (h : ps.Pairwise fun x y => refOf x ≠ refOf y) : ∀ x ∈ ps, ∀ y ∈ ps, refOf x = refOf y → x = y := by
  induction ps with
  | nil => intro x hx; cases hx
  | cons a l ih =>
    rw [List.pairwise_cons] at h
    intro x hx y hy e
    rcases List.mem_cons.1 hx with e1 | h1 <;> rcases List.mem_cons.1 hy with e2 | h2
    · rw [e1, e2]
    · rw [e1] at e; exact absurd e (h.1 y h2)
    · rw [e2] at e; exact absurd e.symm (h.1 x h1)
    · exact ih h.2 x h1 y h2 e
theorem find_mem {ps : List (Co × Value)} (h : ps.Pairwise fun x y => refOf x ≠ refOf y) {x : Co × Value} (hx : x ∈ ps) : findP ps (refOf x) = some x := by
  cases hf : findP ps (refOf x) with
  | none =>
    unfold findP at hf
    rw [List.find?_eq_none] at hf
    exact absurd (by simp) (hf x hx)
  | some y =>
    unfold findP at hf
    have h1 := List.mem_of_find?_eq_some hf
    have h2 := List.find?_some hf
    rw [refs_inj h y h1 x hx (by simpa using h2)]
theorem find_get {ps : List (Co × Value)} {r : Int × Int} {x : Co × Value} (h : findP ps r = some x) : x ∈ ps ∧ refOf x = r := by
  unfold findP at h
  exact ⟨List.mem_of_find?_eq_some h, by simpa using List.find?_some h⟩
theorem drop_length {ps : List (Co × Value)} (h : ps.Pairwise fun x y => refOf x ≠ refOf y) {r : Int × Int} {x : Co × Value} (hx : findP ps r = some x) : (dropP ps r).length + 1 = ps.length := by
  induction ps with
  | nil => simp [findP] at hx
  | cons a l ih =>
    rw [List.pairwise_cons] at h
    by_cases e : refOf a = r
    · have h2 : dropP l r = l := by
        unfold dropP
        rw [List.filter_eq_self]
        intro y hy
        have := h.1 y hy
        rw [e] at this
        simpa using this.symm
      have h3 : dropP (a :: l) r = dropP l r := by unfold dropP; rw [List.filter_cons_of_neg (by simp [e])]
      rw [h3, h2]
      rfl
    · have h3 : dropP (a :: l) r = a :: dropP l r := by unfold dropP; rw [List.filter_cons_of_pos (by simp [e])]
      have h4 : findP l r = some x := by unfold findP at hx ⊢; rwa [List.find?_cons_of_neg (by simp [e])] at hx
      have := ih h.2 h4
      rw [h3]
      simp only [List.length_cons]
      omega

theorem Pu.drop {w : World} {lo B : Nat} {ps : List (Co × Value)} (h : Pu w lo B ps) {r : Int × Int} {x : Co × Value} (hx : findP ps r = some x) (hp : (Lit.int .i64 r.1).wf = true) (hq : (Lit.int .i64 r.2).wf = true) (ty : TypeId) :
    ∃ w', (Builtin.delete_ #[73, 63] ty #[.map (some B), encR r]).run Tryz.prog w = .ok (.tuple #[]) w' ∧ Pu w' lo B (dropP ps r) ∧ w.mapTurned w' B := by
  obtain ⟨D, ho, hsz, hat⟩ := h.map
  obtain ⟨kl, hk⟩ := keyRf (r := r) hp hq
  obtain ⟨w', hrun, ho', hg⟩ := ho.drop kR Tryz.underlying73 hk ty
  have hyes : Maps.has D kl = true := by have := hat r kl hk; rw [hx] at this; exact this.1
  have hs2 : Maps.size (D.del kl) = (dropP ps r).length := by
    have h1 := size_del (k := kl) (ho.tidy kR)
    have h2 := drop_length h.refs hx
    rw [hyes] at h1
    simp at h1
    omega
  have ho2 := ownsMap_tight ho'
  rw [hs2] at ho2
  have nb : ∀ y ∈ ps, y.2.ownBlock ≠ some B := fun y hy e => by
    obtain ⟨es, clock, hb, _⟩ := ho
    rcases (h.rows y hy).2 with ⟨e1, _⟩ | ⟨g, c, cur, e1, _, hh, _⟩
    · rw [e1] at e; cases e
    · rw [e1] at e
      have : g = B := by simpa [Value.ownBlock] using e
      rw [this, hb] at hh
      cases hh
  have hsub : ∀ y ∈ dropP ps r, y ∈ ps := fun y hy => (List.mem_filter.1 hy).1
  refine ⟨w', hrun, ⟨⟨D.del kl, ho2, hs2, fun t kl' ht => ?_⟩, fun y hy => (h.rows y (hsub y hy)).kept (hg.grown) (.inr (nb y (hsub y hy))), h.base, h.apart.filter _, h.refs.filter _, fun y hy => h.wfs y (hsub y hy)⟩, hg⟩
  rw [find_drop]
  by_cases e : t = r
  · subst e
    rw [hk] at ht
    cases ht
    rw [if_pos rfl]
    exact ⟨has_del_same, fun zd => atKey_del_same zd⟩
  · rw [if_neg e]
    have hne : kl' ≠ kl := fun e2 => e (encR_inj (kR.inj ht (by rw [e2]; exact hk)))
    have hl2 := hat t kl' ht
    cases hf : findP ps t with
    | none =>
      rw [hf] at hl2
      exact ⟨(has_del_other hne).trans hl2.1, fun zd => (atKey_del_other hne zd).trans (hl2.2 zd)⟩
    | some y =>
      rw [hf] at hl2
      exact ⟨(has_del_other hne).trans hl2.1, fun zd => (atKey_del_other hne zd).trans (hl2.2 zd)⟩

end Go.Proofs.YtngpegmfhhgkgaaGreatDoor
