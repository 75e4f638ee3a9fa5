/- A transaction is spent: what it comes to, without a world. -/
import Derived.Test.YthjolannlefbcaaGreatDoorQm
import Derived.Test.YthjolannlefbcaaGreatDoorJn7
namespace Go.Proofs.YthjolannlefbcaaGreatDoor
open Go.RowKit Go.Maps Go.WideMaps

theorem csR_back : ∀ {cs : List Co} {pr : Int × Int}, (∀ c ∈ cs, coinR c = 0) → RiseC cs → (∀ c ∈ cs, 0 < cmpR (c.p, c.q) pr) → csR pr cs = 0
  | [], _, _, _, _ => rfl
  | c :: t, pr, h1, h2, h3 => by
    unfold RiseC at h2
    rw [List.pairwise_cons] at h2
    have a := h3 c (by simp)
    rw [csR_go (h1 c (by simp)) (by omega)]
    exact csR_back (fun d hd => h1 d (by simp [hd])) h2.2 (fun d hd => h2.1 d hd)
/-- Coins that are right and rise have no fault. -/
theorem coinsR_back {cs : List Co} (h0 : cs.length ≤ 40) (h1 : ∀ c ∈ cs, coinR c = 0) (h2 : RiseC cs) : coinsR cs = 0 := by
  unfold coinsR
  rw [if_neg (by omega)]
  refine csR_back h1 h2 fun c hc => ?_
  obtain ⟨g1, g2, _⟩ := coin_more (h1 c hc)
  exact cmpR_pos.2 (by omega)
/-- The coins that are not of some refs. -/
def outC2 (cs : List Co) (rs : List (Int × Int)) : List Co := cs.filter fun c => !memB rs (c.p, c.q)
theorem go_out : ∀ {rs : List (Int × Int)} {cs : List Co}, rs.Nodup → (∀ r ∈ rs, hasC cs r = true) → goT cs rs = (0, outC2 cs rs)
  | [], cs, _, _ => by
    have e : outC2 cs [] = cs := by
      unfold outC2
      rw [List.filter_eq_self]
      intro c _
      have : ¬ memB [] (c.p, c.q) = true := fun h => by have := memB_here.1 h; cases this
      simpa using this
    rw [e]; rfl
  | r :: rs, cs, hd, hh => by
    rw [List.nodup_cons] at hd
    have h1 : goT cs (r :: rs) = goT (dropC cs r) rs := by
      show (if hasC cs r = true then _ else _) = _
      rw [if_pos (hh r (by simp))]
    have h2 : ∀ s ∈ rs, hasC (dropC cs r) s = true := fun s hs => by
      have := hh s (by simp [hs])
      unfold hasC dropC at *
      rw [List.any_eq_true] at this ⊢
      obtain ⟨c, hc, e⟩ := this
      have e' : (c.p, c.q) = s := by simpa using e
      exact ⟨c, List.mem_filter.2 ⟨hc, decide_eq_true (fun e2 => hd.1 (by rw [← e2, e']; exact hs))⟩, e⟩
    rw [h1, go_out hd.2 h2]
    congr 1
    unfold outC2 dropC
    rw [List.filter_filter]
    refine List.filter_congr fun c _ => ?_
    rw [Bool.eq_iff_iff]
    simp only [Bool.and_eq_true, Bool.not_eq_true', decide_eq_true_eq]
    constructor
    · rintro ⟨a, b⟩
      have h3 : ¬ memB (r :: rs) (c.p, c.q) = true := fun h => by
        rcases List.mem_cons.1 (memB_here.1 h) with e | e
        · exact b e
        · rw [memB_here.2 e] at a; cases a
      simpa using h3
    · intro a
      have h3 : ¬ (c.p, c.q) ∈ r :: rs := fun h => by rw [memB_here.2 h] at a; cases a
      refine ⟨?_, fun e => h3 (by rw [e]; simp)⟩
      have h4 : ¬ memB rs (c.p, c.q) = true := fun h => h3 (List.mem_cons_of_mem _ (memB_here.1 h))
      simpa using h4
/-- What SpendTx answers. -/
def spendR (cs : List Co) (k f : Int) (rs : List (Int × Int)) (os : List Ou) (id h : Int) : Int × List Co :=
  if (spentR cs k f rs os).1 ≠ 0 then ((spentR cs k f rs os).1, []) else if hasT cs id = true then (7, []) else putR (outC2 cs rs) id os h false
theorem rest_right {cs : List Co} {rs : List (Int × Int)} (h : coinsR cs = 0) : coinsR (outC2 cs rs) = 0 := by
  obtain ⟨a, b, c⟩ := coins_rise h
  exact coinsR_back (Nat.le_trans (List.length_filter_le _ _) a) (fun x hx => b x (List.mem_filter.1 hx).1) (c.filter _)
theorem rest_no {cs : List Co} {rs : List (Int × Int)} {id : Int} (h : hasT cs id = false) : hasT (outC2 cs rs) id = false := by
  unfold hasT outC2 at *
  rw [List.any_eq_false] at h ⊢
  exact fun x hx => h x (List.mem_filter.1 hx).1

end Go.Proofs.YthjolannlefbcaaGreatDoor
