/- A transaction is spent: what it comes to, without a world. -/
import Derived.Test.YtagokfoimokniaaGreatDoorQm
import Derived.Test.YtagokfoimokniaaGreatDoorJn8
namespace Go.Proofs.YtagokfoimokniaaGreatDoor
open Go.RowKit Go.Maps Go.WideMaps

theorem csR_back : ∀ {cs : List Co} {pr : Int × Int}, (∀ c ∈ cs, coinR c = 0) → RiseC cs → (∀ c ∈ cs, 0 < cmpR (c.p, c.q) pr) → csR pr cs = 0
  | [], _, _, _, _ => rfl
  | c :: t, pr, h1, h2, h3 => by
    unfold RiseC at h2
    rw [List.pairwise_cons] at h2
    have a := h3 c (by simp)
    rw [csR_go (h1 c (by simp)) (by omega)]
    exact csR_back (fun d hd => h1 d (by simp [hd])) h2.2 (fun d hd => h2.1 d hd)
/-- Coins that are right and rise have no fault. -/
theorem coinsR_back {cs : List Co} (h0 : cs.length ≤ 40) (h1 : ∀ c ∈ cs, coinR c = 0) (h2 : RiseC cs) : coinsR cs = 0 := by
  unfold coinsR
  rw [if_neg (by omega)]
  refine csR_back h1 h2 fun c hc => ?_
  obtain ⟨g1, g2, _⟩ := coin_more (h1 c hc)
  exact cmpR_pos.2 (by omega)
/-- The coins that are not of some refs. -/
def outC2 (cs : List Co) (rs : List (Int × Int)) : List Co := cs.filter fun c => !memB rs (c.p, c.q)
/-- What SpendTx answers. -/
def spendR (cs : List Co) (k f : Int) (rs : List (Int × Int)) (os : List Ou) (id h : Int) : Int × List Co :=
  if (spentR cs k f rs os).1 ≠ 0 then ((spentR cs k f rs os).1, []) else if hasT cs id = true then (7, []) else putR (outC2 cs rs) id os h false
theorem rest_right {cs : List Co} {rs : List (Int × Int)} (h : coinsR cs = 0) : coinsR (outC2 cs rs) = 0 := by
  obtain ⟨a, b, c⟩ := coins_rise h
  exact coinsR_back (Nat.le_trans (List.length_filter_le _ _) a) (fun x hx => b x (List.mem_filter.1 hx).1) (c.filter _)
theorem rest_no {cs : List Co} {rs : List (Int × Int)} {id : Int} (h : hasT cs id = false) : hasT (outC2 cs rs) id = false := by
  unfold hasT outC2 at *
  rw [List.any_eq_false] at h ⊢
  exact fun x hx => h x (List.mem_filter.1 hx).1

end Go.Proofs.YtagokfoimokniaaGreatDoor
