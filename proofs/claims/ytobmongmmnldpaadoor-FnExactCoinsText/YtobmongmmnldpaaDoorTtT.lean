/- The specification's text of a transaction, the whole. -/
import Derived.Test.YtobmongmmnldpaaDoorTtS
import Derived.Test.YtobmongmmnldpaaDoorTxS
namespace Go.Proofs.YtobmongmmnldpaaDoor
open Go.RowKit Go.Shelf Go.Maps Go.WideMaps

theorem digits_big {k : Int} (h0 : 0 ≤ k) (h1 : k ≤ 1000000) (w : World) : Calls Tryd.prog 22 #[.int .i64 k] w fun e w' => e = .returned (.string (str (dec k))) ∧ Below w.heap.size w w' := by
  obtain ⟨n, rfl⟩ := Int.eq_ofNat_of_zero_le h0
  exact l2Digits_any n (by omega) w
theorem dec_big {k : Int} (h : k ≤ 1000000) : (dec k).length ≤ 10 := digits_len _ (by omega)

def refT (r : Int × Int) : List UInt8 := dec r.1 ++ (58 :: dec r.2)
structure OutOk (o : Ou) : Prop where
  v : 0 ≤ o.v ∧ o.v ≤ 1000000
  n : 1 ≤ o.l.length ∧ o.l.length ≤ 3
  x : 0 ≤ o.x ∧ o.x ≤ 999
  y : 0 ≤ o.y ∧ o.y ≤ 999
  k : ∀ j, j < o.l.length → 0 ≤ o.l.getD j 0 ∧ o.l.getD j 0 ≤ 999
theorem tail_len {l : List Int} (hk : ∀ k ∈ l, k ≤ 999) : (tailT l).length ≤ 11 * l.length := by
  induction l with
  | nil => simp [tailT]
  | cons a t ih =>
    have h1 := dec_len (hk a (by simp))
    have h2 := ih fun k hk' => hk k (by simp [hk'])
    simp [tailT]; omega
theorem rtx_len {o : Ou} (h : OutOk o) : (rtxR o.l o.x o.y).length ≤ 100 := by
  have hx := dec_len h.x.2
  have hy := dec_len h.y.2
  have hk : ∀ k ∈ o.l, k ≤ 999 := fun k hk => by
    obtain ⟨j, hj, e⟩ := List.getElem_of_mem hk
    have := (h.k j hj).2
    simpa [List.getD, hj, e] using this
  have hn := h.n
  have h1 : (keysT o.l).length ≤ 11 * o.l.length := by
    cases hl : o.l with
    | nil => simp [keysT]
    | cons a t =>
      rw [hl] at hk
      have h1 := dec_len (hk a (by simp))
      have h2 := tail_len (l := t) fun k hk' => hk k (by simp [hk'])
      simp [keysT]; omega
  have h2 : (aftT o.y).length ≤ 17 := by unfold aftT; split <;> simp; omega
  unfold rtxR
  simp
  omega

theorem take_next2 {α : Type} {l : List α} {n j : Nat} {d g : α} (hn : l.length = n) (hj : j < n) (hg : g = l.getD j d) : l.take (j + 1) = l.take j ++ [g] := by
  subst hg
  rw [List.take_add_one, List.getElem?_eq_getElem (by omega), List.getD, List.getElem?_eq_getElem (by omega)]
  rfl

end Go.Proofs.YtobmongmmnldpaaDoor
