/- A new text in the table, and what of other memory stays. What the program's NoteText answers. -/
import Derived.Test.YtocgmgcjbmipnaaCp
namespace Go.Proofs.Ytocgmgcjbmipnaa
open Go.RowKit Go.Maps Go.WideMaps

theorem TwG.chg {w w' : World} {base p lo hi : Nat} {l : List (Int × Int)} (h : TwG w base p l) (hc : Chg w w' lo hi) (hh : hi ≤ base) : TwG w' base p l := by
  obtain ⟨iv, B, hp, hbp, hbB, ho, ht⟩ := h
  refine ⟨iv, B, hc.keep hp (.inr (by omega)), hbp, hbB, hc.row ho (fun k hk => .inr (by have := (ho.lt k hk).1; omega)), ?_⟩
  obtain ⟨D, hD, hat⟩ := ht
  obtain ⟨es, ck, hes, rest⟩ := hD
  exact ⟨D, ⟨es, ck, (hc.block B (lt_of_block hes) (.inr (by omega))).trans hes, rest⟩, hat⟩

/-- The tables' own slices. -/
theorem TwS.rows {w : World} {base p : Nat} {l : List ByteArray} {n : Nat} (hn : l.length = n) (h : TwS w base p l) : ∃ a cap, w.cell? ⟨p, 0, none⟩ = some (.slice a n cap) ∧ p < w.heap.size ∧ Hid (w.ownsRow base 9 1 (.slice a n cap) n (l.map Value.string)) := by
  subst hn
  obtain ⟨iv, B, hp, hbp, hbB, ho, ht⟩ := h
  have hc : w.cell? ⟨p, 0, none⟩ = some iv := by unfold World.cell?; rw [hp]; rfl
  rcases id ho.2 with ⟨h1, h2⟩ | ⟨g, cap, cur, h1, _⟩
  · exact ⟨none, 0, by rw [hc, h1, h2], lt_of_block hp, by rw [h2]; subst h1; rw [h2] at ho; exact ho⟩
  · subst h1
    exact ⟨_, _, hc, lt_of_block hp, ho⟩
theorem TwG.rows {w : World} {base p : Nat} {l : List (Int × Int)} {n : Nat} (hn : l.length = n) (h : TwG w base p l) : ∃ a cap, w.cell? ⟨p, 0, none⟩ = some (.slice a n cap) ∧ p < w.heap.size ∧ Hid (w.ownsRow base 71 2 (.slice a n cap) n (gcells l)) := by
  subst hn
  obtain ⟨iv, B, hp, hbp, hbB, ho, ht⟩ := h
  have hc : w.cell? ⟨p, 0, none⟩ = some iv := by unfold World.cell?; rw [hp]; rfl
  rcases id ho.2 with ⟨h1, h2⟩ | ⟨g, cap, cur, h1, _⟩
  · exact ⟨none, 0, by rw [hc, h1, h2], lt_of_block hp, by rw [h2]; subst h1; rw [h2] at ho; exact ho⟩
  · subst h1
    exact ⟨_, _, hc, lt_of_block hp, ho⟩

set_option maxHeartbeats 400000 in
theorem bookL_any (p q n m ic jc : Nat) (ia ja : Option Addr) (w : World) (hpl : p < w.heap.size) (hql : q < w.heap.size) (hp : w.cell? ⟨p, 0, none⟩ = some (.slice ia n ic)) (hq : w.cell? ⟨q, 0, none⟩ = some (.slice ja m jc)) :
    Calls Try.prog 21 #[.agg #[.pointer (some ⟨p, 0, none⟩), .pointer (some ⟨q, 0, none⟩)]] w fun e w' => e = .returned (.agg #[.slice ia n ic, .slice ja m jc]) ∧ Below w.heap.size w w' := by
  have hp2 : ∀ o o', ((w.alloc o).alloc o').cell? ⟨p, 0, none⟩ = some (.slice ia n ic) := fun o o' => ((below_box2 o o').cell (p := ⟨p, 0, none⟩) hpl).trans hp
  have hq2 : ∀ o o', ((w.alloc o).alloc o').cell? ⟨q, 0, none⟩ = some (.slice ja m jc) := fun o o' => ((below_box2 o o').cell (p := ⟨q, 0, none⟩) hql).trans hq
  have hnp : p ≠ w.heap.size + 1 := by omega
  have hnq : q ≠ w.heap.size + 1 := by omega
  go_enter Try.func21, Try.ntmps21
  go_wp2
  go_region_held3 (fun w' => w'.cell? ⟨p, 0, none⟩ = some (.slice ia n ic) ∧ w'.cell? ⟨q, 0, none⟩ = some (.slice ja m jc) ∧ w'.cell? ⟨w.heap.size, 0, none⟩ = some (.pointer (some ⟨p, 0, none⟩)) ∧ w'.cell? ⟨w.heap.size, 1, none⟩ = some (.pointer (some ⟨q, 0, none⟩))) (go_keep) (fail)
  go_wp2
  refine bodyPost_ret (v := .agg #[.slice ia n ic, .slice ja m jc]) (by simp [results, Try.results21, go_sem]) rfl ⟨rfl, ?_⟩
  exact (below_box2 _ _).drew

end Go.Proofs.Ytocgmgcjbmipnaa

namespace Go.Proofs.Ytocgmgcjbmipnaa
open Go.RowKit Go.Maps Go.WideMaps

end Go.Proofs.Ytocgmgcjbmipnaa
