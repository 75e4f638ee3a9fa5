/- Those keys of a rule that signed, told one by one and counted: the program's way. -/
import Derived.Test.YtagokfoimokniaaGreatDoorJn5
namespace Go.Proofs.YtagokfoimokniaaGreatDoor
open Go.RowKit Go.Shelf Go.Maps Go.WideMaps
attribute [local go_sem] Oper.semAt_some

set_option maxRecDepth 100000 in
set_option maxHeartbeats 2000000 in
theorem countKeys_any (g : Nat) (lb : Array Value) (xs : List Int) (w : World) (hT : Tells g lb (fun x : Int => #[Value.int .i64 x]) w.heap.size xs w) (eg : ∀ args w, (callFunc g args).run Tryz.prog w = .ok (.enter g args) w) :
    Calls Tryz.prog 90 #[.func (.func g) #[] lb] w fun e w' => e = .returned (.int .i64 (xs.length : Nat)) ∧ Below w.heap.size w w' := by
  refine (callsIn_wide (n := 3)).1 ?_
  refine callsIn_of_wp_marks Tryz.func90 rfl trivial ?_ rfl
  simp only [Tryz.ntmps90, List.size_toArray, List.length_cons, List.length_nil, Nat.reduceAdd, Nat.reduceSub, Array.replicate_succ, Array.replicate_zero, List.push_toArray, List.append_toArray, List.nil_append, List.cons_append]
  gi_wp2
  have c0 := new1 w (.int .i64 0) 2
  have hB0 : Below w.heap.size w (w.alloc (.cells #[.int .i64 0] 2)) := below_box _
  refine range_all (by omega) (gf := g) (lb := lb) rfl eg hT hB0 (by simp) (fun _ => rfl)
    (fun pre W => (W.cell? ⟨w.heap.size, 0, none⟩ = some (.int .i64 (pre.length : Nat)) ∧ W.frozen? ⟨w.heap.size, 0, none⟩ = false) ∧ Below w.heap.size w W)
    (OwnFrom.and (Own.from (fun s A B row hs hg hr => ⟨cell_kept hs.1 hg hr, (frozen_kept hs.1 hg hr).trans hs.2⟩) _) (ownFrom_below (Nat.le_refl _) (by simp)))
    ⟨⟨c0.1, c0.2⟩, hB0⟩
    (fun x => { tmps := #[.func (.func g) #[] lb, undef, .int .i64 0, .pointer (some ⟨w.heap.size, 0, none⟩), .func (.func g) #[] lb, .int .i64 x, undef, undef, undef], defers := [] }) ?assign ?body ?done
  case assign =>
    intro l x W K hK
    gi_wp2
    simpa using hK
  case body =>
    rintro l pre x W ⟨⟨hcr, hfr⟩, hBB⟩ hlen
    obtain ⟨c, hc⟩ : ∃ c, c = pre.length := ⟨_, rfl⟩
    rw [← hc] at hcr hlen
    have HC : Hid (c = pre.length) := hc
    clear hc
    gi_wp2
    exact ⟨KeepsOthers.setCell _ _ _, (Below.refl _ _).setCell (p := ⟨w.heap.size, 0, none⟩) (Nat.le_refl _) _, fun k hk _ => Below.heap_setCell _ ⟨w.heap.size, 0, none⟩ _ k (by show k ≠ w.heap.size; omega), by rw [HC.out], hBB.setCell (p := ⟨w.heap.size, 0, none⟩) (Nat.le_refl _) _⟩
  case done =>
    rintro D W hD ⟨⟨hcr, hfr⟩, hBB⟩ hK
    gi_wp2
    refine ⟨by simp, .inl ⟨_, _, rfl, run_takeDeferred hK, ?_⟩⟩
    refine ⟨.int .i64 (xs.length : Nat), ?_, rfl, hBB.trans (belowK_b (w := w) (Nat.le_refl _) W D _ _ (by simp at hD; omega) hK rfl rfl)⟩
    simp [results, Tryz.results90, go_sem]

end Go.Proofs.YtagokfoimokniaaGreatDoor
