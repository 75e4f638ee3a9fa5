/- Two rules that lie inside outs, held against each other: the specification's way. -/
import Derived.Test.YtdomekniepeohaaTxA
import Derived.Test.YtdomekniepeohaaSr
namespace Go.Proofs.Ytdomekniepeohaa
open Go.RowKit Go.Maps Go.WideMaps

set_option maxRecDepth 20000 in
set_option maxHeartbeats 2000000 in
theorem l2SameAt_x (P Q p q : Nat) (x x' : Int) (w : World) (hx : ¬ x = x') (p1 : w.cell? ⟨P, p + 1, none⟩ = some (.int .i64 x))
    (q1 : w.cell? ⟨Q, q + 1, none⟩ = some (.int .i64 x')) :
    Calls Try.prog 65 #[.pointer (some ⟨P, p, none⟩), .pointer (some ⟨Q, q, none⟩)] w fun e w' => e = .returned (.bool false) ∧ Below w.heap.size w w' := by
  have hxb : (x == x') = false := by simpa using hx
  go_enter Try.func65, Try.ntmps65
  go_wp2
  go_quiet (fail)
  go_wp2
  go_ret
  exact ⟨rfl, Joins.below_draws _ _ _⟩

set_option maxRecDepth 20000 in
set_option maxHeartbeats 2000000 in
theorem l2SameAt_any (P Q p q : Nat) (a b : Option Addr) (n m c1 c2 : Nat) (l l' : List Int) (x x' y y' : Int) (w : World) (hl : n ≤ 1048576) (hl2 : m ≤ 1048576) (ha : IAt w a n l) (hb : IAt w b m l')
    (hlp : P < w.heap.size) (hlq : Q < w.heap.size) (p0 : w.cell? ⟨P, p, none⟩ = some (.slice a n c1)) (p1 : w.cell? ⟨P, p + 1, none⟩ = some (.int .i64 x)) (p2 : w.cell? ⟨P, p + 2, none⟩ = some (.int .i64 y)) (q0 : w.cell? ⟨Q, q, none⟩ = some (.slice b m c2)) (q1 : w.cell? ⟨Q, q + 1, none⟩ = some (.int .i64 x')) (q2 : w.cell? ⟨Q, q + 2, none⟩ = some (.int .i64 y')) :
    Calls Try.prog 65 #[.pointer (some ⟨P, p, none⟩), .pointer (some ⟨Q, q, none⟩)] w fun e w' => e = .returned (.bool (sameR l l' x x' y y')) ∧ Below w.heap.size w w' := by
  have hcall : ∀ j, Calls Try.prog 78 #[.slice a n c1, .slice b m c2] (w.drewN j) fun e w' => e = .returned (.bool (decide (l = l'))) ∧ Below w.heap.size w w' := fun j =>
    (l2Ints_any a b n m c1 c2 l l' _ hl hl2 (ha.below (Joins.below_draws _ w j) (Nat.le_refl _)) (hb.below (Joins.below_draws _ w j) (Nat.le_refl _))).mono fun e w' h => ⟨h.1, (Joins.below_draws _ w j).trans h.2⟩
  clear ha hb
  by_cases hx : x = x'
  · subst hx
    by_cases hy : y = y'
    · subst hy
      rw [sameR_l]
      obtain ⟨r, hr⟩ : ∃ r, r = decide (l = l') := ⟨_, rfl⟩
      rw [← hr] at hcall ⊢
      clear hr
      go_enter Try.func65, Try.ntmps65
      go_wp2
      go_region_held3 (fun w' => w'.cell? ⟨P, p, none⟩ = some (.slice a n c1) ∧ w'.cell? ⟨P, p + 1, none⟩ = some (.int .i64 x) ∧ w'.cell? ⟨P, p + 2, none⟩ = some (.int .i64 y) ∧ w'.cell? ⟨Q, q, none⟩ = some (.slice b m c2) ∧ w'.cell? ⟨Q, q + 1, none⟩ = some (.int .i64 x) ∧ w'.cell? ⟨Q, q + 2, none⟩ = some (.int .i64 y)) (go_keep)
        (first | (go_at_call 78; refine (hcall 1).mono ?_; rintro e w3 ⟨rfl, hb3⟩; have z0 := (hb3.cell (p := ⟨P, p, none⟩) hlp).trans p0; have z1 := (hb3.cell (p := ⟨P, p + 1, none⟩) hlp).trans p1; have z2 := (hb3.cell (p := ⟨P, p + 2, none⟩) hlp).trans p2; have z3 := (hb3.cell (p := ⟨Q, q, none⟩) hlq).trans q0; have z4 := (hb3.cell (p := ⟨Q, q + 1, none⟩) hlq).trans q1; have z5 := (hb3.cell (p := ⟨Q, q + 2, none⟩) hlq).trans q2))
      go_wp2
      go_ret
      exact ⟨rfl, hb3⟩
    · rw [sameR_y hy]
      clear hcall
      go_enter Try.func65, Try.ntmps65
      go_wp2
      go_quiet (fail)
      go_wp2
      go_ret
      exact ⟨rfl, Joins.below_draws _ _ _⟩
  · rw [sameR_x hx]
    exact l2SameAt_x P Q p q x x' w hx p1 q1

end Go.Proofs.Ytdomekniepeohaa
