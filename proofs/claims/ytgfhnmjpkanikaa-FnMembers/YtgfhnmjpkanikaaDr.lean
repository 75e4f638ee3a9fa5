/- The draws: numbers that the bytes of a code make. -/
import Derived.Test.YtgfhnmjpkanikaaJn1
import Derived.Test.YtgfhnmjpkanikaaINt
namespace Go.Proofs.Ytgfhnmjpkanikaa
open Go.RowKit Go.Maps Go.WideMaps

/-- Bytes that came in. -/
def BAt (w : World) (a : Option Addr) (n : Nat) (l : List Int) : Prop :=
  (∀ j, 0 ≤ l.getD j 0 ∧ l.getD j 0 ≤ 255) ∧ (n = 0 ∨ ∃ b off, a = some ⟨b, off, none⟩ ∧ b < w.heap.size ∧ ∀ j, j < n → w.cell? ⟨b, off + j, none⟩ = some (.int .u8 (l.getD j 0)))

/-- The source of draws in block SB, behind all that came in. -/
structure Src (w v : World) (SB : Nat) (ca : Option Addr) (cn cc t : Nat) : Prop where
  box : v.heap[SB]? = some (.cells #[.slice ca cn cc, .int .i64 t] 71 (0, 0))
  bel : Below w.heap.size w v
  sb : w.heap.size ≤ SB

section
variable {w v v' : World} {SB : Nat} {ca : Option Addr} {cn cc t : Nat}
theorem Src.step (h : Src w v SB ca cn cc t) (hb : Below v.heap.size v v') : Src w v' SB ca cn cc t := ⟨(keepb h.box hb).out, h.bel.trans (hb.mono h.bel.size), h.sb⟩
theorem Src.lt (h : Src w v SB ca cn cc t) : SB < v.heap.size := lt_of_block h.box
theorem Src.next (h : Src w v SB ca cn cc t) : Src w (v.setCell ⟨SB, 1, none⟩ (.int .i64 ((t : Int) + 1))) SB ca cn cc (t + 1) := by
  refine ⟨?_, h.bel.setCell (p := ⟨SB, 1, none⟩) h.sb _, h.sb⟩
  have := Joins.block_setCell (i := 1) h.box (.int .i64 ((t : Int) + 1))
  simpa using this
end

set_option maxHeartbeats 1000000 in
theorem l1Next_any (SB cn cc t : Nat) (ca : Option Addr) (l : List Int) (k : Int) (w v : World) (hk : k ≤ 200) (ht : t ≤ 1000) (hcn : cn ≤ 1048576) (hB : BAt w ca cn l) (h : Src w v SB ca cn cc t) :
    Calls Try.prog 17 #[.pointer (some ⟨SB, 0, none⟩), .int .i64 k] v fun e v' => ∃ r : Int, e = .returned (.int .i64 r) ∧ (0 ≤ r ∧ (1 ≤ k → r < k)) ∧ Src w v' SB ca cn cc (t + 1) ∧ Chg v v' SB (SB + 1) := by
  obtain ⟨c0, c1⟩ := cells2 h.box
  have hn := h.next
  have hc1 : Chg v (v.setCell ⟨SB, 1, none⟩ (.int .i64 ((t : Int) + 1))) SB (SB + 1) := Chg.of_set (Nat.le_refl _) (Nat.lt_succ_self _) _ _
  have f1 : v.frozen? ⟨SB, 1, none⟩ = false := Joins.unfrozen_of_block h.box 1
  obtain ⟨d0, d1⟩ := cells2 hn.box
  have HN : Hid (Src w (v.setCell ⟨SB, 1, none⟩ (.int .i64 ((t : Int) + 1))) SB ca cn cc (t + 1)) := hn
  have HC : Hid (Chg v (v.setCell ⟨SB, 1, none⟩ (.int .i64 ((t : Int) + 1))) SB (SB + 1)) := hc1
  clear hn hc1
  have hti : ((t + 1 : Nat) : Int) = (t : Int) + 1 := by omega
  rw [hti] at d1
  by_cases hk1 : k < 1
  · clear d0 d1 hB
    go_enter Try.func17, Try.ntmps17
    go_wp2
    go_ret
    exact ⟨0, rfl, ⟨by omega, by omega⟩, HN.out, HC.out⟩
  · by_cases hc0 : cn = 0
    · subst hc0
      clear hB
      go_enter Try.func17, Try.ntmps17
      go_wp2
      go_ret
      exact ⟨_, rfl, ⟨Int.emod_nonneg _ (by omega), by intros; exact Int.emod_lt_of_pos _ (by omega)⟩, HN.out, HC.out⟩
    · rcases hB.2 with h0 | ⟨b, off, rfl, hbl, hcell⟩
      · exact absurd h0 hc0
      obtain ⟨j, hj, hjl⟩ : ∃ j : Nat, (t : Int).tmod (cn : Int) = (j : Int) ∧ j < cn := ⟨t % cn, by rw [Int.tmod_eq_emod_of_nonneg (by omega)]; omega, Nat.mod_lt _ (by omega)⟩
      obtain ⟨q, hq, hql⟩ : ∃ q : Nat, (t : Int).tdiv (cn : Int) = (q : Int) ∧ q ≤ t := ⟨t / cn, by rw [Int.tdiv_eq_ediv_of_nonneg (by omega)]; omega, Nat.div_le_self _ _⟩
      have hx := (HN.out.bel.cell (p := ⟨b, off + j, none⟩) hbl).trans (hcell j hjl)
      have hrange := hB.1 j
      obtain ⟨x, hxe⟩ : ∃ x, x = l.getD j 0 := ⟨_, rfl⟩
      rw [← hxe] at hx hrange
      have hji : (j : Int) < (cn : Int) := by omega
      have hcz : (cn : Int) ≠ 0 := by omega
      clear hcell hxe hB
      go_enter Try.func17, Try.ntmps17
      go_wp2
      go_quiet (fail)
      go_wp2
      go_ret
      exact ⟨_, rfl, ⟨Int.emod_nonneg _ (by omega), by intros; exact Int.emod_lt_of_pos _ (by omega)⟩, HN.out.step (Joins.below_draws _ _ _), HC.out.trans (Chg.of_below (Joins.below_draws _ _ _) _ _)⟩

/-- A block below the source's is not turned by a draw. -/
theorem Chg.keep1 {v v' : World} {SB b : Nat} {o : Obj} (hc : Chg v v' SB (SB + 1)) (h : v.heap[b]? = some o) (hne : b ≠ SB) : v'.heap[b]? = some o := hc.keep h (by omega)
theorem Chg.row1 {v v' : World} {SB : Nat} (hc : Chg v v' SB (SB + 1)) {base : Nat} {e : TypeId} {size : Nat} {u : Value} {n : Nat} {xs : List Value} (ho : v.ownsRow base e size u n xs) (hb : SB < base) : v'.ownsRow base e size u n xs :=
  hc.row ho (fun k hk => by have := (ho.lt k hk).1; omega)

theorem l1Source_any (a : Option Addr) (n cap : Nat) (w : World) :
    Calls Try.prog 12 #[.slice a n cap] w fun e w' => e = .returned (.pointer (some ⟨w.heap.size, 0, none⟩)) ∧ Src w w' w.heap.size a n cap 0 := by
  go_enter Try.func12, Try.ntmps12
  go_wp2
  go_ret
  exact ⟨rfl, heap_alloc_new _ _, below_box _, Nat.le_refl _⟩

set_option maxHeartbeats 400000 in
theorem l1Pick_any (SB cn cc t n cap : Nat) (ca la : Option Addr) (l zs : List Int) (w v : World) (hn1 : 1 ≤ n) (hn2 : n ≤ 9) (ht : t ≤ 1000) (hcn : cn ≤ 1048576) (hB : BAt w ca cn l) (h : Src w v SB ca cn cc t) (hI : IAt v la n zs) (hne : ∀ b off, la = some ⟨b, off, none⟩ → b ≠ SB) :
    Calls Try.prog 18 #[.pointer (some ⟨SB, 0, none⟩), .slice la n cap] v fun e v' => ∃ z : Int, e = .returned (.int .i64 z) ∧ z ∈ zs ∧ Src w v' SB ca cn cc (t + 1) ∧ Chg v v' SB (SB + 1) := by
  have hnx := l1Next_any SB cn cc t ca l n w v (by omega) ht hcn hB h
  have hzl := hI.1
  rcases hI.2 with h0 | ⟨b, off, rfl, hbl, hc⟩
  · omega
  have hbs := hne b off rfl
  have HC0 : Hid (∀ j, j < n → v.cell? ⟨b, off + j, none⟩ = some (.int .i64 (zs.getD j 0))) := hc
  clear hB h hI hc hne
  go_enter Try.func18, Try.ntmps18
  go_wp2_with (go_at_call 17; refine hnx.mono ?_; rintro e v2 ⟨r, rfl, ⟨hr0, hr1⟩, hS2, hc2⟩; have hr2 : r < n := hr1 (by omega); obtain ⟨i, rfl⟩ := Int.eq_ofNat_of_zero_le hr0; have hx : v2.cell? ⟨b, off + i, none⟩ = some (.int .i64 (zs.getD i 0)) := (World.cell?_of_block (hc2.block b hbl (by omega))).trans (HC0.out i (by omega)); obtain ⟨z, hz⟩ : ∃ z, z = zs.getD i 0 := ⟨_, rfl⟩; rw [← hz] at hx; have HZ : Hid (z = zs.getD i 0) := hz; have HC : Hid (Chg v v2 SB (SB + 1)) := hc2; have HS : Hid (Src w v2 SB ca cn cc (t + 1)) := hS2; clear hc2 hS2 hr1 hz)
  go_ret
  refine ⟨z, rfl, ?_, HS.out, HC.out⟩
  rw [HZ.out, List.getD, List.getElem?_eq_getElem (by omega)]
  exact List.getElem_mem _

end Go.Proofs.Ytgfhnmjpkanikaa
